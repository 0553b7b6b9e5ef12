/- Contract: the reference's Provide. -/
import Derived.Test.YtkambcjinidomaaBpRef5
namespace Go.Proofs.Ytkambcjinidomaa
set_option linter.unusedVariables false
set_option linter.unusedSimpArgs false
open Go.ChangeShapes Go.WideShapes Go.ChangeAt Go.RowKit

theorem pvBad_cases {g a n s : Int} (h : pvBad g a n s) : decide (g < 0) = true ∨ (decide (g < 0) = false ∧ decide (15 < g) = true) ∨ (decide (g < 0) = false ∧ decide (15 < g) = false ∧ decide (n < 1) = true) ∨ (decide (g < 0) = false ∧ decide (15 < g) = false ∧ decide (n < 1) = false ∧ decide (1024 < n) = true) ∨
    (decide (g < 0) = false ∧ decide (15 < g) = false ∧ decide (n < 1) = false ∧ decide (1024 < n) = false ∧ decide (a < 0) = true) ∨ (decide (g < 0) = false ∧ decide (15 < g) = false ∧ decide (n < 1) = false ∧ decide (1024 < n) = false ∧ decide (a < 0) = false ∧ IntKind.i64.wrap (65536 - n) = 65536 - n ∧ decide (65536 - n < a) = true) ∨
    (decide (g < 0) = false ∧ decide (15 < g) = false ∧ decide (n < 1) = false ∧ decide (1024 < n) = false ∧ decide (a < 0) = false ∧ IntKind.i64.wrap (65536 - n) = 65536 - n ∧ decide (65536 - n < a) = false ∧ decide (s < 1) = true) ∨
    (decide (g < 0) = false ∧ decide (15 < g) = false ∧ decide (n < 1) = false ∧ decide (1024 < n) = false ∧ decide (a < 0) = false ∧ IntKind.i64.wrap (65536 - n) = 65536 - n ∧ decide (65536 - n < a) = false ∧ decide (s < 1) = false ∧ decide (65536 < s) = true) := by
  by_cases hb : Bad g
  · rcases bad_cases hb with q | q
    · exact .inl q
    · exact .inr (.inl q)
  · have hb0 := hb
    unfold Bad at hb0
    have d1 : decide (g < 0) = false := decide_eq_false (by omega)
    have d2 : decide (15 < g) = false := decide_eq_false (by omega)
    by_cases c3 : n < 1
    · exact .inr (.inr (.inl ⟨d1, d2, decide_eq_true c3⟩))
    by_cases c4 : 1024 < n
    · exact .inr (.inr (.inr (.inl ⟨d1, d2, decide_eq_false c3, decide_eq_true c4⟩)))
    by_cases c5 : a < 0
    · exact .inr (.inr (.inr (.inr (.inl ⟨d1, d2, decide_eq_false c3, decide_eq_false c4, decide_eq_true c5⟩))))
    have hw : IntKind.i64.wrap (65536 - n) = 65536 - n := IntWalk.i64_in _ (by omega)
    by_cases c6 : 65536 - n < a
    · exact .inr (.inr (.inr (.inr (.inr (.inl ⟨d1, d2, decide_eq_false c3, decide_eq_false c4, decide_eq_false c5, hw, decide_eq_true c6⟩)))))
    by_cases c7 : s < 1
    · exact .inr (.inr (.inr (.inr (.inr (.inr (.inl ⟨d1, d2, decide_eq_false c3, decide_eq_false c4, decide_eq_false c5, hw, decide_eq_false c6, decide_eq_true c7⟩))))))
    · refine .inr (.inr (.inr (.inr (.inr (.inr (.inr ⟨d1, d2, decide_eq_false c3, decide_eq_false c4, decide_eq_false c5, hw, decide_eq_false c6, decide_eq_false c7, decide_eq_true ?_⟩))))))
      rcases h with h | h | h | h | h | h | h
      · exact absurd h hb
      all_goals first | exact absurd h (by assumption) | exact h
set_option maxRecDepth 10000 in
set_option maxHeartbeats 2000000 in
theorem rProvB_bad (w : World) (cs : Array Value) (hcs : cs.size = 32) (h1 : ∀ y ∈ cs.toList, y.oneCell' = true) (g a n s : Int) (hg : pvBad g a n s) : Calls Try.prog 10 #[.agg cs, .int .i64 g, .int .i64 a, .int .i64 n, .int .i64 s] w fun e w' => e = .returned (.tuple #[.agg cs, .int .i64 1]) ∧ Grow w w' := by
  obtain ⟨W, hW⟩ : ∃ W, W = (w.alloc (.cells cs 30)).alloc (.cells z32 30) := ⟨_, rfl⟩
  have HT : Hid (TwoB w W cs z32) := by rw [hW]; exact twoB w cs
  have H1 := Lib.hid (And.intro hcs h1)
  clear hcs h1
  rcases pvBad_cases hg with d1 | ⟨d1, d2⟩ | ⟨d1, d2, d3⟩ | ⟨d1, d2, d3, d4⟩ | ⟨d1, d2, d3, d4, d5⟩ | ⟨d1, d2, d3, d4, d5, d6, d7⟩ | ⟨d1, d2, d3, d4, d5, d6, d7, d8⟩ | ⟨d1, d2, d3, d4, d5, d6, d7, d8, d9⟩
  all_goals
    clear hg
    go_enter Try.func10, Try.ntmps10
    go_upto_region 1 with fail
    rw [← hW]
    have HW := Lib.hid hW
    clear hW
    go_wp2_with (first
    | (show wpList _ _ _ (⟨some 47, .load 30 (.tmp 5), _, _, _, _⟩ :: _) _ _; refine wpList_load_pl W rfl _ rfl w.heap.size cs rfl HT.out.p H1.out.1 ?_)
    | (show wpList _ _ _ (⟨none, .store 30 (.tmp 10) (.tmp 47), _, _, _, _⟩ :: _) _ _; refine wpList_store_pl w W rfl _ _ rfl rfl (w.heap.size + 1) z32 cs rfl rfl HT.out.r rfl H1.out.1 H1.out.2 HT.out.g (Nat.le_succ _) ?_; intro w2 hb2 hk2 hg2; have H2 := Lib.hid (And.intro hb2 (And.intro hk2 hg2)); clear hb2 hk2 hg2))
    refine bodyPost_ret (results2_pl 10 11 rfl _ _ (w.heap.size + 1) cs rfl H2.out.1 H1.out.1) rfl ?_
    exact ⟨rfl, H2.out.2.2⟩
theorem run_bfapp (w : World) (base : Nat) (v : Value) (l : List Bf) (t : Bf) (h : Bfs w base v l) (hb : base ≤ w.heap.size) (hl : l.length ≤ 1000000) {ops : Array Oper} {rest : List Oper} {o : Oper} {a : Act} {Q : Exit → Act → World → Prop} (hgd : o.guard = none) (s x : Operand)
    (ho : o.op = .call { callee := .builtin .append, args := #[s, x], argTypes := #[26, 26] }) (hs : a.eval s = v) (hx : a.eval x = .slice (some ⟨w.heap.size, 0, none⟩) 1 1)
    (hK : ∀ v5 w5, Bfs w5 base v5 (l ++ [t]) → Below base w w5 → wpList Try.prog ops Q rest (a.put o.dst v5) w5) : wpList Try.prog ops Q (o :: rest) a (w.alloc (.cells #[.int .i64 t.id, .int .i64 t.sz] 54)) := by
  have g1 : Grow w (w.alloc (.cells #[.int .i64 t.id, .int .i64 t.sz] 54)) := Grow.alloc _ _
  have hlit := RdK.of_own (bfs_lit1 w t w.heap.size rfl)
  refine wpList_appK _ hgd s x 26 ho 54 _ 2 16 Try.underlying26 infoBf rfl (by decide) base v _ l.length 1 _ _ hs hx (h.grow g1) hlit (bt_one [t]) (by omega) (by unfold maxLen; omega) (Nat.le_trans hb g1.size) ?_
  intro v5 w5 ho5 hg5 _
  refine hK v5 w5 (by unfold Bfs; rw [List.length_append, List.flatMap_append]; exact ho5) ?_
  refine Below.trans (Below.mono g1 hb) ⟨hg5.os, hg5.tape, hg5.output, hg5.size, fun i hi => hg5.block i (Nat.lt_of_lt_of_le hi (Nat.le_trans hb g1.size)) fun e => ?_⟩
  have := (World.ownsRow.lt (h.grow g1) i e.symm).1
  omega
theorem news_take (a s : Int) {n i : Nat} (hi : i < n) : (news a n s).take (i + 1) = (news a n s).take i ++ [⟨a + (i : Int), s⟩] := by
  have hl : (news a n s).length = n := by rw [news_len, Int.toNat_natCast]
  rw [List.take_succ_eq_append_getElem (by omega)]
  congr 2
  simp [news]
set_option maxRecDepth 10000 in
set_option maxHeartbeats 1000000 in
theorem rProvB_in (w : World) (base : Nat) (hbase : base ≤ w.heap.size) (cs : Array Value) (p : Pls) (h : PlC w base cs p) (hp : POk p) (k : Nat) (hk : k < 16) (a s : Int) (n : Nat) (hg : ¬ pvBad (k : Int) a n s) : Calls Try.prog 10 #[.agg cs, .int .i64 (k : Int), .int .i64 a, .int .i64 (n : Int), .int .i64 s] w fun e w' => ∃ v', e = .returned (.tuple #[v', .int .i64 (pvE p k a n s)]) ∧ RPl w' base v' (pvP p k a n s) ∧ Grow w w' := by
  obtain ⟨W, hW⟩ : ∃ W, W = (w.alloc (.cells cs 30)).alloc (.cells z32 30) := ⟨_, rfl⟩
  have HT : Hid (TwoB w W cs z32) := by rw [hW]; exact twoB w cs
  obtain ⟨aV, bV, e1, e2, ha, hb⟩ := h.at_ k hk
  have HP := Lib.hid h
  have H1 := Lib.hid (And.intro h.size h.ones)
  have hlen := (hp k hk).len
  obtain ⟨_, hn, hab, hsz⟩ := not_pvBad hg
  have HB := Lib.hid hg
  have CF : Hid (∀ x r, PosB (p k).fr x r → Calls Try.prog 25 #[aV, .int .i64 x] W fun e w' => e = .returned (.int .i64 r) ∧ w' = W) := fun x r hr => rPlcB_any W aV _ (ha.rd.grow HT.out.g) (by omega) x r hr
  have CO : Hid (∀ x r, PosB (p k).out x r → Calls Try.prog 25 #[bV, .int .i64 x] W fun e w' => e = .returned (.int .i64 r) ∧ w' = W) := fun x r hr => rPlcB_any W bV _ (hb.rd.grow HT.out.g) (by omega) x r hr
  have c1 := HT.out.p.cell (k * 2)
  rw [e1] at c1
  have c2 := HT.out.p.cell (k * 2 + 1)
  rw [e2] at c2
  obtain ⟨A, cp, hav, hlc, hcm⟩ := ha.rd.form
  obtain ⟨B, cq, hbv, hlc2, hcm2⟩ := hb.rd.form
  obtain ⟨N1, hN1⟩ : ∃ N1, N1 = (p k).fr.length := ⟨_, rfl⟩
  obtain ⟨N2, hN2⟩ : ∃ N2, N2 = (p k).out.length := ⟨_, rfl⟩
  rw [← hN1] at hav hlc hlen
  rw [← hN2] at hbv hlc2 hlen
  have HA := Lib.hid (ha.grow HT.out.g)
  subst hav hbv
  have d1 : decide ((k : Int) < 0) = false := decide_eq_false (by omega)
  have d2 : decide (15 < (k : Int)) = false := decide_eq_false (by omega)
  have d3 : (k : Int) < 16 := by omega
  have d4 : decide ((n : Int) < 1) = false := decide_eq_false (by omega)
  have d5 : decide (1024 < (n : Int)) = false := decide_eq_false (by omega)
  have d6 : decide (a < 0) = false := decide_eq_false (by omega)
  have d7 : IntKind.i64.wrap (65536 - (n : Int)) = 65536 - (n : Int) := IntWalk.i64_in _ (by omega)
  have d8 : decide (65536 - (n : Int) < a) = false := decide_eq_false (by omega)
  have d9 : decide (s < 1) = false := decide_eq_false (by omega)
  have d10 : decide (65536 < s) = false := decide_eq_false (by omega)
  have HX := Lib.hid (And.intro e1 (And.intro hN1 (And.intro hN2 (And.intro hlen (And.intro hn hab)))))
  clear h e1 e2 ha hb hlc hlc2 hcm hcm2 hN1 hN2 hsz hg
  go_enter Try.func10, Try.ntmps10
  go_upto_region 1 with fail
  rw [← hW]
  have HW := Lib.hid hW
  clear hW
  go_wp2_with fail
  go_loopg [12] n (fun gk s12 wr => ∃ i : Nat, gk = n - i ∧ s12 = .int .i64 (i : Int) ∧ wr = W ∧ Hid (i ≤ n ∧ ∀ j : Nat, j < i → ¬ Hasb (p k).fr (a + j) ∧ ¬ Hasb (p k).out (a + j)))
  case atStart => exact ⟨0, rfl, rfl, rfl, Nat.zero_le _, fun j hj => absurd hj (Nat.not_lt_zero _)⟩
  case round =>
    obtain ⟨i, rfl, rfl, hw, HR⟩ := hrel
    subst wr
    rcases Nat.lt_or_ge i n with hlt | hge
    · have f1 : (i : Int) < (n : Int) := by omega
      obtain ⟨X, hX⟩ : ∃ X : Nat, a + (i : Int) = (X : Int) := ⟨(a + (i : Int)).toNat, by omega⟩
      have f2 : IntKind.i64.wrap (a + (i : Int)) = (X : Int) := by rw [IntWalk.i64_in _ (by omega)]; exact hX
      have f3 := hX
      have hsame : Hasb (p k).fr (X : Int) ∨ Hasb (p k).out (X : Int) → pvE p k a n s = 140 ∧ pvP p k a n s = p := fun q => pvE_same HB.out (by
        rw [Int.toNat_natCast]
        rcases q with ⟨b, hb, e⟩ | ⟨b, hb, e⟩
        · exact ⟨b, List.mem_append.2 (.inl hb), by omega, by omega⟩
        · exact ⟨b, List.mem_append.2 (.inr hb), by omega, by omega⟩)
      by_cases q1 : Hasb (p k).fr (X : Int)
      · have C1 := CF.out (X : Int) _ (posB_has q1)
        have z0 : (0 : Int) ≤ (ix (p k).fr (X : Int) : Int) := by omega
        generalize (ix (p k).fr (X : Int) : Int) = z at *
        have HE := Lib.hid (hsame (.inl q1))
        have HXx := Lib.hid hX
        clear hsame q1 hX
        go_wp2_with fail
        refine C1.mono ?_
        rintro e w' ⟨rfl, hw⟩
        subst w'
        clear C1
        go_wp2_with (first
    | (show wpList _ _ _ (⟨some 73, .load 30 (.tmp 5), _, _, _, _⟩ :: _) _ _; refine wpList_load_pl W rfl _ rfl w.heap.size cs rfl HT.out.p H1.out.1 ?_)
    | (show wpList _ _ _ (⟨none, .store 30 (.tmp 10) (.tmp 73), _, _, _, _⟩ :: _) _ _; refine wpList_store_pl w W rfl _ _ rfl rfl (w.heap.size + 1) z32 cs rfl rfl HT.out.r rfl H1.out.1 H1.out.2 HT.out.g (Nat.le_succ _) ?_; intro w2 hb2 hk2 hg2; have H2 := Lib.hid (And.intro hb2 (And.intro hk2 hg2)); clear hb2 hk2 hg2))
        refine bodyPost_ret (results2_pl 10 11 rfl _ _ (w.heap.size + 1) cs rfl H2.out.1 H1.out.1) rfl ?_
        exact ⟨_, by rw [HE.out.1]; rfl, by rw [HE.out.2]; exact ⟨cs, rfl, HP.out.grow H2.out.2.2⟩, H2.out.2.2⟩
      · by_cases q2 : Hasb (p k).out (X : Int)
        · have C1 := CF.out (X : Int) _ (posB_not q1)
          have C2 := CO.out (X : Int) _ (posB_has q2)
          have z0 : (0 : Int) ≤ (ix (p k).out (X : Int) : Int) := by omega
          generalize (ix (p k).out (X : Int) : Int) = z at *
          have HE := Lib.hid (hsame (.inr q2))
          have HXx := Lib.hid hX
          clear hsame q1 q2 hX
          go_wp2_with fail
          refine C1.mono ?_
          rintro e w' ⟨rfl, hw⟩
          subst w'
          clear C1
          go_wp2_with fail
          refine C2.mono ?_
          rintro e w' ⟨rfl, hw⟩
          subst w'
          clear C2
          go_wp2_with (first
    | (show wpList _ _ _ (⟨some 73, .load 30 (.tmp 5), _, _, _, _⟩ :: _) _ _; refine wpList_load_pl W rfl _ rfl w.heap.size cs rfl HT.out.p H1.out.1 ?_)
    | (show wpList _ _ _ (⟨none, .store 30 (.tmp 10) (.tmp 73), _, _, _, _⟩ :: _) _ _; refine wpList_store_pl w W rfl _ _ rfl rfl (w.heap.size + 1) z32 cs rfl rfl HT.out.r rfl H1.out.1 H1.out.2 HT.out.g (Nat.le_succ _) ?_; intro w2 hb2 hk2 hg2; have H2 := Lib.hid (And.intro hb2 (And.intro hk2 hg2)); clear hb2 hk2 hg2))
          refine bodyPost_ret (results2_pl 10 11 rfl _ _ (w.heap.size + 1) cs rfl H2.out.1 H1.out.1) rfl ?_
          exact ⟨_, by rw [HE.out.1]; rfl, by rw [HE.out.2]; exact ⟨cs, rfl, HP.out.grow H2.out.2.2⟩, H2.out.2.2⟩
        · have C1 := CF.out (X : Int) _ (posB_not q1)
          have C2 := CO.out (X : Int) _ (posB_not q2)
          have HN : Hid (∀ j : Nat, j < i + 1 → ¬ Hasb (p k).fr (a + j) ∧ ¬ Hasb (p k).out (a + j)) := fun j hj => by
            rcases Nat.lt_or_ge j i with q | q
            · exact HR.out.2 j q
            · obtain rfl : j = i := by omega
              rw [hX]
              exact ⟨q1, q2⟩
          have HXx := Lib.hid hX
          clear hsame q1 q2 hX
          go_wp2_with fail
          refine C1.mono ?_
          rintro e w' ⟨rfl, hw⟩
          subst w'
          clear C1
          go_wp2_with fail
          refine C2.mono ?_
          rintro e w' ⟨rfl, hw⟩
          subst w'
          clear C2
          go_wp2_with fail
          go_roundg (n - (i + 1))
          case measure => omega
          case rel => exact ⟨i + 1, rfl, by go_num, rfl, by omega, HN.out⟩
    · obtain rfl : i = n := by have := HR.out.1; omega
      have hno : ¬ pvSame (p k) a i := by
        rintro ⟨b, hb, l1, l2⟩
        obtain ⟨j, hj⟩ : ∃ j : Nat, b.id = a + (j : Int) := ⟨(b.id - a).toNat, by omega⟩
        have := HR.out.2 j (by omega)
        rcases List.mem_append.1 hb with hb | hb
        · exact this.1 ⟨b, hb, hj⟩
        · exact this.2 ⟨b, hb, hj⟩
      have HNo : Hid (¬ pvSame (p ((k : Int)).toNat) a i) := by rw [Int.toNat_natCast]; exact hno
      clear hno
      obtain ⟨S1, hS1⟩ : ∃ S1 : Nat, (N1 : Int) + (N2 : Int) = (S1 : Int) := ⟨N1 + N2, by omega⟩
      obtain ⟨S2, hS2⟩ : ∃ S2 : Nat, (S1 : Int) + (i : Int) = (S2 : Int) := ⟨S1 + i, by omega⟩
      have hS3 : IntKind.i64.wrap ((N1 : Int) + (N2 : Int)) = (S1 : Int) := by rw [hS1, IntKind.wrap_i64]; omega
      have hS4 : IntKind.i64.wrap ((S1 : Int) + (i : Int)) = (S2 : Int) := by rw [hS2, IntKind.wrap_i64]; omega
      have HS := Lib.hid (show S2 = N1 + N2 + i by omega)
      go_wp2_with fail
      by_cases hf : 1024 < (S2 : Int)
      · have df : decide (1024 < (S2 : Int)) = true := decide_eq_true hf
        have HE : Hid (pvE p k a i s = 5 ∧ pvP p k a i s = p) := pvE_full HB.out HNo.out (by rw [Int.toNat_natCast]; have := HS.out; have := HX.out.2.1; have := HX.out.2.2.1; omega)
        clear hf
        go_quiet (fail)
        obtain ⟨W1, hW1⟩ : ∃ W1, W1 = W.drewN nq := ⟨_, rfl⟩
        rw [← hW1]
        have g1 : Grow W W1 := by rw [hW1]; exact ⟨rfl, rfl, rfl, Nat.le_refl _, fun _ _ => rfl⟩
        have HT1 : Hid (TwoB w W1 cs z32) := HT.out.grow g1
        clear hW1 g1
        go_wp2_with (first
    | (show wpList _ _ _ (⟨some 88, .load 30 (.tmp 5), _, _, _, _⟩ :: _) _ _; refine wpList_load_pl W1 rfl _ rfl w.heap.size cs rfl HT1.out.p H1.out.1 ?_)
    | (show wpList _ _ _ (⟨none, .store 30 (.tmp 10) (.tmp 88), _, _, _, _⟩ :: _) _ _; refine wpList_store_pl w W1 rfl _ _ rfl rfl (w.heap.size + 1) z32 cs rfl rfl HT1.out.r rfl H1.out.1 H1.out.2 HT1.out.g (Nat.le_succ _) ?_; intro w2 hb2 hk2 hg2; have H2 := Lib.hid (And.intro hb2 (And.intro hk2 hg2)); clear hb2 hk2 hg2))
        refine bodyPost_ret (results2_pl 10 11 rfl _ _ (w.heap.size + 1) cs rfl H2.out.1 H1.out.1) rfl ?_
        exact ⟨_, by rw [HE.out.1]; rfl, by rw [HE.out.2]; exact ⟨cs, rfl, HP.out.grow H2.out.2.2⟩, H2.out.2.2⟩
      · have df : decide (1024 < (S2 : Int)) = false := decide_eq_false hf
        have df2 : ¬ (1024 < S2) := by omega
        have HE : Hid (pvE p k a i s = 0 ∧ pvP p k a i s = upd p k ⟨(p k).fr ++ news a i s, (p k).out⟩) := by
          have := pvE_ok HB.out HNo.out (by rw [Int.toNat_natCast]; have := HS.out; have := HX.out.2.1; have := HX.out.2.2.1; omega)
          rw [Int.toNat_natCast] at this
          exact this
        clear hf
        go_quiet (fail)
        obtain ⟨W1, hW1⟩ : ∃ W1, W1 = W.drewN nq := ⟨_, rfl⟩
        rw [← hW1]
        have g1 : Grow W W1 := by rw [hW1]; exact ⟨rfl, rfl, rfl, Nat.le_refl _, fun _ _ => rfl⟩
        have HT1 : Hid (TwoB w W1 cs z32) := HT.out.grow g1
        have c1' : (W1.alloc (.cells #[] 54)).cell? ⟨w.heap.size, k * 2, none⟩ = some (.slice A N1 cp) := ((Grow.alloc W1 _).cell (p := ⟨w.heap.size, k * 2, none⟩) HT1.out.p.lt).trans ((g1.cell (p := ⟨w.heap.size, k * 2, none⟩) HT.out.p.lt).trans c1)
        have HD : Hid (RdK (W1.alloc (.cells #[] 54)) 2 (.slice A N1 cp) N1 ((p k).fr.flatMap bt)) := by
          have q := ((HA.out.grow g1).grow (Grow.alloc W1 (.cells #[] 54))).rd
          unfold RdBf at q
          rwa [← HX.out.2.1] at q
        have HGW := Lib.hid g1
        clear hW1 g1
        go_upto_region 11 with (first | (show wpList _ _ _ (⟨some 94, _, _, _, _, _⟩ :: _) _ _; refine wpList_appK _ rfl (.tmp 89) (.tmp 93) 26 rfl 54 _ 2 16 Try.underlying26 infoBf rfl (by decide) W1.heap.size _ _ 0 N1 [] _ rfl rfl (bfs_lit0 W1) HD.out (bt_one _) (by have := HX.out.2.2.2.1; omega) (by have := HX.out.2.2.2.1; unfold maxLen; omega) (by simp) ?_; intro v1 w1 ho1 hg1 hat1; rw [List.nil_append] at ho1; have hgw : Grow W1 w1 := (Grow.alloc W1 _).grown hg1 (by simp) (fun k hk => by cases hk; exact Nat.le_refl _); have hrow : Bfs w1 W1.heap.size v1 (p k).fr := (by unfold Bfs; rw [← HX.out.2.1]; simpa using ho1); have H9 := Lib.hid (And.intro hrow hgw); clear ho1 hg1 hat1 hgw hrow c1'))
        clear HD
        go_wp2_with fail
        go_loopg [13, 14] i (fun gk s13 s14 wr => ∃ (j : Nat) (v : Value), gk = i - j ∧ s13 = v ∧ s14 = .int .i64 (j : Int) ∧ Hid (j ≤ i ∧ Bfs wr W1.heap.size v ((p k).fr ++ (news a i s).take j) ∧ Grow W1 wr))
        case atStart => exact ⟨0, v1, rfl, rfl, rfl, Nat.zero_le _, by rw [List.take_zero, List.append_nil]; exact H9.out.1, H9.out.2⟩
        case round =>
          obtain ⟨j, v, rfl, rfl, rfl, HR2⟩ := hrel
          rename World => wo
          obtain ⟨A5, c5, hf5, _⟩ := HR2.out.2.1.rd.form
          obtain ⟨m5, hm5⟩ : ∃ m, m = ((p k).fr ++ (news a i s).take j).length := ⟨_, rfl⟩
          rw [← hm5] at hf5
          have HM5 := Lib.hid hm5
          clear hm5
          subst hf5
          rcases Nat.lt_or_ge j i with hlt | hge
          · have f1 : (j : Int) < (i : Int) := by omega
            obtain ⟨X, hX⟩ : ∃ X : Nat, a + (j : Int) = (X : Int) := ⟨(a + (j : Int)).toNat, by have := HX.out.2.2.2.2.2; omega⟩
            have f2 : IntKind.i64.wrap (a + (j : Int)) = (X : Int) := by rw [IntWalk.i64_in _ (by have := HX.out.2.2.2.2.2; omega)]; exact hX
            have HLN : Hid (((p k).fr ++ (news a i s).take j).length ≤ 1000000) := Lib.hid (by rw [List.length_append, List.length_take, ← HX.out.2.1]; have := HX.out.2.2.2.1; omega)
            have HTK := Lib.hid (show (news a i s).take (j + 1) = (news a i s).take j ++ [⟨(X : Int), s⟩] by rw [news_take a s hlt, hX])
            go_wp2_with (first | (show wpList _ _ _ (⟨some 107, _, _, _, _, _⟩ :: _) _ _; refine run_bfapp wo W1.heap.size _ _ ⟨(X : Int), s⟩ HR2.out.2.1 HR2.out.2.2.size HLN.out rfl (.tmp 100) (.tmp 106) rfl rfl rfl ?_; intro v5 w5 ho5 hb5; have H5 := Lib.hid (And.intro ho5 hb5); clear ho5 hb5))
            go_roundg (i - (j + 1))
            case measure => omega
            case rel => exact ⟨j + 1, v5, rfl, rfl, by go_num, by omega, by rw [HTK.out, ← List.append_assoc]; exact H5.out.1, Below.trans HR2.out.2.2 H5.out.2⟩
          · obtain rfl : j = i := by have := HR2.out.1; omega
            have HT5 : Hid (TwoB w wo cs z32) := HT1.out.grow HR2.out.2.2
            have c9 := HT5.out.p.cell (k * 2)
            rw [HX.out.1] at c9
            have f9 := HT5.out.p.fz (k * 2)
            have hrow : Bfs wo W1.heap.size (.slice A5 m5 c5) ((p k).fr ++ news a j s) := by
              have q := HR2.out.2.1
              rwa [List.take_of_length_le (by rw [news_len, Int.toNat_natCast]; exact Nat.le_refl _)] at q
            have HRow := Lib.hid hrow
            clear hrow c1 c2
            go_upto_region 16 with fail
            obtain ⟨W3, hW3⟩ : ∃ W3, W3 = wo.setCell ⟨w.heap.size, k * 2, none⟩ (.slice A5 m5 c5) := ⟨_, rfl⟩
            rw [← hW3]
            obtain ⟨cs1, hcs1⟩ : ∃ c, c = cs.setIfInBounds (k * 2) (.slice A5 m5 c5) := ⟨_, rfl⟩
            have HT3 : Hid (TwoB w W3 cs1 z32) := by rw [hW3, hcs1]; exact HT5.out.set _ _
            have hP3 : PlC W3 base cs1 (upd p k ⟨(p k).fr ++ news a j s, (p k).out⟩) := by
              rw [hcs1]
              exact HP.out.set0 (fun u l hu => by rw [hW3]; exact ((hu.grow HT1.out.g).grow HR2.out.2.2).set_ HT5.out.p) hk (by rw [hW3]; exact (HRow.out.base_ (Nat.le_trans hbase HT1.out.g.size)).set_ HT5.out.p)
            have HP3 := Lib.hid hP3
            have H1 := Lib.hid (And.intro hP3.size hP3.ones)
            clear hW3 hcs1 hP3 c9 f9
            go_wp2_with (first
    | (show wpList _ _ _ (⟨some 112, .load 30 (.tmp 5), _, _, _, _⟩ :: _) _ _; refine wpList_load_pl W3 rfl _ rfl w.heap.size cs1 rfl HT3.out.p H1.out.1 ?_)
    | (show wpList _ _ _ (⟨none, .store 30 (.tmp 10) (.tmp 112), _, _, _, _⟩ :: _) _ _; refine wpList_store_pl w W3 rfl _ _ rfl rfl (w.heap.size + 1) z32 cs1 rfl rfl HT3.out.r rfl H1.out.1 H1.out.2 HT3.out.g (Nat.le_succ _) ?_; intro w2 hb2 hk2 hg2; have H2 := Lib.hid (And.intro hb2 (And.intro hk2 hg2)); clear hb2 hk2 hg2))
            refine bodyPost_ret (results2_pl 10 11 rfl _ _ (w.heap.size + 1) cs1 rfl H2.out.1 H1.out.1) rfl ?_
            exact ⟨_, by rw [HE.out.1]; rfl, by rw [HE.out.2]; exact ⟨cs1, rfl, HP3.out.st fun u l hu => hu.but_ HT3.out.r H2.out.2.1⟩, H2.out.2.2⟩
theorem rProvB (w : World) (base : Nat) (hbase : base ≤ w.heap.size) (v : Value) (p : Pls) (h : RPl w base v p) (hp : POk p) (g a n s : Int) : Calls Try.prog 10 #[v, .int .i64 g, .int .i64 a, .int .i64 n, .int .i64 s] w fun e w' => ∃ v', e = .returned (.tuple #[v', .int .i64 (pvE p g a n s)]) ∧ RPl w' base v' (pvP p g a n s) ∧ Grow w w' := by
  obtain ⟨cs, rfl, hc⟩ := h
  by_cases hg : pvBad g a n s
  · obtain ⟨e1, e2⟩ := pvE_bad (p := p) hg
    refine (rProvB_bad w cs hc.size hc.ones g a n s hg).mono ?_
    rintro e w' ⟨rfl, g1⟩
    exact ⟨_, by rw [e1], by rw [e2]; exact ⟨cs, rfl, hc.grow g1⟩, g1⟩
  · obtain ⟨q0, q1, q2, q3⟩ := not_pvBad hg
    obtain ⟨k, rfl, hk, hk2⟩ := bad_nat q0
    obtain ⟨m, rfl⟩ : ∃ m : Nat, n = (m : Int) := ⟨n.toNat, by omega⟩
    exact rProvB_in w base hbase cs p hc hp k hk a s m hg
end Go.Proofs.Ytkambcjinidomaa
