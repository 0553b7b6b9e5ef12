/- Contract: the reference's Take. -/
import Derived.Test.YtkambcjinidomaaBpRef2
import Derived.Test.YtkambcjinidomaaPhase
import Derived.Test.YtkambcjinidomaaWeave
import Derived.Test.YtkambcjinidomaaByLib
namespace Go.Proofs.Ytkambcjinidomaa
set_option linter.unusedVariables false
set_option linter.unusedSimpArgs false
open Go.ChangeShapes Go.WideShapes Go.ChangeAt Go.RowKit

theorem bfs_stays {b : Nat} (l : List Bf) : stays (fun v w => Bfs w b v l) := fun _ _ _ g h => Bfs.grow h g
theorem upd_upd (p : Pls) (k : Nat) (x y : Gp) : upd (upd p k x) k y = upd p k y := by
  funext i
  by_cases e : i = k
  · subst e; rw [upd_same, upd_same]
  · rw [upd_other e, upd_other e, upd_other e]
theorem PlC.st {w w' : World} {base : Nat} {cs : Array Value} {p : Pls} (h : PlC w base cs p) (st : ∀ u l, Bfs w base u l → Bfs w' base u l) : PlC w' base cs p := ⟨h.size, fun i hi => by
  obtain ⟨a, b, h1, h2, h3, h4⟩ := h.at_ i hi
  exact ⟨a, b, h1, h2, st _ _ h3, st _ _ h4⟩⟩
theorem TwoB.low {w W : World} {cs zs : Array Value} (h : TwoB w W cs zs) : w.heap.size + 1 < W.heap.size := h.r.lt
/-- Which test finds a group bad. -/
theorem bad_cases {g : Int} (h : Bad g) : decide (g < 0) = true ∨ (decide (g < 0) = false ∧ decide (15 < g) = true) := by
  unfold Bad at h
  by_cases q : g < 0
  · exact .inl (decide_eq_true q)
  · exact .inr ⟨decide_eq_false q, decide_eq_true (by omega)⟩
set_option maxRecDepth 10000 in
set_option maxHeartbeats 1000000 in
theorem rTakeB_bad (w : World) (cs : Array Value) (hcs : cs.size = 32) (h1 : ∀ y ∈ cs.toList, y.oneCell' = true) (g : Int) (hg : Bad g) : Calls Try.prog 12 #[.agg cs, .int .i64 g] w fun e w' => e = .returned (.tuple #[.agg cs, .int .i64 0, .int .i64 0, .int .i64 1]) ∧ Grow w w' := by
  obtain ⟨W, hW⟩ : ∃ W, W = (w.alloc (.cells cs 30)).alloc (.cells z32 30) := ⟨_, rfl⟩
  have HT : Hid (TwoB w W cs z32) := by rw [hW]; exact twoB w cs
  have H1 := Lib.hid (And.intro hcs h1)
  clear hcs h1
  rcases bad_cases hg with d1 | ⟨d1, d2⟩
  all_goals
    clear hg
    go_enter Try.func12, Try.ntmps12
    go_upto_region 1 with fail
    rw [← hW]
    have HW := Lib.hid hW
    clear hW
    go_wp2_with (first
      | (show wpList _ _ _ (⟨some 15, .load 30 (.tmp 2), _, _, _, _⟩ :: _) _ _; refine wpList_load_pl W rfl _ rfl w.heap.size cs rfl HT.out.p H1.out.1 ?_)
      | (show wpList _ _ _ (⟨none, .store 30 (.tmp 4) (.tmp 15), _, _, _, _⟩ :: _) _ _; refine wpList_store_pl w W rfl _ _ rfl rfl (w.heap.size + 1) z32 cs rfl rfl HT.out.r rfl H1.out.1 H1.out.2 HT.out.g (Nat.le_succ _) ?_; intro w2 hb2 hk2 hg2; have H2 := Lib.hid (And.intro hb2 hg2); clear hb2 hk2 hg2))
    refine bodyPost_ret (results4_pl 4 5 6 7 rfl _ _ (w.heap.size + 1) cs rfl H2.out.1 H1.out.1) rfl ?_
    exact ⟨rfl, H2.out.2⟩
set_option maxRecDepth 10000 in
set_option maxHeartbeats 1000000 in
theorem rTakeB_none (w : World) (cs : Array Value) (hcs : cs.size = 32) (h1 : ∀ y ∈ cs.toList, y.oneCell' = true) (k : Nat) (hk : k < 16) (A : Option Addr) (c : Nat) (e1 : cs[k * 2]? = some (.slice A 0 c)) : Calls Try.prog 12 #[.agg cs, .int .i64 (k : Int)] w fun e w' => e = .returned (.tuple #[.agg cs, .int .i64 0, .int .i64 0, .int .i64 6]) ∧ Grow w w' := by
  obtain ⟨W, hW⟩ : ∃ W, W = (w.alloc (.cells cs 30)).alloc (.cells z32 30) := ⟨_, rfl⟩
  have HT : Hid (TwoB w W cs z32) := by rw [hW]; exact twoB w cs
  have H1 := Lib.hid (And.intro hcs h1)
  have c1 := HT.out.p.cell (k * 2)
  rw [e1] at c1
  have d1 : decide ((k : Int) < 0) = false := decide_eq_false (by omega)
  have d2 : decide (15 < (k : Int)) = false := decide_eq_false (by omega)
  have d3 : (k : Int) < 16 := by omega
  clear hcs h1 e1
  go_enter Try.func12, Try.ntmps12
  go_upto_region 1 with fail
  rw [← hW]
  have HW := Lib.hid hW
  clear hW
  go_wp2_with (first
    | (show wpList _ _ _ (⟨some 22, .load 30 (.tmp 2), _, _, _, _⟩ :: _) _ _; refine wpList_load_pl W rfl _ rfl w.heap.size cs rfl HT.out.p H1.out.1 ?_)
    | (show wpList _ _ _ (⟨none, .store 30 (.tmp 4) (.tmp 22), _, _, _, _⟩ :: _) _ _; refine wpList_store_pl w W rfl _ _ rfl rfl (w.heap.size + 1) z32 cs rfl rfl HT.out.r rfl H1.out.1 H1.out.2 HT.out.g (Nat.le_succ _) ?_; intro w2 hb2 hk2 hg2; have H2 := Lib.hid (And.intro hb2 hg2); clear hb2 hk2 hg2))
  refine bodyPost_ret (results4_pl 4 5 6 7 rfl _ _ (w.heap.size + 1) cs rfl H2.out.1 H1.out.1) rfl ?_
  exact ⟨rfl, H2.out.2⟩
set_option maxRecDepth 10000 in
set_option maxHeartbeats 2000000 in
theorem rTakeB_ok (w : World) (base : Nat) (hbase : base ≤ w.heap.size) (cs : Array Value) (p : Pls) (h : PlC w base cs p) (k : Nat) (hk : k < 16) (hn : (p k).fr.length ≤ 1000000 ∧ (p k).out.length ≤ 1000000) (h0 : 0 < (p k).fr.length) : Calls Try.prog 12 #[.agg cs, .int .i64 (k : Int)] w fun e w' => ∃ v', e = .returned (.tuple #[v', .int .i64 (bp (p k).fr 0).id, .int .i64 (bp (p k).fr 0).sz, .int .i64 0]) ∧ RPl w' base v' (upd p k ⟨(p k).fr.drop 1, (p k).out ++ [bp (p k).fr 0]⟩) ∧ Grow w w' := by
  obtain ⟨W, hW⟩ : ∃ W, W = (w.alloc (.cells cs 30)).alloc (.cells z32 30) := ⟨_, rfl⟩
  have HT : Hid (TwoB w W cs z32) := by rw [hW]; exact twoB w cs
  obtain ⟨aV, bV, e1, e2, ha, hb⟩ := h.at_ k hk
  have HP := Lib.hid h
  obtain ⟨t, ht⟩ : ∃ t, t = bp (p k).fr 0 := ⟨_, rfl⟩
  obtain ⟨out, hout⟩ : ∃ out, out = (p k).out := ⟨_, rfl⟩
  obtain ⟨fr, hfr⟩ : ∃ fr, fr = (p k).fr := ⟨_, rfl⟩
  rw [← ht]
  rw [← hfr] at ht ha hn h0 ⊢
  rw [← hout] at hb hn ⊢
  have c1 := HT.out.p.cell (k * 2)
  rw [e1] at c1
  have C2 : Hid (W.cell? ⟨w.heap.size, k * 2 + 1, none⟩ = some bV) := by have := HT.out.p.cell (k * 2 + 1); rwa [e2] at this
  have HA := Lib.hid (ha.rd.grow HT.out.g)
  have HAB := Lib.hid (And.intro (ha.grow HT.out.g) (hb.grow HT.out.g))
  obtain ⟨ab, ao, ac, hav, habl, hac⟩ := HA.out.cell h0
  obtain ⟨x0, x1⟩ := hac 0 h0
  rw [← ht, Nat.zero_mul, Nat.add_zero] at x0 x1
  have HN := Lib.hid hn.2
  have HF := Lib.hid (And.intro hn.1 h0)
  obtain ⟨n, hn1⟩ : ∃ n, n = fr.length := ⟨_, rfl⟩
  subst hav
  rw [← hn1] at c1
  have n0 : 0 < n := by omega
  have d1 : decide ((k : Int) < 0) = false := decide_eq_false (by omega)
  have d2 : decide (15 < (k : Int)) = false := decide_eq_false (by omega)
  have d3 : (k : Int) < 16 := by omega
  have dn : ((n : Int) == 0) = false := beq_eq_false_iff_ne.2 (by omega)
  have HX := Lib.hid (And.intro ht (And.intro hfr (And.intro hout (And.intro hn1 (And.intro e1 e2)))))
  clear h ha hb hac habl hn h0 hn1 ht hfr hout e1 e2
  go_enter Try.func12, Try.ntmps12
  go_upto_region 1 with fail
  rw [← hW]
  have HW := Lib.hid hW
  clear hW
  go_upto_region 6 with fail
  obtain ⟨W1, hW1⟩ : ∃ W1, W1 = W.alloc (.cells #[.int .i64 t.id, .int .i64 t.sz] 54) := ⟨_, rfl⟩
  rw [← hW1]
  obtain ⟨q1, hq1⟩ : ∃ q1, q1 = W.heap.size := ⟨_, rfl⟩
  rw [← hq1]
  have hT1 : TwoB w W1 cs z32 := by rw [hW1]; exact HT.out.grow (Grow.alloc _ _)
  have hq : W1.heap[q1]? = some (.cells #[.int .i64 t.id, .int .i64 t.sz] 54 (0, 0)) := by rw [hW1, hq1]; exact heap_alloc_new W _
  have g1 : Grow W W1 := by rw [hW1]; exact Grow.alloc _ _
  have c1' := hT1.p.cell (k * 2)
  rw [HX.out.2.2.2.2.1] at c1'
  have C3 : Calls Try.prog 26 #[.slice (some ⟨ab, ao, none⟩) n ac, .int .i64 0] W1 fun e w' => ∃ v', e = .returned v' ∧ Bfs w' W1.heap.size v' (fr.eraseIdx 0) ∧ Grow W1 w' := by
    have e := HX.out.2.2.2.1
    rw [e]
    exact rWithoutB W1 _ fr (HA.out.grow g1) HF.out.1 0 HF.out.2
  have HT1 := Lib.hid (And.intro hT1 (And.intro hq (And.intro g1 hq1)))
  clear hT1 hq g1 hq1 hW1 x0 x1 c1
  rw [← HX.out.2.2.2.1] at c1'
  go_wp2_with fail
  refine C3.mono ?_
  rintro e W2 ⟨a', rfl, ha2, g2⟩
  have HT2 : Hid (TwoB w W2 cs z32) := HT1.out.1.grow g2
  have c2 := HT2.out.p.cell (k * 2)
  rw [HX.out.2.2.2.2.1] at c2
  have f2 := HT2.out.p.fz (k * 2)
  have HA2 := Lib.hid (And.intro ha2 g2)
  obtain ⟨A2, k2, hfa, _⟩ := ha2.rd.form
  obtain ⟨m2, hm2⟩ : ∃ m, m = (fr.eraseIdx 0).length := ⟨_, rfl⟩
  rw [← hm2] at hfa
  subst hfa
  clear C3 ha2 g2 c1' hm2
  go_upto_region 7 with fail
  obtain ⟨W3, hW3⟩ : ∃ W3, W3 = W2.setCell ⟨w.heap.size, k * 2, none⟩ (.slice A2 m2 k2) := ⟨_, rfl⟩
  rw [← hW3]
  obtain ⟨cs1, hcs1⟩ : ∃ c, c = cs.setIfInBounds (k * 2) (.slice A2 m2 k2) := ⟨_, rfl⟩
  have HT3 : Hid (TwoB w W3 cs1 z32) := by rw [hW3, hcs1]; exact HT2.out.set _ _
  have hs3 : W3.heap.size = W2.heap.size := by rw [hW3]; simp [World.setCell]
  have hqlt : w.heap.size + 1 < q1 := by rw [HT1.out.2.2.2]; exact HT.out.low
  have hblk3 : W3.heap[q1]? = some (.cells #[.int .i64 t.id, .int .i64 t.sz] 54 (0, 0)) := by
    rw [hW3, Below.heap_setCell _ _ _ _ (show q1 ≠ w.heap.size by omega), HA2.out.2.block q1 (Array.getElem?_eq_some_iff.1 HT1.out.2.1).1]
    exact HT1.out.2.1
  have HQ3 := Lib.hid hblk3
  have HL3 : Hid (w.heap.size < W3.heap.size ∧ q1 < W3.heap.size) := ⟨HT3.out.p.lt, (Array.getElem?_eq_some_iff.1 hblk3).1⟩
  have hc3 : W3.cell? ⟨w.heap.size, k * 2 + 1, none⟩ = some bV := by
    rw [HT3.out.p.cell, hcs1, Array.getElem?_setIfInBounds, if_neg (by omega)]
    exact HX.out.2.2.2.2.2
  have HC3 : Hid (W3.cell? ⟨w.heap.size, k * 2 + 1, none⟩ = some bV ∧ W3.cell? ⟨q1, 0, none⟩ = some (.int .i64 t.id) ∧ W3.cell? ⟨q1, 1, none⟩ = some (.int .i64 t.sz)) := ⟨hc3, (cell_of_row W3 _ 0 _ _ _ hblk3).trans rfl, (cell_of_row W3 _ 1 _ _ _ hblk3).trans rfl⟩
  have HSt3 : Hid (∀ u l, Bfs W2 base u l → Bfs W3 base u l) := fun u l hu => by rw [hW3]; exact hu.set_ HT2.out.p
  have HA3 : Hid (Bfs W3 W1.heap.size (.slice A2 m2 k2) (fr.eraseIdx 0)) := by rw [hW3]; exact HA2.out.1.set_ HT2.out.p
  have HB3 : Hid (RdBf W3 bV out) := Bfs.rd (HSt3.out _ _ ((HAB.out.2.grow HT1.out.2.2.1).grow HA2.out.2))
  have HW3 := Lib.hid (And.intro hW3 (And.intro hcs1 hs3))
  have HBS : Hid (base ≤ W3.heap.size) := Nat.le_trans hbase (Nat.le_of_lt HL3.out.1)
  clear hW3 hcs1 hs3 hqlt hblk3 hc3 c2 f2 C2
  refine wp_region_phase (A := ?frame7) (inList (isV (.int .i64 (k : Int)) :: isV (.int .i64 (k : Int)) :: isV (.pointer (some ⟨w.heap.size, k * 2, none⟩)) :: isV (.pointer (some ⟨w.heap.size, k * 2 + 1, none⟩)) :: isV (bV) :: isV (.agg #[.int .i64 t.id, .int .i64 t.sz]) :: (fun v q => Bfs q base v (out ++ [t])) :: isV (.pointer (some ⟨w.heap.size, k * 2, none⟩)) :: isV (.pointer (some ⟨w.heap.size, k * 2 + 1, none⟩)) :: [])) 9 (by kernel_rfl) (by kernel_rfl) (by kernel_rfl) (inList_stays ?_) (fun x => ?frameEq7) ?_ ?_
  case frameEq7 => go_simp; rfl
  · intro f hf
    simp only [List.mem_cons, List.not_mem_nil, or_false] at hf
    rcases hf with rfl | rfl | rfl | rfl | rfl | rfl | rfl | rfl | rfl <;> first | exact isV_stays _ | exact isB_stays _ | exact isBs_stays _ | exact bfs_stays _
  · refine ⟨fun x w1 hg hd post hp => ?_, fun x w1 hg hd post hp => ?_, fun x w1 hg hd post hp => ?_, fun x w1 hg hd post hp => ?_, fun x w1 hg hd post hp => ?_, fun x w1 hg hd post hp => ?_, fun x w1 hg hd post hp => ?_, fun x w1 hg hd post hp => ?_, fun x w1 hg hd post hp => ?_, trivial⟩
    · -- 0: slot 37: Op.move t1
      clear hd
      go_simp
      exact hp _ _ (Grow.refl _) rfl
    · -- 1: slot 38: Op.move t1
      clear hd
      go_simp
      exact hp _ _ (Grow.refl _) rfl
    · -- 2: slot 39: Op.indexAddr 30 t2 t38
      have h38 : x 38 = .int .i64 (k : Int) := hd 1 (by decide) _ rfl
      clear hd
      go_simp
      exact hp _ _ (Grow.refl _) rfl
    · -- 3: slot 40: Op.fieldAddr 28 t39 1
      have h39 : x 39 = .pointer (some ⟨w.heap.size, k * 2, none⟩) := hd 2 (by decide) _ rfl
      clear hd
      go_simp
      exact hp _ _ (Grow.refl _) rfl
    · -- 4: slot 41: Op.load 26 t40
      have h40 : x 40 = .pointer (some ⟨w.heap.size, k * 2 + 1, none⟩) := hd 3 (by decide) _ rfl
      clear hd
      have y := (Grow.cell hg (p := ⟨w.heap.size, k * 2 + 1, none⟩) HL3.out.1).trans (HC3.out.1)
      go_simp
      exact hp _ _ (Grow.refl _) rfl
    · -- 5: slot 42: Op.load 54 t8
      clear hd
      have y0 := (Grow.cell hg (p := ⟨q1, 0, none⟩) HL3.out.2).trans (HC3.out.2.1)
      have y1 := (Grow.cell hg (p := ⟨q1, 1, none⟩) HL3.out.2).trans (HC3.out.2.2)
      go_simp
      exact hp _ _ (Grow.refl _) rfl
    · -- 6: slot 43: Op.call { value (Operand.func 24), args := #[t41, t42], argTypes := #[26, 54] }
      have h41 : x 41 = bV := hd 4 (by decide) _ rfl
      have h42 : x 42 = .agg #[.int .i64 t.id, .int .i64 t.sz] := hd 5 (by decide) _ rfl
      clear hd
      go_simp
      refine (rMoreB w1 _ _ (HB3.out.grow hg) HN.out t).mono ?_
      rintro e w2 ⟨u, rfl, ho, hg2⟩
      exact ⟨_, rfl, hp _ _ hg2 (ho.base_ (Nat.le_trans HBS.out hg.size))⟩
    · -- 7: slot 44: Op.indexAddr 30 t2 t37
      have h37 : x 37 = .int .i64 (k : Int) := hd 0 (by decide) _ rfl
      clear hd
      go_simp
      exact hp _ _ (Grow.refl _) rfl
    · -- 8: slot 45: Op.fieldAddr 28 t44 1
      have h44 : x 44 = .pointer (some ⟨w.heap.size, k * 2, none⟩) := hd 7 (by decide) _ rfl
      clear hd
      go_simp
      exact hp _ _ (Grow.refl _) rfl
  · intro x w1 hg hd
    have h43 : (fun v q => Bfs q base v (out ++ [t])) (x 43) w1 := hd 6 _ (by decide) rfl
    have h45 : x 45 = .pointer (some ⟨w.heap.size, k * 2 + 1, none⟩) := hd 8 _ (by decide) rfl
    clear hd
    obtain ⟨A4, k4, hf4, _⟩ := Bfs.rd h43 |>.form
    obtain ⟨m4, hm4⟩ : ∃ m, m = (out ++ [t]).length := ⟨_, rfl⟩
    rw [← hm4] at hf4
    rw [hf4] at h43
    have HT4 : Hid (TwoB w w1 cs1 z32) := HT3.out.grow hg
    have c4 := HT4.out.p.cell (k * 2 + 1)
    have f4 := HT4.out.p.fz (k * 2 + 1)
    have HB4 := Lib.hid (And.intro h43 hg)
    rw [hf4, h45]
    clear h43 h45 hm4 hf4 hg
    have e4 : cs1[k * 2 + 1]? = some bV := by rw [HW3.out.2.1, Array.getElem?_setIfInBounds, if_neg (by omega)]; exact HX.out.2.2.2.2.2
    rw [e4] at c4
    clear e4
    go_upto_region 8 with fail
    obtain ⟨W5, hW5⟩ : ∃ W5, W5 = w1.setCell ⟨w.heap.size, k * 2 + 1, none⟩ (.slice A4 m4 k4) := ⟨_, rfl⟩
    rw [← hW5]
    obtain ⟨cs2, hcs2⟩ : ∃ c, c = cs1.setIfInBounds (k * 2 + 1) (.slice A4 m4 k4) := ⟨_, rfl⟩
    have hT5 : TwoB w W5 cs2 z32 := by rw [hW5, hcs2]; exact HT4.out.set _ _
    have hq5 : W5.heap[q1]? = some (.cells #[.int .i64 t.id, .int .i64 t.sz] 54 (0, 0)) := by
      rw [hW5, Below.heap_setCell _ _ _ _ (show q1 ≠ w.heap.size by have := HT.out.low; have := HT1.out.2.2.2; omega), HB4.out.2.block q1 (Array.getElem?_eq_some_iff.1 HQ3.out).1]
      exact HQ3.out
    have hP3 : PlC W3 base cs1 (upd p k ⟨fr.eraseIdx 0, (p k).out⟩) := by
      rw [HW3.out.2.1]
      exact HP.out.set0 (fun u l hu => HSt3.out _ _ (hu.grow ((HT.out.g.trans HT1.out.2.2.1).trans HA2.out.2))) hk (HA3.out.base_ (Nat.le_trans hbase (Nat.le_trans HT.out.g.size HT1.out.2.2.1.size)))
    have hP5 : PlC W5 base cs2 (upd p k ⟨fr.drop 1, out ++ [t]⟩) := by
      have := hP3.set1 (w' := W5) (fun u l hu => by rw [hW5]; exact (hu.grow HB4.out.2).set_ HT4.out.p) hk (v := .slice A4 m4 k4) (l := out ++ [t]) (by rw [hW5]; exact HB4.out.1.set_ HT4.out.p)
      rw [upd_upd, upd_same, ← hcs2, show fr.eraseIdx 0 = fr.drop 1 from by cases fr <;> rfl] at this
      exact this
    have HT5 : Hid (TwoB w W5 cs2 z32 ∧ cs2.size = 32) := ⟨hT5, hP5.size⟩
    have HP5 := Lib.hid hP5
    have HNe : Hid (q1 ≠ w.heap.size + 1) := Lib.hid (by have := HT.out.low; have := HT1.out.2.2.2; omega)
    have hD5 : Grow w W5 := hT5.g
    have HL5 : Hid (q1 < W5.heap.size) := (Array.getElem?_eq_some_iff.1 hq5).1
    have HC5 : Hid (W5.cell? ⟨q1, 0, none⟩ = some (.int .i64 t.id) ∧ W5.cell? ⟨q1, 1, none⟩ = some (.int .i64 t.sz)) := ⟨(cell_of_row W5 _ 0 _ _ _ hq5).trans rfl, (cell_of_row W5 _ 1 _ _ _ hq5).trans rfl⟩
    clear hW5 hcs2 hT5 hq5 hP3 hP5 hD5 c4 f4
    refine wp_region_weave (A := ?frame8) [5] (fun q => PlBlk q w.heap.size cs2 ∧ q.cell? ⟨q1, 0, none⟩ = some (.int .i64 t.id) ∧ q.cell? ⟨q1, 1, none⟩ = some (.int .i64 t.sz) ∧ q1 < q.heap.size ∧ Grow w q ∧ ∀ u l, Bfs W5 base u l → Bfs q base u l) (inVals (isW (.agg cs2) :: isW (.pointer (some ⟨q1, 0, none⟩)) :: isW (.int .i64 t.id) :: isW (.pointer (some ⟨q1, 1, none⟩)) :: isW (.int .i64 t.sz) :: isAll :: isW (.int .i64 t.id) :: isW (.int .i64 t.sz) :: isW (.int .i64 0) :: [])) (fun j vs q => match j, vs with | 0, [] => PlBlk q (w.heap.size + 1) z32 | 1, [_] => PlBlk q (w.heap.size + 1) cs2 | _, _ => False) (by kernel_rfl) (by kernel_rfl) (by kernel_rfl) (by kernel_rfl) (fun x => ?frameEq8) ⟨HT5.out.1.p, HC5.out.1, HC5.out.2, HL5.out, HT5.out.1.g.trans (Grow.drew _), fun _ _ h => h.grow (Grow.drew _)⟩ HT5.out.1.r ?_ ?_ ?_
    case frameEq8 => go_simp; rfl
    · refine ⟨fun _ x w1 hI hd post hp => ?_, fun _ x w1 hI hd post hp => ?_, fun _ x w1 hI hd post hp => ?_, fun _ x w1 hI hd post hp => ?_, fun _ x w1 hI hd post hp => ?_, fun hn => absurd hn (by decide), fun _ x w1 hI hd post hp => ?_, fun _ x w1 hI hd post hp => ?_, fun _ x w1 hI hd post hp => ?_, trivial⟩
      · -- 0: slot 46: Op.load 30 t2
        clear hd
        refine upon_load_pl w1 rfl _ rfl w.heap.size cs2 rfl hI.1 HT5.out.2 ?_
        exact hp _ rfl
      · -- 1: slot 47: Op.fieldAddr 54 t8 0
        clear hd
        go_simp
        exact hp _ rfl
      · -- 2: slot 48: Op.load 3 t47
        have h47 : x 47 = .pointer (some ⟨q1, 0, none⟩) := hd 1 (by decide) (by decide) _ rfl
        clear hd
        have y0 := hI.2.1
        go_simp
        exact hp _ rfl
      · -- 3: slot 49: Op.fieldAddr 54 t8 1
        clear hd
        go_simp
        exact hp _ rfl
      · -- 4: slot 50: Op.load 3 t49
        have h49 : x 49 = .pointer (some ⟨q1, 1, none⟩) := hd 3 (by decide) (by decide) _ rfl
        clear hd
        have y0 := hI.2.2.1
        go_simp
        exact hp _ rfl
      · -- 6: slot 5: Op.assign t48
        have h48 : x 48 = .int .i64 t.id := hd 2 (by decide) (by decide) _ rfl
        clear hd
        go_simp
        exact hp _ rfl
      · -- 7: slot 6: Op.assign t50
        have h50 : x 50 = .int .i64 t.sz := hd 4 (by decide) (by decide) _ rfl
        clear hd
        go_simp
        exact hp _ rfl
      · -- 8: slot 7: Op.assign (const (0:i64))
        clear hd
        go_simp
        exact hp _ rfl
    · refine ⟨fun x w1 hI hd hs post hp => ?_, trivial⟩
      · -- 5: slot none:0: Op.store 30 t4 t46
        have h46 : x 46 = .agg cs2 := hd 0 (by decide) (by decide) _ rfl
        clear hd
        have s0 : PlBlk w1 (w.heap.size + 1) z32 := hs
        refine upon_cs w w1 rfl 30 (.tmp 4) (.tmp 46) rfl (w.heap.size + 1) 0 (.agg cs2) rfl h46 cs2.toList (cells_agg cs2) 30 z32 cs2 s0 (by rw [Array.length_toList, HT5.out.2]; exact sizePl) HP5.out.ones (by rw [Array.length_toList, HT5.out.2]; exact Nat.le_refl 32) (by rw [List.take_zero, List.nil_append, List.drop_eq_nil_of_le (by simp [HT5.out.2]), List.append_nil]) hI.2.2.2.2.1 (Nat.le_succ _) ?_
        intro w2 h2 hb2 g2
        exact hp _ _ ⟨(hb2.2 w.heap.size (by omega)).trans hI.1, (World.cell?_of_block (w := w1) (a := ⟨q1, 0, none⟩) (hb2.2 q1 HNe.out)).trans hI.2.1, (World.cell?_of_block (w := w1) (a := ⟨q1, 1, none⟩) (hb2.2 q1 HNe.out)).trans hI.2.2.1, (by rw [hb2.1]; exact hI.2.2.2.1), g2, fun u l h => (hI.2.2.2.2.2 u l h).but_ s0 hb2⟩ h2
    · intro x w1 hI hd hs
      have HW9 : Hid (PlBlk w1 (w.heap.size + 1) cs2 ∧ Grow w w1 ∧ ∀ u l, Bfs W5 base u l → Bfs w1 base u l) := ⟨hs, hI.2.2.2.2⟩
      have h5 : x 5 = .int .i64 t.id := hd 6 _ rfl (by decide)
      have h6 : x 6 = .int .i64 t.sz := hd 7 _ rfl (by decide)
      have h7 : x 7 = .int .i64 0 := hd 8 _ rfl (by decide)
      clear hd hs hI
      rw [h5, h6, h7]
      clear h5 h6 h7
      go_wp2_with fail
      refine bodyPost_ret (results4_pl 4 5 6 7 rfl _ _ (w.heap.size + 1) cs2 rfl HW9.out.1 HT5.out.2) rfl ?_
      exact ⟨_, rfl, ⟨cs2, rfl, HP5.out.st HW9.out.2.2⟩, HW9.out.2.1⟩
theorem rTakeB (w : World) (base : Nat) (hbase : base ≤ w.heap.size) (v : Value) (p : Pls) (h : RPl w base v p) (hp : POk p) (g : Int) : Calls Try.prog 12 #[v, .int .i64 g] w fun e w' => ∃ v', e = .returned (.tuple #[v', .int .i64 (tkI p g), .int .i64 (tkS p g), .int .i64 (tkE p g)]) ∧ RPl w' base v' (tkP p g) ∧ Grow w w' := by
  obtain ⟨cs, rfl, hc⟩ := h
  by_cases hg : Bad g
  · obtain ⟨e1, e2, e3, e4⟩ := tkE_bad (p := p) hg
    refine (rTakeB_bad w cs hc.size hc.ones g hg).mono ?_
    rintro e w' ⟨rfl, g1⟩
    exact ⟨_, by rw [e1, e2, e3], by rw [e4]; exact ⟨cs, rfl, hc.grow g1⟩, g1⟩
  · obtain ⟨k, rfl, hk, hk2⟩ := bad_nat hg
    have hl := (hp k hk).len
    by_cases h0 : (p k).fr.length = 0
    · obtain ⟨e1, e2, e3, e4⟩ := tkE_none (p := p) hg (by rw [hk2]; exact h0)
      obtain ⟨a, b, q1, q2, q3, q4⟩ := hc.at_ k hk
      obtain ⟨A, c, rfl, _⟩ := q3.rd.form
      rw [h0] at q1
      refine (rTakeB_none w cs hc.size hc.ones k hk A c q1).mono ?_
      rintro e w' ⟨rfl, g1⟩
      exact ⟨_, by rw [e1, e2, e3], by rw [e4]; exact ⟨cs, rfl, hc.grow g1⟩, g1⟩
    · obtain ⟨e1, e2, e3, e4⟩ := tkE_ok (p := p) hg (by rw [hk2]; exact h0)
      rw [hk2] at e2 e3 e4
      refine (rTakeB_ok w base hbase cs p hc k hk (by omega) (by omega)).mono ?_
      rintro e w' ⟨v', rfl, h1, g1⟩
      exact ⟨v', by rw [e1, e2, e3], by rw [e4]; exact h1, g1⟩
end Go.Proofs.Ytkambcjinidomaa
