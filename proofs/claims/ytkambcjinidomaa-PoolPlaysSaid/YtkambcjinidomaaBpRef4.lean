/- Contract: the reference's Give. -/
import Derived.Test.YtkambcjinidomaaBpRef3
namespace Go.Proofs.Ytkambcjinidomaa
set_option linter.unusedVariables false
set_option linter.unusedSimpArgs false
open Go.ChangeShapes Go.WideShapes Go.ChangeAt Go.RowKit

set_option maxRecDepth 10000 in
set_option maxHeartbeats 1000000 in
theorem rGiveB_bad (w : World) (cs : Array Value) (hcs : cs.size = 32) (h1 : ∀ y ∈ cs.toList, y.oneCell' = true) (g x : Int) (hg : Bad g) : Calls Try.prog 14 #[.agg cs, .int .i64 g, .int .i64 x] w fun e w' => e = .returned (.tuple #[.agg cs, .int .i64 1]) ∧ Grow w w' := by
  obtain ⟨W, hW⟩ : ∃ W, W = (w.alloc (.cells cs 30)).alloc (.cells z32 30) := ⟨_, rfl⟩
  have HT : Hid (TwoB w W cs z32) := by rw [hW]; exact twoB w cs
  have H1 := Lib.hid (And.intro hcs h1)
  clear hcs h1
  rcases bad_cases hg with d1 | ⟨d1, d2⟩
  all_goals
    clear hg
    go_enter Try.func14, Try.ntmps14
    go_upto_region 1 with fail
    rw [← hW]
    have HW := Lib.hid hW
    clear hW
    go_wp2_with (first
    | (show wpList _ _ _ (⟨some 15, .load 30 (.tmp 3), _, _, _, _⟩ :: _) _ _; refine wpList_load_pl W rfl _ rfl w.heap.size cs rfl HT.out.p H1.out.1 ?_)
    | (show wpList _ _ _ (⟨none, .store 30 (.tmp 6) (.tmp 15), _, _, _, _⟩ :: _) _ _; refine wpList_store_pl w W rfl _ _ rfl rfl (w.heap.size + 1) z32 cs rfl rfl HT.out.r rfl H1.out.1 H1.out.2 HT.out.g (Nat.le_succ _) ?_; intro w2 hb2 hk2 hg2; have H2 := Lib.hid (And.intro hb2 (And.intro hk2 hg2)); clear hb2 hk2 hg2))
    refine bodyPost_ret (results2_pl 6 7 rfl _ _ (w.heap.size + 1) cs rfl H2.out.1 H1.out.1) rfl ?_
    exact ⟨rfl, H2.out.2.2⟩
set_option maxRecDepth 10000 in
set_option maxHeartbeats 1000000 in
theorem rGiveB_none (w : World) (base : Nat) (cs : Array Value) (p : Pls) (h : PlC w base cs p) (k : Nat) (hk : k < 16) (hn : (p k).out.length ≤ 1000000) (x : Int) (hx : ¬ Hasb (p k).out x) : Calls Try.prog 14 #[.agg cs, .int .i64 (k : Int), .int .i64 x] w fun e w' => e = .returned (.tuple #[.agg cs, .int .i64 6]) ∧ Grow w w' := by
  obtain ⟨W, hW⟩ : ∃ W, W = (w.alloc (.cells cs 30)).alloc (.cells z32 30) := ⟨_, rfl⟩
  have HT : Hid (TwoB w W cs z32) := by rw [hW]; exact twoB w cs
  have H1 := Lib.hid (And.intro h.size h.ones)
  obtain ⟨aV, bV, e1, e2, ha, hb⟩ := h.at_ k hk
  have c2 := HT.out.p.cell (k * 2 + 1)
  rw [e2] at c2
  have C0 := rPlcB_any W bV _ (hb.rd.grow HT.out.g) hn x _ (posB_not hx)
  obtain ⟨A, cp, rfl, _⟩ := hb.rd.form
  generalize (p k).out.length = n at *
  have d1 : decide ((k : Int) < 0) = false := decide_eq_false (by omega)
  have d2 : decide (15 < (k : Int)) = false := decide_eq_false (by omega)
  have d3 : (k : Int) < 16 := by omega
  clear h ha hb e1 e2 hx hn
  go_enter Try.func14, Try.ntmps14
  go_upto_region 1 with fail
  rw [← hW]
  have HW := Lib.hid hW
  clear hW
  go_wp2_with fail
  refine C0.mono ?_
  rintro e w' ⟨rfl, hw⟩
  subst w'
  clear C0
  go_wp2_with (first
    | (show wpList _ _ _ (⟨some 24, .load 30 (.tmp 3), _, _, _, _⟩ :: _) _ _; refine wpList_load_pl W rfl _ rfl w.heap.size cs rfl HT.out.p H1.out.1 ?_)
    | (show wpList _ _ _ (⟨none, .store 30 (.tmp 6) (.tmp 24), _, _, _, _⟩ :: _) _ _; refine wpList_store_pl w W rfl _ _ rfl rfl (w.heap.size + 1) z32 cs rfl rfl HT.out.r rfl H1.out.1 H1.out.2 HT.out.g (Nat.le_succ _) ?_; intro w2 hb2 hk2 hg2; have H2 := Lib.hid (And.intro hb2 (And.intro hk2 hg2)); clear hb2 hk2 hg2))
  refine bodyPost_ret (results2_pl 6 7 rfl _ _ (w.heap.size + 1) cs rfl H2.out.1 H1.out.1) rfl ?_
  exact ⟨rfl, H2.out.2.2⟩
set_option maxRecDepth 10000 in
set_option maxHeartbeats 2000000 in
theorem rGiveB_ok (w : World) (base : Nat) (hbase : base ≤ w.heap.size) (cs : Array Value) (p : Pls) (h : PlC w base cs p) (k : Nat) (hk : k < 16) (hn : (p k).fr.length ≤ 1000000 ∧ (p k).out.length ≤ 1000000) (x : Int) (hx : Hasb (p k).out x) : Calls Try.prog 14 #[.agg cs, .int .i64 (k : Int), .int .i64 x] w fun e w' => ∃ v', e = .returned (.tuple #[v', .int .i64 0]) ∧ RPl w' base v' (upd p k ⟨(p k).fr ++ [bp (p k).out (ix (p k).out x)], (p k).out.eraseIdx (ix (p k).out x)⟩) ∧ Grow w w' := by
  obtain ⟨W, hW⟩ : ∃ W, W = (w.alloc (.cells cs 30)).alloc (.cells z32 30) := ⟨_, rfl⟩
  have HT : Hid (TwoB w W cs z32) := by rw [hW]; exact twoB w cs
  obtain ⟨aV, bV, e1, e2, ha, hb⟩ := h.at_ k hk
  have HP := Lib.hid h
  have C0 := rPlcB_any W bV _ (hb.rd.grow HT.out.g) hn.2 x _ (posB_has hx)
  have hil := ix_lt hx
  obtain ⟨i, hi⟩ : ∃ i, i = ix (p k).out x := ⟨_, rfl⟩
  rw [← hi] at C0 hil ⊢
  obtain ⟨t, ht⟩ : ∃ t, t = bp (p k).out i := ⟨_, rfl⟩
  obtain ⟨out, hout⟩ : ∃ out, out = (p k).out := ⟨_, rfl⟩
  obtain ⟨fr, hfr⟩ : ∃ fr, fr = (p k).fr := ⟨_, rfl⟩
  rw [← ht]
  rw [← hout] at hi ht hb hn hil ⊢
  rw [← hfr] at ha hn ⊢
  have HC : Hid (W.cell? ⟨w.heap.size, k * 2, none⟩ = some aV ∧ W.cell? ⟨w.heap.size, k * 2 + 1, none⟩ = some bV) := by
    have q1 := HT.out.p.cell (k * 2)
    have q2 := HT.out.p.cell (k * 2 + 1)
    rw [e1] at q1
    rw [e2] at q2
    exact ⟨q1, q2⟩
  have c2 := HC.out.2
  have HL : Hid (w.heap.size < W.heap.size) := HT.out.p.lt
  have HA := Lib.hid (ha.rd.grow HT.out.g)
  have HB := Lib.hid (hb.rd.grow HT.out.g)
  have HBS : Hid (base ≤ W.heap.size) := Nat.le_trans hbase HT.out.g.size
  obtain ⟨ob, oo, oc, hbv, hobl, hoc⟩ := HB.out.cell (by omega)
  obtain ⟨x0, x1⟩ := hoc i hil
  rw [← ht] at x0 x1
  have HO := Lib.hid (And.intro hobl (And.intro x0 x1))
  have HN := Lib.hid hn.1
  have HN2 := Lib.hid hn.2
  obtain ⟨n, hn1⟩ : ∃ n, n = out.length := ⟨_, rfl⟩
  rw [← hn1] at hbv hil
  subst hbv
  have DI : Hid ((i : Int) < (n : Int)) := Lib.hid (by omega)
  have DI2 := Lib.hid hil
  have d1 : decide ((k : Int) < 0) = false := decide_eq_false (by omega)
  have d2 : decide (15 < (k : Int)) = false := decide_eq_false (by omega)
  have d3 : (k : Int) < 16 := by omega
  have d4 : decide ((i : Int) < 0) = false := decide_eq_false (by omega)
  have d5 : ¬ ((i : Int) < 0) := by omega
  have HX := Lib.hid (And.intro ht (And.intro hfr (And.intro hout (And.intro hn1 (And.intro e1 e2)))))
  clear h ha hb hoc hobl hn hn1 ht hfr hout e1 e2 hi hx x0 x1 hil
  go_enter Try.func14, Try.ntmps14
  go_upto_region 1 with fail
  rw [← hW]
  have HW := Lib.hid hW
  clear hW
  go_wp2_with fail
  refine C0.mono ?_
  rintro e w' ⟨rfl, hw⟩
  subst w'
  clear C0
  go_upto_region 6 with fail
  refine wp_region_phase (A := ?frame6) (inList (isV (.int .i64 (k : Int)) :: isV (.int .i64 (k : Int)) :: isV (.pointer (some ⟨w.heap.size, k * 2, none⟩)) :: isV (.pointer (some ⟨w.heap.size, k * 2, none⟩)) :: isV (aV) :: isV (.int .i64 (k : Int)) :: isV (.pointer (some ⟨w.heap.size, k * 2, none⟩)) :: isV (.pointer (some ⟨w.heap.size, k * 2 + 1, none⟩)) :: isV (.slice (some ⟨ob, oo, none⟩) n oc) :: isV (.int .i64 (i : Int)) :: isV (.pointer (some ⟨ob, oo + i * 2, none⟩)) :: isV (.agg #[.int .i64 t.id, .int .i64 t.sz]) :: (fun v q => Bfs q base v (fr ++ [t])) :: isV (.pointer (some ⟨w.heap.size, k * 2, none⟩)) :: isV (.pointer (some ⟨w.heap.size, k * 2, none⟩)) :: [])) 15 (by kernel_rfl) (by kernel_rfl) (by kernel_rfl) (inList_stays ?_) (fun x => ?frameEq6) ?_ ?_
  case frameEq6 => go_simp; rfl
  · intro f hf
    simp only [List.mem_cons, List.not_mem_nil, or_false] at hf
    rcases hf with rfl | rfl | rfl | rfl | rfl | rfl | rfl | rfl | rfl | rfl | rfl | rfl | rfl | rfl | rfl <;> first | exact isV_stays _ | exact isB_stays _ | exact isBs_stays _ | exact bfs_stays _
  · refine ⟨fun x w1 hg hd post hp => ?_, fun x w1 hg hd post hp => ?_, fun x w1 hg hd post hp => ?_, fun x w1 hg hd post hp => ?_, fun x w1 hg hd post hp => ?_, fun x w1 hg hd post hp => ?_, fun x w1 hg hd post hp => ?_, fun x w1 hg hd post hp => ?_, fun x w1 hg hd post hp => ?_, fun x w1 hg hd post hp => ?_, fun x w1 hg hd post hp => ?_, fun x w1 hg hd post hp => ?_, fun x w1 hg hd post hp => ?_, fun x w1 hg hd post hp => ?_, fun x w1 hg hd post hp => ?_, trivial⟩
    · -- 0: slot 25: Op.move t1
      clear hd
      go_simp
      exact hp _ _ (Grow.refl _) rfl
    · -- 1: slot 26: Op.move t1
      clear hd
      go_simp
      exact hp _ _ (Grow.refl _) rfl
    · -- 2: slot 27: Op.indexAddr 30 t3 t26
      have h26 : x 26 = .int .i64 (k : Int) := hd 1 (by decide) _ rfl
      clear hd
      go_simp
      exact hp _ _ (Grow.refl _) rfl
    · -- 3: slot 28: Op.fieldAddr 28 t27 0
      have h27 : x 27 = .pointer (some ⟨w.heap.size, k * 2, none⟩) := hd 2 (by decide) _ rfl
      clear hd
      go_simp
      exact hp _ _ (Grow.refl _) rfl
    · -- 4: slot 29: Op.load 26 t28
      have h28 : x 28 = .pointer (some ⟨w.heap.size, k * 2, none⟩) := hd 3 (by decide) _ rfl
      clear hd
      have y := (Grow.cell hg (p := ⟨w.heap.size, k * 2, none⟩) HL.out).trans (HC.out.1)
      go_simp
      exact hp _ _ (Grow.refl _) rfl
    · -- 5: slot 30: Op.move t1
      clear hd
      go_simp
      exact hp _ _ (Grow.refl _) rfl
    · -- 6: slot 31: Op.indexAddr 30 t3 t30
      have h30 : x 30 = .int .i64 (k : Int) := hd 5 (by decide) _ rfl
      clear hd
      go_simp
      exact hp _ _ (Grow.refl _) rfl
    · -- 7: slot 32: Op.fieldAddr 28 t31 1
      have h31 : x 31 = .pointer (some ⟨w.heap.size, k * 2, none⟩) := hd 6 (by decide) _ rfl
      clear hd
      go_simp
      exact hp _ _ (Grow.refl _) rfl
    · -- 8: slot 33: Op.load 26 t32
      have h32 : x 32 = .pointer (some ⟨w.heap.size, k * 2 + 1, none⟩) := hd 7 (by decide) _ rfl
      clear hd
      have y := (Grow.cell hg (p := ⟨w.heap.size, k * 2 + 1, none⟩) HL.out).trans (HC.out.2)
      go_simp
      exact hp _ _ (Grow.refl _) rfl
    · -- 9: slot 34: Op.move t8
      clear hd
      go_simp
      exact hp _ _ (Grow.refl _) rfl
    · -- 10: slot 35: Op.indexAddr 26 t33 t34
      have h33 : x 33 = .slice (some ⟨ob, oo, none⟩) n oc := hd 8 (by decide) _ rfl
      have h34 : x 34 = .int .i64 (i : Int) := hd 9 (by decide) _ rfl
      clear hd
      have di := DI.out
      go_simp
      exact hp _ _ (Grow.refl _) rfl
    · -- 11: slot 36: Op.load 54 t35
      have h35 : x 35 = .pointer (some ⟨ob, oo + i * 2, none⟩) := hd 10 (by decide) _ rfl
      clear hd
      have y0 := (Grow.cell hg (p := ⟨ob, oo + i * 2, none⟩) HO.out.1).trans (HO.out.2.1)
      have y1 := (Grow.cell hg (p := ⟨ob, oo + i * 2 + 1, none⟩) HO.out.1).trans (HO.out.2.2)
      go_simp
      exact hp _ _ (Grow.refl _) rfl
    · -- 12: slot 37: Op.call { value (Operand.func 24), args := #[t29, t36], argTypes := #[26, 54] }
      have h29 : x 29 = aV := hd 4 (by decide) _ rfl
      have h36 : x 36 = .agg #[.int .i64 t.id, .int .i64 t.sz] := hd 11 (by decide) _ rfl
      clear hd
      go_simp
      refine (rMoreB w1 _ _ (HA.out.grow hg) HN.out t).mono ?_
      rintro e w2 ⟨u, rfl, ho, hg2⟩
      exact ⟨_, rfl, hp _ _ hg2 (ho.base_ (Nat.le_trans HBS.out hg.size))⟩
    · -- 13: slot 38: Op.indexAddr 30 t3 t25
      have h25 : x 25 = .int .i64 (k : Int) := hd 0 (by decide) _ rfl
      clear hd
      go_simp
      exact hp _ _ (Grow.refl _) rfl
    · -- 14: slot 39: Op.fieldAddr 28 t38 0
      have h38 : x 38 = .pointer (some ⟨w.heap.size, k * 2, none⟩) := hd 13 (by decide) _ rfl
      clear hd
      go_simp
      exact hp _ _ (Grow.refl _) rfl
  · intro x w1 hg hd
    have h37 : (fun v q => Bfs q base v (fr ++ [t])) (x 37) w1 := hd 12 _ (by decide) rfl
    have h39 : x 39 = .pointer (some ⟨w.heap.size, k * 2, none⟩) := hd 14 _ (by decide) rfl
    clear hd
    obtain ⟨A2, k2, hf2, _⟩ := Bfs.rd h37 |>.form
    obtain ⟨m2, hm2⟩ : ∃ m, m = (fr ++ [t]).length := ⟨_, rfl⟩
    rw [← hm2] at hf2
    rw [hf2] at h37
    have HT2 : Hid (TwoB w w1 cs z32) := HT.out.grow hg
    have c1 := HT2.out.p.cell (k * 2)
    rw [HX.out.2.2.2.2.1] at c1
    have f2 := HT2.out.p.fz (k * 2)
    have HB2 := Lib.hid (And.intro h37 hg)
    rw [hf2, h39]
    clear h37 h39 hm2 hf2 hg c2
    go_upto_region 7 with fail
    obtain ⟨W3, hW3⟩ : ∃ W3, W3 = w1.setCell ⟨w.heap.size, k * 2, none⟩ (.slice A2 m2 k2) := ⟨_, rfl⟩
    rw [← hW3]
    obtain ⟨cs1, hcs1⟩ : ∃ c, c = cs.setIfInBounds (k * 2) (.slice A2 m2 k2) := ⟨_, rfl⟩
    have HT3 : Hid (TwoB w W3 cs1 z32) := by rw [hW3, hcs1]; exact HT2.out.set _ _
    have HSt3 : Hid (∀ u l, Bfs w base u l → Bfs W3 base u l) := fun u l hu => by rw [hW3]; exact (hu.grow (HT.out.g.trans HB2.out.2)).set_ HT2.out.p
    have hP3 : PlC W3 base cs1 (upd p k ⟨fr ++ [t], (p k).out⟩) := by
      rw [hcs1]
      exact HP.out.set0 HSt3.out hk (by rw [hW3]; exact HB2.out.1.set_ HT2.out.p)
    have e2' : cs1[k * 2 + 1]? = some (.slice (some ⟨ob, oo, none⟩) n oc) := by
      rw [hcs1, Array.getElem?_setIfInBounds, if_neg (by omega)]
      exact HX.out.2.2.2.2.2
    have c3 := HT3.out.p.cell (k * 2 + 1)
    rw [e2'] at c3
    have C3 : Calls Try.prog 26 #[.slice (some ⟨ob, oo, none⟩) n oc, .int .i64 (i : Int)] W3 fun e w' => ∃ v', e = .returned v' ∧ Bfs w' W3.heap.size v' (out.eraseIdx i) ∧ Grow W3 w' := by
      refine rWithoutB W3 _ out ?_ HN2.out i (by rw [← HX.out.2.2.2.1]; exact DI2.out)
      obtain ⟨a9, b9, q1, q2, q3, q4⟩ := HP.out.at_ k hk
      rw [HX.out.2.2.2.2.2] at q2
      cases q2
      rw [← HX.out.2.2.1] at q4
      exact (HSt3.out _ _ q4).rd
    have HP3 := Lib.hid (And.intro hP3 e2')
    clear hW3 hcs1 hP3 e2' c1 f2
    go_wp2_with fail
    refine C3.mono ?_
    rintro e W4 ⟨b', rfl, hb4, g4⟩
    have HT4 : Hid (TwoB w W4 cs1 z32) := HT3.out.grow g4
    have c4 := HT4.out.p.cell (k * 2 + 1)
    rw [HP3.out.2] at c4
    have f4 := HT4.out.p.fz (k * 2 + 1)
    obtain ⟨A4, k4, hfb, _⟩ := hb4.rd.form
    obtain ⟨m4, hm4⟩ : ∃ m, m = (out.eraseIdx i).length := ⟨_, rfl⟩
    rw [← hm4] at hfb
    subst hfb
    have HB4 := Lib.hid (And.intro hb4 g4)
    clear C3 hb4 g4 hm4 c3
    go_upto_region 8 with fail
    obtain ⟨W5, hW5⟩ : ∃ W5, W5 = W4.setCell ⟨w.heap.size, k * 2 + 1, none⟩ (.slice A4 m4 k4) := ⟨_, rfl⟩
    rw [← hW5]
    obtain ⟨cs2, hcs2⟩ : ∃ c, c = cs1.setIfInBounds (k * 2 + 1) (.slice A4 m4 k4) := ⟨_, rfl⟩
    have HT5 : Hid (TwoB w W5 cs2 z32) := by rw [hW5, hcs2]; exact HT4.out.set _ _
    have hP5 : PlC W5 base cs2 (upd p k ⟨fr ++ [t], out.eraseIdx i⟩) := by
      have := HP3.out.1.set1 (w' := W5) (fun u l hu => by rw [hW5]; exact (hu.grow HB4.out.2).set_ HT4.out.p) hk (v := .slice A4 m4 k4) (l := out.eraseIdx i) (by rw [hW5]; exact (HB4.out.1.base_ (Nat.le_trans hbase HT3.out.g.size)).set_ HT4.out.p)
      rw [upd_upd, upd_same, ← hcs2] at this
      exact this
    have HP5 := Lib.hid hP5
    have H1 := Lib.hid (And.intro hP5.size hP5.ones)
    clear hW5 hcs2 hP5 c4 f4
    go_wp2_with (first
    | (show wpList _ _ _ (⟨some 49, .load 30 (.tmp 3), _, _, _, _⟩ :: _) _ _; refine wpList_load_pl W5 rfl _ rfl w.heap.size cs2 rfl HT5.out.p H1.out.1 ?_)
    | (show wpList _ _ _ (⟨none, .store 30 (.tmp 6) (.tmp 49), _, _, _, _⟩ :: _) _ _; refine wpList_store_pl w W5 rfl _ _ rfl rfl (w.heap.size + 1) z32 cs2 rfl rfl HT5.out.r rfl H1.out.1 H1.out.2 HT5.out.g (Nat.le_succ _) ?_; intro w2 hb2 hk2 hg2; have H2 := Lib.hid (And.intro hb2 (And.intro hk2 hg2)); clear hb2 hk2 hg2))
    refine bodyPost_ret (results2_pl 6 7 rfl _ _ (w.heap.size + 1) cs2 rfl H2.out.1 H1.out.1) rfl ?_
    exact ⟨_, rfl, ⟨cs2, rfl, HP5.out.st fun u l hu => hu.but_ HT5.out.r H2.out.2.1⟩, H2.out.2.2⟩
theorem rGiveB (w : World) (base : Nat) (hbase : base ≤ w.heap.size) (v : Value) (p : Pls) (h : RPl w base v p) (hp : POk p) (g x : Int) : Calls Try.prog 14 #[v, .int .i64 g, .int .i64 x] w fun e w' => ∃ v', e = .returned (.tuple #[v', .int .i64 (gvE p g x)]) ∧ RPl w' base v' (gvP p g x) ∧ Grow w w' := by
  obtain ⟨cs, rfl, hc⟩ := h
  by_cases hg : Bad g
  · obtain ⟨e1, e2⟩ := gvE_bad (p := p) (x := x) hg
    refine (rGiveB_bad w cs hc.size hc.ones g x hg).mono ?_
    rintro e w' ⟨rfl, g1⟩
    exact ⟨_, by rw [e1], by rw [e2]; exact ⟨cs, rfl, hc.grow g1⟩, g1⟩
  · obtain ⟨k, rfl, hk, hk2⟩ := bad_nat hg
    have hl := (hp k hk).len
    by_cases h0 : Hasb (p k).out x
    · obtain ⟨e1, e2⟩ := gvE_ok (p := p) (x := x) hg (by rw [hk2]; exact h0)
      rw [hk2] at e2
      refine (rGiveB_ok w base hbase cs p hc k hk (by omega) x h0).mono ?_
      rintro e w' ⟨v', rfl, h1, g1⟩
      exact ⟨v', by rw [e1], by rw [e2]; exact h1, g1⟩
    · obtain ⟨e1, e2⟩ := gvE_none (p := p) (x := x) hg (by rw [hk2]; exact h0)
      refine (rGiveB_none w base cs p hc k hk (by omega) x h0).mono ?_
      rintro e w' ⟨rfl, g1⟩
      exact ⟨_, by rw [e1], by rw [e2]; exact ⟨cs, rfl, hc.grow g1⟩, g1⟩
end Go.Proofs.Ytkambcjinidomaa
