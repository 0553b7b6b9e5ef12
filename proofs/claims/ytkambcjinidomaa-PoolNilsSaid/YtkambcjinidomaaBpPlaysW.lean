/- PoolPlays: its walk. -/
import Derived.Test.YtkambcjinidomaaBpPlA
import Derived.Deep.CutBlock
namespace Go.Proofs.Ytkambcjinidomaa
set_option linter.unusedVariables false
set_option linter.unusedSimpArgs false
attribute [local irreducible] wpQuiet
open Go.ChangeShapes Go.WideShapes Go.ChangeAt Go.RowKit

set_option maxRecDepth 100000 in
set_option maxHeartbeats 8000000 in
theorem poolPlays_if {Pp : BpT} (I : BIf Pp) (w : World) {v : Value} {l : List Ba} (hl : Bas w v l) : Calls Try.prog 3 #[v] w fun e w' => e = .returned (.bool true) ∧ Below w.heap.size w w' := by
  have HC := Lib.hid (fun x w => bcode_any x w)
  have HLv := Lib.hid (fun w => blive_any I w)
  have HV := Lib.hid hl
  obtain ⟨A0, cp0, e0, hlc, hcm, _, _⟩ := hl
  obtain ⟨N, hN⟩ : ∃ N, N = l.length := ⟨_, rfl⟩
  rw [← hN] at e0
  subst e0
  have HN := Lib.hid hN
  clear hN hlc hcm
  by_cases q : 60 < N
  · have q1 : (60 : Int) < (N : Int) := by omega
    go_enter Try.func3, Try.ntmps3
    go_wp2_with fail
    refine (HLv.out _).mono ?_
    rintro e w' ⟨rfl, g⟩
    have G := Lib.hid g
    clear g
    go_wp2_with fail
    go_ret
    exact ⟨rfl, G.out⟩
  have q1 : ¬ ((60 : Int) < (N : Int)) := by omega
  have HQ : Hid (N ≤ 60) := Lib.hid (by omega)
  clear q
  have c0 := I.new w
  go_enter Try.func3, Try.ntmps3
  go_wp2_with fail
  refine c0.mono ?_
  rintro e w1 ⟨pb, rfl, h1, g1⟩
  have H1 := Lib.hid (And.intro h1 g1)
  clear c0 h1 g1 q1
  go_upto_region 5 with fail
  obtain ⟨wr0, hwr⟩ : ∃ wr0, wr0 = w1.alloc (.cells z32 30) := ⟨_, rfl⟩
  rw [← hwr]
  obtain ⟨rb, hrb⟩ : ∃ rb, rb = w1.heap.size := ⟨_, rfl⟩
  rw [← hrb]
  have H0 : Hid (PlR Pp w wr0 pb rb noneP z32) := by
    rw [hwr, hrb]
    exact ⟨I.grow H1.out.1 (Grow.alloc _ _), heap_alloc_new w1 _, PlC.zero _ _, H1.out.2.size, H1.out.2.trans (Grow.alloc _ _)⟩
  clear hwr hrb
  go_wp2_with fail
  go_loopg [5] N (fun gk s5 wr => ∃ (k : Nat) (p : Pls) (cs : Array Value), gk = N - k ∧ s5 = .int .i64 (k : Int) ∧ Hid (k ≤ N ∧ PlR Pp w wr pb rb p cs))
  case atStart => exact ⟨0, noneP, z32, rfl, rfl, Nat.zero_le _, H0.out⟩
  case round =>
    obtain ⟨k, p, cs, rfl, rfl, HR⟩ := hrel
    rename World => wa
    clear H0 H1
    rcases Nat.lt_or_ge k N with hlt | hge
    · obtain ⟨A9, c9, e9, _, _, hok, hcell⟩ := HV.out
      obtain ⟨b, off, hA, hb, hc⟩ := hcell (by have := HN.out; omega)
      obtain ⟨x, hx⟩ : ∃ x, l[k]? = some x := ⟨_, List.getElem?_eq_getElem (by have := HN.out; omega)⟩
      obtain ⟨x0, x1, x2, x3, x4⟩ := hc k x hx
      have hz := hok x (List.mem_iff_getElem?.2 ⟨k, hx⟩)
      have hA0 : A0 = some ⟨b, off, none⟩ := by rw [hA] at e9; injection e9
      obtain ⟨d, g, a, m, s⟩ := x
      have gg := HR.out.2.g
      have y0 := (gg.cell (p := ⟨b, off + k * 5, none⟩) hb).trans x0
      have y1 := (gg.cell (p := ⟨b, off + k * 5 + 1, none⟩) hb).trans x1
      have y2 := (gg.cell (p := ⟨b, off + k * 5 + 2, none⟩) hb).trans x2
      have y3 := (gg.cell (p := ⟨b, off + k * 5 + 3, none⟩) hb).trans x3
      have y4 := (gg.cell (p := ⟨b, off + k * 5 + 4, none⟩) hb).trans x4
      simp only at y0 y1 y2 y3 y4 hz
      have i0 : (k : Int) < (N : Int) := by omega
      have kb : k < 60 := by have := HQ.out; omega
      have HZ := Lib.hid (And.intro hz (And.intro hlt hb))
      subst hA0
      clear e9 hA hok hcell hc x0 x1 x2 x3 x4 hz hx gg hlt hb
      go_upto_region 9 with fail
      obtain ⟨W1, hW1⟩ : ∃ W1, W1 = wa.alloc (.cells #[.int .i64 d, .int .i64 g, .int .i64 a, .int .i64 m, .int .i64 s] 32) := ⟨_, rfl⟩
      rw [← hW1]
      obtain ⟨ab, hab⟩ : ∃ ab, ab = wa.heap.size := ⟨_, rfl⟩
      rw [← hab]
      have HB : Hid (PlB Pp w W1 pb rb ab p p cs d g a m s) := PlR.begin I HR.out.2 (by rw [hW1]; exact Grow.alloc _ _) (by rw [hW1, hab]; exact heap_alloc_new wa _)
      have HO := Lib.hid (I.ok HB.out.q)
      have HSz : Hid (w.heap.size ≤ W1.heap.size) := HB.out.g.size
      have z0 := HB.out.act.c0
      clear hW1 hab y0 y1 y2 y3 y4
      go_upto_block 2 with fail
      clear z0
      go_cut [7, 8, 9, 10, 11, 12, 13, 14, 15, 16, 17] from 37 to 127 (fun s7 s8 s9 s10 s11 s12 _ _ _ _ _ wx => ∃ (p' : Pls) (cs' : Array Value) (E X S : Int), s7 = .int .i64 E ∧ s8 = .int .i64 E ∧ s9 = .int .i64 X ∧ s10 = .int .i64 X ∧ s11 = .int .i64 S ∧ s12 = .int .i64 S ∧ Hid (PlB Pp w wx pb rb ab p' p' cs' d g a m s))
      case first =>
        obtain ⟨o1, o2, o3, o4, o5⟩ := HZ.out.1
        by_cases d0 : d = 0
        · subst d0
          have z1 := HB.out.act.c1
          have z2 := HB.out.act.c2
          have z3 := HB.out.act.c3
          have z4 := HB.out.act.c4
          have c1 := I.prov HB.out.q HSz.out g a m s o2 o3 o4 o5
          generalize hGee : pvE p g a m s = ee at c1
          have HGee := Lib.hid hGee
          clear hGee
          clear o1 o2 o3 o4 o5
          go_wp2_with fail
          refine c1.mono ?_
          rintro e w2 ⟨rfl, h2, q2⟩
          have H2 := Lib.hid (PlB.prog HB.out h2 q2)
          have y1 := H2.out.act.c1
          have y2 := H2.out.act.c2
          have y3 := H2.out.act.c3
          have y4 := H2.out.act.c4
          clear c1 h2 q2 z1 z2 z3 z4
          go_wp2_with fail
          refine (HC.out _ _).mono ?_
          rintro e w' ⟨rfl, hw⟩
          subst w'
          have c2 := rProvB w2 w.heap.size H2.out.g.size (.agg cs) p ⟨cs, rfl, H2.out.c⟩ HO.out g a m s
          rw [HGee.out] at c2
          go_wp2_with (show wpList _ _ _ (⟨some 51, .load 30 (.tmp 4), _, _, _, _⟩ :: _) _ _; refine wpList_load_pl w2 rfl _ rfl rb cs rfl H2.out.blk H2.out.c.size ?_)
          refine c2.mono ?_
          rintro e w3 ⟨v3, rfl, ⟨cs3, rfl, h3⟩, g3⟩
          have H3 := Lib.hid (And.intro h3 g3)
          clear c2 h3 g3 y1 y2 y3 y4
          go_wp2_with (first | (show wpList _ _ _ (⟨none, .store 30 (.tmp 4) (.tmp 61), _, _, _, _⟩ :: _) _ _; refine wpList_store_pl w w3 rfl _ _ rfl rfl rb cs cs3 rfl rfl (H2.out.blk.grow H3.out.2) H2.out.c.size H3.out.1.size H3.out.1.ones (Grow.trans H2.out.g H3.out.2) H2.out.low ?_; intro w4 hb4 hk4 hg4; have H4 := Lib.hid (PlB.ref I H2.out H3.out.2 H3.out.1 hb4 hk4 hg4); clear hb4 hk4 hg4))
          go_meet
          exact ⟨_, cs3, ee, 0, 0, rfl, rfl, rfl, rfl, rfl, rfl, H4.out⟩
        have e0 : (d == 0) = false := beq_eq_false_iff_ne.2 d0
        by_cases d1 : d = 1
        · subst d1
          have z1 := HB.out.act.c1
          have c1 := I.take HB.out.q HSz.out g o2
          generalize hGee : tkE p g = ee at c1
          have HGee := Lib.hid hGee
          clear hGee
          generalize hGii : tkI p g = ii at c1
          have HGii := Lib.hid hGii
          clear hGii
          generalize hGss : tkS p g = ss at c1
          have HGss := Lib.hid hGss
          clear hGss
          clear o1 o2 o3 o4 o5
          go_wp2_with fail
          refine c1.mono ?_
          rintro e w2 ⟨rfl, h2, q2⟩
          have H2 := Lib.hid (PlB.prog HB.out h2 q2)
          have y1 := H2.out.act.c1
          clear c1 h2 q2 z1
          go_wp2_with fail
          refine (HC.out _ _).mono ?_
          rintro e w' ⟨rfl, hw⟩
          subst w'
          have c2 := rTakeB w2 w.heap.size H2.out.g.size (.agg cs) p ⟨cs, rfl, H2.out.c⟩ HO.out g
          rw [HGee.out] at c2
          rw [HGii.out] at c2
          rw [HGss.out] at c2
          go_wp2_with (show wpList _ _ _ (⟨some 78, .load 30 (.tmp 4), _, _, _, _⟩ :: _) _ _; refine wpList_load_pl w2 rfl _ rfl rb cs rfl H2.out.blk H2.out.c.size ?_)
          refine c2.mono ?_
          rintro e w3 ⟨v3, rfl, ⟨cs3, rfl, h3⟩, g3⟩
          have H3 := Lib.hid (And.intro h3 g3)
          clear c2 h3 g3 y1
          go_wp2_with (first | (show wpList _ _ _ (⟨none, .store 30 (.tmp 4) (.tmp 82), _, _, _, _⟩ :: _) _ _; refine wpList_store_pl w w3 rfl _ _ rfl rfl rb cs cs3 rfl rfl (H2.out.blk.grow H3.out.2) H2.out.c.size H3.out.1.size H3.out.1.ones (Grow.trans H2.out.g H3.out.2) H2.out.low ?_; intro w4 hb4 hk4 hg4; have H4 := Lib.hid (PlB.ref I H2.out H3.out.2 H3.out.1 hb4 hk4 hg4); clear hb4 hk4 hg4))
          go_meet
          exact ⟨_, cs3, ee, ii, ss, rfl, rfl, rfl, rfl, rfl, rfl, H4.out⟩
        have e1 : (d == 1) = false := beq_eq_false_iff_ne.2 d1
        by_cases d2 : d = 2
        · subst d2
          have z1 := HB.out.act.c1
          have z2 := HB.out.act.c2
          have c1 := I.give HB.out.q HSz.out g a o2 o3
          generalize hGee : gvE p g a = ee at c1
          have HGee := Lib.hid hGee
          clear hGee
          clear o1 o2 o3 o4 o5
          go_wp2_with fail
          refine c1.mono ?_
          rintro e w2 ⟨rfl, h2, q2⟩
          have H2 := Lib.hid (PlB.prog HB.out h2 q2)
          have y1 := H2.out.act.c1
          have y2 := H2.out.act.c2
          clear c1 h2 q2 z1 z2
          go_wp2_with fail
          refine (HC.out _ _).mono ?_
          rintro e w' ⟨rfl, hw⟩
          subst w'
          have c2 := rGiveB w2 w.heap.size H2.out.g.size (.agg cs) p ⟨cs, rfl, H2.out.c⟩ HO.out g a
          rw [HGee.out] at c2
          go_wp2_with (show wpList _ _ _ (⟨some 96, .load 30 (.tmp 4), _, _, _, _⟩ :: _) _ _; refine wpList_load_pl w2 rfl _ rfl rb cs rfl H2.out.blk H2.out.c.size ?_)
          refine c2.mono ?_
          rintro e w3 ⟨v3, rfl, ⟨cs3, rfl, h3⟩, g3⟩
          have H3 := Lib.hid (And.intro h3 g3)
          clear c2 h3 g3 y1 y2
          go_wp2_with (first | (show wpList _ _ _ (⟨none, .store 30 (.tmp 4) (.tmp 102), _, _, _, _⟩ :: _) _ _; refine wpList_store_pl w w3 rfl _ _ rfl rfl rb cs cs3 rfl rfl (H2.out.blk.grow H3.out.2) H2.out.c.size H3.out.1.size H3.out.1.ones (Grow.trans H2.out.g H3.out.2) H2.out.low ?_; intro w4 hb4 hk4 hg4; have H4 := Lib.hid (PlB.ref I H2.out H3.out.2 H3.out.1 hb4 hk4 hg4); clear hb4 hk4 hg4))
          go_meet
          exact ⟨_, cs3, ee, 0, 0, rfl, rfl, rfl, rfl, rfl, rfl, H4.out⟩
        have e2 : (d == 2) = false := beq_eq_false_iff_ne.2 d2
        by_cases d3 : d = 3
        · subst d3
          have z1 := HB.out.act.c1
          have z3 := HB.out.act.c3
          have c1 := I.rem HB.out.q HSz.out g m o2 o4
          generalize hGee : rmE g m = ee at c1
          have HGee := Lib.hid hGee
          clear hGee
          generalize hGii : rmI p g m = ii at c1
          have HGii := Lib.hid hGii
          clear hGii
          clear o1 o2 o3 o4 o5
          go_wp2_with fail
          refine c1.mono ?_
          rintro e w2 ⟨rfl, h2, q2⟩
          have H2 := Lib.hid (PlB.prog HB.out h2 q2)
          have y1 := H2.out.act.c1
          have y3 := H2.out.act.c3
          clear c1 h2 q2 z1 z3
          go_wp2_with fail
          refine (HC.out _ _).mono ?_
          rintro e w' ⟨rfl, hw⟩
          subst w'
          have c2 := rRemB w2 w.heap.size H2.out.g.size (.agg cs) p ⟨cs, rfl, H2.out.c⟩ HO.out g m
          rw [HGee.out] at c2
          rw [HGii.out] at c2
          go_wp2_with (show wpList _ _ _ (⟨some 119, .load 30 (.tmp 4), _, _, _, _⟩ :: _) _ _; refine wpList_load_pl w2 rfl _ rfl rb cs rfl H2.out.blk H2.out.c.size ?_)
          refine c2.mono ?_
          rintro e w3 ⟨v3, rfl, ⟨cs3, rfl, h3⟩, g3⟩
          have H3 := Lib.hid (And.intro h3 g3)
          clear c2 h3 g3 y1 y3
          go_wp2_with (first | (show wpList _ _ _ (⟨none, .store 30 (.tmp 4) (.tmp 125), _, _, _, _⟩ :: _) _ _; refine wpList_store_pl w w3 rfl _ _ rfl rfl rb cs cs3 rfl rfl (H2.out.blk.grow H3.out.2) H2.out.c.size H3.out.1.size H3.out.1.ones (Grow.trans H2.out.g H3.out.2) H2.out.low ?_; intro w4 hb4 hk4 hg4; have H4 := Lib.hid (PlB.ref I H2.out H3.out.2 H3.out.1 hb4 hk4 hg4); clear hb4 hk4 hg4))
          go_meet
          exact ⟨_, cs3, ee, ii, 0, rfl, rfl, rfl, rfl, rfl, rfl, H4.out⟩
        have e3 : (d == 3) = false := beq_eq_false_iff_ne.2 d3
        clear o1 o2 o3 o4 o5
        go_wp2_with fail
        go_meet
        exact ⟨p, cs, 0, 0, 0, rfl, rfl, rfl, rfl, rfl, rfl, HB.out⟩
      case rest =>
        obtain ⟨p', cs', E, X, S, rfl, rfl, rfl, rfl, rfl, rfl, HX⟩ := hcut
        have HOk := Lib.hid (I.ok HX.out.q)
        obtain ⟨o1, o2, o3, o4, o5⟩ := HZ.out.1
        have HO2 := Lib.hid o2
        obtain ⟨st, hst⟩ : ∃ st, st = stS p' g a := ⟨_, rfl⟩
        have hAc := Lib.hid HX.out.act
        have hBl : Hid (PlBlk wc rb cs' ∧ cs'.size = 32) := ⟨HX.out.blk, HX.out.c.size⟩
        have hSt : Hid (∀ w1, Grow wc w1 → Calls Try.prog 17 #[.pointer (some ⟨pb, 0, none⟩), .int .i64 g, .int .i64 a] w1 fun e w2 => e = .returned (.int .i64 st) ∧ Grow w1 w2) := fun w1 hg => by rw [hst]; exact I.state (I.grow HX.out.q hg) g a o2 o3
        have hRs : Hid (∀ w1, Grow wc w1 → Calls Try.prog 18 #[.agg cs', .int .i64 g, .int .i64 a] w1 fun e w2 => e = .returned (.int .i64 st) ∧ Grow w1 w2) := fun w1 hg => by rw [hst]; exact rStateB w1 w.heap.size (.agg cs') p' ⟨cs', rfl, HX.out.c.grow hg⟩ HOk.out g a
        clear hst o1 o2 o3 o4 o5
        go_upto_region 25 with fail
        refine wp_region_loose (A := ?frame25) (inList (isV (.int .i64 E) :: isV (.int .i64 E) :: isV (.bool false) :: isV (.bool false) :: isV (.int .i64 X) :: isV (.int .i64 X) :: isV (.bool false) :: isV (.bool false) :: isV (.bool false) :: isV (.int .i64 S) :: isV (.int .i64 S) :: isV (.bool false) :: isV (.bool false) :: isV (.bool false) :: isV (.pointer (some ⟨pb, 0, none⟩)) :: isV (.pointer (some ⟨ab, 1, none⟩)) :: isV (.int .i64 g) :: isV (.pointer (some ⟨ab, 2, none⟩)) :: isV (.int .i64 a) :: isV (.int .i64 st) :: isV (.agg cs') :: isV (.pointer (some ⟨ab, 1, none⟩)) :: isV (.int .i64 g) :: isV (.pointer (some ⟨ab, 2, none⟩)) :: isV (.int .i64 a) :: isV (.int .i64 st) :: isV (.bool false) :: isV (.bool false) :: [])) (by kernel_rfl) (by kernel_rfl) (inList_stays ?_) (fun x => ?frameEq25) ?_ ?_
        case frameEq25 => go_simp; rfl
        · intro f hf
          simp only [List.mem_cons, List.not_mem_nil, or_false] at hf
          rcases hf with rfl | rfl | rfl | rfl | rfl | rfl | rfl | rfl | rfl | rfl | rfl | rfl | rfl | rfl | rfl | rfl | rfl | rfl | rfl | rfl | rfl | rfl | rfl | rfl | rfl | rfl | rfl | rfl <;> first | exact isV_stays _ | exact isB_stays _ | exact isBs_stays _
        · refine ⟨fun x w1 hg hd post hp => ?_, fun x w1 hg hd post hp => ?_, fun x w1 hg hd post hp => ?_, fun x w1 hg hd post hp => ?_, fun x w1 hg hd post hp => ?_, fun x w1 hg hd post hp => ?_, fun x w1 hg hd post hp => ?_, fun x w1 hg hd post hp => ?_, fun x w1 hg hd post hp => ?_, fun x w1 hg hd post hp => ?_, fun x w1 hg hd post hp => ?_, fun x w1 hg hd post hp => ?_, fun x w1 hg hd post hp => ?_, fun x w1 hg hd post hp => ?_, fun x w1 hg hd post hp => ?_, fun x w1 hg hd post hp => ?_, fun x w1 hg hd post hp => ?_, fun x w1 hg hd post hp => ?_, fun x w1 hg hd post hp => ?_, fun x w1 hg hd post hp => ?_, fun x w1 hg hd post hp => ?_, fun x w1 hg hd post hp => ?_, fun x w1 hg hd post hp => ?_, fun x w1 hg hd post hp => ?_, fun x w1 hg hd post hp => ?_, fun x w1 hg hd post hp => ?_, fun x w1 hg hd post hp => ?_, fun x w1 hg hd post hp => ?_, trivial⟩
          · -- 0: slot 128: Op.move t7
            clear hd
            go_simp
            exact hp _ _ (Grow.refl _) rfl
          · -- 1: slot 129: Op.move t8
            clear hd
            go_simp
            exact hp _ _ (Grow.refl _) rfl
          · -- 2: slot 130: Op.binOp BinOp.neq 3 t128 t129 3
            have h128 : x 128 = .int .i64 E := hd 0 (by decide) _ rfl
            have h129 : x 129 = .int .i64 E := hd 1 (by decide) _ rfl
            clear hd
            go_simp
            exact hp _ _ (Grow.refl _) rfl
          · -- 3: slot 131: Op.move t130
            have h130 : x 130 = .bool false := hd 2 (by decide) _ rfl
            clear hd
            go_simp
            exact hp _ _ (Grow.refl _) rfl
          · -- 4: slot 132: Op.move t9
            have h131 : x 131 = .bool false := hd 3 (by decide) _ rfl
            clear hd
            go_simp
            exact hp _ _ (Grow.refl _) rfl
          · -- 5: slot 133: Op.move t10
            have h131 : x 131 = .bool false := hd 3 (by decide) _ rfl
            clear hd
            go_simp
            exact hp _ _ (Grow.refl _) rfl
          · -- 6: slot 134: Op.binOp BinOp.neq 3 t132 t133 3
            have h132 : x 132 = .int .i64 X := hd 4 (by decide) _ rfl
            have h133 : x 133 = .int .i64 X := hd 5 (by decide) _ rfl
            have h131 : x 131 = .bool false := hd 3 (by decide) _ rfl
            clear hd
            go_simp
            exact hp _ _ (Grow.refl _) rfl
          · -- 7: slot 135: Op.pick t131 (const (Value.bool true)) t134
            have h131 : x 131 = .bool false := hd 3 (by decide) _ rfl
            have h134 : x 134 = .bool false := hd 6 (by decide) _ rfl
            clear hd
            go_simp
            exact hp _ _ (Grow.refl _) rfl
          · -- 8: slot 136: Op.move t135
            have h135 : x 135 = .bool false := hd 7 (by decide) _ rfl
            clear hd
            go_simp
            exact hp _ _ (Grow.refl _) rfl
          · -- 9: slot 137: Op.move t11
            have h136 : x 136 = .bool false := hd 8 (by decide) _ rfl
            clear hd
            go_simp
            exact hp _ _ (Grow.refl _) rfl
          · -- 10: slot 138: Op.move t12
            have h136 : x 136 = .bool false := hd 8 (by decide) _ rfl
            clear hd
            go_simp
            exact hp _ _ (Grow.refl _) rfl
          · -- 11: slot 139: Op.binOp BinOp.neq 3 t137 t138 3
            have h137 : x 137 = .int .i64 S := hd 9 (by decide) _ rfl
            have h138 : x 138 = .int .i64 S := hd 10 (by decide) _ rfl
            have h136 : x 136 = .bool false := hd 8 (by decide) _ rfl
            clear hd
            go_simp
            exact hp _ _ (Grow.refl _) rfl
          · -- 12: slot 140: Op.pick t136 (const (Value.bool true)) t139
            have h136 : x 136 = .bool false := hd 8 (by decide) _ rfl
            have h139 : x 139 = .bool false := hd 11 (by decide) _ rfl
            clear hd
            go_simp
            exact hp _ _ (Grow.refl _) rfl
          · -- 13: slot 141: Op.move t140
            have h140 : x 140 = .bool false := hd 12 (by decide) _ rfl
            clear hd
            go_simp
            exact hp _ _ (Grow.refl _) rfl
          · -- 14: slot 142: Op.move t3
            have h141 : x 141 = .bool false := hd 13 (by decide) _ rfl
            clear hd
            go_simp
            exact hp _ _ (Grow.refl _) rfl
          · -- 15: slot 143: Op.fieldAddr 32 t6 1
            have h141 : x 141 = .bool false := hd 13 (by decide) _ rfl
            clear hd
            go_simp
            exact hp _ _ (Grow.refl _) rfl
          · -- 16: slot 144: Op.load 3 t143
            have h143 : x 143 = .pointer (some ⟨ab, 1, none⟩) := hd 15 (by decide) _ rfl
            have h141 : x 141 = .bool false := hd 13 (by decide) _ rfl
            clear hd
            have y := (hAc.out.grow hg).c1
            go_simp
            exact hp _ _ (Grow.refl _) rfl
          · -- 17: slot 145: Op.fieldAddr 32 t6 2
            have h141 : x 141 = .bool false := hd 13 (by decide) _ rfl
            clear hd
            go_simp
            exact hp _ _ (Grow.refl _) rfl
          · -- 18: slot 146: Op.load 3 t145
            have h145 : x 145 = .pointer (some ⟨ab, 2, none⟩) := hd 17 (by decide) _ rfl
            have h141 : x 141 = .bool false := hd 13 (by decide) _ rfl
            clear hd
            have y := (hAc.out.grow hg).c2
            go_simp
            exact hp _ _ (Grow.refl _) rfl
          · -- 19: slot 147: Op.call { value (Operand.func 17), args := #[t142, t144, t146], argTypes := #[24
            have h142 : x 142 = .pointer (some ⟨pb, 0, none⟩) := hd 14 (by decide) _ rfl
            have h144 : x 144 = .int .i64 g := hd 16 (by decide) _ rfl
            have h146 : x 146 = .int .i64 a := hd 18 (by decide) _ rfl
            have h141 : x 141 = .bool false := hd 13 (by decide) _ rfl
            clear hd
            go_simp
            refine (hSt.out _ hg).mono ?_
            rintro e w2 ⟨rfl, g2⟩
            exact ⟨_, rfl, hp _ _ g2 rfl⟩
          · -- 20: slot 148: Op.load 30 t4
            have h141 : x 141 = .bool false := hd 13 (by decide) _ rfl
            clear hd
            refine upon_load_plg w1 _ rfl (by go_simp) rb cs' rfl (hBl.out.1.grow hg) hBl.out.2 ?_
            exact hp _ _ (Grow.refl _) rfl
          · -- 21: slot 149: Op.fieldAddr 32 t6 1
            have h141 : x 141 = .bool false := hd 13 (by decide) _ rfl
            clear hd
            go_simp
            exact hp _ _ (Grow.refl _) rfl
          · -- 22: slot 150: Op.load 3 t149
            have h149 : x 149 = .pointer (some ⟨ab, 1, none⟩) := hd 21 (by decide) _ rfl
            have h141 : x 141 = .bool false := hd 13 (by decide) _ rfl
            clear hd
            have y := (hAc.out.grow hg).c1
            go_simp
            exact hp _ _ (Grow.refl _) rfl
          · -- 23: slot 151: Op.fieldAddr 32 t6 2
            have h141 : x 141 = .bool false := hd 13 (by decide) _ rfl
            clear hd
            go_simp
            exact hp _ _ (Grow.refl _) rfl
          · -- 24: slot 152: Op.load 3 t151
            have h151 : x 151 = .pointer (some ⟨ab, 2, none⟩) := hd 23 (by decide) _ rfl
            have h141 : x 141 = .bool false := hd 13 (by decide) _ rfl
            clear hd
            have y := (hAc.out.grow hg).c2
            go_simp
            exact hp _ _ (Grow.refl _) rfl
          · -- 25: slot 153: Op.call { value (Operand.func 18), args := #[t148, t150, t152], argTypes := #[30
            have h148 : x 148 = .agg cs' := hd 20 (by decide) _ rfl
            have h150 : x 150 = .int .i64 g := hd 22 (by decide) _ rfl
            have h152 : x 152 = .int .i64 a := hd 24 (by decide) _ rfl
            have h141 : x 141 = .bool false := hd 13 (by decide) _ rfl
            clear hd
            go_simp
            refine (hRs.out _ hg).mono ?_
            rintro e w2 ⟨rfl, g2⟩
            exact ⟨_, rfl, hp _ _ g2 rfl⟩
          · -- 26: slot 154: Op.binOp BinOp.neq 3 t147 t153 3
            have h147 : x 147 = .int .i64 st := hd 19 (by decide) _ rfl
            have h153 : x 153 = .int .i64 st := hd 25 (by decide) _ rfl
            have h141 : x 141 = .bool false := hd 13 (by decide) _ rfl
            clear hd
            go_simp
            exact hp _ _ (Grow.refl _) rfl
          · -- 27: slot 155: Op.pick t141 (const (Value.bool true)) t154
            have h141 : x 141 = .bool false := hd 13 (by decide) _ rfl
            have h154 : x 154 = .bool false := hd 26 (by decide) _ rfl
            clear hd
            go_simp
            exact hp _ _ (Grow.refl _) rfl
        · intro x w1 hg hd
          have h155 : x 155 = .bool false := hd 27 _ rfl
          clear hd
          rw [h155]
          have HX5 := Lib.hid (PlB.grow I HX.out hg)
          have z1 := HX5.out.act.c1
          have hAc2 := Lib.hid HX5.out.act
          clear h155 hg
          by_cases hb : Bad g
          · have hFr : Hid (∀ w2, Grow w1 w2 → Calls Try.prog 19 #[.pointer (some ⟨pb, 0, none⟩), .int .i64 g] w2 fun e w3 => ∃ v, e = .returned v ∧ Nrw w3 w2.heap.size v [] ∧ Grow w2 w3) := fun w2 hg => by
              have := I.free (I.grow HX5.out.q hg) g HO2.out
              rwa [show frL p' g = [] from if_pos hb] at this
            have hOu : Hid (∀ w2, Grow w1 w2 → Calls Try.prog 20 #[.pointer (some ⟨pb, 0, none⟩), .int .i64 g] w2 fun e w3 => e = .returned (.int .i64 0) ∧ Grow w2 w3) := fun w2 hg => by
              have := I.out (I.grow HX5.out.q hg) g HO2.out
              rwa [show ouN p' g = 0 from if_pos hb] at this
            rcases bad_cases hb with d1 | ⟨d1, d2⟩
            · clear hb
              go_upto_region 28 with fail
              refine wp_region_loose (A := ?frame28) (inList (isV (.pointer (some ⟨pb, 0, none⟩)) :: isV (.pointer (some ⟨ab, 1, none⟩)) :: isV (.int .i64 g) :: (NoRow 0) :: isV (.int .i64 0) :: isV (.pointer (some ⟨pb, 0, none⟩)) :: isV (.pointer (some ⟨ab, 1, none⟩)) :: isV (.int .i64 g) :: isV (.int .i64 0) :: isV (.int .i64 0) :: isV (.bool false) :: [])) (by kernel_rfl) (by kernel_rfl) (inList_stays ?_) (fun x => ?frameEq28) ?_ ?_
              case frameEq28 => go_simp; rfl
              · intro f hf
                simp only [List.mem_cons, List.not_mem_nil, or_false] at hf
                rcases hf with rfl | rfl | rfl | rfl | rfl | rfl | rfl | rfl | rfl | rfl | rfl <;> first | exact isV_stays _ | exact isB_stays _ | exact isBs_stays _ | exact norow_stays _
              · refine ⟨fun x w1 hg hd post hp => ?_, fun x w1 hg hd post hp => ?_, fun x w1 hg hd post hp => ?_, fun x w1 hg hd post hp => ?_, fun x w1 hg hd post hp => ?_, fun x w1 hg hd post hp => ?_, fun x w1 hg hd post hp => ?_, fun x w1 hg hd post hp => ?_, fun x w1 hg hd post hp => ?_, fun x w1 hg hd post hp => ?_, fun x w1 hg hd post hp => ?_, trivial⟩
                · -- 0: slot 164: Op.move t3
                  clear hd
                  go_simp
                  exact hp _ _ (Grow.refl _) rfl
                · -- 1: slot 165: Op.fieldAddr 32 t6 1
                  clear hd
                  go_simp
                  exact hp _ _ (Grow.refl _) rfl
                · -- 2: slot 166: Op.load 3 t165
                  have h165 : x 165 = .pointer (some ⟨ab, 1, none⟩) := hd 1 (by decide) _ rfl
                  clear hd
                  have y := (hAc2.out.grow hg).c1
                  go_simp
                  exact hp _ _ (Grow.refl _) rfl
                · -- 3: slot 167: Op.call { value (Operand.func 19), args := #[t164, t166], argTypes := #[24, 3] }
                  have h164 : x 164 = .pointer (some ⟨pb, 0, none⟩) := hd 0 (by decide) _ rfl
                  have h166 : x 166 = .int .i64 g := hd 2 (by decide) _ rfl
                  clear hd
                  go_simp
                  refine (hFr.out _ hg).mono ?_
                  rintro e w2 ⟨v2, rfl, n2, g2⟩
                  exact ⟨_, rfl, hp _ _ g2 n2.form⟩
                · -- 4: slot 168: Op.call { builtin len, args := #[t167], argTypes := #[50] }
                  have h167 : (NoRow 0) (x 167) w1 := hd 3 (by decide) _ rfl
                  clear hd
                  obtain ⟨A9, c9, e9⟩ : NoRow 0 (x 167) w1 := h167
                  go_simp
                  exact hp _ _ (Grow.refl _) rfl
                · -- 5: slot 169: Op.move t3
                  clear hd
                  go_simp
                  exact hp _ _ (Grow.refl _) rfl
                · -- 6: slot 170: Op.fieldAddr 32 t6 1
                  clear hd
                  go_simp
                  exact hp _ _ (Grow.refl _) rfl
                · -- 7: slot 171: Op.load 3 t170
                  have h170 : x 170 = .pointer (some ⟨ab, 1, none⟩) := hd 6 (by decide) _ rfl
                  clear hd
                  have y := (hAc2.out.grow hg).c1
                  go_simp
                  exact hp _ _ (Grow.refl _) rfl
                · -- 8: slot 172: Op.call { value (Operand.func 20), args := #[t169, t171], argTypes := #[24, 3] }
                  have h169 : x 169 = .pointer (some ⟨pb, 0, none⟩) := hd 5 (by decide) _ rfl
                  have h171 : x 171 = .int .i64 g := hd 7 (by decide) _ rfl
                  clear hd
                  go_simp
                  refine (hOu.out _ hg).mono ?_
                  rintro e w2 ⟨rfl, g2⟩
                  exact ⟨_, rfl, hp _ _ g2 rfl⟩
                · -- 9: slot 173: Op.binOp BinOp.add 3 t168 t172 3
                  have h168 : x 168 = .int .i64 0 := hd 4 (by decide) _ rfl
                  have h172 : x 172 = .int .i64 0 := hd 8 (by decide) _ rfl
                  clear hd
                  go_simp
                  exact hp _ _ (Grow.refl _) rfl
                · -- 10: slot 174: Op.binOp BinOp.neq 3 t173 (const (0:i64)) 3
                  have h173 : x 173 = .int .i64 0 := hd 9 (by decide) _ rfl
                  clear hd
                  go_simp
                  exact hp _ _ (Grow.refl _) rfl
              · intro x w1 hg hd
                have h174 : x 174 = .bool false := hd 10 _ rfl
                clear hd
                rw [h174]
                have HX7 := Lib.hid (PlB.grow I HX5.out hg)
                clear h174 hg
                go_wp2_with fail
                go_roundg (N - (k + 1))
                case measure => have := HZ.out.2.1; omega
                case rel => exact ⟨k + 1, p', cs', rfl, by go_num, by have := HZ.out.2.1; omega, PlB.fin HX7.out⟩
            · clear hb
              go_upto_region 28 with fail
              refine wp_region_loose (A := ?frame28b) (inList (isV (.pointer (some ⟨pb, 0, none⟩)) :: isV (.pointer (some ⟨ab, 1, none⟩)) :: isV (.int .i64 g) :: (NoRow 0) :: isV (.int .i64 0) :: isV (.pointer (some ⟨pb, 0, none⟩)) :: isV (.pointer (some ⟨ab, 1, none⟩)) :: isV (.int .i64 g) :: isV (.int .i64 0) :: isV (.int .i64 0) :: isV (.bool false) :: [])) (by kernel_rfl) (by kernel_rfl) (inList_stays ?_) (fun x => ?frameEq28b) ?_ ?_
              case frameEq28b => go_simp; rfl
              · intro f hf
                simp only [List.mem_cons, List.not_mem_nil, or_false] at hf
                rcases hf with rfl | rfl | rfl | rfl | rfl | rfl | rfl | rfl | rfl | rfl | rfl <;> first | exact isV_stays _ | exact isB_stays _ | exact isBs_stays _ | exact norow_stays _
              · refine ⟨fun x w1 hg hd post hp => ?_, fun x w1 hg hd post hp => ?_, fun x w1 hg hd post hp => ?_, fun x w1 hg hd post hp => ?_, fun x w1 hg hd post hp => ?_, fun x w1 hg hd post hp => ?_, fun x w1 hg hd post hp => ?_, fun x w1 hg hd post hp => ?_, fun x w1 hg hd post hp => ?_, fun x w1 hg hd post hp => ?_, fun x w1 hg hd post hp => ?_, trivial⟩
                · -- 0: slot 164: Op.move t3
                  clear hd
                  go_simp
                  exact hp _ _ (Grow.refl _) rfl
                · -- 1: slot 165: Op.fieldAddr 32 t6 1
                  clear hd
                  go_simp
                  exact hp _ _ (Grow.refl _) rfl
                · -- 2: slot 166: Op.load 3 t165
                  have h165 : x 165 = .pointer (some ⟨ab, 1, none⟩) := hd 1 (by decide) _ rfl
                  clear hd
                  have y := (hAc2.out.grow hg).c1
                  go_simp
                  exact hp _ _ (Grow.refl _) rfl
                · -- 3: slot 167: Op.call { value (Operand.func 19), args := #[t164, t166], argTypes := #[24, 3] }
                  have h164 : x 164 = .pointer (some ⟨pb, 0, none⟩) := hd 0 (by decide) _ rfl
                  have h166 : x 166 = .int .i64 g := hd 2 (by decide) _ rfl
                  clear hd
                  go_simp
                  refine (hFr.out _ hg).mono ?_
                  rintro e w2 ⟨v2, rfl, n2, g2⟩
                  exact ⟨_, rfl, hp _ _ g2 n2.form⟩
                · -- 4: slot 168: Op.call { builtin len, args := #[t167], argTypes := #[50] }
                  have h167 : (NoRow 0) (x 167) w1 := hd 3 (by decide) _ rfl
                  clear hd
                  obtain ⟨A9, c9, e9⟩ : NoRow 0 (x 167) w1 := h167
                  go_simp
                  exact hp _ _ (Grow.refl _) rfl
                · -- 5: slot 169: Op.move t3
                  clear hd
                  go_simp
                  exact hp _ _ (Grow.refl _) rfl
                · -- 6: slot 170: Op.fieldAddr 32 t6 1
                  clear hd
                  go_simp
                  exact hp _ _ (Grow.refl _) rfl
                · -- 7: slot 171: Op.load 3 t170
                  have h170 : x 170 = .pointer (some ⟨ab, 1, none⟩) := hd 6 (by decide) _ rfl
                  clear hd
                  have y := (hAc2.out.grow hg).c1
                  go_simp
                  exact hp _ _ (Grow.refl _) rfl
                · -- 8: slot 172: Op.call { value (Operand.func 20), args := #[t169, t171], argTypes := #[24, 3] }
                  have h169 : x 169 = .pointer (some ⟨pb, 0, none⟩) := hd 5 (by decide) _ rfl
                  have h171 : x 171 = .int .i64 g := hd 7 (by decide) _ rfl
                  clear hd
                  go_simp
                  refine (hOu.out _ hg).mono ?_
                  rintro e w2 ⟨rfl, g2⟩
                  exact ⟨_, rfl, hp _ _ g2 rfl⟩
                · -- 9: slot 173: Op.binOp BinOp.add 3 t168 t172 3
                  have h168 : x 168 = .int .i64 0 := hd 4 (by decide) _ rfl
                  have h172 : x 172 = .int .i64 0 := hd 8 (by decide) _ rfl
                  clear hd
                  go_simp
                  exact hp _ _ (Grow.refl _) rfl
                · -- 10: slot 174: Op.binOp BinOp.neq 3 t173 (const (0:i64)) 3
                  have h173 : x 173 = .int .i64 0 := hd 9 (by decide) _ rfl
                  clear hd
                  go_simp
                  exact hp _ _ (Grow.refl _) rfl
              · intro x w1 hg hd
                have h174 : x 174 = .bool false := hd 10 _ rfl
                clear hd
                rw [h174]
                have HX7 := Lib.hid (PlB.grow I HX5.out hg)
                clear h174 hg
                go_wp2_with fail
                go_roundg (N - (k + 1))
                case measure => have := HZ.out.2.1; omega
                case rel => exact ⟨k + 1, p', cs', rfl, by go_num, by have := HZ.out.2.1; omega, PlB.fin HX7.out⟩
          · obtain ⟨kk, rfl, hk, hk2⟩ := bad_nat hb
            have d1 : decide ((kk : Int) < 0) = false := decide_eq_false (by omega)
            have d2 : decide (15 < (kk : Int)) = false := decide_eq_false (by omega)
            have d3 : (kk : Int) < 16 := by omega
            have cF := I.free HX5.out.q (kk : Int) HO2.out
            rw [show frL p' kk = (p' kk).fr.map Bf.id from (if_neg hb).trans (by rw [hk2])] at cF
            have hOu0 : ∀ w2, Grow w1 w2 → Calls Try.prog 20 #[.pointer (some ⟨pb, 0, none⟩), .int .i64 (kk : Int)] w2 fun e w3 => e = .returned (.int .i64 ((p' kk).out.length : Int)) ∧ Grow w2 w3 := fun w2 hg => by
              have := I.out (I.grow HX5.out.q hg) (kk : Int) HO2.out
              rwa [show ouN p' kk = (p' kk).out.length from (if_neg hb).trans (by rw [hk2])] at this
            have HU := Lib.hid hOu0
            have hlen := (HOk.out kk hk).len
            clear hb hk2 hOu0
            go_wp2_with fail
            refine cF.mono ?_
            rintro e w6 ⟨vF, rfl, rF, g6⟩
            obtain ⟨Af, cf, hf⟩ := rF.form
            rw [List.length_map] at hf
            have HX6 := Lib.hid (PlB.grow I HX5.out g6)
            have HF := Lib.hid rF
            have HG6 := Lib.hid g6
            clear cF rF g6 z1 hAc2
            obtain ⟨aV, bV, e1, e2, h3, h4⟩ := HX6.out.c.at_ kk hk
            have HA := Lib.hid h3.rd
            obtain ⟨A1, c1, ha1, _⟩ := h3.rd.form
            obtain ⟨A2, c2, hb2, _⟩ := h4.rd.form
            obtain ⟨nf, hnf⟩ : ∃ nf, nf = (p' kk).fr.length := ⟨_, rfl⟩
            obtain ⟨no, hno⟩ : ∃ no, no = (p' kk).out.length := ⟨_, rfl⟩
            rw [← hnf] at hf ha1 hlen
            rw [← hno] at hb2 hlen
            have hOu : Hid (∀ w2, Grow w6 w2 → Calls Try.prog 20 #[.pointer (some ⟨pb, 0, none⟩), .int .i64 (kk : Int)] w2 fun e w3 => e = .returned (.int .i64 (no : Int)) ∧ Grow w2 w3) := fun w2 hg => by rw [hno]; exact HU.out w2 (Grow.trans HG6.out hg)
            have HNf := Lib.hid (And.intro hnf hlen)
            subst hf ha1 hb2
            have hRc : Hid (rb < w6.heap.size ∧ w6.cell? ⟨rb, kk * 2, none⟩ = some (.slice A1 nf c1) ∧ w6.cell? ⟨rb, kk * 2 + 1, none⟩ = some (.slice A2 no c2)) := ⟨HX6.out.blk.lt, (HX6.out.blk.cell _).trans e1, (HX6.out.blk.cell _).trans e2⟩
            have hAc2 := Lib.hid HX6.out.act
            clear e1 e2 h3 h4 hnf hno hlen
            go_upto_region 31 with fail
            refine wp_region_loose (A := ?frame31) (inList (isV (.slice Af nf cf) :: isV (.int .i64 (nf : Int)) :: isV (.pointer (some ⟨ab, 1, none⟩)) :: isV (.int .i64 (kk : Int)) :: isV (.pointer (some ⟨rb, kk * 2, none⟩)) :: isV (.pointer (some ⟨rb, kk * 2, none⟩)) :: isV (.slice A1 nf c1) :: isV (.int .i64 (nf : Int)) :: isV (.bool false) :: isV (.bool false) :: isV (.pointer (some ⟨pb, 0, none⟩)) :: isV (.pointer (some ⟨ab, 1, none⟩)) :: isV (.int .i64 (kk : Int)) :: isV (.int .i64 (no : Int)) :: isV (.pointer (some ⟨ab, 1, none⟩)) :: isV (.int .i64 (kk : Int)) :: isV (.pointer (some ⟨rb, kk * 2, none⟩)) :: isV (.pointer (some ⟨rb, kk * 2 + 1, none⟩)) :: isV (.slice A2 no c2) :: isV (.int .i64 (no : Int)) :: isV (.bool false) :: isV (.bool false) :: [])) (by kernel_rfl) (by kernel_rfl) (inList_stays ?_) (fun x => ?frameEq31) ?_ ?_
            case frameEq31 => go_simp; rfl
            · intro f hf
              simp only [List.mem_cons, List.not_mem_nil, or_false] at hf
              rcases hf with rfl | rfl | rfl | rfl | rfl | rfl | rfl | rfl | rfl | rfl | rfl | rfl | rfl | rfl | rfl | rfl | rfl | rfl | rfl | rfl | rfl | rfl <;> first | exact isV_stays _ | exact isB_stays _ | exact isBs_stays _
            · refine ⟨fun x w1 hg hd post hp => ?_, fun x w1 hg hd post hp => ?_, fun x w1 hg hd post hp => ?_, fun x w1 hg hd post hp => ?_, fun x w1 hg hd post hp => ?_, fun x w1 hg hd post hp => ?_, fun x w1 hg hd post hp => ?_, fun x w1 hg hd post hp => ?_, fun x w1 hg hd post hp => ?_, fun x w1 hg hd post hp => ?_, fun x w1 hg hd post hp => ?_, fun x w1 hg hd post hp => ?_, fun x w1 hg hd post hp => ?_, fun x w1 hg hd post hp => ?_, fun x w1 hg hd post hp => ?_, fun x w1 hg hd post hp => ?_, fun x w1 hg hd post hp => ?_, fun x w1 hg hd post hp => ?_, fun x w1 hg hd post hp => ?_, fun x w1 hg hd post hp => ?_, fun x w1 hg hd post hp => ?_, fun x w1 hg hd post hp => ?_, trivial⟩
              · -- 0: slot 179: Op.move t18
                clear hd
                go_simp
                exact hp _ _ (Grow.refl _) rfl
              · -- 1: slot 180: Op.call { builtin len, args := #[t179], argTypes := #[50] }
                have h179 : x 179 = .slice Af nf cf := hd 0 (by decide) _ rfl
                clear hd
                go_simp
                exact hp _ _ (Grow.refl _) rfl
              · -- 2: slot 181: Op.fieldAddr 32 t6 1
                clear hd
                go_simp
                exact hp _ _ (Grow.refl _) rfl
              · -- 3: slot 182: Op.load 3 t181
                have h181 : x 181 = .pointer (some ⟨ab, 1, none⟩) := hd 2 (by decide) _ rfl
                clear hd
                have y := (hAc2.out.grow hg).c1
                go_simp
                exact hp _ _ (Grow.refl _) rfl
              · -- 4: slot 183: Op.indexAddr 30 t4 t182
                have h182 : x 182 = .int .i64 (kk : Int) := hd 3 (by decide) _ rfl
                clear hd
                go_simp
                exact hp _ _ (Grow.refl _) rfl
              · -- 5: slot 184: Op.fieldAddr 28 t183 0
                have h183 : x 183 = .pointer (some ⟨rb, kk * 2, none⟩) := hd 4 (by decide) _ rfl
                clear hd
                go_simp
                exact hp _ _ (Grow.refl _) rfl
              · -- 6: slot 185: Op.load 26 t184
                have h184 : x 184 = .pointer (some ⟨rb, kk * 2, none⟩) := hd 5 (by decide) _ rfl
                clear hd
                have y := (Grow.cell hg (p := ⟨rb, kk * 2, none⟩) hRc.out.1).trans hRc.out.2.1
                go_simp
                exact hp _ _ (Grow.refl _) rfl
              · -- 7: slot 186: Op.call { builtin len, args := #[t185], argTypes := #[26] }
                have h185 : x 185 = .slice A1 nf c1 := hd 6 (by decide) _ rfl
                clear hd
                go_simp
                exact hp _ _ (Grow.refl _) rfl
              · -- 8: slot 187: Op.binOp BinOp.neq 3 t180 t186 3
                have h180 : x 180 = .int .i64 (nf : Int) := hd 1 (by decide) _ rfl
                have h186 : x 186 = .int .i64 (nf : Int) := hd 7 (by decide) _ rfl
                clear hd
                go_simp
                exact hp _ _ (Grow.refl _) rfl
              · -- 9: slot 188: Op.move t187
                have h187 : x 187 = .bool false := hd 8 (by decide) _ rfl
                clear hd
                go_simp
                exact hp _ _ (Grow.refl _) rfl
              · -- 10: slot 189: Op.move t3
                have h188 : x 188 = .bool false := hd 9 (by decide) _ rfl
                clear hd
                go_simp
                exact hp _ _ (Grow.refl _) rfl
              · -- 11: slot 190: Op.fieldAddr 32 t6 1
                have h188 : x 188 = .bool false := hd 9 (by decide) _ rfl
                clear hd
                go_simp
                exact hp _ _ (Grow.refl _) rfl
              · -- 12: slot 191: Op.load 3 t190
                have h190 : x 190 = .pointer (some ⟨ab, 1, none⟩) := hd 11 (by decide) _ rfl
                have h188 : x 188 = .bool false := hd 9 (by decide) _ rfl
                clear hd
                have y := (hAc2.out.grow hg).c1
                go_simp
                exact hp _ _ (Grow.refl _) rfl
              · -- 13: slot 192: Op.call { value (Operand.func 20), args := #[t189, t191], argTypes := #[24, 3] }
                have h189 : x 189 = .pointer (some ⟨pb, 0, none⟩) := hd 10 (by decide) _ rfl
                have h191 : x 191 = .int .i64 (kk : Int) := hd 12 (by decide) _ rfl
                have h188 : x 188 = .bool false := hd 9 (by decide) _ rfl
                clear hd
                go_simp
                refine (hOu.out _ hg).mono ?_
                rintro e w2 ⟨rfl, g2⟩
                exact ⟨_, rfl, hp _ _ g2 rfl⟩
              · -- 14: slot 193: Op.fieldAddr 32 t6 1
                have h188 : x 188 = .bool false := hd 9 (by decide) _ rfl
                clear hd
                go_simp
                exact hp _ _ (Grow.refl _) rfl
              · -- 15: slot 194: Op.load 3 t193
                have h193 : x 193 = .pointer (some ⟨ab, 1, none⟩) := hd 14 (by decide) _ rfl
                have h188 : x 188 = .bool false := hd 9 (by decide) _ rfl
                clear hd
                have y := (hAc2.out.grow hg).c1
                go_simp
                exact hp _ _ (Grow.refl _) rfl
              · -- 16: slot 195: Op.indexAddr 30 t4 t194
                have h194 : x 194 = .int .i64 (kk : Int) := hd 15 (by decide) _ rfl
                have h188 : x 188 = .bool false := hd 9 (by decide) _ rfl
                clear hd
                go_simp
                exact hp _ _ (Grow.refl _) rfl
              · -- 17: slot 196: Op.fieldAddr 28 t195 1
                have h195 : x 195 = .pointer (some ⟨rb, kk * 2, none⟩) := hd 16 (by decide) _ rfl
                have h188 : x 188 = .bool false := hd 9 (by decide) _ rfl
                clear hd
                go_simp
                exact hp _ _ (Grow.refl _) rfl
              · -- 18: slot 197: Op.load 26 t196
                have h196 : x 196 = .pointer (some ⟨rb, kk * 2 + 1, none⟩) := hd 17 (by decide) _ rfl
                have h188 : x 188 = .bool false := hd 9 (by decide) _ rfl
                clear hd
                have y := (Grow.cell hg (p := ⟨rb, kk * 2 + 1, none⟩) hRc.out.1).trans hRc.out.2.2
                go_simp
                exact hp _ _ (Grow.refl _) rfl
              · -- 19: slot 198: Op.call { builtin len, args := #[t197], argTypes := #[26] }
                have h197 : x 197 = .slice A2 no c2 := hd 18 (by decide) _ rfl
                have h188 : x 188 = .bool false := hd 9 (by decide) _ rfl
                clear hd
                go_simp
                exact hp _ _ (Grow.refl _) rfl
              · -- 20: slot 199: Op.binOp BinOp.neq 3 t192 t198 3
                have h192 : x 192 = .int .i64 (no : Int) := hd 13 (by decide) _ rfl
                have h198 : x 198 = .int .i64 (no : Int) := hd 19 (by decide) _ rfl
                have h188 : x 188 = .bool false := hd 9 (by decide) _ rfl
                clear hd
                go_simp
                exact hp _ _ (Grow.refl _) rfl
              · -- 21: slot 200: Op.pick t188 (const (Value.bool true)) t199
                have h188 : x 188 = .bool false := hd 9 (by decide) _ rfl
                have h199 : x 199 = .bool false := hd 20 (by decide) _ rfl
                clear hd
                go_simp
                exact hp _ _ (Grow.refl _) rfl
            · intro x w1 hg hd
              have h200 : x 200 = .bool false := hd 21 _ rfl
              clear hd
              rw [h200]
              have HX7 := Lib.hid (PlB.grow I HX6.out hg)
              have HG7 := Lib.hid hg
              clear h200 hg
              go_wp2_with fail
              go_loopg [19] nf (fun gk s19 wr => ∃ j : Nat, gk = nf - j ∧ s19 = .int .i64 (j : Int) ∧ Hid (j ≤ nf ∧ Grow w6 wr ∧ PlB Pp w wr pb rb ab p' p' cs' d (kk : Int) a m s))
              case atStart => exact ⟨0, rfl, rfl, Nat.zero_le _, HG7.out, HX7.out⟩
              case round =>
                obtain ⟨j, rfl, rfl, HJ⟩ := hrel
                rename World => wo
                rcases Nat.lt_or_ge j nf with hlt | hge
                · have hjl : j < (p' kk).fr.length := by have := HNf.out.1; omega
                  obtain ⟨fb, fo, fc, ef, hfb, hfc⟩ := HF.out.cell (by rw [List.length_map]; omega)
                  have v0 := hfc j (bp (p' kk).fr j).id (by rw [List.getElem?_map, bp_get hjl]; rfl)
                  obtain ⟨b1, b1o, b1c, eb1, hb1, hbc⟩ := HA.out.cell (by omega)
                  have v1 := (hbc j hjl).1
                  generalize (bp (p' kk).fr j).id = id at v0 v1
                  have e1 : Af = some ⟨fb, fo, none⟩ := by injection ef
                  have e2 : A1 = some ⟨b1, b1o, none⟩ := by injection eb1
                  have g7 := HJ.out.2.1
                  have a0 := fun p : Gw wo => Gw.cell (p := p) (a := ⟨fb, fo + j, none⟩) (Nat.lt_of_lt_of_le hfb g7.size) ((g7.cell (p := ⟨fb, fo + j, none⟩) hfb).trans v0)
                  have a1 := fun p : Gw wo => Gw.cell (p := p) (a := ⟨b1, b1o + j * 2, none⟩) (Nat.lt_of_lt_of_le hb1 g7.size) ((g7.cell (p := ⟨b1, b1o + j * 2, none⟩) hb1).trans v1)
                  have a2 := fun p : Gw wo => Gw.cell (p := p) (a := ⟨ab, 1, none⟩) HJ.out.2.2.act.lt HJ.out.2.2.act.c1
                  have a3 := fun p : Gw wo => Gw.cell (p := p) (a := ⟨rb, kk * 2, none⟩) HJ.out.2.2.blk.lt ((g7.cell (p := ⟨rb, kk * 2, none⟩) hRc.out.1).trans hRc.out.2.1)
                  have i1 : (j : Int) < (nf : Int) := by omega
                  have jb : j < 2000 := by have := HNf.out.2; omega
                  subst e1 e2
                  clear ef hfc v0 eb1 hbc v1 g7 hfb hb1 hjl hlt
                  go_upto_region 36 with fail
                  refine wp_region_gw (by kernel_rfl) (by kernel_rfl) ?_
                  repeat (go_big_quiet_step ((fail)))
                  refine wpQuiet_nil ?_
                  intro _ hw'
                  obtain ⟨⟨wq, hgq⟩, hw2⟩ := hw'
                  subst hw2
                  have HG := Lib.hid hgq
                  clear hgq
                  go_wp2_with fail
                  go_roundg (nf - (j + 1))
                  case measure => omega
                  case rel => exact ⟨j + 1, rfl, by go_num, by omega, Grow.trans HJ.out.2.1 HG.out, PlB.grow I HJ.out.2.2 HG.out⟩
                · obtain rfl : j = nf := by have := HJ.out.1; omega
                  clear hge
                  go_wp2_with fail
                  go_roundg (N - (k + 1))
                  case measure => have := HZ.out.2.1; omega
                  case rel => exact ⟨k + 1, p', cs', rfl, by go_num, by have := HZ.out.2.1; omega, PlB.fin HJ.out.2.2⟩
    · obtain rfl : k = N := by have := HR.out.1; omega
      go_wp2_with fail
      refine (HLv.out _).mono ?_
      rintro e w' ⟨rfl, g⟩
      have G := Lib.hid g
      clear g
      go_wp2_with fail
      go_ret
      exact ⟨rfl, Below.trans HR.out.2.g (Below.mono G.out HR.out.2.g.size)⟩
end Go.Proofs.Ytkambcjinidomaa
