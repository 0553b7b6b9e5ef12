/- UdpPlays: its walk. -/
import Derived.Test.YtkblgigpgpjjlaaUdPlA
import Derived.Deep.CutBlock
namespace Go.Proofs.Ytkblgigpgpjjlaa
set_option linter.unusedVariables false
set_option linter.unusedSimpArgs false
attribute [local irreducible] wpQuiet
open Go.ChangeShapes Go.WideShapes Go.ChangeAt Go.RowKit

theorem UPr.next {Up : UbT} {w wr : World} {pb rb ab i : Nat} {x : Ua} {u u' : Ub} {vL : Value} (h : UPr Up w wr pb rb ab x u u' vL i) : UPr Up w wr pb rb ab x u u' vL (i + 1) := ⟨h.p, h.blk, h.row, h.act, h.low, ⟨h.few.1, by have := h.few.2; omega⟩, h.g⟩
theorem ub_ones1 {vL : Value} (hv : vL.oneCell' = true) (most room pa pp lost told : Int) : ∀ y ∈ (ubA most room pa pp vL lost told).toList, y.oneCell' = true := by
  intro y hy
  simp at hy
  rcases hy with rfl | rfl | rfl | rfl | rfl | rfl | rfl
  · rfl
  · rfl
  · rfl
  · rfl
  · exact hv
  · rfl
  · rfl
theorem end_ne (pa pp : Int) (w : World) : (Go.binOp .neq 34 (.agg #[.int .u32 pa, .int .u16 pp]) (.agg #[.int .u32 0, .int .u16 0])).run Try.prog w = .ok (.bool (decide ((⟨pa, pp⟩ : Ed) ≠ noE))) w := by
  by_cases q1 : pa = 0
  · by_cases q2 : pp = 0
    · subst q1 q2
      have hne : ¬ (⟨0, 0⟩ : Ed) ≠ noE := fun k => k rfl
      rw [decide_eq_false hne]
      simp [go_sem]
    · subst q1
      have e2 : (pp == 0) = false := beq_eq_false_iff_ne.2 q2
      have hne : (⟨0, pp⟩ : Ed) ≠ noE := fun k => q2 (congrArg Ed.po k)
      rw [decide_eq_true hne]
      simp [go_sem, e2]
  · have e1 : (pa == 0) = false := beq_eq_false_iff_ne.2 q1
    have hne : (⟨pa, pp⟩ : Ed) ≠ noE := fun k => q1 (congrArg Ed.ad k)
    rw [decide_eq_true hne]
    simp [go_sem, e1]
theorem told_cases (u : Ub) (n : Int) : (u.told = 0 ∧ teU u n = { u with told := n }) ∨ ((u.told == 0) = false ∧ teU u n = u) := by
  by_cases q : u.told = 0
  · exact .inl ⟨q, if_pos q⟩
  · exact .inr ⟨beq_eq_false_iff_ne.2 q, if_neg q⟩
set_option maxRecDepth 100000 in
set_option maxHeartbeats 4000000 in
theorem udpPlays_if {Up : UbT} (I : UIf Up) (w : World) (most : Int) (hmo : In64 most) (room : Int) (hro : In64 room) {v : Value} {l : List Ua} (hl : Uas w v l) : Calls Try.prog 3 #[.int .i64 most, .int .i64 room, v] w fun e w' => e = .returned (.bool true) ∧ Below w.heap.size w w' := by
  have cM := umuch_any w v l hl
  have HLv := Lib.hid (fun w => ulive_any I w)
  have HC := Lib.hid (fun x w => ucode_any x w)
  have HI := Lib.hid I
  have HV := Lib.hid hl
  obtain ⟨A0, c0, rfl, hlc, hcm, -⟩ := hl
  obtain ⟨N, hN⟩ : ∃ N, N = l.length := ⟨_, rfl⟩
  rw [← hN] at HV cM hlc ⊢
  have HN := Lib.hid hN
  clear hN hlc hcm
  unfold MuchU at cM
  go_enter Try.func3, Try.ntmps3
  go_wp2_with fail
  refine cM.mono ?_
  rintro e w' ⟨bb, rfl, hbb, hw⟩
  subst w'
  have HBB := Lib.hid hbb
  clear cM hbb
  cases bb with
  | true =>
    have c0 := HLv.out w
    clear I
    go_wp2_with fail
    refine c0.mono ?_
    rintro e w' ⟨rfl, hg⟩
    have HG := Lib.hid hg
    clear c0 hg
    go_wp2_with fail
    go_ret
    exact ⟨rfl, HG.out⟩
  | false =>
  have HF : Hid (N ≤ 100 ∧ ∀ x ∈ l, x.Fit w) := by
    obtain ⟨q1, q2⟩ := HBB.out rfl
    obtain ⟨_, _, _, _, _, hok, _⟩ := HV.out
    exact ⟨by have := HN.out; omega, fun x hx => ⟨hok x hx, q2 x hx⟩⟩
  clear HBB
  by_cases hbad : ¬ ((1 ≤ most ∧ most ≤ 64) ∧ (1 ≤ room ∧ room ≤ 1048576))
  · have c1 := I.newNot w most room hmo hro hbad
    have hcs : decide (most < 1) = true ∨ (decide (most < 1) = false ∧ decide (64 < most) = true) ∨ (decide (most < 1) = false ∧ decide (64 < most) = false ∧ decide (room < 1) = true) ∨ (decide (most < 1) = false ∧ decide (64 < most) = false ∧ decide (room < 1) = false ∧ decide (1048576 < room) = true) := by
      simp only [decide_eq_true_eq, decide_eq_false_iff_not]
      omega
    clear hbad I hmo hro
    rcases hcs with d1 | ⟨d1, d2⟩ | ⟨d1, d2, d3⟩ | ⟨d1, d2, d3, d4⟩
    all_goals
      go_wp2_with fail
      refine c1.mono ?_
      rintro e w1 ⟨rfl, g1⟩
      have G1 := Lib.hid g1
      clear c1 g1
      go_wp2_with fail
      refine (HC.out _ _).mono ?_
      rintro e w' ⟨rfl, hw⟩
      subst w'
      have c0 := HLv.out w1
      go_wp2_with fail
      refine c0.mono ?_
      rintro e w' ⟨rfl, hg⟩
      have HG := Lib.hid (Grow.trans G1.out hg)
      clear c0 hg
      go_wp2_with fail
      go_ret
      exact ⟨rfl, HG.out⟩
  have hgood : (1 ≤ most ∧ most ≤ 64) ∧ (1 ≤ room ∧ room ≤ 1048576) := Decidable.of_not_not hbad
  have c1 := I.new w most room hgood.1 hgood.2
  have d1 : decide (most < 1) = false := decide_eq_false (by omega)
  have d2 : decide (64 < most) = false := decide_eq_false (by omega)
  have d3 : decide (room < 1) = false := decide_eq_false (by omega)
  have d4 : decide (1048576 < room) = false := decide_eq_false (by omega)
  clear hbad I hmo hro
  go_wp2_with fail
  refine c1.mono ?_
  rintro e w1 ⟨pb, S1, rfl, h1, l1, g1⟩
  have H1 := Lib.hid (And.intro h1 (And.intro l1 g1))
  clear c1 h1 l1 g1
  go_wp2_with fail
  refine (HC.out _ _).mono ?_
  rintro e w' ⟨rfl, hw⟩
  subst w'
  go_upto_region 9 with fail
  obtain ⟨wr0, hwr⟩ : ∃ wr0, wr0 = w1.alloc (.cells (ubA most room 0 0 (.slice none 0 0) 0 0) 37) := ⟨_, rfl⟩
  rw [← hwr]
  obtain ⟨rb, hrb⟩ : ∃ rb, rb = w1.heap.size := ⟨_, rfl⟩
  rw [← hrb]
  have H0 : Hid (UPl Up w wr0 pb rb (noneU most room) (.slice none 0 0) 0) := by
    have ga := Grow.alloc w1 (.cells (ubA most room 0 0 (.slice none 0 0) 0 0) 37)
    rw [hwr, hrb]
    exact ⟨⟨S1, HI.out.grow H1.out.1 ga, fun b hb => ⟨H1.out.2.1 b hb, fun e => by have := HI.out.lt H1.out.1 b hb; omega, fun e => by cases e⟩⟩, heap_alloc_new w1 _, ⟨[], ofg_none _ _, rfl, Reads.nil w⟩, H1.out.2.2.size, ⟨Int.le_refl 0, by show (0 : Int) ≤ _; omega⟩, H1.out.2.2.trans ga⟩
  clear hwr hrb d1 d2 d3 d4 hgood
  go_wp2_with fail
  go_loopg [10] N (fun gk s10 wr => ∃ (i : Nat) (u : Ub) (vL : Value), gk = N - i ∧ s10 = .int .i64 (i : Int) ∧ Hid (i ≤ N ∧ UPl Up w wr pb rb u vL i))
  case atStart => exact ⟨0, _, _, rfl, rfl, Nat.zero_le _, H0.out⟩
  case round =>
    obtain ⟨i, u, vL, rfl, rfl, HR⟩ := hrel
    rename World => wa
    clear H0 H1
    rcases Nat.lt_or_ge i N with hlt | hge
    · obtain ⟨A9, c9, e9, _, _, hok, hcell⟩ := HV.out
      obtain ⟨b, off, hA, hb, hc⟩ := hcell (by have := HN.out; omega)
      obtain ⟨x, hx⟩ : ∃ x, l[i]? = some x := ⟨_, List.getElem?_eq_getElem (by have := HN.out; omega)⟩
      obtain ⟨x0, x1, x2, x3, x4⟩ := hc i x hx
      have hz := HF.out.2 x (List.mem_iff_getElem?.2 ⟨i, hx⟩)
      have hA0 : A0 = some ⟨b, off, none⟩ := by rw [hA] at e9; injection e9
      have gg := HR.out.2.g
      have y0 := (gg.cell (p := ⟨b, off + i * 5, none⟩) hb).trans x0
      have y1 := (gg.cell (p := ⟨b, off + i * 5 + 1, none⟩) hb).trans x1
      have y2 := (gg.cell (p := ⟨b, off + i * 5 + 2, none⟩) hb).trans x2
      have y3 := (gg.cell (p := ⟨b, off + i * 5 + 3, none⟩) hb).trans x3
      have y4 := (gg.cell (p := ⟨b, off + i * 5 + 4, none⟩) hb).trans x4
      have i0 : (i : Int) < (N : Int) := by omega
      have kb : i < 100 := by have := HF.out.1; omega
      have HZ := Lib.hid (And.intro hz (And.intro hlt kb))
      obtain ⟨ab, hab⟩ : ∃ ab, ab = wa.heap.size := ⟨_, rfl⟩
      obtain ⟨W1, hW1⟩ : ∃ W1, W1 = wa.alloc (.cells #[.int .i64 x.d, .int .i64 x.n, .int .u32 x.m.f.ad, .int .u16 x.m.f.po, .slice x.m.A x.m.n x.m.c] 42) := ⟨_, rfl⟩
      have HB : Hid (UPr Up w W1 pb rb ab x u u vL i) := UPl.begin HI.out HR.out.2 x (by rw [hW1]; exact Grow.alloc _ _) (by rw [hW1, hab]; exact heap_alloc_new wa _) hab
      have HO := Lib.hid (HB.out.ok HI.out)
      obtain ⟨d, n, ⟨⟨ea, ep⟩, dA, dn, dc, db⟩⟩ := x
      obtain ⟨um, ur, ⟨pa, pp⟩, L, lo, tl⟩ := u
      simp only at y0 y1 y2 y3 y4 hW1
      subst hA0
      clear e9 hA hok hcell hc x0 x1 x2 x3 x4 hz hx gg hlt hb
      go_upto_region 14 with fail
      rw [← hW1, ← hab]
      clear hW1 hab y0 y1 y2 y3 y4
      have z0 := HB.out.c0
      simp only at z0
      go_upto_block 2 with fail
      clear z0
      go_cut [12, 13, 14, 15, 16, 17, 18, 19, 20] from 78 to 151 (fun s12 s13 _ _ _ _ _ _ _ wx => ∃ (u' : Ub) (vL' : Value) (f : Int), s12 = .int .i64 f ∧ s13 = .int .i64 f ∧ Hid (UPr Up w wx pb rb ab ⟨d, n, ⟨⟨ea, ep⟩, dA, dn, dc, db⟩⟩ u' u' vL' (i + 1)))
      case first =>
        by_cases d0 : d = 0
        · subst d0
          have z2 := HB.out.c2
          have z3 := HB.out.c3
          have z4 := HB.out.c4
          have c1 := upr_put HI.out HB.out (by have := HZ.out.2.2; omega) HZ.out.1
          have hR : ∀ w2, UPr Up w w2 pb rb ab _ _ _ vL i → _ := fun w2 h => upr_rput HI.out h HO.out (by have := HZ.out.2.2; omega) HZ.out.1
          simp only at z2 z3 z4 c1 hR
          generalize hGee : puE _ _ = ee at c1 hR
          generalize hGuu : puU _ _ = u2 at c1 hR
          clear hGee hGuu
          obtain ⟨um2, ur2, ⟨pa2, pp2⟩, L2, lo2, tl2⟩ := u2
          simp only at hR
          have HRf := Lib.hid hR
          clear hR
          go_wp2_with fail
          refine c1.mono ?_
          rintro e w2 ⟨rfl, h2⟩
          have H2 := Lib.hid h2
          have y2 := H2.out.c2
          have y3 := H2.out.c3
          have y4 := H2.out.c4
          simp only at y2 y3 y4
          clear c1 h2 z2 z3 z4
          go_wp2_with fail
          refine (HC.out _ _).mono ?_
          rintro e w' ⟨rfl, hw⟩
          subst w'
          have c2 := HRf.out w2 H2.out
          go_wp2_with (show wpList _ _ _ (⟨some 86, .load 37 (.tmp 9), _, _, _, _⟩ :: _) _ _; refine wpList_load_u w2 rfl _ rfl rb um ur pa pp vL lo tl rfl H2.out.blk ?_)
          refine c2.mono ?_
          rintro e w3 ⟨vL2, rfl, h3, g3⟩
          obtain ⟨⟨VA, vn, vc, rfl⟩, -⟩ := id h3
          have H3 : Hid (RBack Up w w3 pb rb ab _ _ (.slice VA vn vc) i ∧ UbB w3 rb um ur pa pp vL lo tl ∧ Grow w2 w3) := ⟨h3, H2.out.blk.grow g3, g3⟩
          clear c2 h3 g3 y2 y3 y4
          go_wp2_with (first | (show wpList _ _ _ (⟨none, .store 37 (.tmp 9) (.tmp 90), _, _, _, _⟩ :: _) _ _; refine wpList_store_u w w3 rfl _ _ rfl rfl rb um2 ur2 pa2 pp2 (.slice VA vn vc) lo2 tl2 (ubA um ur pa pp vL lo tl) rfl rfl H3.out.2.1 rfl (ub_ones1 rfl _ _ _ _ _ _) (Grow.trans H2.out.g H3.out.2.2) H2.out.low.1 ?_; intro w4 hb4 hk4 hg4; have H4 := Lib.hid (H3.out.1.2 w3 (Grow.refl _) w4 hb4 hk4 hg4); clear hb4 hk4 hg4))
          go_meet
          exact ⟨_, .slice VA vn vc, ee, rfl, rfl, H4.out⟩
        have e0 : (d == 0) = false := beq_eq_false_iff_ne.2 d0
        by_cases d1 : d = 1
        · subst d1
          have z1 := HB.out.c1
          have c1 := upr_take HI.out HB.out n HZ.out.1.1.2.1
          have hR : ∀ w2, UPr Up w w2 pb rb ab (⟨1, n, ⟨⟨ea, ep⟩, dA, dn, dc, db⟩⟩ : Ua) _ _ vL i → _ := fun w2 h => upr_rtake HI.out n h HO.out
          simp only at z1 c1 hR
          generalize hGee : tkuE _ _ = ee at c1 hR
          generalize hGnn : tkuN _ _ = nn at c1 hR
          generalize hGmm : tkuM _ _ = tm at c1 hR
          generalize hGuu : tkuU _ _ = u2 at c1 hR
          clear hGee hGuu hGnn hGmm
          obtain ⟨um2, ur2, ⟨pa2, pp2⟩, L2, lo2, tl2⟩ := u2
          obtain ⟨⟨fa, fp⟩, td⟩ := tm
          simp only at c1 hR
          have HRf := Lib.hid hR
          clear hR
          go_wp2_with fail
          refine c1.mono ?_
          rintro e w1 ⟨v1, rfl, hb1, h1⟩
          obtain ⟨A1, n1, k1, rfl, -⟩ := hb1.form2
          obtain ⟨w2, hw2⟩ : ∃ w2, w2 = w1.alloc (.cells #[.int .u32 fa, .int .u16 fp, .slice A1 n1 k1] 40) := ⟨_, rfl⟩
          have g2 : Grow w1 w2 := by rw [hw2]; exact Grow.alloc _ _
          obtain ⟨q1, hq1⟩ : ∃ q1, q1 = w1.heap.size := ⟨_, rfl⟩
          have H2 := Lib.hid (h1.grow HI.out g2)
          have HM2 : Hid (MlB w2 q1 fa fp (.slice A1 n1 k1) ∧ Byt w2 (.slice A1 n1 k1) td) := ⟨by rw [hw2, hq1]; exact heap_alloc_new w1 _, hb1.grow g2⟩
          have y1 := H2.out.c1
          simp only at y1
          have HVL : Hid (∃ A n c, vL = Value.slice A n c) := by
            obtain ⟨l9, r9, -⟩ := H2.out.row
            obtain ⟨A9, c9, e9, -⟩ := r9.form
            exact ⟨_, _, _, e9⟩
          have c2 := HRf.out w2 H2.out
          clear c1 h1 hb1 g2 z1
          go_upto_region 20 with fail
          rw [← hw2, ← hq1]
          clear hw2 hq1
          go_wp2_with (show wpList _ _ _ (⟨some 103, .load 37 (.tmp 9), _, _, _, _⟩ :: _) _ _; refine wpList_load_u w2 rfl _ rfl rb um ur pa pp vL lo tl rfl H2.out.blk ?_)
          refine c2.mono ?_
          rintro e w3 ⟨vL2, B3, n3, k3, rfl, h3, hb3, g3⟩
          obtain ⟨⟨VA, vn, vc, rfl⟩, -⟩ := id h3
          have H3 := Lib.hid (And.intro h3 (And.intro hb3 g3))
          clear c2 h3 hb3 g3 y1
          obtain ⟨W4, hW4⟩ : ∃ W4, W4 = (w3.alloc (.cells #[.int .i64 um2, .int .i64 ur2, .int .u32 pa2, .int .u16 pp2, .slice VA vn vc, .int .i64 lo2, .int .i64 tl2] 37)).alloc (.cells #[.int .u32 fa, .int .u16 fp, .slice B3 n3 k3] 40) := ⟨_, rfl⟩
          obtain ⟨q2, hq2⟩ : ∃ q2, q2 = w3.heap.size := ⟨_, rfl⟩
          obtain ⟨q3, hq3⟩ : ∃ q3, q3 = q2 + 1 := ⟨_, rfl⟩
          have H4a : Hid (UbB W4 q2 um2 ur2 pa2 pp2 (.slice VA vn vc) lo2 tl2 ∧ MlB W4 q3 fa fp (.slice B3 n3 k3) ∧ Grow w3 W4) := by
            have ga := Grow.alloc w3 (.cells #[.int .i64 um2, .int .i64 ur2, .int .u32 pa2, .int .u16 pp2, .slice VA vn vc, .int .i64 lo2, .int .i64 tl2] 37)
            have gb := Grow.alloc (w3.alloc (.cells #[.int .i64 um2, .int .i64 ur2, .int .u32 pa2, .int .u16 pp2, .slice VA vn vc, .int .i64 lo2, .int .i64 tl2] 37)) (.cells #[.int .u32 fa, .int .u16 fp, .slice B3 n3 k3] 40)
            have hs : (w3.alloc (.cells #[.int .i64 um2, .int .i64 ur2, .int .u32 pa2, .int .u16 pp2, .slice VA vn vc, .int .i64 lo2, .int .i64 tl2] 37)).heap.size = w3.heap.size + 1 := Array.size_push _
            rw [hq3, hq2, hW4]
            refine ⟨UbB.grow (w := w3.alloc (.cells #[.int .i64 um2, .int .i64 ur2, .int .u32 pa2, .int .u16 pp2, .slice VA vn vc, .int .i64 lo2, .int .i64 tl2] 37)) (heap_alloc_new w3 _) gb, ?_, ga.trans gb⟩
            rw [← hs]
            exact heap_alloc_new _ _
          have H4b : Hid (UbB W4 rb um ur pa pp vL lo tl ∧ MlB W4 q1 fa fp (.slice A1 n1 k1) ∧ Byt W4 (.slice A1 n1 k1) td ∧ Byt W4 (.slice B3 n3 k3) td ∧ Grow w2 W4) := ⟨(H2.out.blk.grow H3.out.2.2).grow H4a.out.2.2, (HM2.out.1.grow H3.out.2.2).grow H4a.out.2.2, (HM2.out.2.grow H3.out.2.2).grow H4a.out.2.2, ((H3.out.2.1.grow H2.out.g).grow H3.out.2.2).grow H4a.out.2.2, H3.out.2.2.trans H4a.out.2.2⟩
          go_upto_region 21 with fail
          rw [← hW4, ← hq2, ← hq3]
          clear hW4 hq2 hq3
          go_wp2_with (first
            | (show wpList _ _ _ (⟨some 111, .load 37 (.tmp 17), _, _, _, _⟩ :: _) _ _; refine wpList_load_u W4 rfl _ rfl q2 um2 ur2 pa2 pp2 (.slice VA vn vc) lo2 tl2 rfl H4a.out.1 ?_)
            | (show wpList _ _ _ (⟨none, .store 37 (.tmp 9) (.tmp 111), _, _, _, _⟩ :: _) _ _; refine wpList_store_u w W4 rfl _ _ rfl rfl rb um2 ur2 pa2 pp2 (.slice VA vn vc) lo2 tl2 (ubA um ur pa pp vL lo tl) rfl rfl H4b.out.1 rfl (ub_ones1 rfl _ _ _ _ _ _) (Grow.trans H2.out.g H4b.out.2.2.2.2) H2.out.low.1 ?_; intro w5 hb5 hk5 hg5; have H5 : Hid (UPr Up w w5 pb rb ab _ _ _ (.slice VA vn vc) (i + 1) ∧ MlB w5 q1 fa fp (.slice A1 n1 k1) ∧ MlB w5 q3 fa fp (.slice B3 n3 k3) ∧ Byt w5 (.slice A1 n1 k1) td ∧ Byt w5 (.slice B3 n3 k3) td) := ⟨H3.out.1.2 W4 H4a.out.2.2 w5 hb5 hk5 hg5, (hk5.2 q1 fun e => absurd (block_ty H4b.out.2.1 (e ▸ H4b.out.1) rfl) (by decide)).trans H4b.out.2.1, (hk5.2 q3 fun e => absurd (block_ty H4a.out.2.1 (e ▸ H4b.out.1) rfl) (by decide)).trans H4a.out.2.1, byt_box H4b.out.2.2.1 H4b.out.1 HVL.out hk5, byt_box H4b.out.2.2.2.1 H4b.out.1 HVL.out hk5⟩; clear hb5 hk5 hg5))
          refine (HC.out _ _).mono ?_
          rintro e w' ⟨rfl, hw⟩
          subst w'
          have x0 := H5.out.2.1.c0
          have x1 := H5.out.2.1.c1
          have x2 := H5.out.2.1.c2
          have y0 := H5.out.2.2.1.c0
          have y1 := H5.out.2.2.1.c1
          have y2 := H5.out.2.2.1.c2
          have cS := rSameU w5 ⟨fa, fp⟩ _ _ td H5.out.2.2.2.1 H5.out.2.2.2.2
          simp only at cS
          go_wp2_with fail
          refine cS.mono ?_
          rintro e w6 ⟨rfl, g6⟩
          have H6 := Lib.hid (H5.out.1.grow HI.out g6)
          clear cS g6 x0 x1 x2 y0 y1 y2
          go_wp2_with fail
          go_meet
          exact ⟨_, .slice VA vn vc, ee, rfl, rfl, H6.out⟩
        have e1 : (d == 1) = false := beq_eq_false_iff_ne.2 d1
        by_cases d2 : d = 2
        · subst d2
          have z2 := HB.out.c2
          have z3 := HB.out.c3
          have c1 := upr_meet HI.out HB.out (by have := HZ.out.2.2; omega) ⟨ea, ep⟩ HZ.out.1.1.2.2.1
          have hR : ∀ w2, UPr Up w w2 pb rb ab (⟨2, n, ⟨⟨ea, ep⟩, dA, dn, dc, db⟩⟩ : Ua) _ _ vL i → _ := fun w2 h => upr_rmeet HI.out ⟨ea, ep⟩ h HO.out (by have := HZ.out.2.2; omega)
          simp only at z2 z3 c1 hR
          generalize hGee : meE _ = ee at c1 hR
          generalize hGuu : meU _ _ = u2 at c1 hR
          clear hGee hGuu
          obtain ⟨um2, ur2, ⟨pa2, pp2⟩, L2, lo2, tl2⟩ := u2
          simp only at hR
          have HRf := Lib.hid hR
          clear hR
          go_wp2_with fail
          refine c1.mono ?_
          rintro e w2 ⟨rfl, h2⟩
          have H2 := Lib.hid h2
          have y2 := H2.out.c2
          have y3 := H2.out.c3
          simp only at y2 y3
          clear c1 h2 z2 z3
          go_wp2_with fail
          refine (HC.out _ _).mono ?_
          rintro e w' ⟨rfl, hw⟩
          subst w'
          have c2 := HRf.out w2 H2.out
          go_wp2_with (show wpList _ _ _ (⟨some 133, .load 37 (.tmp 9), _, _, _, _⟩ :: _) _ _; refine wpList_load_u w2 rfl _ rfl rb um ur pa pp vL lo tl rfl H2.out.blk ?_)
          refine c2.mono ?_
          rintro e w3 ⟨vL2, rfl, h3, g3⟩
          obtain ⟨⟨VA, vn, vc, rfl⟩, -⟩ := id h3
          have H3 : Hid (RBack Up w w3 pb rb ab _ _ (.slice VA vn vc) i ∧ UbB w3 rb um ur pa pp vL lo tl ∧ Grow w2 w3) := ⟨h3, H2.out.blk.grow g3, g3⟩
          clear c2 h3 g3 y2 y3
          go_wp2_with (first | (show wpList _ _ _ (⟨none, .store 37 (.tmp 9) (.tmp 138), _, _, _, _⟩ :: _) _ _; refine wpList_store_u w w3 rfl _ _ rfl rfl rb um2 ur2 pa2 pp2 (.slice VA vn vc) lo2 tl2 (ubA um ur pa pp vL lo tl) rfl rfl H3.out.2.1 rfl (ub_ones1 rfl _ _ _ _ _ _) (Grow.trans H2.out.g H3.out.2.2) H2.out.low.1 ?_; intro w4 hb4 hk4 hg4; have H4 := Lib.hid (H3.out.1.2 w3 (Grow.refl _) w4 hb4 hk4 hg4); clear hb4 hk4 hg4))
          go_meet
          exact ⟨_, .slice VA vn vc, ee, rfl, rfl, H4.out⟩
        have e2 : (d == 2) = false := beq_eq_false_iff_ne.2 d2
        by_cases d3 : d = 3
        · subst d3
          have z1 := HB.out.c1
          have c1 := upr_tell HI.out HB.out n HZ.out.1.1.2.1
          simp only at z1 c1
          go_wp2_with fail
          refine c1.mono ?_
          rintro e w2 ⟨rfl, h2⟩
          have y1 := h2.c1
          have y6 := h2.blk.c6
          have f6 := h2.blk.fz 6
          simp only at y1 y6
          rcases told_cases ⟨um, ur, ⟨pa, pp⟩, L, lo, tl⟩ n with ⟨q1, q2⟩ | ⟨q1, q2⟩
          · have H2 := Lib.hid (h2.told HI.out q1)
            have q1' : tl = 0 := q1
            subst q1'
            clear c1 h2 z1 q1 q2
            go_wp2_with fail
            go_meet
            exact ⟨_, vL, 0, rfl, rfl, H2.out.next⟩
          · rw [q2] at h2
            have H2 := Lib.hid h2
            simp only at q1
            clear c1 h2 z1 q2
            go_wp2_with fail
            go_meet
            exact ⟨_, vL, 0, rfl, rfl, H2.out.next⟩
        have e3 : (d == 3) = false := beq_eq_false_iff_ne.2 d3
        go_wp2_with fail
        go_meet
        exact ⟨_, vL, 0, rfl, rfl, HB.out.next⟩
      case rest =>
        obtain ⟨u2, vL2, f, rfl, rfl, HX⟩ := hcut
        obtain ⟨um2, ur2, ⟨pa2, pp2⟩, L2, lo2, tl2⟩ := u2
        have hok := HX.out.ok HI.out
        obtain ⟨l2, r1, r2, r3⟩ := HX.out.row
        simp only at r2
        subst r2
        obtain ⟨A2, c2, rfl, -⟩ := r1.form
        have hlen := hok.len
        have hheld := hok.held
        have hroom := hok.room
        have hmost := hok.most
        simp only [List.length_map] at hlen hheld hroom hmost
        obtain ⟨N2, hN2⟩ : ∃ N2, N2 = l2.length := ⟨_, rfl⟩
        have HXn : Hid (N2 = l2.length ∧ N2 ≤ 64 ∧ heldL (l2.map Mc.ml) ≤ 1048576 ∧ Mcs wc w.heap.size (.slice A2 N2 c2) l2 ∧ Reads w l2) := ⟨hN2, by omega, by omega, by rw [hN2]; exact r1, r3⟩
        rw [← hN2] at HX
        clear hok r1 r3 hlen hheld hroom hmost hN2
        obtain ⟨S, p1, p2⟩ := HX.out.p
        have cP := HI.out.peer p1
        simp only at cP
        have HP := Lib.hid p1
        clear p1 p2
        have hrd : (0 < N2 ∧ readyU ⟨um2, ur2, ⟨pa2, pp2⟩, l2.map Mc.ml, lo2, tl2⟩ = true) ∨ (N2 = 0 ∧ readyU ⟨um2, ur2, ⟨pa2, pp2⟩, l2.map Mc.ml, lo2, tl2⟩ = (tl2 != 0)) := by
          have e := HXn.out.1
          unfold readyU
          simp only [List.length_map, ← e]
          by_cases q1 : 0 < N2
          · exact .inl ⟨q1, by simp [q1]⟩
          · exact .inr ⟨by omega, by rw [decide_eq_false q1, Bool.false_or]; by_cases q : tl2 = 0 <;> simp [q]⟩
        have hpd := end_ne pa2 pp2
        obtain ⟨H2, hH2⟩ : ∃ H2, H2 = heldL (l2.map Mc.ml) := ⟨_, rfl⟩
        have HH2 := Lib.hid hH2
        clear hH2
        go_wp2_with fail
        refine cP.mono ?_
        rintro e w5 ⟨rfl, g5⟩
        obtain ⟨W5, hW5⟩ : ∃ W5, W5 = w5.alloc (.cells #[.int .u32 pa2, .int .u16 pp2] 34) := ⟨_, rfl⟩
        obtain ⟨qe, hqe⟩ : ∃ qe, qe = w5.heap.size := ⟨_, rfl⟩
        have ga : Grow w5 W5 := by rw [hW5]; exact Grow.alloc _ _
        have HG5 : Hid (Grow wc W5) := g5.trans ga
        have HF5 := Lib.hid (HX.out.grow HI.out HG5.out)
        have hen : W5.heap[qe]? = some (.cells #[.int .u32 pa2, .int .u16 pp2] 34 (0, 0)) := by rw [hW5, hqe]; exact heap_alloc_new w5 _
        have hel : qe < W5.heap.size := (Array.getElem?_eq_some_iff.1 hen).1
        have hbl : UbB W5 rb um2 ur2 pa2 pp2 (.slice A2 N2 c2) lo2 tl2 := HF5.out.blk
        have k0 := fun q : Gw W5 => Gw.cell (p := q) (a := ⟨rb, 0, none⟩) hbl.lt hbl.c0
        have k1 := fun q : Gw W5 => Gw.cell (p := q) (a := ⟨rb, 1, none⟩) hbl.lt hbl.c1
        have k2 := fun q : Gw W5 => Gw.cell (p := q) (a := ⟨rb, 2, none⟩) hbl.lt hbl.c2
        have k3 := fun q : Gw W5 => Gw.cell (p := q) (a := ⟨rb, 3, none⟩) hbl.lt hbl.c3
        have k4 := fun q : Gw W5 => Gw.cell (p := q) (a := ⟨rb, 4, none⟩) hbl.lt hbl.c4
        have k5 := fun q : Gw W5 => Gw.cell (p := q) (a := ⟨rb, 5, none⟩) hbl.lt hbl.c5
        have k6 := fun q : Gw W5 => Gw.cell (p := q) (a := ⟨rb, 6, none⟩) hbl.lt hbl.c6
        have e0 := fun q : Gw W5 => Gw.cell (p := q) (a := ⟨qe, 0, none⟩) hel ((cell_of_row W5 qe 0 _ _ _ hen).trans rfl)
        have e1 := fun q : Gw W5 => Gw.cell (p := q) (a := ⟨qe, 1, none⟩) hel ((cell_of_row W5 qe 1 _ _ _ hen).trans rfl)
        have cLen : ∀ q : Gw W5, _ := fun q => Calls.gw (p := q) (v := .int .i64 (N2 : Int)) (by have := HI.out.len (HI.out.grow (HI.out.grow HP.out HG5.out) q.h); simp only [List.length_map, ← HXn.out.1] at this; exact this)
        have cHeld : ∀ q : Gw W5, _ := fun q => Calls.gw (p := q) (v := .int .i64 (H2 : Int)) (by have := HI.out.held (HI.out.grow (HI.out.grow HP.out HG5.out) q.h); simp only [← HH2.out] at this; exact this)
        have cRHeld : ∀ q : Gw W5, _ := fun q => Calls.gw (p := q) (v := .int .i64 (H2 : Int)) (by have := rHeldU q.v w.heap.size um2 ur2 pa2 pp2 (.slice A2 N2 c2) lo2 tl2 l2 ((HXn.out.2.2.2.1.grow HG5.out).grow q.h) (HXn.out.2.2.2.2.grow (HF5.out.g.trans q.h)) (by have := HXn.out; omega) HXn.out.2.2.1; rw [← HH2.out] at this; exact this)
        have cLost : ∀ q : Gw W5, _ := fun q => Calls.gw (p := q) (HI.out.lost (HI.out.grow (HI.out.grow HP.out HG5.out) q.h))
        have cReady : ∀ q : Gw W5, _ := fun q => Calls.gw (p := q) (HI.out.ready (HI.out.grow (HI.out.grow HP.out HG5.out) q.h))
        simp only at cLost
        generalize readyU ⟨um2, ur2, ⟨pa2, pp2⟩, l2.map Mc.ml, lo2, tl2⟩ = rd at cReady hrd
        generalize decide ((⟨pa2, pp2⟩ : Ed) ≠ noE) = pd at hpd ⊢
        clear cP g5 ga hen hel hbl
        rcases hrd with ⟨n1, rfl⟩ | ⟨rfl, rfl⟩
        · go_upto_region 33 with fail
          rw [← hW5, ← hqe]
          have HW5 := Lib.hid (And.intro hW5 hqe)
          clear hW5 hqe
          refine wp_region_gw (by kernel_rfl) (by kernel_rfl) ?_
          repeat (go_big_quiet_step ((first | (go_at_call 19; exact cLen _) | (go_at_call 20; exact cHeld _) | (go_at_call 21; exact cRHeld _) | (go_at_call 22; exact cLost _) | (go_at_call 23; exact cReady _))))
          refine wpQuiet_nil ?_
          intro _ hw'
          obtain ⟨⟨wq, hgq⟩, hw2'⟩ := hw'
          subst hw2'
          rename World => wq
          have HF2 := Lib.hid (HF5.out.grow HI.out hgq).fin
          clear hgq k0 k1 k2 k3 k4 k5 k6 e0 e1 cLen cHeld cRHeld cLost cReady
          go_wp2_with fail
          go_roundg (N - (i + 1))
          case measure => have := HZ.out.2.1; omega
          case rel => exact ⟨i + 1, _, _, rfl, by first | rfl | exact congrArg _ (by omega) | go_num, by have := HZ.out.2.1; omega, HF2.out⟩
        · go_upto_region 33 with fail
          rw [← hW5, ← hqe]
          have HW5 := Lib.hid (And.intro hW5 hqe)
          clear hW5 hqe
          refine wp_region_gw (by kernel_rfl) (by kernel_rfl) ?_
          repeat (go_big_quiet_step ((first | (go_at_call 19; exact cLen _) | (go_at_call 20; exact cHeld _) | (go_at_call 21; exact cRHeld _) | (go_at_call 22; exact cLost _) | (go_at_call 23; exact cReady _))))
          refine wpQuiet_nil ?_
          intro _ hw'
          obtain ⟨⟨wq, hgq⟩, hw2'⟩ := hw'
          subst hw2'
          rename World => wq
          have HF2 := Lib.hid (HF5.out.grow HI.out hgq).fin
          clear hgq k0 k1 k2 k3 k4 k5 k6 e0 e1 cLen cHeld cRHeld cLost cReady
          go_wp2_with fail
          go_roundg (N - (i + 1))
          case measure => have := HZ.out.2.1; omega
          case rel => exact ⟨i + 1, _, _, rfl, by first | rfl | exact congrArg _ (by omega) | go_num, by have := HZ.out.2.1; omega, HF2.out⟩
    · obtain rfl : i = N := by have := HR.out.1; omega
      have c0 := HLv.out wa
      have G0 := Lib.hid HR.out.2.g
      clear hge
      go_wp2_with fail
      refine c0.mono ?_
      rintro e w' ⟨rfl, hg⟩
      have HG := Lib.hid (Grow.trans G0.out hg)
      clear c0 hg
      go_wp2_with fail
      go_ret
      exact ⟨rfl, HG.out⟩
end Go.Proofs.Ytkblgigpgpjjlaa
