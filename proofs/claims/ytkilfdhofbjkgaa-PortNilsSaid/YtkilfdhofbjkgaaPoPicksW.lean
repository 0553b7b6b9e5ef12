/- PortPicks: its walk. -/
import Derived.Test.YtkilfdhofbjkgaaPoPickP
namespace Go.Proofs.Ytkilfdhofbjkgaa
set_option linter.unusedVariables false
set_option linter.unusedSimpArgs false
open Go.ChangeShapes Go.WideShapes Go.ChangeAt Go.RowKit

set_option maxRecDepth 100000 in
set_option maxHeartbeats 8000000 in
theorem portPicks_if {Pp : PoT} (I : OIf Pp) (w : World) {v : Value} {l : List Pa} (hl0 : Pas w v l) (n : Int) (hn : In32 n) {vq : Value} {qq : Qd} (hq : vq = qdV qq ∧ qq.Ok) : Calls Try.prog 4 #[v, .int .u32 n, vq] w fun e w' => e = .returned (.bool true) ∧ Below w.heap.size w w' := by
  obtain ⟨rfl, hqo⟩ := hq
  obtain ⟨⟨qa, qp⟩, qa2, qp2⟩ := qq
  obtain ⟨W, hW⟩ : ∃ W, W = w.alloc (.cells #[.int .u32 qa, .int .u16 qp, .int .u32 qa2, .int .u16 qp2] 42) := ⟨_, rfl⟩
  have hgW : Grow w W := by rw [hW]; exact Grow.alloc _ _
  have hqd : QdB W w.heap.size qa qp qa2 qp2 := by rw [hW]; exact heap_alloc_new w _
  have hl := hl0.grow hgW
  have HW0 := Lib.hid (And.intro hgW (And.intro hqd (And.intro hqo hn)))
  have HLv := Lib.hid (fun w => olive_any I w)
  have HV := Lib.hid hl
  have HI := Lib.hid I
  obtain ⟨A0, cp0, e0, hlc, hcm, _, _⟩ := hl
  obtain ⟨N, hN⟩ : ∃ N, N = l.length := ⟨_, rfl⟩
  rw [← hN] at e0
  subst e0
  have HN := Lib.hid hN
  clear hN hlc hcm hl0 hgW hqd hqo hn
  by_cases q : 100 < N
  · have q1 : (100 : Int) < (N : Int) := by omega
    go_enter Try.func4, Try.ntmps4
    go_upto_region 1 with fail
    rw [← hW]
    have HW := Lib.hid hW
    clear hW
    go_wp2_with fail
    refine (HLv.out _).mono ?_
    rintro e w' ⟨rfl, g⟩
    have G := Lib.hid g
    clear g
    go_wp2_with fail
    go_ret
    exact ⟨rfl, Grow.trans HW0.out.1 G.out⟩
  have q1 : ¬ ((100 : Int) < (N : Int)) := by omega
  have HQ : Hid (N ≤ 100) := Lib.hid (by omega)
  clear q
  have c0 := I.new W 40 60 (by unfold In64; omega) (by unfold In64; omega) (by omega)
  clear I
  go_enter Try.func4, Try.ntmps4
  go_upto_region 1 with fail
  rw [← hW]
  have HW := Lib.hid hW
  clear hW
  go_wp2_with fail
  refine c0.mono ?_
  rintro e w1 ⟨pb, rfl, p1, g1⟩
  have H1 := Lib.hid (And.intro p1 g1)
  clear c0 p1 g1
  go_wp2_with fail
  refine (ocode_any _ _).mono ?_
  rintro e w' ⟨rfl, hw⟩
  subst w'
  go_wp2_with fail
  refine (rNewT w1 40 60).mono ?_
  rintro e w2 ⟨v2, rfl, ⟨vB0, vJ0, rfl, hB0, hJ0⟩, g2⟩
  obtain ⟨V, hV⟩ : ∃ V, V = w2.alloc (.cells (tbA 0 0 0 (.slice none 0 0) (.slice none 0 0)) 32) := ⟨_, rfl⟩
  obtain ⟨gb, hgb⟩ : ∃ X, X = w2.heap.size := ⟨_, rfl⟩
  have gV : Grow w2 V := by rw [hV]; exact Grow.alloc _ _
  have hVb : TbB V gb 0 0 0 (.slice none 0 0) (.slice none 0 0) := by rw [hV, hgb]; exact heap_alloc_new w2 _
  have g3 := H1.out.2.trans (g2.trans gV)
  have HR0 := Lib.hid (And.intro (OwG.base_ (hB0.grow gV) H1.out.2.size) (OwG.base_ (hJ0.grow gV) H1.out.2.size))
  have HP0 := Lib.hid (HI.out.grow H1.out.1 (g2.trans gV))
  have HX0 := Lib.hid (And.intro hVb (And.intro g3 (show W.heap.size ≤ gb by rw [hgb]; exact Nat.le_trans H1.out.2.size g2.size)))
  clear hB0 hJ0 g2 gV hVb g3
  go_wp2_with (show wpList _ _ _ (⟨none, .store 32 (.tmp 9) (.tmp 38), _, _, _, _⟩ :: _) _ _; rw [← hV, ← hgb]; refine wpList_store_t W V rfl _ _ rfl rfl gb 40 60 60 0 0 0 vB0 vJ0 (.slice none 0 0) (.slice none 0 0) rfl rfl HX0.out.1 (tb_ones HR0.out.1 HR0.out.2 _ _ _) HX0.out.2.1 HX0.out.2.2 ?_; intro W3 hb3 hk3 hg3; have H0 : Hid (OR Pp W W3 pb gb (noneT 40 60) vB0 vJ0) := OR.put HI.out HP0.out HR0.out.1 HR0.out.2 HX0.out.1 hb3 hk3 hg3 HX0.out.2.2; clear hb3 hk3 hg3 hV hgb)
  clear HR0 HP0 HX0 H1
  go_loopg [10] N (fun gk s10 wr => ∃ (i : Nat) (t : Prt) (vB vJ : Value), gk = N - i ∧ s10 = .int .i64 (i : Int) ∧ Hid (i ≤ N ∧ OR Pp W wr pb gb t vB vJ ∧ t.lo = 40 ∧ t.hi = 60 ∧ t.B.length ≤ i ∧ t.J.length ≤ i))
  case atStart => exact ⟨0, _, _, _, rfl, rfl, Nat.zero_le _, H0.out, rfl, rfl, Nat.le_refl _, Nat.le_refl _⟩
  case round =>
    obtain ⟨i, t, vB, vJ, rfl, rfl, HR⟩ := hrel
    rename World => wa
    clear H0
    rcases Nat.lt_or_ge i N with hlt | hge
    · obtain ⟨A9, c9, e9, _, _, hok, hcell⟩ := HV.out
      obtain ⟨b, off, hA, hb, hc⟩ := hcell (by have := HN.out; omega)
      obtain ⟨x, hx⟩ : ∃ x, l[i]? = some x := ⟨_, List.getElem?_eq_getElem (by have := HN.out; omega)⟩
      have hz := hok x (List.mem_iff_getElem?.2 ⟨i, hx⟩)
      have hA0 : A0 = some ⟨b, off, none⟩ := by rw [hA] at e9; injection e9
      have hE : ∀ q, Grow W q → q.cell? ⟨b, off + i * 6, none⟩ = some (.int .i64 x.d) ∧ q.cell? ⟨b, off + i * 6 + 1, none⟩ = some (.int .i64 x.o) ∧ q.cell? ⟨b, off + i * 6 + 2, none⟩ = some (.int .u32 x.q.l.ad) ∧ q.cell? ⟨b, off + i * 6 + 3, none⟩ = some (.int .u16 x.q.l.po) ∧ q.cell? ⟨b, off + i * 6 + 4, none⟩ = some (.int .u32 x.q.r.ad) ∧ q.cell? ⟨b, off + i * 6 + 5, none⟩ = some (.int .u16 x.q.r.po) := fun q g => by
        obtain ⟨x0, x1, x2, x3, x4, x5⟩ := hc i x hx
        exact ⟨(g.cell (p := ⟨b, off + i * 6, none⟩) hb).trans x0, (g.cell (p := ⟨b, off + i * 6 + 1, none⟩) hb).trans x1, (g.cell (p := ⟨b, off + i * 6 + 2, none⟩) hb).trans x2, (g.cell (p := ⟨b, off + i * 6 + 3, none⟩) hb).trans x3, (g.cell (p := ⟨b, off + i * 6 + 4, none⟩) hb).trans x4, (g.cell (p := ⟨b, off + i * 6 + 5, none⟩) hb).trans x5⟩
      obtain ⟨d, o, ⟨a, p⟩, a2, p2⟩ := x
      simp only at hE
      have HE := Lib.hid hE
      have HX := Lib.hid hz
      have i0 : (i : Int) < (N : Int) := by omega
      have D0 := Lib.hid i0
      have kb : i < 100 := by have := HQ.out; omega
      have HZ := Lib.hid hlt
      obtain ⟨t', hT⟩ : ∃ t', t' = stT t ⟨d, o, ⟨⟨a, p⟩, a2, p2⟩⟩ := ⟨_, rfl⟩
      have HT := Lib.hid hT
      have HTk : Hid (t'.lo = 40 ∧ t'.hi = 60 ∧ t'.B.length ≤ i + 1 ∧ t'.J.length ≤ i + 1) := by
        obtain ⟨k1, k2, k3, k4⟩ := stT_keeps t ⟨d, o, ⟨⟨a, p⟩, a2, p2⟩⟩
        rw [← hT] at k1 k2 k3 k4
        obtain ⟨_, _, m1, m2, m3, m4⟩ := HR.out
        exact ⟨k1.trans m1, k2.trans m2, by omega, by omega⟩
      have HSz : Hid (W.heap.size ≤ wa.heap.size ∧ gb < wa.heap.size) := ⟨HR.out.2.1.g.size, HR.out.2.1.tb.lt⟩
      subst hA0
      obtain ⟨cp, hcp⟩ : ∃ c, c = cp0 := ⟨_, rfl⟩
      subst hcp
      clear e9 hA hok hcell hc hz hE hlt hb hx hT
      go_upto_region 10 with fail
      refine wp_region_state (A := ?frameS10) (inVals4 (isW4 (.pointer (some ⟨pb, 0, none⟩)) :: isW4 (.agg (tbA t.lo t.hi t.la vB vJ)) :: isW4 (.slice (some ⟨b, off, none⟩) N cp) :: isW4 (.int .i64 (i : Int)) :: isW4 (.pointer (some ⟨b, off + i * 6, none⟩)) :: isW4 (.agg #[.int .i64 d, .int .i64 o, .int .u32 a, .int .u16 p, .int .u32 a2, .int .u16 p2]) :: isAll4 :: isAll4 :: isAll4 :: isAll4 :: isAll4 :: isAll4 :: isAll4 :: [])) (fun L x q => JS Pp W wa q pb gb t t' vB vJ (L 6) (L 7) (L 8) (L 9) (L 10) (L 11) (L 12) (x 52) (x 45) (x 53) (x 54) (x 11) (x 12)) (by kernel_rfl) (by kernel_rfl) (fun x => ?frameEqS10) (fun L x hL => ?_) ?_ ?_
      case frameEqS10 => go_simp; rfl
      · exact JS.start (HR.out.2.1.grow HI.out (Grow.drew _)) (Grow.drew wa).size (hL 6 (by decide)) (hL 7 (by decide)) (hL 8 (by decide)) (hL 9 (by decide)) (hL 10 (by decide)) (hL 11 (by decide)) (hL 12 (by decide))
      · refine ⟨fun L x w1 hJ hl hd post hp => ?_, fun L x w1 hJ hl hd post hp => ?_, fun L x w1 hJ hl hd post hp => ?_, fun L x w1 hJ hl hd post hp => ?_, fun L x w1 hJ hl hd post hp => ?_, fun L x w1 hJ hl hd post hp => ?_, fun L x w1 hJ hl hd post hp => ?_, fun L x w1 hJ hl hd post hp => ?_, fun L x w1 hJ hl hd post hp => ?_, fun L x w1 hJ hl hd post hp => ?_, fun L x w1 hJ hl hd post hp => ?_, fun L x w1 hJ hl hd post hp => ?_, fun L x w1 hJ hl hd post hp => ?_, trivial⟩
        · -- 0: slot 46: Op.move t7
          clear hd
          go_simp
          exact hp _ _ rfl hJ
        · -- 1: slot 47: Op.load 32 t9
          clear hd
          refine upon_load_t w1 _ rfl rfl gb t.lo t.hi t.la vB vJ rfl hJ.tb ?_
          exact hp _ _ rfl hJ
        · -- 2: slot 48: Op.move t0
          clear hd
          go_simp
          exact hp _ _ rfl hJ
        · -- 3: slot 49: Op.move t10
          clear hd
          go_simp
          exact hp _ _ rfl hJ
        · -- 4: slot 50: Op.indexAddr 22 t48 t49
          have h48 : x 48 = .slice (some ⟨b, off, none⟩) N cp := (hd 2 (by decide)).2 _ rfl
          have h49 : x 49 = .int .i64 (i : Int) := (hd 3 (by decide)).2 _ rfl
          clear hd
          have d0 := D0.out
          go_simp
          exact hp _ _ rfl hJ
        · -- 5: slot 51: Op.load 44 t50
          have h50 : x 50 = .pointer (some ⟨b, off + i * 6, none⟩) := (hd 4 (by decide)).2 _ rfl
          clear hd
          obtain ⟨z0, z1, z2, z3, z4, z5⟩ := HE.out w1 hJ.g
          go_simp
          exact hp _ _ rfl hJ
        · -- 6: slot 52: Op.call { value (Operand.func 10), args := #[t46, t47, t51], argTypes := #[24, 3
          have h46 : x 46 = .pointer (some ⟨pb, 0, none⟩) := (hd 0 (by decide)).2 _ rfl
          have h47 : x 47 = .agg (tbA t.lo t.hi t.la vB vJ) := (hd 1 (by decide)).2 _ rfl
          have h51 : x 51 = .agg #[.int .i64 d, .int .i64 o, .int .u32 a, .int .u16 p, .int .u32 a2, .int .u16 p2] := (hd 5 (by decide)).2 _ rfl
          clear hd
          go_simp
          refine (stepT HI.out W w1 hJ.g pb t (hJ.p hl).pr _ ⟨vB, vJ, rfl, (hJ.p hl).hB, (hJ.p hl).hJ⟩ ⟨d, o, ⟨⟨a, p⟩, a2, p2⟩⟩ HX.out).mono ?_
          intro e w2 hp2
          obtain ⟨v', e1, _⟩ := id hp2
          rw [← HT.out] at hp2
          exact ⟨_, e1, hp _ _ trivial (JS.call hJ hl e1 hp2)⟩
        · -- 7: slot 45: Op.move t52
          have l6 : L 6 = true := (hd 6 (by decide)).1
          clear hd
          go_simp
          exact hp _ _ trivial (JS.move hJ l6 hl)
        · -- 8: slot 53: Op.extract t45 0
          have l7 : L 7 = true := (hd 7 (by decide)).1
          clear hd
          obtain ⟨r, e1, e2⟩ := JS.two hJ l7
          go_simp
          exact hp _ _ trivial (JS.fst hJ l7 hl e1)
        · -- 9: slot 54: Op.extract t45 1
          have l7 : L 7 = true := (hd 7 (by decide)).1
          clear hd
          obtain ⟨r, e1, e2⟩ := JS.two hJ l7
          go_simp
          exact hp _ _ trivial (JS.snd hJ l7 hl)
        · -- 10: slot 11: Op.alloc 32
          clear hd
          go_simp
          exact hp _ _ trivial (JS.alloc HI.out hJ hl)
        · -- 11: slot none:0: Op.store 32 t11 t53
          have l10 : L 10 = true := (hd 10 (by decide)).1
          have l8 : L 8 = true := (hd 8 (by decide)).1
          clear hd
          obtain ⟨kk, u0, u1, u2, ua, ub, uB, uJ, e1, e2, e3, e4, e5, e6⟩ := JS.box hJ l8 l10
          refine upon_cs W w1 rfl 32 (.tmp 11) (.tmp 53) rfl kk 0 (.agg (tbA t'.lo t'.hi t'.la uB uJ)) e1 e4 (tbA t'.lo t'.hi t'.la uB uJ).toList rfl 32 (tbA u0 u1 u2 ua ub) (tbA t'.lo t'.hi t'.la uB uJ) e3 sizeTb (tbA_ones e5 e6) (Nat.le_refl 5) rfl hJ.g (Nat.le_trans HSz.out.1 e2) ?_
          intro w2 h2 hb2 g2
          exact hp _ _ trivial (JS.store HI.out HSz.out.1 HSz.out.2 hJ l10 l8 hl e1 e4 e2 e3 h2 hb2 g2)
        · -- 12: slot 12: Op.assign t54
          have l9 : L 9 = true := (hd 9 (by decide)).1
          clear hd
          go_simp
          exact hp _ _ trivial (JS.last hJ l9 hl)
      · intro L x w1 hL hJ hd
        obtain ⟨kk, uB, uJ, e1, e2, e3, e4, e5, e6, e7, e8, e9⟩ := JS.done hJ (hL 6 (by decide)) (hL 7 (by decide)) (hL 8 (by decide)) (hL 9 (by decide)) (hL 10 (by decide)) (hL 11 (by decide)) (hL 12 (by decide))
        clear hJ hL hd
        rw [e1, e7]
        have HD := Lib.hid (And.intro e2 (And.intro e3 (And.intro e4 (And.intro e5 (And.intro e6 (And.intro e8 e9))))))
        clear e1 e2 e3 e4 e5 e6 e7 e8 e9
        go_wp2_with (first
          | (show wpList _ _ _ (⟨some 55, .load 32 (.tmp 11), _, _, _, _⟩ :: _) _ _; refine wpList_load_t w1 rfl _ rfl kk t'.lo t'.hi t'.la uB uJ rfl HD.out.2.1 ?_)
          | (show wpList _ _ _ (⟨none, .store 32 (.tmp 9) (.tmp 55), _, _, _, _⟩ :: _) _ _; refine wpList_store_t W w1 rfl _ _ rfl rfl gb t'.lo t'.hi t'.la t.lo t.hi t.la uB uJ vB vJ rfl rfl HD.out.2.2.2.2.2.2 (tb_ones HD.out.2.2.1 HD.out.2.2.2.1 _ _ _) HD.out.2.2.2.2.2.1 HR.out.2.1.low ?_; intro W4 hb3 hk3 hg3; have H4 : Hid (OR Pp W W4 pb gb t' uB uJ) := OR.put HI.out HD.out.2.2.2.2.1 HD.out.2.2.1 HD.out.2.2.2.1 HD.out.2.2.2.2.2.2 hb3 hk3 hg3 HR.out.2.1.low; clear hb3 hk3 hg3))
        go_roundg (N - (i + 1))
        case measure => have := HZ.out; omega
        case rel => exact ⟨i + 1, t', uB, uJ, rfl, by go_num, by have := HZ.out; omega, H4.out, HTk.out⟩
    · obtain rfl : i = N := by have := HR.out.1; omega
      have HK : Hid (PK Pp w W wa pb t qa qp qa2 qp2) := ⟨HR.out.2.1.pr, HW0.out.2.1.grow HR.out.2.1.g, HW0.out.2.1.lt, Grow.trans HW0.out.1 HR.out.2.1.g, HR.out.2.1.g.size⟩
      have HB : Hid (t.lo = 40 ∧ t.hi = 60 ∧ t.B.length ≤ 100 ∧ t.J.length ≤ 100) := by
        obtain ⟨_, _, m1, m2, m3, m4⟩ := HR.out
        have := HQ.out
        exact ⟨m1, m2, by omega, by omega⟩
      have HOk := Lib.hid (HI.out.ok HK.out.pr)
      have c1 := HI.out.pick HK.out.pr HK.out.z n HW0.out.2.2.2
      clear HR
      cases hS : pkS t n with
      | none =>
        rw [show pkP t n = 0 by unfold pkP; rw [hS], show pkE t n = 5 by unfold pkE; rw [hS], show pkT t n = t by unfold pkT; rw [hS]] at c1
        clear hS
        go_wp2_with fail
        refine c1.mono ?_
        rintro e w5 ⟨rfl, p5, o5⟩
        have H5 := Lib.hid (HK.out.prog p5 o5)
        clear c1 p5 o5
        go_wp2_with fail
        refine (ocode_any _ _).mono ?_
        rintro e w' ⟨rfl, hw⟩
        subst w'
        go_wp2_with fail
        refine (ocode_any _ _).mono ?_
        rintro e w' ⟨rfl, hw⟩
        subst w'
        go_wp2_with fail
        refine (HLv.out _).mono ?_
        rintro e w' ⟨rfl, g⟩
        have G := Lib.hid g
        clear g
        go_wp2_with fail
        go_ret
        exact ⟨rfl, Below.trans H5.out.g (Below.mono G.out H5.out.g.size)⟩
      | some P =>
        rw [show pkP t n = P by unfold pkP; rw [hS], show pkE t n = 0 by unfold pkE; rw [hS], show pkT t n = { t with la := P } by unfold pkT; rw [hS]] at c1
        have hP := pkS_some hS
        have hb1 := pk_bind HOk.out hS (by have := HB.out; omega)
        have hPr : 40 ≤ P ∧ P ≤ 60 := by have := HB.out; omega
        have r1 : decide (P < 40) = false := decide_eq_false (by omega)
        have r2 : decide (60 < P) = false := decide_eq_false (by omega)
        have HP := Lib.hid (And.intro hP (And.intro hb1 hPr))
        have HEd : Hid (Ed.Ok ⟨n, P⟩) := ⟨HW0.out.2.2.2, by show (0 : Int) ≤ P ∧ P ≤ 65535; omega⟩
        clear hS hP hb1 hPr
        go_wp2_with fail
        refine c1.mono ?_
        rintro e w5 ⟨rfl, p5, o5⟩
        have H5 := Lib.hid (HK.out.prog p5 o5)
        clear c1 p5 o5 HK
        go_wp2_with fail
        refine (ocode_any _ _).mono ?_
        rintro e w' ⟨rfl, hw⟩
        subst w'
        have c2 := HI.out.bind H5.out.pr H5.out.z ⟨n, P⟩ 7 HEd.out (by unfold In64; omega)
        rw [HP.out.2.1, show bdT { t with la := P } ⟨n, P⟩ 7 = { t with la := P, B := t.B ++ [⟨⟨n, P⟩, 7⟩] } from if_pos HP.out.2.1] at c2
        go_wp2_with fail
        refine c2.mono ?_
        rintro e w6 ⟨rfl, p6, o6⟩
        have H6 := Lib.hid (H5.out.prog p6 o6)
        clear c2 p6 o6 H5 r1 r2
        have y3 := H6.out.qd.c3
        by_cases h0 : qp2 = 0
        · have r0 : (qp2 == 0) = true := beq_iff_eq.2 h0
          clear h0
          go_wp2_with fail
          refine (ocode_any _ _).mono ?_
          rintro e w' ⟨rfl, hw⟩
          subst w'
          go_wp2_with fail
          refine (HLv.out _).mono ?_
          rintro e w' ⟨rfl, g⟩
          have G := Lib.hid g
          clear g
          go_wp2_with fail
          go_ret
          exact ⟨rfl, Below.trans H6.out.g (Below.mono G.out H6.out.g.size)⟩
        have r0 : (qp2 == 0) = false := beq_eq_false_iff_ne.2 h0
        have HQd : Hid (Qd.Ok ⟨⟨n, P⟩, qa2, qp2⟩) := ⟨HEd.out, HW0.out.2.2.1.2⟩
        have HJe : Hid (¬ ((⟨⟨n, P⟩, qa2, qp2⟩ : Qd).l.po = 0 ∨ (⟨⟨n, P⟩, qa2, qp2⟩ : Qd).r.po = 0)) := Lib.hid (by
          rintro (k | k)
          · have k : P = 0 := k
            have := HP.out.2.2
            omega
          · exact h0 k)
        clear h0
        go_wp2_with fail
        refine (ocode_any _ _).mono ?_
        rintro e w' ⟨rfl, hw⟩
        subst w'
        go_wp2_with (show wpList _ _ _ (⟨none, .store 40 (.tmp 101) (.tmp 100), _, _, _, _⟩ :: _) _ _; refine wpList_store_cs w w6 rfl 40 _ _ rfl rfl w.heap.size 0 (.agg #[.int .u32 n, .int .u16 P]) rfl rfl [.int .u32 n, .int .u16 P] rfl 42 #[.int .u32 qa, .int .u16 qp, .int .u32 qa2, .int .u16 qp2] #[.int .u32 n, .int .u16 P, .int .u32 qa2, .int .u16 qp2] H6.out.qd infoEd (fun y hy => by simp at hy; rcases hy with rfl | rfl <;> rfl) (show 2 ≤ 4 from by decide) rfl H6.out.g (Nat.le_refl _) ?_; intro W7 hb3 hk3 hg3; have H7 := Lib.hid (H6.out.set HI.out hb3 hk3 hg3); clear hb3 hk3 hg3 y3 H6; have y0 := H7.out.qd.c0; have y1 := H7.out.qd.c1; have y2 := H7.out.qd.c2; have y3 := H7.out.qd.c3)
        obtain ⟨t7, ht7⟩ : ∃ t7 : Prt, t7 = { t with la := P, B := t.B ++ [⟨⟨n, P⟩, 7⟩] } := ⟨_, rfl⟩
        rw [← ht7] at H7
        have hOw : owS t7.B ⟨n, P⟩ = (7, true) := by rw [ht7]; exact owS_new HP.out.1.2
        have hJl : ¬ 1024 ≤ t7.J.length := by rw [ht7]; have := HB.out; show ¬ 1024 ≤ t.J.length; omega
        have HO7 := Lib.hid (And.intro hOw hJl)
        clear ht7 hOw hJl
        have c3 := HI.out.find H7.out.pr ⟨⟨n, P⟩, qa2, qp2⟩ HQd.out
        by_cases hJ : hasJ t7.J ⟨⟨n, P⟩, qa2, qp2⟩
        · obtain ⟨cc, hcc⟩ := tlS_there hJ
          have hje : joE t7 ⟨⟨n, P⟩, qa2, qp2⟩ = 140 := by
            unfold joE
            rw [if_neg HJe.out, if_pos hJ]
          have HC := Lib.hid (And.intro hje hcc)
          rw [fdS_yes hcc] at c3
          clear hJ hje hcc
          refine c3.mono ?_
          rintro e w8 ⟨rfl, g8⟩
          have H8 := Lib.hid (H7.out.grow HI.out g8)
          clear c3 g8 y0 y1 y2 y3 H7
          have y0 := H8.out.qd.c0
          have y1 := H8.out.qd.c1
          have y2 := H8.out.qd.c2
          have y3 := H8.out.qd.c3
          have c4 := HI.out.join H8.out.pr H8.out.z ⟨⟨n, P⟩, qa2, qp2⟩ 9 HQd.out (by unfold In64; omega)
          rw [HC.out.1, show joT t7 ⟨⟨n, P⟩, qa2, qp2⟩ 9 = t7 from if_neg (by rw [HC.out.1]; decide)] at c4
          go_wp2_with fail
          refine c4.mono ?_
          rintro e w9 ⟨rfl, p9, o9⟩
          have H9 := Lib.hid (H8.out.prog p9 o9)
          clear c4 p9 o9 y0 y1 y2 y3 H8
          have y0 := H9.out.qd.c0
          have y1 := H9.out.qd.c1
          have y2 := H9.out.qd.c2
          have y3 := H9.out.qd.c3
          have c5 := HI.out.find H9.out.pr ⟨⟨n, P⟩, qa2, qp2⟩ HQd.out
          rw [fdS_yes HC.out.2] at c5
          go_wp2_with fail
          refine c5.mono ?_
          rintro e w10 ⟨rfl, g10⟩
          have H10 := Lib.hid (H9.out.grow HI.out g10)
          clear c5 g10 y0 y1 y2 y3 H9
          go_wp2_with fail
          refine (ocode_any _ _).mono ?_
          rintro e w' ⟨rfl, hw⟩
          subst w'
          go_wp2_with fail
          refine (ocode_any _ _).mono ?_
          rintro e w' ⟨rfl, hw⟩
          subst w'
          go_wp2_with fail
          refine (HLv.out _).mono ?_
          rintro e w' ⟨rfl, g⟩
          have G := Lib.hid g
          clear g
          go_wp2_with fail
          go_ret
          exact ⟨rfl, Below.trans H10.out.g (Below.mono G.out H10.out.g.size)⟩
        · have hje : joE t7 ⟨⟨n, P⟩, qa2, qp2⟩ = 0 := by
            unfold joE
            rw [if_neg HJe.out, if_neg hJ, if_neg HO7.out.2]
          have hjt : joT t7 ⟨⟨n, P⟩, qa2, qp2⟩ 9 = { t7 with J := t7.J ++ [⟨⟨⟨n, P⟩, qa2, qp2⟩, 9⟩] } := if_pos hje
          have hnew : fdS { t7 with J := t7.J ++ [⟨⟨⟨n, P⟩, qa2, qp2⟩, 9⟩] } ⟨⟨n, P⟩, qa2, qp2⟩ = (9, true, true) := fdS_yes (tlS_new hJ)
          have HC := Lib.hid (And.intro hje (And.intro hjt hnew))
          rw [fdS_no (tlS_hasno hJ) HO7.out.1] at c3
          clear hJ hje hjt hnew
          refine c3.mono ?_
          rintro e w8 ⟨rfl, g8⟩
          have H8 := Lib.hid (H7.out.grow HI.out g8)
          clear c3 g8 y0 y1 y2 y3 H7
          have y0 := H8.out.qd.c0
          have y1 := H8.out.qd.c1
          have y2 := H8.out.qd.c2
          have y3 := H8.out.qd.c3
          have c4 := HI.out.join H8.out.pr H8.out.z ⟨⟨n, P⟩, qa2, qp2⟩ 9 HQd.out (by unfold In64; omega)
          rw [HC.out.1, HC.out.2.1] at c4
          go_wp2_with fail
          refine c4.mono ?_
          rintro e w9 ⟨rfl, p9, o9⟩
          have H9 := Lib.hid (H8.out.prog p9 o9)
          clear c4 p9 o9 y0 y1 y2 y3 H8
          have y0 := H9.out.qd.c0
          have y1 := H9.out.qd.c1
          have y2 := H9.out.qd.c2
          have y3 := H9.out.qd.c3
          have c5 := HI.out.find H9.out.pr ⟨⟨n, P⟩, qa2, qp2⟩ HQd.out
          rw [HC.out.2.2] at c5
          go_wp2_with fail
          refine c5.mono ?_
          rintro e w10 ⟨rfl, g10⟩
          have H10 := Lib.hid (H9.out.grow HI.out g10)
          clear c5 g10 y0 y1 y2 y3 H9
          go_wp2_with fail
          refine (ocode_any _ _).mono ?_
          rintro e w' ⟨rfl, hw⟩
          subst w'
          go_wp2_with fail
          refine (HLv.out _).mono ?_
          rintro e w' ⟨rfl, g⟩
          have G := Lib.hid g
          clear g
          go_wp2_with fail
          go_ret
          exact ⟨rfl, Below.trans H10.out.g (Below.mono G.out H10.out.g.size)⟩
end Go.Proofs.Ytkilfdhofbjkgaa
