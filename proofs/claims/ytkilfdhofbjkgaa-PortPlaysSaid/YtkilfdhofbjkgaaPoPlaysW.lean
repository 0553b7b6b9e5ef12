/- PortPlays: its walk. -/
import Derived.Test.YtkilfdhofbjkgaaPoPlS
namespace Go.Proofs.Ytkilfdhofbjkgaa
set_option linter.unusedVariables false
set_option linter.unusedSimpArgs false
open Go.ChangeShapes Go.WideShapes Go.ChangeAt Go.RowKit

theorem infoQd : (Try.prog.info? 42).map (·.size) = some 4 := by kernel_rfl
theorem fdS_yes {t : Prt} {q : Qd} {c : Int} (h : tlS t.J q = (c, true)) : fdS t q = (c, true, true) := by
  unfold fdS
  rw [h]
theorem fdS_no {t : Prt} {q : Qd} {c a : Int} {x : Bool} (h : tlS t.J q = (c, false)) (h2 : owS t.B q.l = (a, x)) : fdS t q = (a, false, x) := by
  unfold fdS
  rw [h]
  simp only [h2]
set_option maxRecDepth 100000 in
set_option maxHeartbeats 8000000 in
theorem portPlays_if {Pp : PoT} (I : OIf Pp) (w : World) (lo : Int) (hlo : In64 lo) (hi : Int) (hhi : In64 hi) {v : Value} {l : List Pa} (hl : Pas w v l) : Calls Try.prog 3 #[.int .i64 lo, .int .i64 hi, v] w fun e w' => e = .returned (.bool true) ∧ Below w.heap.size w w' := by
  have HLv := Lib.hid (fun w => olive_any I w)
  have HV := Lib.hid hl
  have HI := Lib.hid I
  obtain ⟨A0, cp0, e0, hlc, hcm, _, _⟩ := hl
  obtain ⟨N, hN⟩ : ∃ N, N = l.length := ⟨_, rfl⟩
  rw [← hN] at e0
  subst e0
  have HN := Lib.hid hN
  clear hN hlc hcm
  by_cases q : 100 < N
  · have q1 : (100 : Int) < (N : Int) := by omega
    go_enter Try.func3, Try.ntmps3
    go_wp2_with fail
    refine (HLv.out _).mono ?_
    rintro e w' ⟨rfl, g⟩
    have G := Lib.hid g
    clear g
    go_wp2_with fail
    go_ret
    exact ⟨rfl, G.out⟩
  have q1 : ¬ ((100 : Int) < (N : Int)) := by omega
  have HQ : Hid (N ≤ 100) := Lib.hid (by omega)
  clear q
  obtain ⟨D, hD⟩ : ∃ D, IntKind.i64.wrap (hi - lo) = D := ⟨_, rfl⟩
  by_cases hv : 1 ≤ lo ∧ lo ≤ hi ∧ hi ≤ 65535
  · have d2 : decide (1 ≤ lo) = true := decide_eq_true hv.1
    have d3 : decide (hi ≤ 65535) = true := decide_eq_true hv.2.2
    have c1 : decide (lo < 1) = false := decide_eq_false (by omega)
    have c2 : decide (hi < lo) = false := decide_eq_false (by omega)
    have c3 : decide (65535 < hi) = false := decide_eq_false (by omega)
    by_cases h1 : 200 < D
    · have d1 : decide (200 < D) = true := decide_eq_true h1
      clear hv hlo hhi I h1
      go_enter Try.func3, Try.ntmps3
      go_wp2_with fail
      refine (HLv.out _).mono ?_
      rintro e w' ⟨rfl, g⟩
      have G := Lib.hid g
      clear g
      go_wp2_with fail
      go_ret
      exact ⟨rfl, G.out⟩
    have d1 : decide (200 < D) = false := decide_eq_false h1
    have c0 := I.new w lo hi hlo hhi hv
    have HT0 : Hid (TOk (noneT lo hi)) := tok_none hv
    clear hv hlo hhi I h1
    go_enter Try.func3, Try.ntmps3
    go_wp2_with fail
    refine c0.mono ?_
    rintro e w1 ⟨pb, rfl, p1, g1⟩
    have H1 := Lib.hid (And.intro p1 g1)
    clear c0 p1 g1
    go_wp2_with fail
    refine (ocode_any _ _).mono ?_
    rintro e w' ⟨rfl, hw⟩
    subst w'
    go_wp2_with fail
    refine (rNewT w1 lo hi).mono ?_
    rintro e w2 ⟨v2, rfl, ⟨vB0, vJ0, rfl, hB0, hJ0⟩, g2⟩
    obtain ⟨V, hV⟩ : ∃ V, V = w2.alloc (.cells (tbA 0 0 0 (.slice none 0 0) (.slice none 0 0)) 32) := ⟨_, rfl⟩
    obtain ⟨gb, hgb⟩ : ∃ X, X = w2.heap.size := ⟨_, rfl⟩
    have gV : Grow w2 V := by rw [hV]; exact Grow.alloc _ _
    have hVb : TbB V gb 0 0 0 (.slice none 0 0) (.slice none 0 0) := by rw [hV, hgb]; exact heap_alloc_new w2 _
    have g3 := H1.out.2.trans (g2.trans gV)
    have HR0 := Lib.hid (And.intro (OwG.base_ (hB0.grow gV) H1.out.2.size) (OwG.base_ (hJ0.grow gV) H1.out.2.size))
    have HP0 := Lib.hid (HI.out.grow H1.out.1 (g2.trans gV))
    have HX0 := Lib.hid (And.intro hVb (And.intro g3 (show w.heap.size ≤ gb by rw [hgb]; exact Nat.le_trans H1.out.2.size g2.size)))
    clear hB0 hJ0 g2 gV hVb g3
    go_wp2_with (show wpList _ _ _ (⟨none, .store 32 (.tmp 9) (.tmp 79), _, _, _, _⟩ :: _) _ _; rw [← hV, ← hgb]; refine wpList_store_t w V rfl _ _ rfl rfl gb lo hi hi 0 0 0 vB0 vJ0 (.slice none 0 0) (.slice none 0 0) rfl rfl HX0.out.1 (tb_ones HR0.out.1 HR0.out.2 _ _ _) HX0.out.2.1 HX0.out.2.2 ?_; intro W3 hb3 hk3 hg3; have H0 : Hid (OR Pp w W3 pb gb (noneT lo hi) vB0 vJ0) := OR.put HI.out HP0.out HR0.out.1 HR0.out.2 HX0.out.1 hb3 hk3 hg3 HX0.out.2.2; clear hb3 hk3 hg3 hV hgb)
    clear HR0 HP0 HX0 H1 d1 d2 d3 c1 c2 c3
    go_loopg [10] N (fun gk s10 wr => ∃ (i : Nat) (t : Prt) (vB vJ : Value), gk = N - i ∧ s10 = .int .i64 (i : Int) ∧ Hid (i ≤ N ∧ OR Pp w wr pb gb t vB vJ))
    case atStart => exact ⟨0, _, _, _, rfl, rfl, Nat.zero_le _, H0.out⟩
    case round =>
      obtain ⟨i, t, vB, vJ, rfl, rfl, HR⟩ := hrel
      rename World => wa
      clear H0
      rcases Nat.lt_or_ge i N with hlt | hge
      · obtain ⟨A9, c9, e9, _, _, hok, hcell⟩ := HV.out
        obtain ⟨b, off, hA, hb, hc⟩ := hcell (by have := HN.out; omega)
        obtain ⟨x, hx⟩ : ∃ x, l[i]? = some x := ⟨_, List.getElem?_eq_getElem (by have := HN.out; omega)⟩
        have hz := hok x (List.mem_iff_getElem?.2 ⟨i, hx⟩)
        have hA0 : A0 = some ⟨b, off, none⟩ := by rw [hA] at e9; injection e9
        have hE : ∀ q, Grow w q → q.cell? ⟨b, off + i * 6, none⟩ = some (.int .i64 x.d) ∧ q.cell? ⟨b, off + i * 6 + 1, none⟩ = some (.int .i64 x.o) ∧ q.cell? ⟨b, off + i * 6 + 2, none⟩ = some (.int .u32 x.q.l.ad) ∧ q.cell? ⟨b, off + i * 6 + 3, none⟩ = some (.int .u16 x.q.l.po) ∧ q.cell? ⟨b, off + i * 6 + 4, none⟩ = some (.int .u32 x.q.r.ad) ∧ q.cell? ⟨b, off + i * 6 + 5, none⟩ = some (.int .u16 x.q.r.po) := fun q g => by
          obtain ⟨x0, x1, x2, x3, x4, x5⟩ := hc i x hx
          exact ⟨(g.cell (p := ⟨b, off + i * 6, none⟩) hb).trans x0, (g.cell (p := ⟨b, off + i * 6 + 1, none⟩) hb).trans x1, (g.cell (p := ⟨b, off + i * 6 + 2, none⟩) hb).trans x2, (g.cell (p := ⟨b, off + i * 6 + 3, none⟩) hb).trans x3, (g.cell (p := ⟨b, off + i * 6 + 4, none⟩) hb).trans x4, (g.cell (p := ⟨b, off + i * 6 + 5, none⟩) hb).trans x5⟩
        obtain ⟨d, o, ⟨a, p⟩, a2, p2⟩ := x
        simp only at hE
        have HE := Lib.hid hE
        have HX := Lib.hid hz
        have i0 : (i : Int) < (N : Int) := by omega
        have D0 := Lib.hid i0
        have kb : i < 100 := by have := HQ.out; omega
        have HZ := Lib.hid hlt
        have HTo := Lib.hid (HI.out.ok HR.out.2.pr)
        obtain ⟨t', hT⟩ : ∃ t', t' = stT t ⟨d, o, ⟨⟨a, p⟩, a2, p2⟩⟩ := ⟨_, rfl⟩
        have HT := Lib.hid hT
        have HSz : Hid (w.heap.size ≤ wa.heap.size ∧ gb < wa.heap.size) := ⟨HR.out.2.g.size, HR.out.2.tb.lt⟩
        subst hA0
        obtain ⟨cp, hcp⟩ : ∃ c, c = cp0 := ⟨_, rfl⟩
        subst hcp
        clear e9 hA hok hcell hc hz hE hlt hb hx hT
        go_upto_region 12 with fail
        refine wp_region_state (A := ?frameS12) (inVals4 (isW4 (.pointer (some ⟨pb, 0, none⟩)) :: isW4 (.agg (tbA t.lo t.hi t.la vB vJ)) :: isW4 (.slice (some ⟨b, off, none⟩) N cp) :: isW4 (.int .i64 (i : Int)) :: isW4 (.pointer (some ⟨b, off + i * 6, none⟩)) :: isW4 (.agg #[.int .i64 d, .int .i64 o, .int .u32 a, .int .u16 p, .int .u32 a2, .int .u16 p2]) :: isAll4 :: isAll4 :: isAll4 :: isAll4 :: isAll4 :: isAll4 :: isAll4 :: [])) (fun L x q => JS Pp w wa q pb gb t t' vB vJ (L 6) (L 7) (L 8) (L 9) (L 10) (L 11) (L 12) (x 93) (x 86) (x 94) (x 95) (x 11) (x 12)) (by kernel_rfl) (by kernel_rfl) (fun x => ?frameEqS12) (fun L x hL => ?_) ?_ ?_
        case frameEqS12 => go_simp; rfl
        · exact JS.start (HR.out.2.grow HI.out (Grow.drew _)) (Grow.drew wa).size (hL 6 (by decide)) (hL 7 (by decide)) (hL 8 (by decide)) (hL 9 (by decide)) (hL 10 (by decide)) (hL 11 (by decide)) (hL 12 (by decide))
        · refine ⟨fun L x w1 hJ hl hd post hp => ?_, fun L x w1 hJ hl hd post hp => ?_, fun L x w1 hJ hl hd post hp => ?_, fun L x w1 hJ hl hd post hp => ?_, fun L x w1 hJ hl hd post hp => ?_, fun L x w1 hJ hl hd post hp => ?_, fun L x w1 hJ hl hd post hp => ?_, fun L x w1 hJ hl hd post hp => ?_, fun L x w1 hJ hl hd post hp => ?_, fun L x w1 hJ hl hd post hp => ?_, fun L x w1 hJ hl hd post hp => ?_, fun L x w1 hJ hl hd post hp => ?_, fun L x w1 hJ hl hd post hp => ?_, trivial⟩
          · -- 0: slot 87: Op.move t7
            clear hd
            go_simp
            exact hp _ _ rfl hJ
          · -- 1: slot 88: Op.load 32 t9
            clear hd
            refine upon_load_t w1 _ rfl rfl gb t.lo t.hi t.la vB vJ rfl hJ.tb ?_
            exact hp _ _ rfl hJ
          · -- 2: slot 89: Op.move t2
            clear hd
            go_simp
            exact hp _ _ rfl hJ
          · -- 3: slot 90: Op.move t10
            clear hd
            go_simp
            exact hp _ _ rfl hJ
          · -- 4: slot 91: Op.indexAddr 22 t89 t90
            have h89 : x 89 = .slice (some ⟨b, off, none⟩) N cp := (hd 2 (by decide)).2 _ rfl
            have h90 : x 90 = .int .i64 (i : Int) := (hd 3 (by decide)).2 _ rfl
            clear hd
            have d0 := D0.out
            go_simp
            exact hp _ _ rfl hJ
          · -- 5: slot 92: Op.load 44 t91
            have h91 : x 91 = .pointer (some ⟨b, off + i * 6, none⟩) := (hd 4 (by decide)).2 _ rfl
            clear hd
            obtain ⟨z0, z1, z2, z3, z4, z5⟩ := HE.out w1 hJ.g
            go_simp
            exact hp _ _ rfl hJ
          · -- 6: slot 93: Op.call { value (Operand.func 10), args := #[t87, t88, t92], argTypes := #[24, 3
            have h87 : x 87 = .pointer (some ⟨pb, 0, none⟩) := (hd 0 (by decide)).2 _ rfl
            have h88 : x 88 = .agg (tbA t.lo t.hi t.la vB vJ) := (hd 1 (by decide)).2 _ rfl
            have h92 : x 92 = .agg #[.int .i64 d, .int .i64 o, .int .u32 a, .int .u16 p, .int .u32 a2, .int .u16 p2] := (hd 5 (by decide)).2 _ rfl
            clear hd
            go_simp
            refine (stepT HI.out w w1 hJ.g pb t (hJ.p hl).pr _ ⟨vB, vJ, rfl, (hJ.p hl).hB, (hJ.p hl).hJ⟩ ⟨d, o, ⟨⟨a, p⟩, a2, p2⟩⟩ HX.out).mono ?_
            intro e w2 hp2
            obtain ⟨v', e1, _⟩ := id hp2
            rw [← HT.out] at hp2
            exact ⟨_, e1, hp _ _ trivial (JS.call hJ hl e1 hp2)⟩
          · -- 7: slot 86: Op.move t93
            have l6 : L 6 = true := (hd 6 (by decide)).1
            clear hd
            go_simp
            exact hp _ _ trivial (JS.move hJ l6 hl)
          · -- 8: slot 94: Op.extract t86 0
            have l7 : L 7 = true := (hd 7 (by decide)).1
            clear hd
            obtain ⟨r, e1, e2⟩ := JS.two hJ l7
            go_simp
            exact hp _ _ trivial (JS.fst hJ l7 hl e1)
          · -- 9: slot 95: Op.extract t86 1
            have l7 : L 7 = true := (hd 7 (by decide)).1
            clear hd
            obtain ⟨r, e1, e2⟩ := JS.two hJ l7
            go_simp
            exact hp _ _ trivial (JS.snd hJ l7 hl)
          · -- 10: slot 11: Op.alloc 32
            clear hd
            go_simp
            exact hp _ _ trivial (JS.alloc HI.out hJ hl)
          · -- 11: slot none:0: Op.store 32 t11 t94
            have l10 : L 10 = true := (hd 10 (by decide)).1
            have l8 : L 8 = true := (hd 8 (by decide)).1
            clear hd
            obtain ⟨kk, u0, u1, u2, ua, ub, uB, uJ, e1, e2, e3, e4, e5, e6⟩ := JS.box hJ l8 l10
            refine upon_cs w w1 rfl 32 (.tmp 11) (.tmp 94) rfl kk 0 (.agg (tbA t'.lo t'.hi t'.la uB uJ)) e1 e4 (tbA t'.lo t'.hi t'.la uB uJ).toList rfl 32 (tbA u0 u1 u2 ua ub) (tbA t'.lo t'.hi t'.la uB uJ) e3 sizeTb (tbA_ones e5 e6) (Nat.le_refl 5) rfl hJ.g (Nat.le_trans HSz.out.1 e2) ?_
            intro w2 h2 hb2 g2
            exact hp _ _ trivial (JS.store HI.out HSz.out.1 HSz.out.2 hJ l10 l8 hl e1 e4 e2 e3 h2 hb2 g2)
          · -- 12: slot 12: Op.assign t95
            have l9 : L 9 = true := (hd 9 (by decide)).1
            clear hd
            go_simp
            exact hp _ _ trivial (JS.last hJ l9 hl)
        · intro L x w1 hL hJ hd
          obtain ⟨kk, uB, uJ, e1, e2, e3, e4, e5, e6, e7, e8, e9⟩ := JS.done hJ (hL 6 (by decide)) (hL 7 (by decide)) (hL 8 (by decide)) (hL 9 (by decide)) (hL 10 (by decide)) (hL 11 (by decide)) (hL 12 (by decide))
          clear hJ hL hd
          rw [e1, e7]
          have HD := Lib.hid (And.intro e2 (And.intro e3 (And.intro e4 (And.intro e5 (And.intro e6 (And.intro e8 e9))))))
          clear e1 e2 e3 e4 e5 e6 e7 e8 e9
          go_wp2_with (first
            | (show wpList _ _ _ (⟨some 96, .load 32 (.tmp 11), _, _, _, _⟩ :: _) _ _; refine wpList_load_t w1 rfl _ rfl kk t'.lo t'.hi t'.la uB uJ rfl HD.out.2.1 ?_)
            | (show wpList _ _ _ (⟨none, .store 32 (.tmp 9) (.tmp 96), _, _, _, _⟩ :: _) _ _; refine wpList_store_t w w1 rfl _ _ rfl rfl gb t'.lo t'.hi t'.la t.lo t.hi t.la uB uJ vB vJ rfl rfl HD.out.2.2.2.2.2.2 (tb_ones HD.out.2.2.1 HD.out.2.2.2.1 _ _ _) HD.out.2.2.2.2.2.1 HR.out.2.low ?_; intro W4 hb3 hk3 hg3; have H4 : Hid (OR Pp w W4 pb gb t' uB uJ) := OR.put HI.out HD.out.2.2.2.2.1 HD.out.2.2.1 HD.out.2.2.2.1 HD.out.2.2.2.2.2.2 hb3 hk3 hg3 HR.out.2.low; clear hb3 hk3 hg3; obtain ⟨z0, z1, z2, z3, z4, z5⟩ := HE.out W4 H4.out.g; clear z0 z1)
            | (show wpList _ _ _ (⟨none, .store 42 (.tmp 13) (.tmp 103), _, _, _, _⟩ :: _) _ _; refine wpList_store_cs W4 _ rfl 42 _ _ rfl rfl W4.heap.size 0 (.agg #[.int .u32 a, .int .u16 p, .int .u32 a2, .int .u16 p2]) rfl rfl [.int .u32 a, .int .u16 p, .int .u32 a2, .int .u16 p2] rfl 42 #[.int .u32 0, .int .u16 0, .int .u32 0, .int .u16 0] #[.int .u32 a, .int .u16 p, .int .u32 a2, .int .u16 p2] (heap_alloc_new W4 _) infoQd (fun y hy => by simp at hy; rcases hy with rfl | rfl | rfl | rfl <;> rfl) (Nat.le_refl 4) rfl (Grow.alloc _ _) (Nat.le_refl _) ?_; intro W5 hb3 hk3 hg3; have H5 : Hid (OR Pp w W5 pb gb t' uB uJ ∧ QdB W5 W4.heap.size a p a2 p2) := ⟨H4.out.grow HI.out hg3, hb3⟩; clear hb3 hk3 hg3 z2 z3 z4 z5; obtain ⟨qb, hqb⟩ : ∃ n, n = W4.heap.size := ⟨_, rfl⟩; rw [← hqb] at H5 ⊢; clear hqb H4; have y0 := H5.out.2.c0; have y1 := H5.out.2.c1))
          have hok' := Lib.hid (HI.out.ok H5.out.1.pr)
          obtain ⟨⟨oa, ox⟩, hO⟩ : ∃ z, owS t'.B ⟨a, p⟩ = z := ⟨_, rfl⟩
          obtain ⟨⟨ta, tx⟩, hK⟩ : ∃ z, tlS t'.J ⟨⟨a, p⟩, a2, p2⟩ = z := ⟨_, rfl⟩
          have HOK := Lib.hid (And.intro hO hK)
          clear hO hK
          cases tx
          · have cc := HI.out.owner H5.out.1.pr ⟨a, p⟩ HX.out.2.2.1
            rw [HOK.out.1] at cc
            refine cc.mono ?_
            rintro e W6 ⟨rfl, g⟩
            have H6 : Hid (OR Pp w W6 pb gb t' uB uJ ∧ QdB W6 qb a p a2 p2) := ⟨H5.out.1.grow HI.out g, H5.out.2.grow g⟩
            clear cc g H5
            clear y0 y1
            have y0 := H6.out.2.c0
            have y1 := H6.out.2.c1
            go_wp2_with (show wpList _ _ _ (⟨some 112, .load 32 (.tmp 9), _, _, _, _⟩ :: _) _ _; refine wpList_load_t W6 rfl _ rfl gb t'.lo t'.hi t'.la uB uJ rfl H6.out.1.tb ?_)
            have cc := rOwnerT W6 w.heap.size t'.lo t'.hi t'.la uB uJ t'.B H6.out.1.hB hok'.out.bl ⟨a, p⟩
            rw [HOK.out.1] at cc
            refine cc.mono ?_
            rintro e W7 ⟨rfl, g⟩
            have H7 : Hid (OR Pp w W7 pb gb t' uB uJ ∧ QdB W7 qb a p a2 p2) := ⟨H6.out.1.grow HI.out g, H6.out.2.grow g⟩
            clear cc g H6
            clear y0 y1
            have y0 := H7.out.2.c0
            have y1 := H7.out.2.c1
            have y2 := H7.out.2.c2
            have y3 := H7.out.2.c3
            go_wp2_with fail
            have cc := HI.out.talks H7.out.1.pr ⟨⟨a, p⟩, a2, p2⟩ HX.out.2.2
            rw [HOK.out.2] at cc
            refine cc.mono ?_
            rintro e W8 ⟨rfl, g⟩
            have H8 : Hid (OR Pp w W8 pb gb t' uB uJ ∧ QdB W8 qb a p a2 p2) := ⟨H7.out.1.grow HI.out g, H7.out.2.grow g⟩
            clear cc g H7
            clear y0 y1 y2 y3
            have y0 := H8.out.2.c0
            have y1 := H8.out.2.c1
            have y2 := H8.out.2.c2
            have y3 := H8.out.2.c3
            go_wp2_with (show wpList _ _ _ (⟨some 125, .load 32 (.tmp 9), _, _, _, _⟩ :: _) _ _; refine wpList_load_t W8 rfl _ rfl gb t'.lo t'.hi t'.la uB uJ rfl H8.out.1.tb ?_)
            have cc := rTalksT W8 w.heap.size t'.lo t'.hi t'.la uB uJ t'.J H8.out.1.hJ hok'.out.jl ⟨⟨a, p⟩, a2, p2⟩
            rw [HOK.out.2] at cc
            refine cc.mono ?_
            rintro e W9 ⟨rfl, g⟩
            have H9 : Hid (OR Pp w W9 pb gb t' uB uJ ∧ QdB W9 qb a p a2 p2) := ⟨H8.out.1.grow HI.out g, H8.out.2.grow g⟩
            clear cc g H8
            clear y0 y1 y2 y3
            have y0 := H9.out.2.c0
            have y1 := H9.out.2.c1
            have y2 := H9.out.2.c2
            have y3 := H9.out.2.c3
            go_wp2_with fail
            have cc := HI.out.find H9.out.1.pr ⟨⟨a, p⟩, a2, p2⟩ HX.out.2.2
            rw [show fdS t' ⟨⟨a, p⟩, a2, p2⟩ = (oa, false, ox) from (fdS_no (c := ta) HOK.out.2 HOK.out.1)] at cc
            refine cc.mono ?_
            rintro e W10 ⟨rfl, g⟩
            have H10 : Hid (OR Pp w W10 pb gb t' uB uJ ∧ QdB W10 qb a p a2 p2) := ⟨H9.out.1.grow HI.out g, H9.out.2.grow g⟩
            clear cc g H9
            clear y0 y1 y2 y3
            go_wp2_with fail
            go_roundg (N - (i + 1))
            case measure => have := HZ.out; omega
            case rel => exact ⟨i + 1, t', uB, uJ, rfl, by go_num, by have := HZ.out; omega, H10.out.1⟩
          · have cc := HI.out.owner H5.out.1.pr ⟨a, p⟩ HX.out.2.2.1
            rw [HOK.out.1] at cc
            refine cc.mono ?_
            rintro e W6 ⟨rfl, g⟩
            have H6 : Hid (OR Pp w W6 pb gb t' uB uJ ∧ QdB W6 qb a p a2 p2) := ⟨H5.out.1.grow HI.out g, H5.out.2.grow g⟩
            clear cc g H5
            clear y0 y1
            have y0 := H6.out.2.c0
            have y1 := H6.out.2.c1
            go_wp2_with (show wpList _ _ _ (⟨some 112, .load 32 (.tmp 9), _, _, _, _⟩ :: _) _ _; refine wpList_load_t W6 rfl _ rfl gb t'.lo t'.hi t'.la uB uJ rfl H6.out.1.tb ?_)
            have cc := rOwnerT W6 w.heap.size t'.lo t'.hi t'.la uB uJ t'.B H6.out.1.hB hok'.out.bl ⟨a, p⟩
            rw [HOK.out.1] at cc
            refine cc.mono ?_
            rintro e W7 ⟨rfl, g⟩
            have H7 : Hid (OR Pp w W7 pb gb t' uB uJ ∧ QdB W7 qb a p a2 p2) := ⟨H6.out.1.grow HI.out g, H6.out.2.grow g⟩
            clear cc g H6
            clear y0 y1
            have y0 := H7.out.2.c0
            have y1 := H7.out.2.c1
            have y2 := H7.out.2.c2
            have y3 := H7.out.2.c3
            go_wp2_with fail
            have cc := HI.out.talks H7.out.1.pr ⟨⟨a, p⟩, a2, p2⟩ HX.out.2.2
            rw [HOK.out.2] at cc
            refine cc.mono ?_
            rintro e W8 ⟨rfl, g⟩
            have H8 : Hid (OR Pp w W8 pb gb t' uB uJ ∧ QdB W8 qb a p a2 p2) := ⟨H7.out.1.grow HI.out g, H7.out.2.grow g⟩
            clear cc g H7
            clear y0 y1 y2 y3
            have y0 := H8.out.2.c0
            have y1 := H8.out.2.c1
            have y2 := H8.out.2.c2
            have y3 := H8.out.2.c3
            go_wp2_with (show wpList _ _ _ (⟨some 125, .load 32 (.tmp 9), _, _, _, _⟩ :: _) _ _; refine wpList_load_t W8 rfl _ rfl gb t'.lo t'.hi t'.la uB uJ rfl H8.out.1.tb ?_)
            have cc := rTalksT W8 w.heap.size t'.lo t'.hi t'.la uB uJ t'.J H8.out.1.hJ hok'.out.jl ⟨⟨a, p⟩, a2, p2⟩
            rw [HOK.out.2] at cc
            refine cc.mono ?_
            rintro e W9 ⟨rfl, g⟩
            have H9 : Hid (OR Pp w W9 pb gb t' uB uJ ∧ QdB W9 qb a p a2 p2) := ⟨H8.out.1.grow HI.out g, H8.out.2.grow g⟩
            clear cc g H8
            clear y0 y1 y2 y3
            have y0 := H9.out.2.c0
            have y1 := H9.out.2.c1
            have y2 := H9.out.2.c2
            have y3 := H9.out.2.c3
            go_wp2_with fail
            have cc := HI.out.find H9.out.1.pr ⟨⟨a, p⟩, a2, p2⟩ HX.out.2.2
            rw [show fdS t' ⟨⟨a, p⟩, a2, p2⟩ = (ta, true, true) from (fdS_yes HOK.out.2)] at cc
            refine cc.mono ?_
            rintro e W10 ⟨rfl, g⟩
            have H10 : Hid (OR Pp w W10 pb gb t' uB uJ ∧ QdB W10 qb a p a2 p2) := ⟨H9.out.1.grow HI.out g, H9.out.2.grow g⟩
            clear cc g H9
            clear y0 y1 y2 y3
            go_wp2_with fail
            go_roundg (N - (i + 1))
            case measure => have := HZ.out; omega
            case rel => exact ⟨i + 1, t', uB, uJ, rfl, by go_num, by have := HZ.out; omega, H10.out.1⟩
      · obtain rfl : i = N := by have := HR.out.1; omega
        go_wp2_with fail
        refine (HLv.out _).mono ?_
        rintro e w' ⟨rfl, g⟩
        have G := Lib.hid g
        clear g
        go_wp2_with fail
        go_ret
        exact ⟨rfl, Below.trans HR.out.2.g (Below.mono G.out HR.out.2.g.size)⟩
  · have c0 := I.newNot w lo hi hlo hhi hv
    obtain ⟨b1, d1⟩ : ∃ b, decide (200 < D) = b := ⟨_, rfl⟩
    have hv' : decide (1 ≤ lo) = true → decide (hi ≤ 65535) = true → decide (hi < lo) = true := fun a b => decide_eq_true (by have := of_decide_eq_true a; have := of_decide_eq_true b; omega)
    have k1 : decide (lo < 1) = !decide (1 ≤ lo) := by
      by_cases k : 1 ≤ lo
      · rw [decide_eq_true k, decide_eq_false (by omega)]; rfl
      · rw [decide_eq_false k, decide_eq_true (by omega)]; rfl
    have k3 : decide (65535 < hi) = !decide (hi ≤ 65535) := by
      by_cases k : hi ≤ 65535
      · rw [decide_eq_true k, decide_eq_false (by omega)]; rfl
      · rw [decide_eq_false k, decide_eq_true (by omega)]; rfl
    obtain ⟨b2, d2⟩ : ∃ b, decide (1 ≤ lo) = b := ⟨_, rfl⟩
    obtain ⟨b3, d3⟩ : ∃ b, decide (hi ≤ 65535) = b := ⟨_, rfl⟩
    obtain ⟨b4, c2⟩ : ∃ b, decide (hi < lo) = b := ⟨_, rfl⟩
    rw [d2] at k1 hv'
    rw [d3] at k3 hv'
    rw [c2] at hv'
    clear hv hlo hhi I
    cases b1 <;> cases b2 <;> cases b3 <;> cases b4
    all_goals
      first
      | exact absurd (hv' rfl rfl) (by decide)
      | (simp only [Bool.not_true, Bool.not_false] at k1 k3
         clear hv' c0
         go_enter Try.func3, Try.ntmps3
         go_wp2_with fail
         refine (HLv.out _).mono ?_
         rintro e w' ⟨rfl, g⟩
         have G := Lib.hid g
         clear g
         go_wp2_with fail
         go_ret
         exact ⟨rfl, G.out⟩)
      | (simp only [Bool.not_true, Bool.not_false] at k1 k3
         clear hv'
         go_enter Try.func3, Try.ntmps3
         go_wp2_with fail
         refine c0.mono ?_
         rintro e w1 ⟨rfl, g1⟩
         have G1 := Lib.hid g1
         clear c0 g1
         go_wp2_with fail
         refine (ocode_any _ _).mono ?_
         rintro e w' ⟨rfl, hw⟩
         subst w'
         go_wp2_with fail
         refine (HLv.out _).mono ?_
         rintro e w' ⟨rfl, g⟩
         have G := Lib.hid g
         clear g
         go_wp2_with fail
         go_ret
         exact ⟨rfl, Grow.trans G1.out G.out⟩)
end Go.Proofs.Ytkilfdhofbjkgaa
