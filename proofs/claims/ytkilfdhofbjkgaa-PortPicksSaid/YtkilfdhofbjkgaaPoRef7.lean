/- Contract: the reference's Part. -/
import Derived.Test.YtkilfdhofbjkgaaPoRef6
namespace Go.Proofs.Ytkilfdhofbjkgaa
set_option linter.unusedVariables false
set_option linter.unusedSimpArgs false
attribute [local irreducible] wpQuiet
open Go.ChangeShapes Go.WideShapes Go.ChangeAt Go.RowKit

set_option maxRecDepth 10000 in
set_option maxHeartbeats 4000000 in
theorem rPartT (w : World) (base : Nat) (hbase : base ≤ w.heap.size) (v : Value) (t : Prt) (h : RTb w base v t) (ok : TOk t) (e : Qd) : Calls Try.prog 26 #[v, .agg #[.int .u32 e.l.ad, .int .u16 e.l.po, .int .u32 e.r.ad, .int .u16 e.r.po]] w fun e' w' => ∃ v', e' = .returned (.tuple #[v', .int .i64 (paE t e)]) ∧ RTb w' base v' (paT t e) ∧ Grow w w' := by
  obtain ⟨vB, vJ, rfl, hB, hJ⟩ := h
  have hbl := ok.jl
  have hst : ¬ hasJ t.J e → paT t e = t := fun q => if_neg q
  have hst0 : hasJ t.J e → paT t e = { t with J := t.J.eraseIdx (ixJ t.J e) } := fun q => if_pos q
  obtain ⟨lo, hi, la, B, J⟩ := t
  obtain ⟨⟨a, p⟩, a2, p2⟩ := e
  simp only at hst hst0
  simp only at hB hJ hbl
  obtain ⟨W, hW⟩ : ∃ W, W = ((w.alloc (.cells (tbA lo hi la vB vJ) 32)).alloc (.cells #[.int .u32 a, .int .u16 p, .int .u32 a2, .int .u16 p2] 42)).alloc (.cells (tbA 0 0 0 (.slice none 0 0) (.slice none 0 0)) 32) := ⟨_, rfl⟩
  have HT := Lib.hid (trQ w lo hi la vB vJ a p a2 p2 hW)
  obtain ⟨RB, hRB⟩ : ∃ RB, RB = w.heap.size + 2 := ⟨_, rfl⟩
  have HRB := Lib.hid hRB
  have HRr := Lib.hid (And.intro hB hJ)
  have H1 := tb_ones hB hJ lo hi la
  have HB := Lib.hid (hJ.rd.grow HT.out.g)
  obtain ⟨A, cp, hvb, hlc, hcm⟩ := hJ.rd.form
  obtain ⟨N, hN⟩ : ∃ N, N = J.length := ⟨_, rfl⟩
  rw [← hN] at hvb hlc
  have HN := Lib.hid (And.intro hN hbl)
  have HCp := Lib.hid hcm
  have HCp2 := Lib.hid hlc
  have HSt := Lib.hid (And.intro hst hst0)
  have HO1 := Lib.hid H1
  subst hvb
  clear hB hJ hN hbl hcm hlc hst hst0 ok H1
  go_enter Try.func26, Try.ntmps26
  go_upto_region 1 with fail
  rw [← hW, ← hRB]
  have HW := Lib.hid hW
  clear hW hRB
  go_wp2_with fail
  go_loopg [6] N (fun gk s8 wr => ∃ i : Nat, gk = N - i ∧ s8 = .int .i64 (i : Int) ∧ Hid (i ≤ N ∧ Grow W wr ∧ ∀ j y, j < i → J[j]? = some y → ¬ y.q = ⟨⟨a, p⟩, a2, p2⟩))
  case atStart => exact ⟨0, rfl, rfl, Nat.zero_le _, Grow.refl _, fun j y hj => absurd hj (Nat.not_lt_zero _)⟩
  case round =>
    obtain ⟨i, rfl, rfl, HR⟩ := hrel
    rename World => wo
    have t3 := (HT.out.t.grow HR.out.2.1).c4
    rcases Nat.lt_or_ge i N with hlt | hge
    · obtain ⟨b, off, c', e1, hb, hc⟩ := Jds.cells HB.out (by have := HN.out.1; omega)
      obtain ⟨x, hx⟩ : ∃ x, J[i]? = some x := ⟨_, List.getElem?_eq_getElem (by have := HN.out.1; omega)⟩
      obtain ⟨x0, x1, x2, x3, x4⟩ := hc i x hx
      have e2 : A = some ⟨b, off, none⟩ := by injection e1
      subst e2
      obtain ⟨⟨⟨xa, xp⟩, ya, yp⟩, xo⟩ := x
      simp only at x0 x1 x2 x3 x4
      have hb2 := Nat.lt_of_lt_of_le hb HR.out.2.1.size
      have k0 := fun p : Gw wo => Gw.cell (p := p) (a := ⟨b, off + i * 5, none⟩) hb2 ((HR.out.2.1.cell (p := ⟨b, off + i * 5, none⟩) hb).trans x0)
      have k1 := fun p : Gw wo => Gw.cell (p := p) (a := ⟨b, off + i * 5 + 1, none⟩) hb2 ((HR.out.2.1.cell (p := ⟨b, off + i * 5 + 1, none⟩) hb).trans x1)
      have k2 := fun p : Gw wo => Gw.cell (p := p) (a := ⟨b, off + i * 5 + 2, none⟩) hb2 ((HR.out.2.1.cell (p := ⟨b, off + i * 5 + 2, none⟩) hb).trans x2)
      have k3 := fun p : Gw wo => Gw.cell (p := p) (a := ⟨b, off + i * 5 + 3, none⟩) hb2 ((HR.out.2.1.cell (p := ⟨b, off + i * 5 + 3, none⟩) hb).trans x3)
      have m3 := fun p : Gw wo => Gw.cell (p := p) (a := ⟨w.heap.size, 4, none⟩) (HT.out.t.grow HR.out.2.1).lt t3
      have E2 := HT.out.e.grow HR.out.2.1
      have k4 := fun p : Gw wo => Gw.cell (p := p) (a := ⟨w.heap.size + 1, 0, none⟩) E2.lt E2.c0
      have k5 := fun p : Gw wo => Gw.cell (p := p) (a := ⟨w.heap.size + 1, 1, none⟩) E2.lt E2.c1
      have k6 := fun p : Gw wo => Gw.cell (p := p) (a := ⟨w.heap.size + 1, 2, none⟩) E2.lt E2.c2
      have k7 := fun p : Gw wo => Gw.cell (p := p) (a := ⟨w.heap.size + 1, 3, none⟩) E2.lt E2.c3
      clear e1 hc x0 x1 x2 x3 x4 hb hb2 E2
      have i1 : (i : Int) < (N : Int) := by omega
      have ib : i < 1024 := by have := HN.out; omega
      have HXx := Lib.hid (And.intro hx hlt)
      clear hx hlt
      by_cases h0 : xa = a
      · subst h0
        by_cases h1 : xp = p
        · subst h1
          by_cases h2 : ya = a2
          · subst h2
            by_cases h3 : yp = p2
            · subst h3
              have hhas : hasJ J ⟨⟨xa, xp⟩, ya, yp⟩ := ⟨_, List.mem_iff_getElem?.2 ⟨i, HXx.out.1⟩, rfl⟩
              have hix : ixJ J ⟨⟨xa, xp⟩, ya, yp⟩ = i := findIdx_first (P := fun b : Jd => decide (b.q = ⟨⟨xa, xp⟩, ya, yp⟩)) HXx.out.1 (decide_eq_true rfl) fun j y hj hy => decide_eq_false (HR.out.2.2 j y hj hy)
              have HE : Hid (paE ⟨lo, hi, la, B, J⟩ ⟨⟨xa, xp⟩, ya, yp⟩ = 0 ∧ paT ⟨lo, hi, la, B, J⟩ ⟨⟨xa, xp⟩, ya, yp⟩ = ⟨lo, hi, la, B, J.eraseIdx i⟩) := ⟨if_pos hhas, by rw [HSt.out.2 hhas, hix]⟩
              clear hhas hix
              go_upto_region 4 with fail
              clear t3
              refine wp_region_gw (by kernel_rfl) (by kernel_rfl) ?_
              repeat (go_big_quiet_step ((fail)))
              refine wpQuiet_nil ?_
              intro _ hw'
              obtain ⟨⟨wq, hgq⟩, hw2⟩ := hw'
              subst hw2
              rename World => wq
              have HT5 := Lib.hid (HT.out.grow (HR.out.2.1.trans hgq))
              have HLq := Lib.hid (HR.out.2.1.trans hgq)
              clear hgq
              have t3 := HT5.out.t.c4
              have hb3 : w.heap.size < wq.heap.size := HT5.out.t.lt
              have hST : Hid (∀ w1, Grow wq w1 → w1.cell? ⟨w.heap.size, 4, none⟩ = some (.slice (some ⟨b, off, none⟩) N cp) ∧ w1.frozen? ⟨w.heap.size, 4, none⟩ = false) := fun w1 hg => ⟨(HT5.out.t.grow hg).c4, (HT5.out.t.grow hg).fz 4⟩
              have hrd : RdG jdC wq (.slice (some ⟨b, off, none⟩) N cp) J := HB.out.grow HLq.out
              have hil : i < N := HXx.out.2
              obtain ⟨BB, hBB0, hTl0⟩ := RdG.tail (l := J) (k := i + 1) hrd (by omega)
              have hBB : (if cp = i + 1 then (some ⟨b, off, none⟩ : Option Addr) else some ⟨b, off + (i + 1) * 5, none⟩) = some BB := hBB0
              clear hBB0
              have hTl : Hid (∀ w1, Grow wq w1 → RdG jdC w1 (.slice (some BB) (N - (i + 1)) (cp - (i + 1))) (J.drop (i + 1))) := fun w1 hg => hTl0.out.grow hg
              have hFr : Hid (∀ w1, Grow wq w1 → RdG jdC w1 (.slice (some ⟨b, off, none⟩) i cp) (J.take i)) := fun w1 hg => (RdG.front hrd (by omega)).grow hg
              have HL := Lib.hid (show (J.take i).length = i ∧ (J.drop (i + 1)).length = N - (i + 1) from ⟨by rw [List.length_take]; have := HN.out.1; omega, by rw [List.length_drop, ← HN.out.1]⟩)
              have hcpm := HCp.out
              unfold maxLen at hcpm
              have q0 : ¬ ((i : Int) < 0) := by omega
              have q1 : (0 : Int) ≤ (i : Int) + 1 := by omega
              have q2 : (i : Int) + 1 ≤ (N : Int) := by omega
              have q3 : ((i : Int) + 1).toNat = i + 1 := by omega
              have q4 : (i : Int) ≤ (cp : Int) := by have := HCp2.out; omega
              have q6 : IntKind.i64.wrap ((i : Int) + 1) = (i : Int) + 1 := IntWalk.i64_in _ (by omega)
              have hEr := Lib.hid (List.eraseIdx_eq_take_drop_succ J i)
              clear hrd hTl0 hil
              go_upto_region 5 with fail
              go_region_law (first
                | (refine step_appK _ rfl (.tmp 22) (.tmp 26) 30 rfl 76 _ 5 24 Try.underlying30 infoJd rfl (by decide) wq.heap.size _ (.slice (some ⟨b, off, none⟩) i cp) 0 _ [] _ rfl rfl (owg_lit0 (c := jdC) wq.drew) (hFr.out _ ((Grow.drew _).trans (Grow.alloc _ _))) (jdC.ones _) (by rw [HL.out.1]; omega) (by rw [HL.out.1]; unfold maxLen; omega) (by simp) ?_; intro v1 w1 ho1 hg1 hat1; have hgw1 : Grow wq w1 := ((Grow.drew wq).trans (Grow.alloc _ _)).grown hg1 (by simp) (fun k hk => by cases hk; simp); obtain ⟨u0, _⟩ := hST.out w1 hgw1; have H5 := Lib.hid (And.intro ho1 hgw1); clear ho1 hg1 hat1 hgw1)
                | (refine step_appK _ rfl (.tmp 27) (.tmp 32) 30 rfl 76 _ 5 24 Try.underlying30 infoJd rfl (by decide) wq.heap.size v1 _ _ _ _ _ rfl rfl H5.out.1 (hTl.out _ H5.out.2) (jdC.ones _) (by rw [HL.out.1, HL.out.2]; have := HN.out; omega) (by rw [HL.out.1, HL.out.2]; have := HN.out; unfold maxLen; omega) H5.out.2.size ?_; intro v2 w2 ho2 hg2 hat2; have hgw2 : Grow wq w2 := H5.out.2.grown hg2 H5.out.2.size fun k hk => (World.ownsRow.lt H5.out.1 k hk).1; obtain ⟨s0, s1⟩ := hST.out w2 hgw2; obtain ⟨A6, c6, hf6, _⟩ := (RdK.of_own ho2).form; obtain ⟨m6, hm6⟩ : ∃ m, m = 0 + (J.take i).length + (J.drop (i + 1)).length := ⟨_, rfl⟩; rw [← hm6] at hf6 ho2; subst hf6; have H6 := Lib.hid (And.intro ho2 (And.intro hgw2 hm6)); clear ho2 hg2 hat2 hgw2 hm6))
              all_goals
                obtain ⟨W3, hW3⟩ : ∃ W3, W3 = w2.setCell ⟨w.heap.size, 4, none⟩ (.slice A6 m6 c6) := ⟨_, rfl⟩
                rw [← hW3]
                have HT3 : Hid (TrQ w W3 lo hi la vB (.slice A6 m6 c6) xa xp ya yp) := by rw [hW3]; exact (HT5.out.grow H6.out.2.1).set4 _
                have hrow : Jds w2 base (.slice A6 m6 c6) (J.eraseIdx i) := by
                  rw [hEr.out]
                  exact OwG.base_ (owg_app (c := jdC) H6.out.1 (by have := H6.out.2.2; omega)) (Nat.le_trans hbase HT5.out.g.size)
                have hrow3 : Jds W3 base (.slice A6 m6 c6) (J.eraseIdx i) := by rw [hW3]; exact Jds.set_ hrow (HT5.out.grow H6.out.2.1).t
                have H1' := tb_ones (HRr.out.1.grow HT3.out.g) hrow3 lo hi la
                have HRow := Lib.hid hrow3
                clear hW3 hrow hrow3 s0 s1 t3
                go_wp2_with (first
    | (show wpList _ _ _ (⟨some 35, .load 32 (.tmp 2), _, _, _, _⟩ :: _) _ _; refine wpList_load_t W3 rfl _ rfl w.heap.size lo hi la vB (.slice A6 m6 c6) rfl HT3.out.t ?_)
    | (show wpList _ _ _ (⟨none, .store 32 (.tmp 4) (.tmp 35), _, _, _, _⟩ :: _) _ _; refine wpList_store_t w W3 rfl _ _ rfl rfl RB lo hi la 0 0 0 vB (.slice A6 m6 c6) (.slice none 0 0) (.slice none 0 0) rfl rfl (by rw [HRB.out]; exact HT3.out.r) H1' HT3.out.g (by have := HRB.out; omega) ?_; intro w9 hb9 hk9 hg9; have H2 := Lib.hid (And.intro hb9 (And.intro hk9 hg9)); clear hb9 hk9 hg9))
                refine bodyPost_ret (results_t2 rfl _ _ RB lo hi la vB (.slice A6 m6 c6) _ rfl rfl H2.out.1) rfl ?_
                exact ⟨_, by rw [HE.out.1]; rfl, by rw [HE.out.2]; exact ⟨vB, _, rfl, HRr.out.1.grow H2.out.2.2, Jds.but_ HRow.out (by rw [HRB.out]; exact HT3.out.r) H2.out.2.1⟩, H2.out.2.2⟩
            · have r3 : (yp == p2) = false := beq_eq_false_iff_ne.2 h3
              have HNo : Hid (¬ (⟨⟨⟨xa, xp⟩, ya, yp⟩, xo⟩ : Jd).q = ⟨⟨xa, xp⟩, ya, p2⟩) := Lib.hid fun e => h3 (congrArg (fun q : Qd => q.r.po) e)
              clear h3
              go_upto_region 4 with fail
              clear t3
              refine wp_region_gw (by kernel_rfl) (by kernel_rfl) ?_
              repeat (go_big_quiet_step ((fail)))
              refine wpQuiet_nil ?_
              intro _ hw'
              obtain ⟨⟨wq, hgq⟩, hw2⟩ := hw'
              subst hw2
              rename World => wq
              have HG := Lib.hid (HR.out.2.1.trans hgq)
              clear hgq
              go_wp2_with fail
              go_roundg (N - (i + 1))
              case measure => have := HXx.out.2; omega
              case rel => exact ⟨i + 1, rfl, by go_num, by have := HXx.out.2; omega, HG.out, fun j y hj hy => by
                rcases Nat.lt_or_ge j i with h | h
                · exact HR.out.2.2 j y h hy
                · obtain rfl : j = i := by omega
                  have := HXx.out.1
                  rw [this] at hy
                  cases hy
                  exact HNo.out⟩
          · have r2 : (ya == a2) = false := beq_eq_false_iff_ne.2 h2
            have HNo : Hid (¬ (⟨⟨⟨xa, xp⟩, ya, yp⟩, xo⟩ : Jd).q = ⟨⟨xa, xp⟩, a2, p2⟩) := Lib.hid fun e => h2 (congrArg (fun q : Qd => q.r.ad) e)
            clear h2
            go_upto_region 4 with fail
            clear t3
            refine wp_region_gw (by kernel_rfl) (by kernel_rfl) ?_
            repeat (go_big_quiet_step ((fail)))
            refine wpQuiet_nil ?_
            intro _ hw'
            obtain ⟨⟨wq, hgq⟩, hw2⟩ := hw'
            subst hw2
            rename World => wq
            have HG := Lib.hid (HR.out.2.1.trans hgq)
            clear hgq
            go_wp2_with fail
            go_roundg (N - (i + 1))
            case measure => have := HXx.out.2; omega
            case rel => exact ⟨i + 1, rfl, by go_num, by have := HXx.out.2; omega, HG.out, fun j y hj hy => by
              rcases Nat.lt_or_ge j i with h | h
              · exact HR.out.2.2 j y h hy
              · obtain rfl : j = i := by omega
                have := HXx.out.1
                rw [this] at hy
                cases hy
                exact HNo.out⟩
        · have r1 : (xp == p) = false := beq_eq_false_iff_ne.2 h1
          have HNo : Hid (¬ (⟨⟨⟨xa, xp⟩, ya, yp⟩, xo⟩ : Jd).q = ⟨⟨xa, p⟩, a2, p2⟩) := Lib.hid fun e => h1 (congrArg (fun q : Qd => q.l.po) e)
          clear h1
          go_upto_region 4 with fail
          clear t3
          refine wp_region_gw (by kernel_rfl) (by kernel_rfl) ?_
          repeat (go_big_quiet_step ((fail)))
          refine wpQuiet_nil ?_
          intro _ hw'
          obtain ⟨⟨wq, hgq⟩, hw2⟩ := hw'
          subst hw2
          rename World => wq
          have HG := Lib.hid (HR.out.2.1.trans hgq)
          clear hgq
          go_wp2_with fail
          go_roundg (N - (i + 1))
          case measure => have := HXx.out.2; omega
          case rel => exact ⟨i + 1, rfl, by go_num, by have := HXx.out.2; omega, HG.out, fun j y hj hy => by
            rcases Nat.lt_or_ge j i with h | h
            · exact HR.out.2.2 j y h hy
            · obtain rfl : j = i := by omega
              have := HXx.out.1
              rw [this] at hy
              cases hy
              exact HNo.out⟩
      · have r0 : (xa == a) = false := beq_eq_false_iff_ne.2 h0
        have HNo : Hid (¬ (⟨⟨⟨xa, xp⟩, ya, yp⟩, xo⟩ : Jd).q = ⟨⟨a, p⟩, a2, p2⟩) := Lib.hid fun e => h0 (congrArg (fun q : Qd => q.l.ad) e)
        clear h0
        go_upto_region 4 with fail
        clear t3
        refine wp_region_gw (by kernel_rfl) (by kernel_rfl) ?_
        repeat (go_big_quiet_step ((fail)))
        refine wpQuiet_nil ?_
        intro _ hw'
        obtain ⟨⟨wq, hgq⟩, hw2⟩ := hw'
        subst hw2
        rename World => wq
        have HG := Lib.hid (HR.out.2.1.trans hgq)
        clear hgq
        go_wp2_with fail
        go_roundg (N - (i + 1))
        case measure => have := HXx.out.2; omega
        case rel => exact ⟨i + 1, rfl, by go_num, by have := HXx.out.2; omega, HG.out, fun j y hj hy => by
          rcases Nat.lt_or_ge j i with h | h
          · exact HR.out.2.2 j y h hy
          · obtain rfl : j = i := by omega
            have := HXx.out.1
            rw [this] at hy
            cases hy
            exact HNo.out⟩
    · obtain rfl : i = N := by have := HR.out.1; omega
      have hno : ¬ hasJ J ⟨⟨a, p⟩, a2, p2⟩ := by
        rintro ⟨y, hy, e⟩
        obtain ⟨j, hj⟩ := List.mem_iff_getElem?.1 hy
        exact HR.out.2.2 j y (by have := (List.getElem?_eq_some_iff.1 hj).1; have := HN.out.1; omega) hj e
      have HE := Lib.hid (And.intro (show paE ⟨lo, hi, la, B, J⟩ ⟨⟨a, p⟩, a2, p2⟩ = 6 from if_neg hno) (HSt.out.1 hno))
      have HT3 := Lib.hid (HT.out.grow HR.out.2.1)
      have H1' := HO1.out
      obtain ⟨W3, hW3⟩ : ∃ W3, W3 = wo := ⟨_, rfl⟩
      subst hW3
      clear hno
      go_wp2_with (first
    | (show wpList _ _ _ (⟨some 36, .load 32 (.tmp 2), _, _, _, _⟩ :: _) _ _; refine wpList_load_t W3 rfl _ rfl w.heap.size lo hi la vB (.slice A i cp) rfl HT3.out.t ?_)
    | (show wpList _ _ _ (⟨none, .store 32 (.tmp 4) (.tmp 36), _, _, _, _⟩ :: _) _ _; refine wpList_store_t w W3 rfl _ _ rfl rfl RB lo hi la 0 0 0 vB (.slice A i cp) (.slice none 0 0) (.slice none 0 0) rfl rfl (by rw [HRB.out]; exact HT3.out.r) H1' HT3.out.g (by have := HRB.out; omega) ?_; intro w9 hb9 hk9 hg9; have H2 := Lib.hid (And.intro hb9 (And.intro hk9 hg9)); clear hb9 hk9 hg9))
      refine bodyPost_ret (results_t2 rfl _ _ RB lo hi la vB (.slice A i cp) _ rfl rfl H2.out.1) rfl ?_
      exact ⟨_, by rw [HE.out.1]; rfl, by rw [HE.out.2]; exact ⟨_, _, rfl, HRr.out.1.grow H2.out.2.2, HRr.out.2.grow H2.out.2.2⟩, H2.out.2.2⟩
end Go.Proofs.Ytkilfdhofbjkgaa
