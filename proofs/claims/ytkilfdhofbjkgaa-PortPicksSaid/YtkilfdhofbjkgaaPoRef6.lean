/- Contract: the reference's Unbind. -/
import Derived.Test.YtkilfdhofbjkgaaPoRef5
namespace Go.Proofs.Ytkilfdhofbjkgaa
set_option linter.unusedVariables false
set_option linter.unusedSimpArgs false
attribute [local irreducible] wpQuiet
open Go.ChangeShapes Go.WideShapes Go.ChangeAt Go.RowKit

set_option maxRecDepth 10000 in
set_option maxHeartbeats 4000000 in
theorem rUnbT (w : World) (base : Nat) (hbase : base ≤ w.heap.size) (v : Value) (t : Prt) (h : RTb w base v t) (ok : TOk t) (e : Ed) (o : Int) : Calls Try.prog 23 #[v, .agg #[.int .u32 e.ad, .int .u16 e.po], .int .i64 o] w fun e' w' => ∃ v', e' = .returned (.tuple #[v', .int .i64 (ubE t e o)]) ∧ RTb w' base v' (ubT t e o) ∧ Grow w w' := by
  obtain ⟨vB, vJ, rfl, hB, hJ⟩ := h
  have hbl := ok.bl
  have hst : ¬ hasB t.B e o → ubT t e o = t := fun q => if_neg q
  have hst0 : hasB t.B e o → ubT t e o = { t with B := t.B.eraseIdx (ixB t.B e o) } := fun q => if_pos q
  obtain ⟨lo, hi, la, B, J⟩ := t
  obtain ⟨a, p⟩ := e
  simp only at hst hst0
  simp only at hB hJ hbl
  obtain ⟨W, hW⟩ : ∃ W, W = ((w.alloc (.cells (tbA lo hi la vB vJ) 32)).alloc (.cells #[.int .u32 a, .int .u16 p] 40)).alloc (.cells (tbA 0 0 0 (.slice none 0 0) (.slice none 0 0)) 32) := ⟨_, rfl⟩
  have HT := Lib.hid (trE w lo hi la vB vJ a p hW)
  obtain ⟨RB, hRB⟩ : ∃ RB, RB = w.heap.size + 2 := ⟨_, rfl⟩
  have HRB := Lib.hid hRB
  have HRr := Lib.hid (And.intro hB hJ)
  have H1 := tb_ones hB hJ lo hi la
  have HB := Lib.hid (hB.rd.grow HT.out.g)
  obtain ⟨A, cp, hvb, hlc, hcm⟩ := hB.rd.form
  obtain ⟨N, hN⟩ : ∃ N, N = B.length := ⟨_, rfl⟩
  rw [← hN] at hvb hlc
  have HN := Lib.hid (And.intro hN hbl)
  have HCp := Lib.hid hcm
  have HCp2 := Lib.hid hlc
  have HSt := Lib.hid (And.intro hst hst0)
  have HO1 := Lib.hid H1
  subst hvb
  clear hB hJ hN hbl hcm hlc hst hst0 ok H1
  go_enter Try.func23, Try.ntmps23
  go_upto_region 1 with fail
  rw [← hW, ← hRB]
  have HW := Lib.hid hW
  clear hW hRB
  go_wp2_with fail
  go_loopg [8] N (fun gk s8 wr => ∃ i : Nat, gk = N - i ∧ s8 = .int .i64 (i : Int) ∧ Hid (i ≤ N ∧ Grow W wr ∧ ∀ j y, j < i → B[j]? = some y → ¬ isBd ⟨a, p⟩ o y))
  case atStart => exact ⟨0, rfl, rfl, Nat.zero_le _, Grow.refl _, fun j y hj => absurd hj (Nat.not_lt_zero _)⟩
  case round =>
    obtain ⟨i, rfl, rfl, HR⟩ := hrel
    rename World => wo
    have t3 := (HT.out.t.grow HR.out.2.1).c3
    rcases Nat.lt_or_ge i N with hlt | hge
    · obtain ⟨b, off, c', e1, hb, hc⟩ := Bds.cells HB.out (by have := HN.out.1; omega)
      obtain ⟨x, hx⟩ : ∃ x, B[i]? = some x := ⟨_, List.getElem?_eq_getElem (by have := HN.out.1; omega)⟩
      obtain ⟨x0, x1, x2⟩ := hc i x hx
      have e2 : A = some ⟨b, off, none⟩ := by injection e1
      subst e2
      obtain ⟨⟨xa, xp⟩, xo⟩ := x
      simp only at x0 x1 x2
      have hb2 := Nat.lt_of_lt_of_le hb HR.out.2.1.size
      have k0 := fun p : Gw wo => Gw.cell (p := p) (a := ⟨b, off + i * 3, none⟩) hb2 ((HR.out.2.1.cell (p := ⟨b, off + i * 3, none⟩) hb).trans x0)
      have k1 := fun p : Gw wo => Gw.cell (p := p) (a := ⟨b, off + i * 3 + 1, none⟩) hb2 ((HR.out.2.1.cell (p := ⟨b, off + i * 3 + 1, none⟩) hb).trans x1)
      have k2 := fun p : Gw wo => Gw.cell (p := p) (a := ⟨b, off + i * 3 + 2, none⟩) hb2 ((HR.out.2.1.cell (p := ⟨b, off + i * 3 + 2, none⟩) hb).trans x2)
      have m3 := fun p : Gw wo => Gw.cell (p := p) (a := ⟨w.heap.size, 3, none⟩) (HT.out.t.grow HR.out.2.1).lt t3
      have E2 := HT.out.e.grow HR.out.2.1
      have k4 := fun p : Gw wo => Gw.cell (p := p) (a := ⟨w.heap.size + 1, 0, none⟩) E2.lt E2.c0
      have k5 := fun p : Gw wo => Gw.cell (p := p) (a := ⟨w.heap.size + 1, 1, none⟩) E2.lt E2.c1
      clear e1 hc x0 x1 x2 hb hb2 E2
      have i1 : (i : Int) < (N : Int) := by omega
      have ib : i < 1024 := by have := HN.out; omega
      have HXx := Lib.hid (And.intro hx hlt)
      clear hx hlt
      by_cases h0 : xa = a
      · subst h0
        by_cases h1 : xp = p
        · subst h1
          by_cases h2 : xo = o
          · subst h2
            have hhas : hasB B ⟨xa, xp⟩ xo := ⟨_, List.mem_iff_getElem?.2 ⟨i, HXx.out.1⟩, rfl, rfl⟩
            have hix : ixB B ⟨xa, xp⟩ xo = i := findIdx_first (P := fun b : Bd => decide (isBd ⟨xa, xp⟩ xo b)) HXx.out.1 (decide_eq_true ⟨rfl, rfl⟩) fun j y hj hy => decide_eq_false (HR.out.2.2 j y hj hy)
            have HE : Hid (ubE ⟨lo, hi, la, B, J⟩ ⟨xa, xp⟩ xo = 0 ∧ ubT ⟨lo, hi, la, B, J⟩ ⟨xa, xp⟩ xo = ⟨lo, hi, la, B.eraseIdx i, J⟩) := ⟨if_pos hhas, by rw [HSt.out.2 hhas, hix]⟩
            clear hhas hix
            go_upto_region 4 with fail
            clear t3
            refine wp_region_gw (by kernel_rfl) (by kernel_rfl) ?_
            repeat (go_big_quiet_step ((fail)))
            refine wpQuiet_nil ?_
            intro _ hw'
            obtain ⟨⟨wq, hgq⟩, hw2⟩ := hw'
            subst hw2
            rename World => wq
            have HT5 := Lib.hid (HT.out.grow (HR.out.2.1.trans hgq))
            have HLq := Lib.hid (HR.out.2.1.trans hgq)
            clear hgq
            have t3 := HT5.out.t.c3
            have hb3 : w.heap.size < wq.heap.size := HT5.out.t.lt
            have hST : Hid (∀ w1, Grow wq w1 → w1.cell? ⟨w.heap.size, 3, none⟩ = some (.slice (some ⟨b, off, none⟩) N cp) ∧ w1.frozen? ⟨w.heap.size, 3, none⟩ = false) := fun w1 hg => ⟨(HT5.out.t.grow hg).c3, (HT5.out.t.grow hg).fz 3⟩
            have hrd : RdG bdC wq (.slice (some ⟨b, off, none⟩) N cp) B := HB.out.grow HLq.out
            have hil : i < N := HXx.out.2
            obtain ⟨BB, hBB0, hTl0⟩ := RdG.tail (l := B) (k := i + 1) hrd (by omega)
            have hBB : (if cp = i + 1 then (some ⟨b, off, none⟩ : Option Addr) else some ⟨b, off + (i + 1) * 3, none⟩) = some BB := hBB0
            clear hBB0
            have hTl : Hid (∀ w1, Grow wq w1 → RdG bdC w1 (.slice (some BB) (N - (i + 1)) (cp - (i + 1))) (B.drop (i + 1))) := fun w1 hg => hTl0.out.grow hg
            have hFr : Hid (∀ w1, Grow wq w1 → RdG bdC w1 (.slice (some ⟨b, off, none⟩) i cp) (B.take i)) := fun w1 hg => (RdG.front hrd (by omega)).grow hg
            have HL := Lib.hid (show (B.take i).length = i ∧ (B.drop (i + 1)).length = N - (i + 1) from ⟨by rw [List.length_take]; have := HN.out.1; omega, by rw [List.length_drop, ← HN.out.1]⟩)
            have hcpm := HCp.out
            unfold maxLen at hcpm
            have q0 : ¬ ((i : Int) < 0) := by omega
            have q1 : (0 : Int) ≤ (i : Int) + 1 := by omega
            have q2 : (i : Int) + 1 ≤ (N : Int) := by omega
            have q3 : ((i : Int) + 1).toNat = i + 1 := by omega
            have q4 : (i : Int) ≤ (cp : Int) := by have := HCp2.out; omega
            have q6 : IntKind.i64.wrap ((i : Int) + 1) = (i : Int) + 1 := IntWalk.i64_in _ (by omega)
            have hEr := Lib.hid (List.eraseIdx_eq_take_drop_succ B i)
            clear hrd hTl0 hil
            go_upto_region 5 with fail
            go_region_law (first
              | (refine step_appK _ rfl (.tmp 34) (.tmp 38) 29 rfl 74 _ 3 16 Try.underlying29 infoBd rfl (by decide) wq.heap.size _ (.slice (some ⟨b, off, none⟩) i cp) 0 _ [] _ rfl rfl (owg_lit0 (c := bdC) wq.drew) (hFr.out _ ((Grow.drew _).trans (Grow.alloc _ _))) (bdC.ones _) (by rw [HL.out.1]; omega) (by rw [HL.out.1]; unfold maxLen; omega) (by simp) ?_; intro v1 w1 ho1 hg1 hat1; have hgw1 : Grow wq w1 := ((Grow.drew wq).trans (Grow.alloc _ _)).grown hg1 (by simp) (fun k hk => by cases hk; simp); obtain ⟨u0, _⟩ := hST.out w1 hgw1; have H5 := Lib.hid (And.intro ho1 hgw1); clear ho1 hg1 hat1 hgw1)
              | (refine step_appK _ rfl (.tmp 39) (.tmp 44) 29 rfl 74 _ 3 16 Try.underlying29 infoBd rfl (by decide) wq.heap.size v1 _ _ _ _ _ rfl rfl H5.out.1 (hTl.out _ H5.out.2) (bdC.ones _) (by rw [HL.out.1, HL.out.2]; have := HN.out; omega) (by rw [HL.out.1, HL.out.2]; have := HN.out; unfold maxLen; omega) H5.out.2.size ?_; intro v2 w2 ho2 hg2 hat2; have hgw2 : Grow wq w2 := H5.out.2.grown hg2 H5.out.2.size fun k hk => (World.ownsRow.lt H5.out.1 k hk).1; obtain ⟨s0, s1⟩ := hST.out w2 hgw2; obtain ⟨A6, c6, hf6, _⟩ := (RdK.of_own ho2).form; obtain ⟨m6, hm6⟩ : ∃ m, m = 0 + (B.take i).length + (B.drop (i + 1)).length := ⟨_, rfl⟩; rw [← hm6] at hf6 ho2; subst hf6; have H6 := Lib.hid (And.intro ho2 (And.intro hgw2 hm6)); clear ho2 hg2 hat2 hgw2 hm6))
            all_goals
              obtain ⟨W3, hW3⟩ : ∃ W3, W3 = w2.setCell ⟨w.heap.size, 3, none⟩ (.slice A6 m6 c6) := ⟨_, rfl⟩
              rw [← hW3]
              have HT3 : Hid (TrE w W3 lo hi la (.slice A6 m6 c6) vJ xa xp) := by rw [hW3]; exact (HT5.out.grow H6.out.2.1).set3 _
              have hrow : Bds w2 base (.slice A6 m6 c6) (B.eraseIdx i) := by
                rw [hEr.out]
                exact OwG.base_ (owg_app (c := bdC) H6.out.1 (by have := H6.out.2.2; omega)) (Nat.le_trans hbase HT5.out.g.size)
              have hrow3 : Bds W3 base (.slice A6 m6 c6) (B.eraseIdx i) := by rw [hW3]; exact Bds.set_ hrow (HT5.out.grow H6.out.2.1).t
              have H1' := tb_ones hrow3 (HRr.out.2.grow HT3.out.g) lo hi la
              have HRow := Lib.hid hrow3
              clear hW3 hrow hrow3 s0 s1 t3
              go_wp2_with (first
    | (show wpList _ _ _ (⟨some 47, .load 32 (.tmp 3), _, _, _, _⟩ :: _) _ _; refine wpList_load_t W3 rfl _ rfl w.heap.size lo hi la (.slice A6 m6 c6) vJ rfl HT3.out.t ?_)
    | (show wpList _ _ _ (⟨none, .store 32 (.tmp 6) (.tmp 47), _, _, _, _⟩ :: _) _ _; refine wpList_store_t w W3 rfl _ _ rfl rfl RB lo hi la 0 0 0 (.slice A6 m6 c6) vJ (.slice none 0 0) (.slice none 0 0) rfl rfl (by rw [HRB.out]; exact HT3.out.r) H1' HT3.out.g (by have := HRB.out; omega) ?_; intro w9 hb9 hk9 hg9; have H2 := Lib.hid (And.intro hb9 (And.intro hk9 hg9)); clear hb9 hk9 hg9))
              refine bodyPost_ret (results_t2 rfl _ _ RB lo hi la (.slice A6 m6 c6) vJ _ rfl rfl H2.out.1) rfl ?_
              exact ⟨_, by rw [HE.out.1]; rfl, by rw [HE.out.2]; exact ⟨_, vJ, rfl, Bds.but_ HRow.out (by rw [HRB.out]; exact HT3.out.r) H2.out.2.1, HRr.out.2.grow H2.out.2.2⟩, H2.out.2.2⟩
          · have r2 : (xo == o) = false := beq_eq_false_iff_ne.2 h2
            have HNo : Hid (¬ isBd ⟨xa, xp⟩ o (⟨⟨xa, xp⟩, xo⟩ : Bd)) := Lib.hid fun e => h2 (e.2)
            clear h2
            go_upto_region 4 with fail
            clear t3
            refine wp_region_gw (by kernel_rfl) (by kernel_rfl) ?_
            repeat (go_big_quiet_step ((fail)))
            refine wpQuiet_nil ?_
            intro _ hw'
            obtain ⟨⟨wq, hgq⟩, hw2⟩ := hw'
            subst hw2
            rename World => wq
            have HG := Lib.hid (HR.out.2.1.trans hgq)
            clear hgq
            go_wp2_with fail
            go_roundg (N - (i + 1))
            case measure => have := HXx.out.2; omega
            case rel => exact ⟨i + 1, rfl, by go_num, by have := HXx.out.2; omega, HG.out, fun j y hj hy => by
              rcases Nat.lt_or_ge j i with h | h
              · exact HR.out.2.2 j y h hy
              · obtain rfl : j = i := by omega
                have := HXx.out.1
                rw [this] at hy
                cases hy
                exact HNo.out⟩
        · have r1 : (xp == p) = false := beq_eq_false_iff_ne.2 h1
          have HNo : Hid (¬ isBd ⟨xa, p⟩ o (⟨⟨xa, xp⟩, xo⟩ : Bd)) := Lib.hid fun e => h1 (congrArg Ed.po e.1)
          clear h1
          go_upto_region 4 with fail
          clear t3
          refine wp_region_gw (by kernel_rfl) (by kernel_rfl) ?_
          repeat (go_big_quiet_step ((fail)))
          refine wpQuiet_nil ?_
          intro _ hw'
          obtain ⟨⟨wq, hgq⟩, hw2⟩ := hw'
          subst hw2
          rename World => wq
          have HG := Lib.hid (HR.out.2.1.trans hgq)
          clear hgq
          go_wp2_with fail
          go_roundg (N - (i + 1))
          case measure => have := HXx.out.2; omega
          case rel => exact ⟨i + 1, rfl, by go_num, by have := HXx.out.2; omega, HG.out, fun j y hj hy => by
            rcases Nat.lt_or_ge j i with h | h
            · exact HR.out.2.2 j y h hy
            · obtain rfl : j = i := by omega
              have := HXx.out.1
              rw [this] at hy
              cases hy
              exact HNo.out⟩
      · have r0 : (xa == a) = false := beq_eq_false_iff_ne.2 h0
        have HNo : Hid (¬ isBd ⟨a, p⟩ o (⟨⟨xa, xp⟩, xo⟩ : Bd)) := Lib.hid fun e => h0 (congrArg Ed.ad e.1)
        clear h0
        go_upto_region 4 with fail
        clear t3
        refine wp_region_gw (by kernel_rfl) (by kernel_rfl) ?_
        repeat (go_big_quiet_step ((fail)))
        refine wpQuiet_nil ?_
        intro _ hw'
        obtain ⟨⟨wq, hgq⟩, hw2⟩ := hw'
        subst hw2
        rename World => wq
        have HG := Lib.hid (HR.out.2.1.trans hgq)
        clear hgq
        go_wp2_with fail
        go_roundg (N - (i + 1))
        case measure => have := HXx.out.2; omega
        case rel => exact ⟨i + 1, rfl, by go_num, by have := HXx.out.2; omega, HG.out, fun j y hj hy => by
          rcases Nat.lt_or_ge j i with h | h
          · exact HR.out.2.2 j y h hy
          · obtain rfl : j = i := by omega
            have := HXx.out.1
            rw [this] at hy
            cases hy
            exact HNo.out⟩
    · obtain rfl : i = N := by have := HR.out.1; omega
      have hno : ¬ hasB B ⟨a, p⟩ o := by
        rintro ⟨y, hy, e⟩
        obtain ⟨j, hj⟩ := List.mem_iff_getElem?.1 hy
        exact HR.out.2.2 j y (by have := (List.getElem?_eq_some_iff.1 hj).1; have := HN.out.1; omega) hj e
      have HE := Lib.hid (And.intro (show ubE ⟨lo, hi, la, B, J⟩ ⟨a, p⟩ o = 6 from if_neg hno) (HSt.out.1 hno))
      have HT3 := Lib.hid (HT.out.grow HR.out.2.1)
      have H1' := HO1.out
      obtain ⟨W3, hW3⟩ : ∃ W3, W3 = wo := ⟨_, rfl⟩
      subst hW3
      clear hno
      go_wp2_with (first
    | (show wpList _ _ _ (⟨some 48, .load 32 (.tmp 3), _, _, _, _⟩ :: _) _ _; refine wpList_load_t W3 rfl _ rfl w.heap.size lo hi la (.slice A i cp) vJ rfl HT3.out.t ?_)
    | (show wpList _ _ _ (⟨none, .store 32 (.tmp 6) (.tmp 48), _, _, _, _⟩ :: _) _ _; refine wpList_store_t w W3 rfl _ _ rfl rfl RB lo hi la 0 0 0 (.slice A i cp) vJ (.slice none 0 0) (.slice none 0 0) rfl rfl (by rw [HRB.out]; exact HT3.out.r) H1' HT3.out.g (by have := HRB.out; omega) ?_; intro w9 hb9 hk9 hg9; have H2 := Lib.hid (And.intro hb9 (And.intro hk9 hg9)); clear hb9 hk9 hg9))
      refine bodyPost_ret (results_t2 rfl _ _ RB lo hi la (.slice A i cp) vJ _ rfl rfl H2.out.1) rfl ?_
      exact ⟨_, by rw [HE.out.1]; rfl, by rw [HE.out.2]; exact ⟨_, _, rfl, HRr.out.1.grow H2.out.2.2, HRr.out.2.grow H2.out.2.2⟩, H2.out.2.2⟩
end Go.Proofs.Ytkilfdhofbjkgaa
