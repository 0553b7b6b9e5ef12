/- Contract: the reference's Talks. -/
import Derived.Test.YtkilfdhofbjkgaaPoRef1
namespace Go.Proofs.Ytkilfdhofbjkgaa
set_option linter.unusedVariables false
set_option linter.unusedSimpArgs false
attribute [local irreducible] wpQuiet
open Go.ChangeShapes Go.WideShapes Go.ChangeAt Go.RowKit

set_option maxRecDepth 10000 in
set_option maxHeartbeats 1000000 in
theorem rTalksT (w : World) (base : Nat) (lo hi la : Int) (vB vJ : Value) (J : List Jd) (hJ : Jds w base vJ J) (hl : J.length ≤ 1024) (q : Qd) : Calls Try.prog 14 #[.agg (tbA lo hi la vB vJ), .agg #[.int .u32 q.l.ad, .int .u16 q.l.po, .int .u32 q.r.ad, .int .u16 q.r.po]] w fun e' w' => e' = .returned (.tuple #[.int .i64 (tlS J q).1, .bool (tlS J q).2]) ∧ Grow w w' := by
  obtain ⟨⟨q1, q2⟩, q3, q4⟩ := q
  obtain ⟨W, hW⟩ : ∃ W, W = (w.alloc (.cells (tbA lo hi la vB vJ) 32)).alloc (.cells #[.int .u32 q1, .int .u16 q2, .int .u32 q3, .int .u16 q4] 42) := ⟨_, rfl⟩
  obtain ⟨hT, hE, hg⟩ := two_tq w _ q1 q2 q3 q4 hW
  have HT : Hid (TbB W w.heap.size lo hi la vB vJ ∧ QdB W (w.heap.size + 1) q1 q2 q3 q4 ∧ Grow w W) := ⟨hT, hE, hg⟩
  have HB := Lib.hid (hJ.rd.grow hg)
  obtain ⟨A, cp, hvb, _⟩ := hJ.rd.form
  obtain ⟨N, hN⟩ : ∃ N, N = J.length := ⟨_, rfl⟩
  rw [← hN] at hvb
  have HN := Lib.hid (And.intro hN hl)
  subst hvb
  clear hT hE hg hJ hN hl
  go_enter Try.func14, Try.ntmps14
  go_upto_region 1 with fail
  rw [← hW]
  have HW := Lib.hid hW
  clear hW
  go_wp2_with fail
  go_loopg [6] N (fun gk s6 wr => ∃ i : Nat, gk = N - i ∧ s6 = .int .i64 (i : Int) ∧ Hid (i ≤ N ∧ Grow W wr ∧ ∀ j y, j < i → J[j]? = some y → y.q ≠ ⟨⟨q1, q2⟩, q3, q4⟩))
  case atStart => exact ⟨0, rfl, rfl, Nat.zero_le _, Grow.refl _, fun j y hj => absurd hj (Nat.not_lt_zero _)⟩
  case round =>
    obtain ⟨i, rfl, rfl, HR⟩ := hrel
    rename World => wo
    have t4 := (HT.out.1.grow HR.out.2.1).c4
    rcases Nat.lt_or_ge i N with hlt | hge
    · obtain ⟨b, off, c', e1, hb, hc⟩ := Jds.cells HB.out (by have := HN.out.1; omega)
      obtain ⟨x, hx⟩ : ∃ x, J[i]? = some x := ⟨_, List.getElem?_eq_getElem (by have := HN.out.1; omega)⟩
      obtain ⟨x0, x1, x2, x3, x4⟩ := hc i x hx
      have e2 : A = some ⟨b, off, none⟩ := by injection e1
      have i1 : (i : Int) < (N : Int) := by omega
      have ib : i < 1024 := by have := HN.out; omega
      subst e2
      obtain ⟨⟨⟨a1, a2⟩, a3, a4⟩, ao⟩ := x
      simp only at x0 x1 x2 x3 x4
      have hb2 := Nat.lt_of_lt_of_le hb HR.out.2.1.size
      have k0 := fun p : Gw wo => Gw.cell (p := p) (a := ⟨b, off + i * 5, none⟩) hb2 ((HR.out.2.1.cell (p := ⟨b, off + i * 5, none⟩) hb).trans x0)
      have k1 := fun p : Gw wo => Gw.cell (p := p) (a := ⟨b, off + i * 5 + 1, none⟩) hb2 ((HR.out.2.1.cell (p := ⟨b, off + i * 5 + 1, none⟩) hb).trans x1)
      have k2 := fun p : Gw wo => Gw.cell (p := p) (a := ⟨b, off + i * 5 + 2, none⟩) hb2 ((HR.out.2.1.cell (p := ⟨b, off + i * 5 + 2, none⟩) hb).trans x2)
      have k3 := fun p : Gw wo => Gw.cell (p := p) (a := ⟨b, off + i * 5 + 3, none⟩) hb2 ((HR.out.2.1.cell (p := ⟨b, off + i * 5 + 3, none⟩) hb).trans x3)
      have m4 := fun p : Gw wo => Gw.cell (p := p) (a := ⟨w.heap.size, 4, none⟩) (HT.out.1.grow HR.out.2.1).lt t4
      have E2 := HT.out.2.1.grow HR.out.2.1
      have k4 := fun p : Gw wo => Gw.cell (p := p) (a := ⟨w.heap.size + 1, 0, none⟩) E2.lt E2.c0
      have k5 := fun p : Gw wo => Gw.cell (p := p) (a := ⟨w.heap.size + 1, 1, none⟩) E2.lt E2.c1
      have k6 := fun p : Gw wo => Gw.cell (p := p) (a := ⟨w.heap.size + 1, 2, none⟩) E2.lt E2.c2
      have k7 := fun p : Gw wo => Gw.cell (p := p) (a := ⟨w.heap.size + 1, 3, none⟩) E2.lt E2.c3
      have HXx := Lib.hid (And.intro hx (And.intro hlt (And.intro hb x4)))
      clear e1 hc hx x0 x1 x2 x3 x4 hb hb2 hlt E2
      by_cases h0 : a1 = q1
      · subst h0
        by_cases h1 : a2 = q2
        · subst h1
          by_cases h2 : a3 = q3
          · subst h2
            by_cases h3 : a4 = q4
            · subst h3
              have HE : Hid (tlS J ⟨⟨a1, a2⟩, a3, a4⟩ = (ao, true)) := tlS_at HXx.out.1 rfl HR.out.2.2
              go_upto_region 4 with fail
              clear t4
              refine wp_region_gw (by kernel_rfl) (by kernel_rfl) ?_
              repeat (go_big_quiet_step ((fail)))
              refine wpQuiet_nil ?_
              intro _ hw'
              obtain ⟨⟨wq, hgq⟩, hw2⟩ := hw'
              subst hw2
              rename World => wq
              have t4 := (HT.out.1.grow (HR.out.2.1.trans hgq)).c4
              have y4 := ((HR.out.2.1.trans hgq).cell (p := ⟨b, off + i * 5 + 4, none⟩) HXx.out.2.2.1).trans HXx.out.2.2.2
              have HG := Lib.hid (HR.out.2.1.trans hgq)
              clear hgq
              go_wp2_with fail
              go_ret2
              exact ⟨by rw [HE.out]; rfl, Grow.trans HT.out.2.2 HG.out⟩
            · have r3 : (a4 == q4) = false := beq_eq_false_iff_ne.2 h3
              have HNo : Hid ((⟨⟨a1, a2⟩, a3, a4⟩ : Qd) ≠ ⟨⟨a1, a2⟩, a3, q4⟩) := Lib.hid fun e => h3 (by injection e with _ e; injection e)
              clear h3
              go_upto_region 4 with fail
              clear t4
              refine wp_region_gw (by kernel_rfl) (by kernel_rfl) ?_
              repeat (go_big_quiet_step ((fail)))
              refine wpQuiet_nil ?_
              intro _ hw'
              obtain ⟨⟨wq, hgq⟩, hw2⟩ := hw'
              subst hw2
              have HG := Lib.hid (HR.out.2.1.trans hgq)
              clear hgq
              go_wp2_with fail
              go_roundg (N - (i + 1))
              case measure => have := HXx.out.2.1; omega
              case rel => exact ⟨i + 1, rfl, by go_num, by have := HXx.out.2.1; omega, HG.out, fun j y hj hy => by
                rcases Nat.lt_or_ge j i with h | h
                · exact HR.out.2.2 j y h hy
                · obtain rfl : j = i := by omega
                  have := HXx.out.1
                  rw [this] at hy
                  cases hy
                  exact HNo.out⟩
          · have r2 : (a3 == q3) = false := beq_eq_false_iff_ne.2 h2
            have HNo : Hid ((⟨⟨a1, a2⟩, a3, a4⟩ : Qd) ≠ ⟨⟨a1, a2⟩, q3, q4⟩) := Lib.hid fun e => h2 (by injection e with _ e; injection e)
            clear h2
            go_upto_region 4 with fail
            clear t4
            refine wp_region_gw (by kernel_rfl) (by kernel_rfl) ?_
            repeat (go_big_quiet_step ((fail)))
            refine wpQuiet_nil ?_
            intro _ hw'
            obtain ⟨⟨wq, hgq⟩, hw2⟩ := hw'
            subst hw2
            have HG := Lib.hid (HR.out.2.1.trans hgq)
            clear hgq
            go_wp2_with fail
            go_roundg (N - (i + 1))
            case measure => have := HXx.out.2.1; omega
            case rel => exact ⟨i + 1, rfl, by go_num, by have := HXx.out.2.1; omega, HG.out, fun j y hj hy => by
              rcases Nat.lt_or_ge j i with h | h
              · exact HR.out.2.2 j y h hy
              · obtain rfl : j = i := by omega
                have := HXx.out.1
                rw [this] at hy
                cases hy
                exact HNo.out⟩
        · have r1 : (a2 == q2) = false := beq_eq_false_iff_ne.2 h1
          have HNo : Hid ((⟨⟨a1, a2⟩, a3, a4⟩ : Qd) ≠ ⟨⟨a1, q2⟩, q3, q4⟩) := Lib.hid fun e => h1 (by injection e with e _; injection e)
          clear h1
          go_upto_region 4 with fail
          clear t4
          refine wp_region_gw (by kernel_rfl) (by kernel_rfl) ?_
          repeat (go_big_quiet_step ((fail)))
          refine wpQuiet_nil ?_
          intro _ hw'
          obtain ⟨⟨wq, hgq⟩, hw2⟩ := hw'
          subst hw2
          have HG := Lib.hid (HR.out.2.1.trans hgq)
          clear hgq
          go_wp2_with fail
          go_roundg (N - (i + 1))
          case measure => have := HXx.out.2.1; omega
          case rel => exact ⟨i + 1, rfl, by go_num, by have := HXx.out.2.1; omega, HG.out, fun j y hj hy => by
            rcases Nat.lt_or_ge j i with h | h
            · exact HR.out.2.2 j y h hy
            · obtain rfl : j = i := by omega
              have := HXx.out.1
              rw [this] at hy
              cases hy
              exact HNo.out⟩
      · have r0 : (a1 == q1) = false := beq_eq_false_iff_ne.2 h0
        have HNo : Hid ((⟨⟨a1, a2⟩, a3, a4⟩ : Qd) ≠ ⟨⟨q1, q2⟩, q3, q4⟩) := Lib.hid fun e => h0 (by injection e with e _; injection e)
        clear h0
        go_upto_region 4 with fail
        clear t4
        refine wp_region_gw (by kernel_rfl) (by kernel_rfl) ?_
        repeat (go_big_quiet_step ((fail)))
        refine wpQuiet_nil ?_
        intro _ hw'
        obtain ⟨⟨wq, hgq⟩, hw2⟩ := hw'
        subst hw2
        have HG := Lib.hid (HR.out.2.1.trans hgq)
        clear hgq
        go_wp2_with fail
        go_roundg (N - (i + 1))
        case measure => have := HXx.out.2.1; omega
        case rel => exact ⟨i + 1, rfl, by go_num, by have := HXx.out.2.1; omega, HG.out, fun j y hj hy => by
          rcases Nat.lt_or_ge j i with h | h
          · exact HR.out.2.2 j y h hy
          · obtain rfl : j = i := by omega
            have := HXx.out.1
            rw [this] at hy
            cases hy
            exact HNo.out⟩
    · obtain rfl : i = N := by have := HR.out.1; omega
      have HE : Hid (tlS J ⟨⟨q1, q2⟩, q3, q4⟩ = (0, false)) := tlS_none fun j y hy => HR.out.2.2 j y (by have := (List.getElem?_eq_some_iff.1 hy).1; have := HN.out.1; omega) hy
      have HG := Lib.hid HR.out.2.1
      go_wp2_with fail
      go_ret2
      exact ⟨by rw [HE.out]; rfl, Grow.trans HT.out.2.2 HG.out⟩
end Go.Proofs.Ytkilfdhofbjkgaa
