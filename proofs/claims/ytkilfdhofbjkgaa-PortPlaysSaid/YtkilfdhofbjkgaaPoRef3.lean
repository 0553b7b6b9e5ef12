/- Contract: the reference's Owner. -/
import Derived.Test.YtkilfdhofbjkgaaPoRef2
namespace Go.Proofs.Ytkilfdhofbjkgaa
set_option linter.unusedVariables false
set_option linter.unusedSimpArgs false
attribute [local irreducible] wpQuiet
open Go.ChangeShapes Go.WideShapes Go.ChangeAt Go.RowKit

set_option maxRecDepth 10000 in
set_option maxHeartbeats 2000000 in
theorem rOwnerT (w : World) (base : Nat) (lo hi la : Int) (vB vJ : Value) (B : List Bd) (hB : Bds w base vB B) (hl : B.length ≤ 1024) (e : Ed) : Calls Try.prog 12 #[.agg (tbA lo hi la vB vJ), .agg #[.int .u32 e.ad, .int .u16 e.po]] w fun e' w' => e' = .returned (.tuple #[.int .i64 (owS B e).1, .bool (owS B e).2]) ∧ Grow w w' := by
  obtain ⟨ea, ep⟩ := e
  obtain ⟨W, hW⟩ : ∃ W, W = (w.alloc (.cells (tbA lo hi la vB vJ) 32)).alloc (.cells #[.int .u32 ea, .int .u16 ep] 40) := ⟨_, rfl⟩
  obtain ⟨hT, hE, hg⟩ := two_te w _ ea ep hW
  have HT : Hid (TbB W w.heap.size lo hi la vB vJ ∧ EdB W (w.heap.size + 1) ea ep ∧ Grow w W) := ⟨hT, hE, hg⟩
  have HB := Lib.hid (hB.rd.grow hg)
  obtain ⟨A, cp, hvb, _⟩ := hB.rd.form
  obtain ⟨N, hN⟩ : ∃ N, N = B.length := ⟨_, rfl⟩
  rw [← hN] at hvb
  have HN := Lib.hid (And.intro hN hl)
  subst hvb
  clear hT hE hg hB hN hl
  go_enter Try.func12, Try.ntmps12
  go_upto_region 1 with fail
  rw [← hW]
  have HW := Lib.hid hW
  clear hW
  go_wp2_with fail
  go_loopg [6] N (fun gk s6 wr => ∃ i : Nat, gk = N - i ∧ s6 = .int .i64 (i : Int) ∧ Hid (i ≤ N ∧ Grow W wr ∧ ∀ j y, j < i → B[j]? = some y → y.e ≠ ⟨ea, ep⟩))
  case atStart => exact ⟨0, rfl, rfl, Nat.zero_le _, Grow.refl _, fun j y hj => absurd hj (Nat.not_lt_zero _)⟩
  case round =>
    obtain ⟨i, rfl, rfl, HR⟩ := hrel
    rename World => wo
    have t3 := (HT.out.1.grow HR.out.2.1).c3
    rcases Nat.lt_or_ge i N with hlt | hge
    · skip
      obtain ⟨b, off, c', e1, hb, hc⟩ := Bds.cells HB.out (by have := HN.out.1; omega)
      obtain ⟨x, hx⟩ : ∃ x, B[i]? = some x := ⟨_, List.getElem?_eq_getElem (by have := HN.out.1; omega)⟩
      obtain ⟨x0, x1, x2⟩ := hc i x hx
      have e2 : A = some ⟨b, off, none⟩ := by injection e1
      have i1 : (i : Int) < (N : Int) := by omega
      have ib : i < 1024 := by have := HN.out; omega
      subst e2
      obtain ⟨⟨xa, xp⟩, xo⟩ := x
      simp only at x0 x1 x2
      have hb2 := Nat.lt_of_lt_of_le hb HR.out.2.1.size
      have k0 := fun p : Gw wo => Gw.cell (p := p) (a := ⟨b, off + i * 3, none⟩) hb2 ((HR.out.2.1.cell (p := ⟨b, off + i * 3, none⟩) hb).trans x0)
      have k1 := fun p : Gw wo => Gw.cell (p := p) (a := ⟨b, off + i * 3 + 1, none⟩) hb2 ((HR.out.2.1.cell (p := ⟨b, off + i * 3 + 1, none⟩) hb).trans x1)
      have m3 := fun p : Gw wo => Gw.cell (p := p) (a := ⟨w.heap.size, 3, none⟩) (HT.out.1.grow HR.out.2.1).lt t3
      have E2 := HT.out.2.1.grow HR.out.2.1
      have k4 := fun p : Gw wo => Gw.cell (p := p) (a := ⟨w.heap.size + 1, 0, none⟩) E2.lt E2.c0
      have k5 := fun p : Gw wo => Gw.cell (p := p) (a := ⟨w.heap.size + 1, 1, none⟩) E2.lt E2.c1
      have HXx := Lib.hid (And.intro hx (And.intro hlt (And.intro hb x2)))
      clear e1 hc hx x0 x1 x2 hb hb2 hlt E2
      by_cases h0 : xa = ea
      · subst h0
        by_cases h1 : xp = ep
        · subst h1
          have HE : Hid (owS B ⟨xa, xp⟩ = (xo, true)) := owS_at1 HXx.out.1 rfl HR.out.2.2
          go_upto_region 4 with fail
          clear t3
          refine wp_region_gw (by kernel_rfl) (by kernel_rfl) ?_
          repeat (go_big_quiet_step ((fail)))
          refine wpQuiet_nil ?_
          intro _ hw'
          obtain ⟨⟨wq, hgq⟩, hw2⟩ := hw'
          subst hw2
          rename World => wq
          have t3 := (HT.out.1.grow (HR.out.2.1.trans hgq)).c3
          have y2 := ((HR.out.2.1.trans hgq).cell (p := ⟨b, off + i * 3 + 2, none⟩) HXx.out.2.2.1).trans HXx.out.2.2.2
          have HG := Lib.hid (HR.out.2.1.trans hgq)
          clear hgq
          go_wp2_with fail
          go_ret2
          exact ⟨by rw [HE.out]; rfl, Grow.trans HT.out.2.2 HG.out⟩
        · have r1 : (xp == ep) = false := beq_eq_false_iff_ne.2 h1
          have HNo : Hid ((⟨xa, xp⟩ : Ed) ≠ ⟨xa, ep⟩) := Lib.hid fun e => h1 (by injection e)
          clear h1
          go_upto_region 4 with fail
          clear t3
          refine wp_region_gw (by kernel_rfl) (by kernel_rfl) ?_
          repeat (go_big_quiet_step ((fail)))
          refine wpQuiet_nil ?_
          intro _ hw'
          obtain ⟨⟨wq, hgq⟩, hw2⟩ := hw'
          subst hw2
          rename World => wq
          have HG := Lib.hid (HR.out.2.1.trans hgq)
          clear hgq
          go_wp2_with fail
          go_roundg (N - (i + 1))
          case measure => have := HXx.out.2.1; omega
          case rel => exact ⟨i + 1, rfl, by go_num, by have := HXx.out.2.1; omega, HG.out, fun j y hj hy => by
            rcases Nat.lt_or_ge j i with h | h
            · exact HR.out.2.2 j y h hy
            · obtain rfl : j = i := by omega
              have := HXx.out.1
              rw [this] at hy
              cases hy
              exact HNo.out⟩
      · have r0 : (xa == ea) = false := beq_eq_false_iff_ne.2 h0
        have HNo : Hid ((⟨xa, xp⟩ : Ed) ≠ ⟨ea, ep⟩) := Lib.hid fun e => h0 (by injection e)
        clear h0
        go_upto_region 4 with fail
        clear t3
        refine wp_region_gw (by kernel_rfl) (by kernel_rfl) ?_
        repeat (go_big_quiet_step ((fail)))
        refine wpQuiet_nil ?_
        intro _ hw'
        obtain ⟨⟨wq, hgq⟩, hw2⟩ := hw'
        subst hw2
        rename World => wq
        have HG := Lib.hid (HR.out.2.1.trans hgq)
        clear hgq
        go_wp2_with fail
        go_roundg (N - (i + 1))
        case measure => have := HXx.out.2.1; omega
        case rel => exact ⟨i + 1, rfl, by go_num, by have := HXx.out.2.1; omega, HG.out, fun j y hj hy => by
          rcases Nat.lt_or_ge j i with h | h
          · exact HR.out.2.2 j y h hy
          · obtain rfl : j = i := by omega
            have := HXx.out.1
            rw [this] at hy
            cases hy
            exact HNo.out⟩
    · obtain rfl : i = N := by have := HR.out.1; omega
      have HL1 : Hid (∀ (j : Nat) y, B[j]? = some y → y.e ≠ ⟨ea, ep⟩) := fun j y hy => HR.out.2.2 j y (by have := (List.getElem?_eq_some_iff.1 hy).1; have := HN.out.1; omega) hy
      have HW2 := Lib.hid HR.out.2.1
      obtain ⟨N, hNi⟩ : ∃ N, N = i := ⟨_, rfl⟩
      subst hNi
      clear hge
      go_wp2_with fail
      clear t3 HR
      go_loopg [7] N (fun gk s7 wr => ∃ i : Nat, gk = N - i ∧ s7 = .int .i64 (i : Int) ∧ Hid (i ≤ N ∧ Grow W wr ∧ ∀ j y, j < i → B[j]? = some y → ¬ (y.e.po = (⟨ea, ep⟩ : Ed).po ∧ y.e.ad = 0)))
      case atStart => exact ⟨0, rfl, rfl, Nat.zero_le _, HW2.out, fun j y hj => absurd hj (Nat.not_lt_zero _)⟩
      case round =>
        obtain ⟨i, rfl, rfl, HR⟩ := hrel
        rename World => wo
        have t3 := (HT.out.1.grow HR.out.2.1).c3
        rcases Nat.lt_or_ge i N with hlt | hge
        · skip
          obtain ⟨b, off, c', e1, hb, hc⟩ := Bds.cells HB.out (by have := HN.out.1; omega)
          obtain ⟨x, hx⟩ : ∃ x, B[i]? = some x := ⟨_, List.getElem?_eq_getElem (by have := HN.out.1; omega)⟩
          obtain ⟨x0, x1, x2⟩ := hc i x hx
          have e2 : A = some ⟨b, off, none⟩ := by injection e1
          have i1 : (i : Int) < (N : Int) := by omega
          have ib : i < 1024 := by have := HN.out; omega
          subst e2
          obtain ⟨⟨xa, xp⟩, xo⟩ := x
          simp only at x0 x1 x2
          have hb2 := Nat.lt_of_lt_of_le hb HR.out.2.1.size
          have k0 := fun p : Gw wo => Gw.cell (p := p) (a := ⟨b, off + i * 3, none⟩) hb2 ((HR.out.2.1.cell (p := ⟨b, off + i * 3, none⟩) hb).trans x0)
          have k1 := fun p : Gw wo => Gw.cell (p := p) (a := ⟨b, off + i * 3 + 1, none⟩) hb2 ((HR.out.2.1.cell (p := ⟨b, off + i * 3 + 1, none⟩) hb).trans x1)
          have m3 := fun p : Gw wo => Gw.cell (p := p) (a := ⟨w.heap.size, 3, none⟩) (HT.out.1.grow HR.out.2.1).lt t3
          have E2 := HT.out.2.1.grow HR.out.2.1
          have k4 := fun p : Gw wo => Gw.cell (p := p) (a := ⟨w.heap.size + 1, 0, none⟩) E2.lt E2.c0
          have k5 := fun p : Gw wo => Gw.cell (p := p) (a := ⟨w.heap.size + 1, 1, none⟩) E2.lt E2.c1
          have HXx := Lib.hid (And.intro hx (And.intro hlt (And.intro hb x2)))
          clear e1 hc hx x0 x1 x2 hb hb2 hlt E2
          by_cases h0 : xp = ep
          · subst h0
            by_cases h1 : xa = 0
            · subst h1
              have HE : Hid (owS B ⟨ea, xp⟩ = (xo, true)) := owS_at2 HL1.out HXx.out.1 ⟨rfl, rfl⟩ HR.out.2.2
              go_upto_region 9 with fail
              clear t3
              refine wp_region_gw (by kernel_rfl) (by kernel_rfl) ?_
              repeat (go_big_quiet_step ((fail)))
              refine wpQuiet_nil ?_
              intro _ hw'
              obtain ⟨⟨wq, hgq⟩, hw2⟩ := hw'
              subst hw2
              rename World => wq
              have t3 := (HT.out.1.grow (HR.out.2.1.trans hgq)).c3
              have y2 := ((HR.out.2.1.trans hgq).cell (p := ⟨b, off + i * 3 + 2, none⟩) HXx.out.2.2.1).trans HXx.out.2.2.2
              have HG := Lib.hid (HR.out.2.1.trans hgq)
              clear hgq
              go_wp2_with fail
              go_ret2
              exact ⟨by rw [HE.out]; rfl, Grow.trans HT.out.2.2 HG.out⟩
            · have r1 : (xa == 0) = false := beq_eq_false_iff_ne.2 h1
              have HNo : Hid (¬ xa = 0) := Lib.hid h1
              clear h1
              go_upto_region 9 with fail
              clear t3
              refine wp_region_gw (by kernel_rfl) (by kernel_rfl) ?_
              repeat (go_big_quiet_step ((fail)))
              refine wpQuiet_nil ?_
              intro _ hw'
              obtain ⟨⟨wq, hgq⟩, hw2⟩ := hw'
              subst hw2
              rename World => wq
              have HG := Lib.hid (HR.out.2.1.trans hgq)
              clear hgq
              go_wp2_with fail
              go_roundg (N - (i + 1))
              case measure => have := HXx.out.2.1; omega
              case rel => exact ⟨i + 1, rfl, by go_num, by have := HXx.out.2.1; omega, HG.out, fun j y hj hy => by
                rcases Nat.lt_or_ge j i with h | h
                · exact HR.out.2.2 j y h hy
                · obtain rfl : j = i := by omega
                  have := HXx.out.1
                  rw [this] at hy
                  cases hy
                  exact fun e => HNo.out e.2⟩
          · have r0 : (xp == ep) = false := beq_eq_false_iff_ne.2 h0
            have HNo : Hid (¬ xp = ep) := Lib.hid h0
            clear h0
            go_upto_region 9 with fail
            clear t3
            refine wp_region_gw (by kernel_rfl) (by kernel_rfl) ?_
            repeat (go_big_quiet_step ((fail)))
            refine wpQuiet_nil ?_
            intro _ hw'
            obtain ⟨⟨wq, hgq⟩, hw2⟩ := hw'
            subst hw2
            rename World => wq
            have HG := Lib.hid (HR.out.2.1.trans hgq)
            clear hgq
            go_wp2_with fail
            go_roundg (N - (i + 1))
            case measure => have := HXx.out.2.1; omega
            case rel => exact ⟨i + 1, rfl, by go_num, by have := HXx.out.2.1; omega, HG.out, fun j y hj hy => by
              rcases Nat.lt_or_ge j i with h | h
              · exact HR.out.2.2 j y h hy
              · obtain rfl : j = i := by omega
                have := HXx.out.1
                rw [this] at hy
                cases hy
                exact fun e => HNo.out e.1⟩
        · obtain rfl : i = N := by have := HR.out.1; omega
          have HE : Hid (owS B ⟨ea, ep⟩ = (0, false)) := owS_none HL1.out fun j y hy => HR.out.2.2 j y (by have := (List.getElem?_eq_some_iff.1 hy).1; have := HN.out.1; omega) hy
          have HG := Lib.hid HR.out.2.1
          go_wp2_with fail
          go_ret2
          exact ⟨by rw [HE.out]; rfl, Grow.trans HT.out.2.2 HG.out⟩
end Go.Proofs.Ytkilfdhofbjkgaa
