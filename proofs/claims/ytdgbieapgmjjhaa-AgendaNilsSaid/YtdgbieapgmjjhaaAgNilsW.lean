/- AgendaNils: its walk. -/
import Derived.Test.YtdgbieapgmjjhaaAgLive
import Derived.Test.YtdgbieapgmjjhaaAgOpen
namespace Go.Proofs.Ytdgbieapgmjjhaa
set_option linter.unusedVariables false
set_option linter.unusedSimpArgs false
attribute [local irreducible] wpQuiet
open Go.ChangeShapes Go.WideShapes Go.ChangeAt Go.RowKit

set_option maxRecDepth 100000 in
set_option maxHeartbeats 4000000 in
theorem agendaNils_walk (w : World) {v : Value} {x : En} (hx : v = itV x ∧ EOk x) : Calls Try.prog 5 #[v] w fun e w' => e = .returned (.bool true) ∧ Below w.heap.size w w' := by
  obtain ⟨rfl, hok⟩ := hx
  obtain ⟨i, a, r, n⟩ := x
  obtain ⟨W, hW⟩ : ∃ W, W = w.alloc (.cells #[.int .i64 i, .int .i64 a, .int .i64 r] 31) := ⟨_, rfl⟩
  obtain ⟨g1, b0, b1, b2⟩ := box_item w i a r hW
  have hsW : W.heap.size = w.heap.size + 1 := by rw [hW]; exact Array.size_push _
  have cTop := Lib.hid (fun w : World => aTop_nil w)
  have hG0 := Lib.hid (And.intro g1 (And.intro hsW (And.intro b0 (And.intro b1 b2))))
  unfold itV
  clear hok g1 hsW b0 b1 b2
  go_enter Try.func5, Try.ntmps5
  go_wp2_with fail
  rw [← hW]
  have HW := Lib.hid hW
  clear hW
  refine (cTop.out W).mono ?_
  rintro e w2 ⟨rfl, g2⟩
  obtain ⟨W3, hW3⟩ : ∃ W3, W3 = w2.alloc (.cells #[.int .i64 0, .int .i64 0, .int .i64 0] 31) := ⟨_, rfl⟩
  obtain ⟨g3, z0, z1, z2⟩ := box_item w2 0 0 0 hW3
  have hz : w2.heap.size < W3.heap.size := by rw [hW3, show (w2.alloc (.cells #[.int .i64 0, .int .i64 0, .int .i64 0] 31)).heap.size = w2.heap.size + 1 from Array.size_push _]; omega
  have g23 := Grow.trans g2 g3
  have hl : w.heap.size < W.heap.size := by have := hG0.out.2.1; omega
  have hx : w.heap.size < W3.heap.size := by have := g23.size; omega
  have x0 := fun p : Gw W3 => Gw.cell (p := p) (a := ⟨w.heap.size, 0, none⟩) hx ((g23.cell (p := ⟨w.heap.size, 0, none⟩) hl).trans hG0.out.2.2.1)
  have x1 := fun p : Gw W3 => Gw.cell (p := p) (a := ⟨w.heap.size, 1, none⟩) hx ((g23.cell (p := ⟨w.heap.size, 1, none⟩) hl).trans hG0.out.2.2.2.1)
  have x2 := fun p : Gw W3 => Gw.cell (p := p) (a := ⟨w.heap.size, 2, none⟩) hx ((g23.cell (p := ⟨w.heap.size, 2, none⟩) hl).trans hG0.out.2.2.2.2)
  have y0 := fun p : Gw W3 => Gw.cell (p := p) (a := ⟨w2.heap.size, 0, none⟩) hz z0
  have y1 := fun p : Gw W3 => Gw.cell (p := p) (a := ⟨w2.heap.size, 1, none⟩) hz z1
  have y2 := fun p : Gw W3 => Gw.cell (p := p) (a := ⟨w2.heap.size, 2, none⟩) hz z2
  have cDrop : ∀ p : Gw W3, _ := fun p => Calls.gw_same (p := p) ((aDrop_nil p.v i).mono fun e w' h => ⟨h.1, h.2.symm⟩)
  have cLen : ∀ p : Gw W3, _ := fun p => Calls.gw_same (p := p) ((aLen_nil p.v).mono fun e w' h => ⟨h.1, h.2.symm⟩)
  have cAll : ∀ p : Gw W3, _ := fun p => Calls.gw_same (p := p) ((aAll_nil p.v).mono fun e w' h => ⟨h.1, h.2.symm⟩)
  have cPop : ∀ p : Gw W3, _ := fun p => Calls.gw (p := p) (aPop_nil p.v a)
  have cPush : ∀ p : Gw W3, _ := fun p => Calls.gw (p := p) (aPush_nil p.v i a r)
  have cMove : ∀ p : Gw W3, _ := fun p => Calls.gw_same (p := p) ((aMove_nil p.v i a r).mono fun e w' h => ⟨h.1, h.2.symm⟩)
  have cCode : ∀ p : Gw W3, _ := fun p => Calls.gw_same (p := p) ((code_any 7 p.v).mono fun e w' h => ⟨h.1, h.2.symm⟩)
  have cLive : ∀ p : Gw W3, _ := fun p => Calls.gw (p := p) (alive_any p.v)
  have G3 := Lib.hid (show Grow w W3 from Grow.trans hG0.out.1 g23)
  clear g2 g3 g23 z0 z1 z2 hz hl hx
  go_upto_region 3 with fail
  rw [← hW3]
  have HW3 := Lib.hid hW3
  clear hW3
  refine wp_region_gw (by kernel_rfl) (by kernel_rfl) ?_
  repeat (quiet_step (first
    | (go_at_call 13; exact cDrop _)
    | (go_at_call 21; exact cLen _)
    | (go_at_call 20; exact cAll _)
    | (go_at_call 15; exact cPop _)
    | (go_at_call 9; exact cPush _)
    | (go_at_call 11; exact cMove _)
    | (go_at_call 8; exact cCode _)
    | (go_at_call 6; exact cLive _)))
  refine wpQuiet_nil ?_
  intro _ hw'
  obtain ⟨⟨wq, hgq⟩, hw2⟩ := hw'
  subst hw2
  go_wp2_with fail
  go_ret
  exact ⟨rfl, Grow.trans G3.out hgq⟩
end Go.Proofs.Ytdgbieapgmjjhaa
