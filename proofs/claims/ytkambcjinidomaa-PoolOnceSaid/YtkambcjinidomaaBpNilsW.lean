/- PoolNils: its walk. -/
import Derived.Test.YtkambcjinidomaaBpIf
namespace Go.Proofs.Ytkambcjinidomaa
set_option linter.unusedVariables false
set_option linter.unusedSimpArgs false
attribute [local irreducible] wpQuiet
open Go.ChangeShapes Go.WideShapes Go.ChangeAt Go.RowKit

set_option maxRecDepth 100000 in
set_option maxHeartbeats 1000000 in
theorem poolNils_if {Pp : BpT} (I : BIf Pp) (w : World) {v : Value} {x : Ba} (hx : v = baV x ∧ x.Ok) : Calls Try.prog 5 #[v] w fun e w' => e = .returned (.bool true) ∧ Below w.heap.size w w' := by
  obtain ⟨rfl, hok⟩ := hx
  obtain ⟨d, g, a, n, s⟩ := x
  obtain ⟨W, hW⟩ : ∃ W, W = w.alloc (.cells #[.int .i64 d, .int .i64 g, .int .i64 a, .int .i64 n, .int .i64 s] 32) := ⟨_, rfl⟩
  have hg : Grow w W := by rw [hW]; exact Grow.alloc _ _
  have hh : W.heap[w.heap.size]? = some (.cells #[.int .i64 d, .int .i64 g, .int .i64 a, .int .i64 n, .int .i64 s] 32 (0, 0)) := by rw [hW]; exact heap_alloc_new w _
  have hlt : w.heap.size < W.heap.size := (Array.getElem?_eq_some_iff.1 hh).1
  have y1 : W.cell? ⟨w.heap.size, 1, none⟩ = some (.int .i64 g) := (cell_of_row W _ 1 _ _ _ hh).trans rfl
  have c1 := I.takeNil W g
  have HB := Lib.hid (And.intro hg (And.intro hh hlt))
  unfold baV
  clear hok hg hh hlt
  go_enter Try.func5, Try.ntmps5
  go_upto_region 2 with fail
  rw [← hW]
  have HW := Lib.hid hW
  clear hW
  go_wp2_with fail
  refine c1.mono ?_
  rintro e W1 ⟨rfl, g1⟩
  have c2 := I.remNil W1 g n
  have z1 : W1.cell? ⟨w.heap.size, 1, none⟩ = some (.int .i64 g) := (g1.cell (p := ⟨w.heap.size, 1, none⟩) HB.out.2.2).trans y1
  have z3 : W1.cell? ⟨w.heap.size, 3, none⟩ = some (.int .i64 n) := (g1.cell (p := ⟨w.heap.size, 3, none⟩) HB.out.2.2).trans ((cell_of_row W _ 3 _ _ _ HB.out.2.1).trans rfl)
  have G1 := Lib.hid g1
  clear c1 g1 y1
  go_wp2_with fail
  refine c2.mono ?_
  rintro e W2 ⟨rfl, g2⟩
  have G2 := Lib.hid (Grow.trans G1.out g2)
  have hlt2 : w.heap.size < W2.heap.size := Nat.lt_of_lt_of_le HB.out.2.2 G2.out.size
  have hh2 := (G2.out.block _ HB.out.2.2).trans HB.out.2.1
  have x1 := fun p : Gw W2 => Gw.cell (p := p) (a := ⟨w.heap.size, 1, none⟩) hlt2 ((cell_of_row W2 _ 1 _ _ _ hh2).trans rfl)
  have x2 := fun p : Gw W2 => Gw.cell (p := p) (a := ⟨w.heap.size, 2, none⟩) hlt2 ((cell_of_row W2 _ 2 _ _ _ hh2).trans rfl)
  have x3 := fun p : Gw W2 => Gw.cell (p := p) (a := ⟨w.heap.size, 3, none⟩) hlt2 ((cell_of_row W2 _ 3 _ _ _ hh2).trans rfl)
  have x4 := fun p : Gw W2 => Gw.cell (p := p) (a := ⟨w.heap.size, 4, none⟩) hlt2 ((cell_of_row W2 _ 4 _ _ _ hh2).trans rfl)
  have cProv : ∀ p : Gw W2, _ := fun p => Calls.gw (p := p) (I.provNil p.v g a n s)
  have cGive : ∀ p : Gw W2, _ := fun p => Calls.gw (p := p) (I.giveNil p.v g a)
  have cState : ∀ p : Gw W2, _ := fun p => Calls.gw (p := p) (I.stateNil p.v g a)
  have cFree : ∀ p : Gw W2, _ := fun p => Calls.gw (p := p) (I.freeNil p.v g)
  have cOut : ∀ p : Gw W2, _ := fun p => Calls.gw (p := p) (I.outNil p.v g)
  have cCode : ∀ p : Gw W2, _ := fun p => Calls.gw (p := p) (bcode_grow 7 p.v)
  have cLive : ∀ p : Gw W2, _ := fun p => Calls.gw (p := p) (blive_any I p.v)
  clear c2 g2 z1 z3 hlt2 hh2 I
  go_upto_region 4 with fail
  refine wp_region_gw (by kernel_rfl) (by kernel_rfl) ?_
  repeat (go_big_quiet_step ((first
    | (go_at_call 9; exact cProv _)
    | (go_at_call 13; exact cGive _)
    | (go_at_call 17; exact cState _)
    | (go_at_call 19; exact cFree _)
    | (go_at_call 20; exact cOut _)
    | (go_at_call 8; exact cCode _)
    | (go_at_call 6; exact cLive _))))
  refine wpQuiet_nil ?_
  intro _ hw'
  obtain ⟨⟨wq, hgq⟩, hw2⟩ := hw'
  subst hw2
  go_wp2_with fail
  go_ret
  exact ⟨rfl, Grow.trans HB.out.1 (Grow.trans G2.out hgq)⟩
end Go.Proofs.Ytkambcjinidomaa
