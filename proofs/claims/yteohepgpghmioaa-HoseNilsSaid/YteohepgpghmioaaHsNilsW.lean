/- HoseNils: its walk. -/
import Derived.Test.YteohepgpghmioaaHsLive
namespace Go.Proofs.Yteohepgpghmioaa
set_option linter.unusedVariables false
set_option linter.unusedSimpArgs false
attribute [local irreducible] wpQuiet
open Go.ChangeShapes Go.WideShapes Go.ChangeAt Go.RowKit

set_option maxRecDepth 100000 in
set_option maxHeartbeats 4000000 in
theorem hoseNils_walk (w : World) {v : Value} {x : Ha} (hx : v = haV x ∧ x.Ok w) : Calls Try.prog 5 #[v] w fun e w' => e = .returned (.bool true) ∧ Below w.heap.size w w' := by
  obtain ⟨rfl, hok⟩ := hx
  obtain ⟨d, a, n, b, u⟩ := x
  have hb : Byt w u b := hok.2.2.2
  obtain ⟨A, c, rfl, _⟩ := hb.form
  obtain ⟨W, hW⟩ : ∃ W, W = w.alloc (.cells #[.int .i64 d, .int .i64 a, .int .i64 n, .slice A b.length c] 32) := ⟨_, rfl⟩
  have hg : Grow w W := by rw [hW]; exact Grow.alloc _ _
  have hh : W.heap[w.heap.size]? = some (.cells #[.int .i64 d, .int .i64 a, .int .i64 n, .slice A b.length c] 32 (0, 0)) := by rw [hW]; exact heap_alloc_new w _
  have hlt : w.heap.size < W.heap.size := (Array.getElem?_eq_some_iff.1 hh).1
  have x1 := fun p : Gw W => Gw.cell (p := p) (a := ⟨w.heap.size, 1, none⟩) hlt ((cell_of_row W _ 1 _ _ _ hh).trans rfl)
  have x2 := fun p : Gw W => Gw.cell (p := p) (a := ⟨w.heap.size, 2, none⟩) hlt ((cell_of_row W _ 2 _ _ _ hh).trans rfl)
  have x3 := fun p : Gw W => Gw.cell (p := p) (a := ⟨w.heap.size, 3, none⟩) hlt ((cell_of_row W _ 3 _ _ _ hh).trans rfl)
  have cWrite : ∀ p : Gw W, _ := fun p => Calls.gw_same (p := p) ((hWrite_nil p.v _ b ((hb.grow hg).grow p.h)).mono fun e w' h => ⟨h.1, h.2.symm⟩)
  have cRead : ∀ p : Gw W, _ := fun p => Calls.gw_same (p := p) ((hRead_nil p.v n).mono fun e w' h => ⟨h.1, h.2.symm⟩)
  have cPeek : ∀ p : Gw W, _ := fun p => Calls.gw_same (p := p) ((hPeek_nil p.v a n).mono fun e w' h => ⟨h.1, h.2.symm⟩)
  have cDrop : ∀ p : Gw W, _ := fun p => Calls.gw_same (p := p) ((hDrop_nil p.v n).mono fun e w' h => ⟨h.1, h.2.symm⟩)
  have cLen : ∀ p : Gw W, _ := fun p => Calls.gw_same (p := p) ((hLen_nil p.v).mono fun e w' h => ⟨h.1, h.2.symm⟩)
  have cRoom : ∀ p : Gw W, _ := fun p => Calls.gw_same (p := p) ((hRoom_nil p.v).mono fun e w' h => ⟨h.1, h.2.symm⟩)
  have cLive : ∀ p : Gw W, _ := fun p => Calls.gw (p := p) (hlive_any p.v)
  have cPassed := hPassed_nil W
  have HG := Lib.hid hg
  unfold haV
  clear hok hb hg hh hlt
  generalize b.length = k at *
  go_enter Try.func5, Try.ntmps5
  go_wp2_with fail
  rw [← hW]
  have HW := Lib.hid hW
  clear hW
  refine cPassed.mono ?_
  rintro e w2 ⟨rfl, hw⟩
  subst w2
  clear cPassed
  go_upto_region 3 with fail
  refine wp_region_gw (by kernel_rfl) (by kernel_rfl) ?_
  repeat (go_big_quiet_step ((first
    | (go_at_call 11; exact cWrite _)
    | (go_at_call 12; exact cRead _)
    | (go_at_call 14; exact cPeek _)
    | (go_at_call 13; exact cDrop _)
    | (go_at_call 17; exact cLen _)
    | (go_at_call 18; exact cRoom _)
    | (go_at_call 7; exact cLive _))))
  refine wpQuiet_nil ?_
  intro _ hw'
  obtain ⟨⟨wq, hgq⟩, hw2⟩ := hw'
  subst hw2
  go_wp2_with fail
  go_ret
  exact ⟨rfl, Grow.trans HG.out hgq⟩
end Go.Proofs.Yteohepgpghmioaa
