/- PortNils: its walk. -/
import Derived.Test.YtkilfdhofbjkgaaPoIf
namespace Go.Proofs.Ytkilfdhofbjkgaa
set_option linter.unusedVariables false
set_option linter.unusedSimpArgs false
open Go.ChangeShapes Go.WideShapes Go.ChangeAt Go.RowKit

/-- A call of the law in its box. -/
def PaB (w : World) (g : Nat) (d o a p b q : Int) : Prop := w.heap[g]? = some (.cells #[.int .i64 d, .int .i64 o, .int .u32 a, .int .u16 p, .int .u32 b, .int .u16 q] 44 (0, 0))
section
variable {w w' : World} {g base : Nat} {d o a p b q : Int}
theorem PaB.lt (h : PaB w g d o a p b q) : g < w.heap.size := (Array.getElem?_eq_some_iff.1 h).1
theorem PaB.grow (h : PaB w g d o a p b q) (k : Grow w w') : PaB w' g d o a p b q := (k.block g h.lt).trans h
theorem PaB.only (h : PaB w g d o a p b q) (k : Only base Zo w w') : PaB w' g d o a p b q := k.cells h fun z => z.2.2.2 rfl
theorem PaB.c0 (h : PaB w g d o a p b q) : w.cell? ⟨g, 0, none⟩ = some (.int .i64 d) := (cell_of_row w g 0 _ _ _ h).trans rfl
theorem PaB.c1 (h : PaB w g d o a p b q) : w.cell? ⟨g, 1, none⟩ = some (.int .i64 o) := (cell_of_row w g 1 _ _ _ h).trans rfl
theorem PaB.c2 (h : PaB w g d o a p b q) : w.cell? ⟨g, 2, none⟩ = some (.int .u32 a) := (cell_of_row w g 2 _ _ _ h).trans rfl
theorem PaB.c3 (h : PaB w g d o a p b q) : w.cell? ⟨g, 3, none⟩ = some (.int .u16 p) := (cell_of_row w g 3 _ _ _ h).trans rfl
theorem PaB.c4 (h : PaB w g d o a p b q) : w.cell? ⟨g, 4, none⟩ = some (.int .u32 b) := (cell_of_row w g 4 _ _ _ h).trans rfl
theorem PaB.c5 (h : PaB w g d o a p b q) : w.cell? ⟨g, 5, none⟩ = some (.int .u16 q) := (cell_of_row w g 5 _ _ _ h).trans rfl
end
set_option maxRecDepth 100000 in
set_option maxHeartbeats 4000000 in
theorem portNils_if {Pp : PoT} (I : OIf Pp) (w : World) {v : Value} {x : Pa} (hx : v = paV x ∧ x.Ok) : Calls Try.prog 5 #[v] w fun e w' => e = .returned (.bool true) ∧ Below w.heap.size w w' := by
  obtain ⟨rfl, hok⟩ := hx
  obtain ⟨d, o, ⟨a, p⟩, a2, p2⟩ := x
  obtain ⟨W, hW⟩ : ∃ W, W = w.alloc (.cells #[.int .i64 d, .int .i64 o, .int .u32 a, .int .u16 p, .int .u32 a2, .int .u16 p2] 44) := ⟨_, rfl⟩
  have hg : Grow w W := by rw [hW]; exact Grow.alloc _ _
  have hb : PaB W w.heap.size d o a p a2 p2 := by rw [hW]; exact heap_alloc_new w _
  have HB := Lib.hid (And.intro hg hb)
  have HI := Lib.hid I
  have y2 := hb.c2
  unfold paV
  clear hok hg hb I
  go_enter Try.func5, Try.ntmps5
  go_upto_region 2 with fail
  rw [← hW]
  have HW := Lib.hid hW
  clear hW
  go_wp2_with fail
  refine (HI.out.pickNil _ _).mono ?_
  rintro e W1 ⟨rfl, g1⟩
  have B1 := HB.out.2.grow g1
  have HB1 := Lib.hid (And.intro (HB.out.1.trans g1) B1)
  clear y2
  have y2 := B1.c2
  have y3 := B1.c3
  clear g1 B1 HB
  go_wp2_with fail
  refine (HI.out.ownerNil _ ⟨a, p⟩).mono ?_
  rintro e W2 ⟨rfl, g1⟩
  have B1 := HB1.out.2.grow g1
  have HB2 := Lib.hid (And.intro (HB1.out.1.trans g1) B1)
  clear y2
  clear y3
  have y2 := B1.c2
  have y3 := B1.c3
  have y4 := B1.c4
  have y5 := B1.c5
  clear g1 B1 HB1
  go_wp2_with fail
  refine (HI.out.talksNil _ ⟨⟨a, p⟩, a2, p2⟩).mono ?_
  rintro e W3 ⟨rfl, g1⟩
  have B1 := HB2.out.2.grow g1
  have HB3 := Lib.hid (And.intro (HB2.out.1.trans g1) B1)
  clear y2
  clear y3
  clear y4
  clear y5
  have y2 := B1.c2
  have y3 := B1.c3
  have y4 := B1.c4
  have y5 := B1.c5
  clear g1 B1 HB2
  go_wp2_with fail
  refine (HI.out.findNil _ ⟨⟨a, p⟩, a2, p2⟩).mono ?_
  rintro e W4 ⟨rfl, g1⟩
  have B1 := HB3.out.2.grow g1
  have HB4 := Lib.hid (And.intro (HB3.out.1.trans g1) B1)
  clear y2
  clear y3
  clear y4
  clear y5
  clear g1 B1 HB3
  go_wp2_with fail
  refine (HI.out.lenNil _).mono ?_
  rintro e W5 ⟨rfl, g1⟩
  have B1 := HB4.out.2.grow g1
  have HB5 := Lib.hid (And.intro (HB4.out.1.trans g1) B1)
  have y2 := B1.c2
  have y3 := B1.c3
  clear g1 B1 HB4
  go_wp2_with fail
  refine (ocode_any 7 _).mono ?_
  rintro e w' ⟨rfl, hw⟩
  subst w'
  go_wp2_with fail
  refine (HI.out.bindNil _ ⟨a, p⟩ 1).mono ?_
  rintro e W6 ⟨rfl, g1⟩
  have B1 := HB5.out.2.grow g1
  have HB6 := Lib.hid (And.intro (HB5.out.1.trans g1) B1)
  clear y2
  clear y3
  have y2 := B1.c2
  have y3 := B1.c3
  clear g1 B1 HB5
  go_wp2_with fail
  refine (ocode_any 7 _).mono ?_
  rintro e w' ⟨rfl, hw⟩
  subst w'
  go_wp2_with fail
  refine (HI.out.unbindNil _ ⟨a, p⟩ 1).mono ?_
  rintro e W7 ⟨rfl, g1⟩
  have B1 := HB6.out.2.grow g1
  have HB7 := Lib.hid (And.intro (HB6.out.1.trans g1) B1)
  clear y2
  clear y3
  have y2 := B1.c2
  have y3 := B1.c3
  have y4 := B1.c4
  have y5 := B1.c5
  clear g1 B1 HB6
  go_wp2_with fail
  refine (ocode_any 7 _).mono ?_
  rintro e w' ⟨rfl, hw⟩
  subst w'
  go_wp2_with fail
  refine (HI.out.joinNil _ ⟨⟨a, p⟩, a2, p2⟩ 1).mono ?_
  rintro e W8 ⟨rfl, g1⟩
  have B1 := HB7.out.2.grow g1
  have HB8 := Lib.hid (And.intro (HB7.out.1.trans g1) B1)
  clear y2
  clear y3
  clear y4
  clear y5
  have y2 := B1.c2
  have y3 := B1.c3
  have y4 := B1.c4
  have y5 := B1.c5
  clear g1 B1 HB7
  go_wp2_with fail
  refine (ocode_any 7 _).mono ?_
  rintro e w' ⟨rfl, hw⟩
  subst w'
  go_wp2_with fail
  refine (HI.out.partNil _ ⟨⟨a, p⟩, a2, p2⟩).mono ?_
  rintro e W9 ⟨rfl, g1⟩
  have B1 := HB8.out.2.grow g1
  have HB9 := Lib.hid (And.intro (HB8.out.1.trans g1) B1)
  clear y2
  clear y3
  clear y4
  clear y5
  clear g1 B1 HB8
  go_wp2_with fail
  refine (ocode_any 7 _).mono ?_
  rintro e w' ⟨rfl, hw⟩
  subst w'
  go_wp2_with fail
  refine (olive_any HI.out _).mono ?_
  rintro e W10 ⟨rfl, g1⟩
  have B1 := HB9.out.2.grow g1
  have HB10 := Lib.hid (And.intro (HB9.out.1.trans g1) B1)
  clear g1 B1 HB9
  go_wp2_with fail
  go_ret
  exact ⟨rfl, HB10.out.1⟩
end Go.Proofs.Ytkilfdhofbjkgaa
