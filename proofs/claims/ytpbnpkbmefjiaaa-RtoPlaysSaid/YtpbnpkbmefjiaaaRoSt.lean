/- The program's time to wait, in memory; its pure numbers. -/
import Derived.Test.YtpbnpkbmefjiaaaRoIf
namespace Go.Proofs.Ytpbnpkbmefjiaaa
set_option linter.unusedVariables false
set_option linter.unusedSimpArgs false
open Go.ChangeShapes Go.WideShapes Go.ChangeAt Go.RowKit

@[reducible] def rpA (r : Ro) : Array Value := #[.int .i64 (r.least : Int), .int .i64 (r.most : Int), .int .i64 (r.now : Int), .int .i64 (r.m : Int), .int .i64 (r.v : Int), .bool r.known, .int .i64 (r.backs : Int)]
def RpB (w : World) (g : Nat) (r : Ro) : Prop := w.heap[g]? = some (.cells (rpA r) 43 (0, 0))
section
variable {w w' : World} {g base : Nat} {r : Ro}
theorem RpB.lt (h : RpB w g r) : g < w.heap.size := (Array.getElem?_eq_some_iff.1 h).1
theorem RpB.grow (h : RpB w g r) (k : Grow w w') : RpB w' g r := (k.block g h.lt).trans h
theorem RpB.c0 (h : RpB w g r) : w.cell? ⟨g, 0, none⟩ = some (.int .i64 (r.least : Int)) := (cell_of_row w g 0 _ _ _ h).trans rfl
theorem RpB.c1 (h : RpB w g r) : w.cell? ⟨g, 1, none⟩ = some (.int .i64 (r.most : Int)) := (cell_of_row w g 1 _ _ _ h).trans rfl
theorem RpB.c2 (h : RpB w g r) : w.cell? ⟨g, 2, none⟩ = some (.int .i64 (r.now : Int)) := (cell_of_row w g 2 _ _ _ h).trans rfl
theorem RpB.c3 (h : RpB w g r) : w.cell? ⟨g, 3, none⟩ = some (.int .i64 (r.m : Int)) := (cell_of_row w g 3 _ _ _ h).trans rfl
theorem RpB.c4 (h : RpB w g r) : w.cell? ⟨g, 4, none⟩ = some (.int .i64 (r.v : Int)) := (cell_of_row w g 4 _ _ _ h).trans rfl
theorem RpB.c5 (h : RpB w g r) : w.cell? ⟨g, 5, none⟩ = some (.bool r.known) := (cell_of_row w g 5 _ _ _ h).trans rfl
theorem RpB.c6 (h : RpB w g r) : w.cell? ⟨g, 6, none⟩ = some (.int .i64 (r.backs : Int)) := (cell_of_row w g 6 _ _ _ h).trans rfl
theorem RpB.fz (h : RpB w g r) (i : Nat) : w.frozen? ⟨g, i, none⟩ = false := frozen_of h
theorem RpB.set2 (h : RpB w g r) (n : Nat) : RpB (w.setCell ⟨g, 2, none⟩ (.int .i64 (n : Int))) g { r with now := n } := heap_setCell_own h _
theorem RpB.set3 (h : RpB w g r) (n : Nat) : RpB (w.setCell ⟨g, 3, none⟩ (.int .i64 (n : Int))) g { r with m := n } := heap_setCell_own h _
theorem RpB.set4 (h : RpB w g r) (n : Nat) : RpB (w.setCell ⟨g, 4, none⟩ (.int .i64 (n : Int))) g { r with v := n } := heap_setCell_own h _
theorem RpB.set5 (h : RpB w g r) : RpB (w.setCell ⟨g, 5, none⟩ (.bool true)) g { r with known := true } := heap_setCell_own h _
theorem RpB.set6 (h : RpB w g r) (n : Nat) : RpB (w.setCell ⟨g, 6, none⟩ (.int .i64 (n : Int))) g { r with backs := n } := heap_setCell_own h _
theorem RpB.only (h : RpB w g r) (hb : base ≤ g) (i : Nat) (u : Value) : Only base Zr w (w.setCell ⟨g, i, none⟩ u) := Only.set h hb (by unfold Zr; decide) u
end
/-- The time to wait behind the pointer to block pb, its blocks from base on. -/
structure Rpp (w : World) (base pb : Nat) (r : Ro) : Prop where
  ok : RoOk r
  lo : base ≤ pb
  blk : RpB w pb r
/-- A number brought into l to h. -/
def clipI (l h n : Int) : Int := if h < (if n < l then l else n) then h else (if n < l then l else n)
theorem clipI_T (t : Int) : clipI 0 1048576 t = (clipT t : Int) := by
  unfold clipI clipT
  by_cases h0 : t < 0
  · rw [if_pos h0, if_neg (by omega), if_pos h0]
    rfl
  · rw [if_neg h0, if_neg h0]
    split <;> omega
theorem clipI_now (l h m v : Nat) : clipI (l : Int) (h : Int) ((m / 8 + roOne v : Nat) : Int) = (roNow l h m v : Int) := by
  unfold clipI roNow roTop roLow
  generalize m / 8 + roOne v = n
  by_cases q : n < l
  · rw [if_pos q, if_pos (show (n : Int) < (l : Int) by omega)]
    split <;> split <;> omega
  · rw [if_neg q, if_neg (show ¬ (n : Int) < (l : Int) by omega)]
    split <;> split <;> omega
end Go.Proofs.Ytpbnpkbmefjiaaa
