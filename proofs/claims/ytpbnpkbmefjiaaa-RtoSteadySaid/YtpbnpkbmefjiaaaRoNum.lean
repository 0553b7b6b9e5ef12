/- What is waited, as numbers: what the document says of its calls; one by value, in a box. -/
import Derived.Test.YtpbnpkbmefjiaaaRowG
import Derived.Test.YtpbnpkbmefjiaaaCellsN
import Derived.Test.YtpbnpkbmefjiaaaGw
import Derived.Laws.CopyOwn
import Derived.Laws.NewBlocks
import Derived.Laws.StructEq
import Derived.Deep.RegionLaw
import Derived.Test.YtpbnpkbmefjiaaaRows
import Derived.Deep.LoopGhost
import Derived.Lib.Hide
import Derived.BigQuiet
import Derived.Deep.DeepCutAuto
namespace Go.Proofs.Ytpbnpkbmefjiaaa
set_option linter.unusedVariables false
set_option linter.unusedSimpArgs false
open Go.ChangeShapes Go.WideShapes Go.ChangeAt Go.RowKit

structure Ro where
  least : Nat
  most : Nat
  m : Nat
  v : Nat
  now : Nat
  backs : Nat
  known : Bool
def noneRo (l h f : Nat) : Ro := ⟨l, h, 0, 0, f, 0, false⟩
/-- A time that counts. -/
def clipT (t : Int) : Nat := if t < 0 then 0 else if 1048576 < t then 1048576 else t.toNat
def roM (r : Ro) (c : Nat) : Nat := if r.known then r.m - r.m / 8 + c else 8 * c
def roV (r : Ro) (c : Nat) : Nat := if r.known then r.v - r.v / 4 + ((c - r.m / 8) + (r.m / 8 - c)) else 2 * c
def roOne (v : Nat) : Nat := if v < 1 then 1 else v
def roLow (l n : Nat) : Nat := if n < l then l else n
def roTop (h n : Nat) : Nat := if h < n then h else n
def roNow (l h m v : Nat) : Nat := roTop h (roLow l (m / 8 + roOne v))
/-- Sample, Back. -/
def roSp (r : Ro) (c : Nat) : Ro := ⟨r.least, r.most, roM r c, roV r c, roNow r.least r.most (roM r c) (roV r c), 0, true⟩
def roBk (r : Ro) : Ro := ⟨r.least, r.most, r.m, r.v, roTop r.most (2 * r.now), r.backs + 1, r.known⟩
structure RoOk (r : Ro) : Prop where
  lo : 1 ≤ r.least
  le : r.least ≤ r.most
  hi : r.most ≤ 1073741824
  n1 : r.least ≤ r.now
  n2 : r.now ≤ r.most
  mb : r.m ≤ 8388608
  vb : r.v ≤ 8388608
theorem clipT_le (t : Int) : clipT t ≤ 1048576 := by
  unfold clipT
  split
  · omega
  · split <;> omega
theorem clipT_of {t : Int} (h0 : 0 ≤ t) (h1 : t ≤ 1048576) : (clipT t : Int) = t := by
  unfold clipT
  rw [if_neg (by omega), if_neg (by omega)]
  omega
theorem roM_le {r : Ro} (h : RoOk r) {c : Nat} (hc : c ≤ 1048576) : roM r c ≤ 8388608 := by
  have := h.mb
  unfold roM
  split <;> omega
theorem roV_le {r : Ro} (h : RoOk r) {c : Nat} (hc : c ≤ 1048576) : roV r c ≤ 8388608 := by
  have := h.mb
  have := h.vb
  unfold roV
  split <;> omega
theorem roOk_none {l h f : Nat} (a : 1 ≤ l) (b : l ≤ f) (c : f ≤ h) (d : h ≤ 1073741824) : RoOk (noneRo l h f) := ⟨a, Nat.le_trans b c, d, b, c, Nat.zero_le _, Nat.zero_le _⟩
theorem roNow_in {l h : Nat} (hl : l ≤ h) (m v : Nat) : l ≤ roNow l h m v ∧ roNow l h m v ≤ h := by
  unfold roNow roTop roLow
  generalize m / 8 + roOne v = n
  split <;> split at * <;> omega
theorem RoOk.sp {r : Ro} (h : RoOk r) {c : Nat} (hc : c ≤ 1048576) : RoOk (roSp r c) := ⟨h.lo, h.le, h.hi, (roNow_in h.le _ _).1, (roNow_in h.le _ _).2, roM_le h hc, roV_le h hc⟩
theorem RoOk.bk {r : Ro} (h : RoOk r) : RoOk (roBk r) := by
  have := h.n1
  have := h.le
  refine ⟨h.lo, h.le, h.hi, ?_, ?_, h.mb, h.vb⟩
  · show r.least ≤ roTop r.most (2 * r.now)
    unfold roTop
    split <;> omega
  · show roTop r.most (2 * r.now) ≤ r.most
    unfold roTop
    split <;> omega
/-- May there be such a one? -/
def RoRight (l h f : Int) : Prop := 1 ≤ l ∧ l ≤ f ∧ f ≤ h ∧ h ≤ 1073741824
instance (l h f : Int) : Decidable (RoRight l h f) := inferInstanceAs (Decidable (_ ∧ _ ∧ _ ∧ _))
/-- By value; in a box. -/
@[reducible] def roA (r : Ro) : Array Value := #[.int .i64 (r.least : Int), .int .i64 (r.most : Int), .int .i64 (r.m : Int), .int .i64 (r.v : Int), .int .i64 (r.now : Int), .int .i64 (r.backs : Int), .bool r.known]
def RoB (w : World) (g : Nat) (r : Ro) : Prop := w.heap[g]? = some (.cells (roA r) 33 (0, 0))
section
variable {w w' : World} {g : Nat} {r r' : Ro}
theorem RoB.lt (h : RoB w g r) : g < w.heap.size := (Array.getElem?_eq_some_iff.1 h).1
theorem RoB.grow (h : RoB w g r) (k : Grow w w') : RoB w' g r := (k.block g h.lt).trans h
theorem RoB.c0 (h : RoB w g r) : w.cell? ⟨g, 0, none⟩ = some (.int .i64 (r.least : Int)) := (cell_of_row w g 0 _ _ _ h).trans rfl
theorem RoB.c1 (h : RoB w g r) : w.cell? ⟨g, 1, none⟩ = some (.int .i64 (r.most : Int)) := (cell_of_row w g 1 _ _ _ h).trans rfl
theorem RoB.c2 (h : RoB w g r) : w.cell? ⟨g, 2, none⟩ = some (.int .i64 (r.m : Int)) := (cell_of_row w g 2 _ _ _ h).trans rfl
theorem RoB.c3 (h : RoB w g r) : w.cell? ⟨g, 3, none⟩ = some (.int .i64 (r.v : Int)) := (cell_of_row w g 3 _ _ _ h).trans rfl
theorem RoB.c4 (h : RoB w g r) : w.cell? ⟨g, 4, none⟩ = some (.int .i64 (r.now : Int)) := (cell_of_row w g 4 _ _ _ h).trans rfl
theorem RoB.c5 (h : RoB w g r) : w.cell? ⟨g, 5, none⟩ = some (.int .i64 (r.backs : Int)) := (cell_of_row w g 5 _ _ _ h).trans rfl
theorem RoB.c6 (h : RoB w g r) : w.cell? ⟨g, 6, none⟩ = some (.bool r.known) := (cell_of_row w g 6 _ _ _ h).trans rfl
theorem RoB.at_ (h : RoB w g r) : ∀ j u, (roA r)[j]? = some u → w.cell? ⟨g, 0 + j, none⟩ = some u := fun j u hu => by rw [Nat.zero_add, cell_of_row w g j _ _ _ h]; exact hu
theorem roA_ones (r : Ro) : ∀ y ∈ (roA r).toList, y.oneCell' = true := by
  intro y hy
  simp at hy
  rcases hy with rfl | rfl | rfl | rfl | rfl | rfl | rfl <;> rfl
theorem sizeRo : (Try.prog.info? 33).map (·.size) = some 7 := by kernel_rfl
theorem wpList_load_ro (w : World) {ops : Array Oper} {rest : List Oper} {o : Oper} {a : Act} {Q : Exit → Act → World → Prop} (hgd : o.guard = none) (x : Operand) (ho : o.op = .load 33 x)
    (g : Nat) (r : Ro) (hx : a.eval x = .pointer (some ⟨g, 0, none⟩)) (hb : RoB w g r) (h : wpList Try.prog ops Q rest (a.put o.dst (.agg (roA r))) w) : wpList Try.prog ops Q (o :: rest) a w :=
  wpList_load_cs w hgd _ x ho g 0 hx (roA r) hb.at_ _ Try.underlying33 rfl sizeRo h
theorem wpList_store_ro (w₀ w : World) {ops : Array Oper} {rest : List Oper} {o : Oper} {a : Act} {Q : Exit → Act → World → Prop} (hgd : o.guard = none) (x y : Operand) (ho : o.op = .store 33 x y) (hdst : o.dst = none)
    (g : Nat) (r r' : Ro) (hx : a.eval x = .pointer (some ⟨g, 0, none⟩)) (hy : a.eval y = .agg (roA r)) (hb : RoB w g r') (hgr : Grow w₀ w) (hg : w₀.heap.size ≤ g)
    (h : ∀ w', RoB w' g r → But g w w' → Grow w₀ w' → wpList Try.prog ops Q rest a w') : wpList Try.prog ops Q (o :: rest) a w :=
  wpList_store_cs w₀ w hgd _ x y ho hdst g 0 (.agg (roA r)) hx hy (roA r).toList rfl 33 (roA r') (roA r) hb sizeRo (roA_ones r) (Nat.le_refl 7) rfl hgr hg h
theorem results_ro {fn : Func} {p : Tmp} (h : fn.results = #[.cell p 33]) (tmps : Array Value) (w : World) (g : Nat) (r : Ro) (ht : tmps.getD p undef = .pointer (some ⟨g, 0, none⟩)) (hb : RoB w g r) :
    (results fn tmps).run Try.prog w = .ok (.agg (roA r)) w := results_cell_row h tmps w g _ _ _ _ ht hb Try.underlying33 rfl sizeRo
end
end Go.Proofs.Ytpbnpkbmefjiaaa
