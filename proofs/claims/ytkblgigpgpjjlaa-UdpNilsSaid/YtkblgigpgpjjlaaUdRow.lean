/- Datagrams, rows of them, boxes: in memory. -/
import Derived.Test.YtkblgigpgpjjlaaUdNum
import Derived.Test.YtkblgigpgpjjlaaCellsN
import Derived.Test.YtkblgigpgpjjlaaOffG
import Derived.Test.YtkblgigpgpjjlaaByLib
import Derived.Test.YtkblgigpgpjjlaaGw
import Derived.Laws.CopyOwn
import Derived.Laws.NewBlocks
import Derived.Laws.StructEq
import Derived.Deep.RegionLaw
import Derived.Test.YtkblgigpgpjjlaaRows
import Derived.Deep.LoopGhost
import Derived.Lib.Hide
import Derived.BigQuiet
import Derived.Deep.DeepCutAuto
namespace Go.Proofs.Ytkblgigpgpjjlaa
set_option linter.unusedVariables false
set_option linter.unusedSimpArgs false
open Go.ChangeShapes Go.WideShapes Go.ChangeAt Go.RowKit

/-- A datagram as its cells hold it: whence, the slice, what that reads as. -/
structure Mc where
  f : Ed
  A : Option Addr
  n : Nat
  c : Nat
  d : List UInt8
instance : Inhabited Mc := ⟨⟨default, none, 0, 0, []⟩⟩
def Mc.ml (m : Mc) : Ml := ⟨m.f, m.d⟩
@[reducible] def Mc.v (m : Mc) : Value := .slice m.A m.n m.c
def mcC : Cel Mc := ⟨fun m => [.int .u32 m.f.ad, .int .u16 m.f.po, .slice m.A m.n m.c], 3, fun _ => rfl, fun a y hy => by simp at hy; rcases hy with rfl | rfl | rfl <;> rfl⟩
theorem infoMl : (Try.prog.info? 40).map (fun i => (i.zero, i.size, i.bytes)) = some (some (.agg #[.int .u32 0, .int .u16 0, .slice none 0 0]), 3, 32) := by kernel_rfl
/-- Rows of the call's own of datagrams, that begin anywhere in their block, or at its start; that each slice reads as it should. -/
abbrev Mcs (w : World) (base : Nat) (v : Value) (l : List Mc) : Prop := OfG mcC 40 w base v l
abbrev Mcw (w : World) (base : Nat) (v : Value) (l : List Mc) : Prop := OwG mcC 40 w base v l
def Reads (w : World) (l : List Mc) : Prop := ∀ x ∈ l, Byt w x.v x.d
theorem Reads.grow {w w' : World} {l : List Mc} (h : Reads w l) (g : Grow w w') : Reads w' l := fun x hx => Byt.grow (h x hx) g
theorem Reads.nil (w : World) : Reads w [] := fun x hx => by cases hx
theorem Reads.len {w : World} {l : List Mc} (h : Reads w l) {x : Mc} (hx : x ∈ l) : x.n = x.d.length := by
  obtain ⟨A, c, e, _⟩ := h x hx
  have e2 : x.n = (x.d.map bv).length := by injection e
  rw [e2, List.length_map]
theorem Reads.append {w : World} {a b : List Mc} (h : Reads w a) (k : Reads w b) : Reads w (a ++ b) := fun x hx => by
  rcases List.mem_append.1 hx with hx | hx
  · exact h x hx
  · exact k x hx
theorem mc_cells {w : World} {v : Value} {l : List Mc} (h : RdG mcC w v l) (hp : 0 < l.length) : ∃ b off cp, v = .slice (some ⟨b, off, none⟩) l.length cp ∧ b < w.heap.size ∧
    ∀ k x, l[k]? = some x → w.cell? ⟨b, off + k * 3, none⟩ = some (.int .u32 x.f.ad) ∧ w.cell? ⟨b, off + k * 3 + 1, none⟩ = some (.int .u16 x.f.po) ∧ w.cell? ⟨b, off + k * 3 + 2, none⟩ = some (.slice x.A x.n x.c) := by
  obtain ⟨b, off, cp, e, hb, hc⟩ := h.at_ hp
  exact ⟨b, off, cp, e, hb, fun k x hx => ⟨hc k x hx 0 _ rfl, hc k x hx 1 _ rfl, hc k x hx 2 _ rfl⟩⟩
/-- A box of the reference's as a value, in a block. -/
@[reducible] def ubA (most room pa pp : Int) (vL : Value) (lost told : Int) : Array Value := #[.int .i64 most, .int .i64 room, .int .u32 pa, .int .u16 pp, vL, .int .i64 lost, .int .i64 told]
def UbB (w : World) (g : Nat) (most room pa pp : Int) (vL : Value) (lost told : Int) : Prop := w.heap[g]? = some (.cells (ubA most room pa pp vL lost told) 37 (0, 0))
/-- w0: where the slices' bytes lie (the law's arguments); Q: in which blocks the row may lie. -/
def RUb (w0 w : World) (base : Nat) (Q : Nat → Prop) (v : Value) (u : Ub) : Prop := ∃ vL l, v = .agg (ubA u.most u.room u.pe.ad u.pe.po vL u.lost u.told) ∧ Mcs w base vL l ∧ l.map Mc.ml = u.L ∧ Reads w0 l ∧ ∀ k, vL.ownBlock = some k → Q k
theorem sizeUb : (Try.prog.info? 37).map (·.size) = some 7 := by kernel_rfl
theorem sizeMl : (Try.prog.info? 40).map (·.size) = some 3 := by kernel_rfl
section
variable {w w' : World} {g : Nat} {most room pa pp lost told : Int} {vL : Value}
theorem UbB.lt (h : UbB w g most room pa pp vL lost told) : g < w.heap.size := (Array.getElem?_eq_some_iff.1 h).1
theorem UbB.grow (h : UbB w g most room pa pp vL lost told) (gr : Grow w w') : UbB w' g most room pa pp vL lost told := (gr.block g h.lt).trans h
theorem UbB.c0 (h : UbB w g most room pa pp vL lost told) : w.cell? ⟨g, 0, none⟩ = some (.int .i64 most) := (cell_of_row w g 0 _ _ _ h).trans rfl
theorem UbB.c1 (h : UbB w g most room pa pp vL lost told) : w.cell? ⟨g, 1, none⟩ = some (.int .i64 room) := (cell_of_row w g 1 _ _ _ h).trans rfl
theorem UbB.c2 (h : UbB w g most room pa pp vL lost told) : w.cell? ⟨g, 2, none⟩ = some (.int .u32 pa) := (cell_of_row w g 2 _ _ _ h).trans rfl
theorem UbB.c3 (h : UbB w g most room pa pp vL lost told) : w.cell? ⟨g, 3, none⟩ = some (.int .u16 pp) := (cell_of_row w g 3 _ _ _ h).trans rfl
theorem UbB.c4 (h : UbB w g most room pa pp vL lost told) : w.cell? ⟨g, 4, none⟩ = some vL := (cell_of_row w g 4 _ _ _ h).trans rfl
theorem UbB.c5 (h : UbB w g most room pa pp vL lost told) : w.cell? ⟨g, 5, none⟩ = some (.int .i64 lost) := (cell_of_row w g 5 _ _ _ h).trans rfl
theorem UbB.c6 (h : UbB w g most room pa pp vL lost told) : w.cell? ⟨g, 6, none⟩ = some (.int .i64 told) := (cell_of_row w g 6 _ _ _ h).trans rfl
theorem UbB.fz (h : UbB w g most room pa pp vL lost told) (i : Nat) : w.frozen? ⟨g, i, none⟩ = false := frozen_of h
theorem UbB.at_ (h : UbB w g most room pa pp vL lost told) : ∀ j u, (ubA most room pa pp vL lost told)[j]? = some u → w.cell? ⟨g, 0 + j, none⟩ = some u := fun j u hu => by rw [Nat.zero_add, cell_of_row w g j _ _ _ h]; exact hu
theorem UbB.set4 (h : UbB w g most room pa pp vL lost told) (u : Value) : UbB (w.setCell ⟨g, 4, none⟩ u) g most room pa pp u lost told := heap_setCell_own h _
theorem UbB.set5 (h : UbB w g most room pa pp vL lost told) (n : Int) : UbB (w.setCell ⟨g, 5, none⟩ (.int .i64 n)) g most room pa pp vL n told := heap_setCell_own h _
theorem UbB.set6 (h : UbB w g most room pa pp vL lost told) (n : Int) : UbB (w.setCell ⟨g, 6, none⟩ (.int .i64 n)) g most room pa pp vL lost n := heap_setCell_own h _
theorem Mcs.set_ {i base : Nat} {v u : Value} {l : List Mc} (h : Mcs w base v l) (hb : UbB w g most room pa pp vL lost told) : Mcs (w.setCell ⟨g, i, none⟩ u) base v l :=
  OfG.other h fun b cs hh => Below.heap_setCell _ _ _ _ fun e => by
    have e : b = g := e
    subst e
    exact absurd (block_ty hb hh rfl) (by decide)
theorem Mcs.but_ {base : Nat} {v : Value} {l : List Mc} (h : Mcs w base v l) (hb : UbB w g most room pa pp vL lost told) (k : But g w w') : Mcs w' base v l :=
  OfG.other h fun b cs hh => k.2 b fun e => by
    subst e
    exact absurd (block_ty hb hh rfl) (by decide)
theorem ub_ones {base : Nat} {l : List Mc} (h : Mcs w base vL l) (most room pa pp lost told : Int) : ∀ y ∈ (ubA most room pa pp vL lost told).toList, y.oneCell' = true := by
  intro y hy
  simp at hy
  rcases hy with rfl | rfl | rfl | rfl | rfl | rfl | rfl
  · rfl
  · rfl
  · rfl
  · rfl
  · exact h.one
  · rfl
  · rfl
end
theorem wpList_load_u (w : World) {ops : Array Oper} {rest : List Oper} {o : Oper} {a : Act} {Q : Exit → Act → World → Prop} (hgd : o.guard = none) (x : Operand) (ho : o.op = .load 37 x)
    (g : Nat) (most room pa pp : Int) (vL : Value) (lost told : Int) (hx : a.eval x = .pointer (some ⟨g, 0, none⟩)) (hb : UbB w g most room pa pp vL lost told) (h : wpList Try.prog ops Q rest (a.put o.dst (.agg (ubA most room pa pp vL lost told))) w) : wpList Try.prog ops Q (o :: rest) a w :=
  wpList_load_cs w hgd _ x ho g 0 hx (ubA most room pa pp vL lost told) hb.at_ _ Try.underlying37 rfl sizeUb h
theorem wpList_store_u (w₀ w : World) {ops : Array Oper} {rest : List Oper} {o : Oper} {a : Act} {Q : Exit → Act → World → Prop} (hgd : o.guard = none) (x y : Operand) (ho : o.op = .store 37 x y) (hdst : o.dst = none)
    (g : Nat) (most room pa pp : Int) (vL : Value) (lost told : Int) (old : Array Value) (hx : a.eval x = .pointer (some ⟨g, 0, none⟩)) (hy : a.eval y = .agg (ubA most room pa pp vL lost told)) (hb : w.heap[g]? = some (.cells old 37 (0, 0))) (hs : old.size = 7) (h1 : ∀ y ∈ (ubA most room pa pp vL lost told).toList, y.oneCell' = true) (hgr : Grow w₀ w) (hg : w₀.heap.size ≤ g)
    (h : ∀ w', UbB w' g most room pa pp vL lost told → But g w w' → Grow w₀ w' → wpList Try.prog ops Q rest a w') : wpList Try.prog ops Q (o :: rest) a w :=
  wpList_store_cs w₀ w hgd _ x y ho hdst g 0 (.agg (ubA most room pa pp vL lost told)) hx hy (ubA most room pa pp vL lost told).toList rfl 37 old (ubA most room pa pp vL lost told) hb sizeUb h1 (by rw [hs]; exact Nat.le_refl 7)
    (by rw [List.take_zero, List.nil_append, List.drop_eq_nil_of_le (by simp [hs]), List.append_nil]) hgr hg h
end Go.Proofs.Ytkblgigpgpjjlaa
