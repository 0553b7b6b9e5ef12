/- Ends, quads, who is bound and who is joined, tables: in memory. -/
import Derived.Test.YtkilfdhofbjkgaaPoNum
import Derived.Test.YtkilfdhofbjkgaaCellsN
import Derived.Test.YtkilfdhofbjkgaaGw
import Derived.Laws.CopyOwn
import Derived.Laws.NewBlocks
import Derived.Laws.StructEq
import Derived.Deep.RegionLaw
import Derived.Test.YtkilfdhofbjkgaaRows
import Derived.Deep.LoopGhost
import Derived.Lib.Hide
import Derived.BigQuiet
import Derived.Deep.DeepCutAuto
namespace Go.Proofs.Ytkilfdhofbjkgaa
set_option linter.unusedVariables false
set_option linter.unusedSimpArgs false
open Go.ChangeShapes Go.WideShapes Go.ChangeAt Go.RowKit

@[reducible] def edV (e : Ed) : Value := .agg #[.int .u32 e.ad, .int .u16 e.po]
@[reducible] def qdV (q : Qd) : Value := .agg #[.int .u32 q.l.ad, .int .u16 q.l.po, .int .u32 q.r.ad, .int .u16 q.r.po]
def bdC : Cel Bd := ⟨fun b => [.int .u32 b.e.ad, .int .u16 b.e.po, .int .i64 b.o], 3, fun _ => rfl, fun a y hy => by simp at hy; rcases hy with rfl | rfl | rfl <;> rfl⟩
def jdC : Cel Jd := ⟨fun b => [.int .u32 b.q.l.ad, .int .u16 b.q.l.po, .int .u32 b.q.r.ad, .int .u16 b.q.r.po, .int .i64 b.o], 5, fun _ => rfl, fun a y hy => by simp at hy; rcases hy with rfl | rfl | rfl | rfl | rfl <;> rfl⟩
theorem infoBd : (Try.prog.info? 74).map (fun i => (i.zero, i.size, i.bytes)) = some (some (.agg #[.int .u32 0, .int .u16 0, .int .i64 0]), 3, 16) := by kernel_rfl
theorem infoJd : (Try.prog.info? 76).map (fun i => (i.zero, i.size, i.bytes)) = some (some (.agg #[.int .u32 0, .int .u16 0, .int .u32 0, .int .u16 0, .int .i64 0]), 5, 24) := by kernel_rfl
/-- Rows of the call's own of who is bound, of who is joined. -/
abbrev Bds (w : World) (base : Nat) (v : Value) (l : List Bd) : Prop := OwG bdC 74 w base v l
abbrev Jds (w : World) (base : Nat) (v : Value) (l : List Jd) : Prop := OwG jdC 76 w base v l
theorem ed_eq (a b : Ed) (w : World) : (Op.equalIn 10000 40 (.agg #[.int .u32 a.ad, .int .u16 a.po]) (.agg #[.int .u32 b.ad, .int .u16 b.po])).run Try.prog w = .ok (decide (a = b)) w := by
  obtain ⟨a0, a1⟩ := a
  obtain ⟨b0, b1⟩ := b
  by_cases h0 : a0 = b0
  · by_cases h1 : a1 = b1
    · subst h0 h1
      go_simp
    · rw [decide_eq_false (fun e => h1 (by injection e))]
      subst h0
      have h2 : (a1 == b1) = false := beq_eq_false_iff_ne.2 h1
      go_simp
  · rw [decide_eq_false (fun e => h0 (by injection e))]
    have h2 : (a0 == b0) = false := beq_eq_false_iff_ne.2 h0
    go_simp
theorem qd_eq (a b : Qd) (w : World) : (Op.equalIn 10000 42 (.agg #[.int .u32 a.l.ad, .int .u16 a.l.po, .int .u32 a.r.ad, .int .u16 a.r.po]) (.agg #[.int .u32 b.l.ad, .int .u16 b.l.po, .int .u32 b.r.ad, .int .u16 b.r.po])).run Try.prog w = .ok (decide (a = b)) w := by
  obtain ⟨⟨a0, a1⟩, a2, a3⟩ := a
  obtain ⟨⟨b0, b1⟩, b2, b3⟩ := b
  by_cases h0 : a0 = b0
  · by_cases h1 : a1 = b1
    · by_cases h2 : a2 = b2
      · by_cases h3 : a3 = b3
        · subst h0 h1 h2 h3
          go_simp
        · rw [decide_eq_false (fun e => h3 (by injection e with _ e; injection e))]
          subst h0 h1 h2
          have q2 : (a3 == b3) = false := beq_eq_false_iff_ne.2 h3
          go_simp
      · rw [decide_eq_false (fun e => h2 (by injection e with _ e; injection e))]
        subst h0 h1
        have q2 : (a2 == b2) = false := beq_eq_false_iff_ne.2 h2
        go_simp
    · rw [decide_eq_false (fun e => h1 (by injection e with e _; injection e))]
      subst h0
      have q2 : (a1 == b1) = false := beq_eq_false_iff_ne.2 h1
      go_simp
  · rw [decide_eq_false (fun e => h0 (by injection e with e _; injection e))]
    have q2 : (a0 == b0) = false := beq_eq_false_iff_ne.2 h0
    go_simp
/-- A table by value; in a box. -/
@[reducible] def tbA (lo hi la : Int) (vB vJ : Value) : Array Value := #[.int .i64 lo, .int .i64 hi, .int .i64 la, vB, vJ]
def RTb (w : World) (base : Nat) (v : Value) (t : Prt) : Prop := ∃ vB vJ, v = .agg (tbA t.lo t.hi t.la vB vJ) ∧ Bds w base vB t.B ∧ Jds w base vJ t.J
def TbB (w : World) (g : Nat) (lo hi la : Int) (vB vJ : Value) : Prop := w.heap[g]? = some (.cells (tbA lo hi la vB vJ) 32 (0, 0))
section
variable {w w' : World} {base b' g : Nat} {lo hi la : Int} {vB vJ v u : Value} {t : Prt}
theorem RTb.grow (h : RTb w base v t) (gr : Grow w w') : RTb w' base v t := by
  obtain ⟨vB, vJ, rfl, h1, h2⟩ := h
  exact ⟨vB, vJ, rfl, h1.grow gr, h2.grow gr⟩
theorem RTb.base_ (h : RTb w base v t) (hb : b' ≤ base) : RTb w b' v t := by
  obtain ⟨vB, vJ, rfl, h1, h2⟩ := h
  exact ⟨vB, vJ, rfl, h1.base_ hb, h2.base_ hb⟩
theorem RTb.only {b0 : Nat} {Z : Nat → TypeId → Prop} (h : RTb w base v t) (o : Only b0 Z w w') (z1 : ∀ b, ¬ Z b 74) (z2 : ∀ b, ¬ Z b 76) : RTb w' base v t := by
  obtain ⟨vB, vJ, rfl, h1, h2⟩ := h
  exact ⟨vB, vJ, rfl, h1.only o z1, h2.only o z2⟩
theorem TbB.lt (h : TbB w g lo hi la vB vJ) : g < w.heap.size := (Array.getElem?_eq_some_iff.1 h).1
theorem TbB.grow (h : TbB w g lo hi la vB vJ) (gr : Grow w w') : TbB w' g lo hi la vB vJ := (gr.block g h.lt).trans h
theorem TbB.c0 (h : TbB w g lo hi la vB vJ) : w.cell? ⟨g, 0, none⟩ = some (.int .i64 lo) := (cell_of_row w g 0 _ _ _ h).trans rfl
theorem TbB.c1 (h : TbB w g lo hi la vB vJ) : w.cell? ⟨g, 1, none⟩ = some (.int .i64 hi) := (cell_of_row w g 1 _ _ _ h).trans rfl
theorem TbB.c2 (h : TbB w g lo hi la vB vJ) : w.cell? ⟨g, 2, none⟩ = some (.int .i64 la) := (cell_of_row w g 2 _ _ _ h).trans rfl
theorem TbB.c3 (h : TbB w g lo hi la vB vJ) : w.cell? ⟨g, 3, none⟩ = some vB := (cell_of_row w g 3 _ _ _ h).trans rfl
theorem TbB.c4 (h : TbB w g lo hi la vB vJ) : w.cell? ⟨g, 4, none⟩ = some vJ := (cell_of_row w g 4 _ _ _ h).trans rfl
theorem TbB.fz (h : TbB w g lo hi la vB vJ) (i : Nat) : w.frozen? ⟨g, i, none⟩ = false := frozen_of h
theorem TbB.at_ (h : TbB w g lo hi la vB vJ) : ∀ j u, (tbA lo hi la vB vJ)[j]? = some u → w.cell? ⟨g, 0 + j, none⟩ = some u := fun j u hu => by rw [Nat.zero_add, cell_of_row w g j _ _ _ h]; exact hu
theorem TbB.set2 (h : TbB w g lo hi la vB vJ) (n : Int) : TbB (w.setCell ⟨g, 2, none⟩ (.int .i64 n)) g lo hi n vB vJ := heap_setCell_own h _
theorem TbB.set3 (h : TbB w g lo hi la vB vJ) (u : Value) : TbB (w.setCell ⟨g, 3, none⟩ u) g lo hi la u vJ := heap_setCell_own h _
theorem TbB.set4 (h : TbB w g lo hi la vB vJ) (u : Value) : TbB (w.setCell ⟨g, 4, none⟩ u) g lo hi la vB u := heap_setCell_own h _
theorem tb_ones {vB vJ : Value} {B : List Bd} {J : List Jd} (h1 : Bds w base vB B) (h2 : Jds w base vJ J) (lo hi la : Int) : ∀ y ∈ (tbA lo hi la vB vJ).toList, y.oneCell' = true := by
  intro y hy
  simp at hy
  rcases hy with rfl | rfl | rfl | rfl | rfl
  · rfl
  · rfl
  · rfl
  · exact h1.one
  · exact h2.one
theorem Bds.set_ {i : Nat} {l : List Bd} (h : Bds w base v l) (hb : TbB w g lo hi la vB vJ) : Bds (w.setCell ⟨g, i, none⟩ u) base v l :=
  OwG.other h fun b cs hh => Below.heap_setCell _ _ _ _ fun e => by
    have e : b = g := e
    subst e
    exact absurd (block_ty hb hh rfl) (by decide)
theorem Jds.set_ {i : Nat} {l : List Jd} (h : Jds w base v l) (hb : TbB w g lo hi la vB vJ) : Jds (w.setCell ⟨g, i, none⟩ u) base v l :=
  OwG.other h fun b cs hh => Below.heap_setCell _ _ _ _ fun e => by
    have e : b = g := e
    subst e
    exact absurd (block_ty hb hh rfl) (by decide)
theorem Bds.but_ {l : List Bd} (h : Bds w base v l) (hb : TbB w g lo hi la vB vJ) (k : But g w w') : Bds w' base v l :=
  OwG.other h fun b cs hh => k.2 b fun e => by
    subst e
    exact absurd (block_ty hb hh rfl) (by decide)
theorem Jds.but_ {l : List Jd} (h : Jds w base v l) (hb : TbB w g lo hi la vB vJ) (k : But g w w') : Jds w' base v l :=
  OwG.other h fun b cs hh => k.2 b fun e => by
    subst e
    exact absurd (block_ty hb hh rfl) (by decide)
end
theorem sizeTb : (Try.prog.info? 32).map (·.size) = some 5 := by kernel_rfl
theorem wpList_load_t (w : World) {ops : Array Oper} {rest : List Oper} {o : Oper} {a : Act} {Q : Exit → Act → World → Prop} (hgd : o.guard = none) (x : Operand) (ho : o.op = .load 32 x)
    (g : Nat) (lo hi la : Int) (vB vJ : Value) (hx : a.eval x = .pointer (some ⟨g, 0, none⟩)) (hb : TbB w g lo hi la vB vJ) (h : wpList Try.prog ops Q rest (a.put o.dst (.agg (tbA lo hi la vB vJ))) w) : wpList Try.prog ops Q (o :: rest) a w :=
  wpList_load_cs w hgd _ x ho g 0 hx (tbA lo hi la vB vJ) hb.at_ _ Try.underlying32 rfl sizeTb h
theorem wpList_store_t (w₀ w : World) {ops : Array Oper} {rest : List Oper} {o : Oper} {a : Act} {Q : Exit → Act → World → Prop} (hgd : o.guard = none) (x y : Operand) (ho : o.op = .store 32 x y) (hdst : o.dst = none)
    (g : Nat) (lo hi la lo' hi' la' : Int) (vB vJ vB' vJ' : Value) (hx : a.eval x = .pointer (some ⟨g, 0, none⟩)) (hy : a.eval y = .agg (tbA lo hi la vB vJ)) (hb : TbB w g lo' hi' la' vB' vJ') (h1 : ∀ y ∈ (tbA lo hi la vB vJ).toList, y.oneCell' = true) (hgr : Grow w₀ w) (hg : w₀.heap.size ≤ g)
    (h : ∀ w', TbB w' g lo hi la vB vJ → But g w w' → Grow w₀ w' → wpList Try.prog ops Q rest a w') : wpList Try.prog ops Q (o :: rest) a w :=
  wpList_store_cs w₀ w hgd _ x y ho hdst g 0 (.agg (tbA lo hi la vB vJ)) hx hy (tbA lo hi la vB vJ).toList rfl 32 (tbA lo' hi' la' vB' vJ') (tbA lo hi la vB vJ) hb sizeTb h1 (Nat.le_refl 5) rfl hgr hg h
end Go.Proofs.Ytkilfdhofbjkgaa
