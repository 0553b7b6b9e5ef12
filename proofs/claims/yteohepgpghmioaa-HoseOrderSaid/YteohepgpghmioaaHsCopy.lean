/- copy from what reads as a list into a row of bytes; a hose in memory. -/
import Derived.Test.YteohepgpghmioaaHsNum
import Derived.Test.YteohepgpghmioaaGw
import Derived.Laws.CopyOwn
import Derived.Laws.NewBlocks
import Derived.Deep.RegionLaw
import Derived.Test.YteohepgpghmioaaRows
import Derived.Deep.LoopGhost
import Derived.Lib.Hide
namespace Go.Proofs.Yteohepgpghmioaa
set_option linter.unusedVariables false
set_option linter.unusedSimpArgs false
open Go.ChangeShapes Go.WideShapes Go.ChangeAt Go.RowKit

theorem over_nil (R : List Value) (k : Nat) : over R k [] = R := by simp [over]
theorem grownBy_setRow' {w : World} {g : Nat} {cs : Array Value} : w.grownBy (w.setRow g cs) (some g) := ⟨rfl, rfl, rfl, by simp [World.setRow], fun k _ hk => by
  have : k ≠ g := fun e => hk (by rw [e])
  simp [World.setRow, Array.getElem?_modify, this.symm]⟩
theorem run_copyRd (w : World) (ty : TypeId) (g k dl dc : Nat) (R : List Value) (u : Value) (ys : List Value) (m : Nat) (hg : w.heap[g]? = some (.cells R.toArray 5 (0, 0))) (hr : Rd w u ys) (hm : m = min ys.length dl) (hfit : k + m ≤ R.length) (h1 : ∀ y ∈ ys, y.oneCell' = true) :
    ∃ w', (Builtin.copy_ #[30, 30] ty #[.slice (some ⟨g, k, none⟩) dl dc, u]).run Try.prog w = .ok (.int .i64 (m : Int)) w' ∧ w'.heap[g]? = some (.cells (over R k (ys.take m)).toArray 5 (0, 0)) ∧ w.grownBy w' (some g) := by
  obtain ⟨A, c, rfl, h2, h3, h4⟩ := hr
  have hsz : (Try.prog.info? 5).map (·.size) = some 1 := by kernel_rfl
  rcases Nat.eq_zero_or_pos ys.length with h0 | h0
  · obtain rfl : m = 0 := by omega
    have hy := List.eq_nil_of_length_eq_zero h0
    subst hy
    refine ⟨w, ?_, by rw [List.take_zero, over_nil]; exact hg, World.grownBy.refl _ _⟩
    cases hq : Try.prog.info? 5 with
    | none => rw [hq] at hsz; cases hsz
    | some i =>
      cases A <;> simp [Builtin.copy_, run_underlying Try.underlying30, Builtin.lenOf, Builtin.firstCells, sizeOf, typeInfo, hq, storeCells, loadCells, loadCellsFrom, goInt]
  · obtain ⟨b, off, rfl, hb, hc⟩ := h4 h0
    have hl : (ys.take m).length = m := by rw [List.length_take]; omega
    have := run_copy_row (P := Try.prog) w 30 30 ty 5 g k dl dc ⟨b, off, none⟩ ys.length c R.toArray 5 (ys.take m) Try.underlying30 hsz hg (by rw [hl, hm]) (fun j v hj => by
      have hjm : j < m := by have := (List.getElem?_eq_some_iff.1 hj).1; omega
      rw [List.getElem?_take_of_lt hjm] at hj
      rw [add_at, hc j (by omega), ← hj, List.getElem?_eq_getElem (by omega)]) (by rw [hl]; simpa using hfit) (fun v hv => h1 v (List.mem_of_mem_take hv))
    refine ⟨_, this.trans (by rw [hl]; rfl), (setRow_heap w g _ _ _ _ hg).trans ?_, grownBy_setRow'⟩
    simp [over]
    omega
theorem wpList_copyRd (w : World) {ops : Array Oper} {rest : List Oper} {o : Oper} {a : Act} {Q : Exit → Act → World → Prop} (hgd : o.guard = none) (d s : Operand)
    (ho : o.op = .call { callee := .builtin .copy, args := #[d, s], argTypes := #[30, 30] }) (g k dl dc : Nat) (R : List Value) (u : Value) (ys : List Value) (m : Nat) (hd : a.eval d = .slice (some ⟨g, k, none⟩) dl dc) (hx : a.eval s = u)
    (hg : w.heap[g]? = some (.cells R.toArray 5 (0, 0))) (hr : Rd w u ys) (hm : m = min ys.length dl) (hfit : k + m ≤ R.length) (h1 : ∀ y ∈ ys, y.oneCell' = true)
    (h : ∀ w', w'.heap[g]? = some (.cells (over R k (ys.take m)).toArray 5 (0, 0)) → w.grownBy w' (some g) → wpList Try.prog ops Q rest (a.put o.dst (.int .i64 (m : Int))) w') : wpList Try.prog ops Q (o :: rest) a w := by
  obtain ⟨w', hrun, h2, h3⟩ := run_copyRd w o.type g k dl dc R u ys m hg hr hm hfit h1
  refine wpList_plain hgd fun _ hK => ?_
  unfold Oper.wp execOp
  simp only [ho, resolve, invoke, builtin, Sem.run_bind, Sem.run_pure, Result.andThen_ok, List.map_toArray, List.map_cons, List.map_nil, hd, hx, hrun]
  exact hK _ _ (h w' h2 h3)
theorem step_copyRd (w : World) {ops : Array Oper} {o : Oper} {a : Act} {K : Act → World → Prop} {Q : Exit → Act → World → Prop} {E : Prop} (hgd : o.guard = none) (d s : Operand)
    (ho : o.op = .call { callee := .builtin .copy, args := #[d, s], argTypes := #[30, 30] }) (g k dl dc : Nat) (R : List Value) (u : Value) (ys : List Value) (m : Nat) (hd : a.eval d = .slice (some ⟨g, k, none⟩) dl dc) (hx : a.eval s = u)
    (hg : w.heap[g]? = some (.cells R.toArray 5 (0, 0))) (hr : Rd w u ys) (hm : m = min ys.length dl) (hfit : k + m ≤ R.length) (h1 : ∀ y ∈ ys, y.oneCell' = true)
    (h : ∀ w', w'.heap[g]? = some (.cells (over R k (ys.take m)).toArray 5 (0, 0)) → w.grownBy w' (some g) → K (a.put o.dst (.int .i64 (m : Int))) w') :
    if Region.wanted o (yielded ops a.tmps) = true then Oper.wp Try.prog o a w K Q else E := by
  have hw : Region.wanted o (yielded ops a.tmps) = true := by simp [Region.wanted, hgd]
  rw [if_pos hw]
  obtain ⟨w', hrun, h2, h3⟩ := run_copyRd w o.type g k dl dc R u ys m hg hr hm hfit h1
  unfold Oper.wp execOp
  simp only [ho, resolve, invoke, builtin, Sem.run_bind, Sem.run_pure, Result.andThen_ok, List.map_toArray, List.map_cons, List.map_nil, hd, hx, hrun]
  exact h w' h2 h3

/-- A row of bytes of the call's own. -/
def Own (w : World) (base : Nat) (v : Value) (l : List UInt8) : Prop := w.ownsRow base 5 1 v l.length (l.map bv)
theorem Own.byt {w : World} {base : Nat} {v : Value} {l : List UInt8} (h : Own w base v l) : Byt w v l := Byt.of_own h
theorem own_none (w : World) (base : Nat) : Own w base (.slice none 0 0) [] := ⟨rfl, .inl ⟨rfl, rfl⟩⟩
theorem Own.lt {w : World} {base : Nat} {v : Value} {l : List UInt8} (h : Own w base v l) {b : Nat} (hb : v.ownBlock = some b) : b < w.heap.size ∧ base ≤ b := by
  obtain ⟨cs, h1, h2⟩ := ownsRow_blk h hb
  exact ⟨(Array.getElem?_eq_some_iff.1 h1).1, h2⟩
theorem Own.base_ {w : World} {base b' : Nat} {v : Value} {l : List UInt8} (h : Own w base v l) (hb : b' ≤ base) : Own w b' v l := ownsRow_base h hb
theorem Own.grow {w w' : World} {base : Nat} {v : Value} {l : List UInt8} (h : Own w base v l) (g : Grow w w') : Own w' base v l := ownsRow_other h fun b cs _ hh => g.block b (Array.getElem?_eq_some_iff.1 hh).1
/-- A slice read stays where its block does. -/
theorem Byt.other {w w' : World} {v : Value} {l : List UInt8} (h : Byt w v l) (hs : w.heap.size ≤ w'.heap.size) (hb : ∀ b, v.ownBlock = some b → b < w.heap.size → w'.heap[b]? = w.heap[b]?) : Byt w' v l := by
  obtain ⟨A, c, rfl, h1, h2, h3⟩ := h
  refine ⟨A, c, rfl, h1, h2, fun hp => ?_⟩
  obtain ⟨b, off, rfl, hlt, hc⟩ := h3 hp
  exact ⟨b, off, rfl, Nat.lt_of_lt_of_le hlt hs, fun j hj => (World.cell?_of_block (w := w) (a := ⟨b, off + j, none⟩) (hb b rfl hlt)).trans (hc j hj)⟩

/-- A hose in memory: its block ab, its ring's block g; r is what it holds. -/
structure Hs (w : World) (base ab g m i o : Nat) (r : List UInt8) : Prop where
  blk : w.heap[ab]? = some (.cells #[.slice (some ⟨g, 0, none⟩) m m, .int .i64 (i : Int), .int .i64 (o : Int)] 47 (0, 0))
  rng : ∃ R : List Value, w.heap[g]? = some (.cells R.toArray 5 (0, 0)) ∧ R.length = m ∧ Ring R o r
  len : i = o + r.length
  cap : r.length ≤ m
  big : i ≤ 1000000000000
  pos : 0 < m ∧ m ≤ 1048576
  low : base ≤ ab ∧ base ≤ g
/-- All blocks but two are as they were. -/
structure Chg (ab g : Nat) (w w' : World) : Prop where
  os : w'.os = w.os
  tape : w'.tape = w.tape
  output : w'.output = w.output
  size : w.heap.size ≤ w'.heap.size
  block : ∀ i, i < w.heap.size → i ≠ ab → i ≠ g → w'.heap[i]? = w.heap[i]?
section
variable {w w' w2 : World} {base ab g m i o : Nat} {r : List UInt8}
theorem Chg.of_grow (h : Grow w w') : Chg ab g w w' := ⟨h.os, h.tape, h.output, h.size, fun i hi _ _ => h.block i hi⟩
theorem Chg.trans (h : Chg ab g w w') (k : Chg ab g w' w2) : Chg ab g w w2 := ⟨k.os.trans h.os, k.tape.trans h.tape, k.output.trans h.output, Nat.le_trans h.size k.size, fun i hi h1 h2 => (k.block i (Nat.lt_of_lt_of_le hi h.size) h1 h2).trans (h.block i hi h1 h2)⟩
theorem Chg.low (h : Chg ab g w w') (h1 : base ≤ ab) (h2 : base ≤ g) (hb : base ≤ w.heap.size) : Below base w w' := ⟨h.os, h.tape, h.output, h.size, fun i hi => h.block i (by omega) (by omega) (by omega)⟩
theorem Chg.byt {v : Value} {l : List UInt8} (h : Chg ab g w w') (hv : Byt w v l) (h1 : v.ownBlock ≠ some ab) (h2 : v.ownBlock ≠ some g) : Byt w' v l := hv.other h.size fun b hb hlt => h.block b hlt (fun e => h1 (by rw [hb, e])) (fun e => h2 (by rw [hb, e]))
theorem Chg.own {v : Value} {l : List UInt8} {bs : Nat} (h : Chg ab g w w') (hv : Own w bs v l) (h1 : v.ownBlock ≠ some ab) (h2 : v.ownBlock ≠ some g) : Own w' bs v l := ownsRow_other hv fun b cs hb hh => h.block b (Array.getElem?_eq_some_iff.1 hh).1 (fun e => h1 (by rw [hb, e])) (fun e => h2 (by rw [hb, e]))
theorem Hs.lt (h : Hs w base ab g m i o r) : ab < w.heap.size ∧ g < w.heap.size ∧ ab ≠ g := by
  obtain ⟨R, h1, h2, h3⟩ := h.rng
  refine ⟨(Array.getElem?_eq_some_iff.1 h.blk).1, (Array.getElem?_eq_some_iff.1 h1).1, fun e => ?_⟩
  subst e
  rw [h.blk] at h1
  injection h1 with h1
  injection h1 with _ h1 _
  exact absurd h1 (by decide)
theorem Hs.other (h : Hs w base ab g m i o r) (h1 : w'.heap[ab]? = w.heap[ab]?) (h2 : w'.heap[g]? = w.heap[g]?) : Hs w' base ab g m i o r := by
  obtain ⟨R, h3, h4, h5⟩ := h.rng
  exact ⟨h1.trans h.blk, ⟨R, h2.trans h3, h4, h5⟩, h.len, h.cap, h.big, h.pos, h.low⟩
theorem Hs.grow (h : Hs w base ab g m i o r) (k : Grow w w') : Hs w' base ab g m i o r := h.other (k.block _ h.lt.1) (k.block _ h.lt.2.1)
theorem Hs.cells (h : Hs w base ab g m i o r) : w.cell? ⟨ab, 0, none⟩ = some (.slice (some ⟨g, 0, none⟩) m m) ∧ w.cell? ⟨ab, 1, none⟩ = some (.int .i64 (i : Int)) ∧ w.cell? ⟨ab, 2, none⟩ = some (.int .i64 (o : Int)) :=
  ⟨(cell_of_row w ab 0 _ _ _ h.blk).trans rfl, (cell_of_row w ab 1 _ _ _ h.blk).trans rfl, (cell_of_row w ab 2 _ _ _ h.blk).trans rfl⟩
theorem Hs.grown {row : Option Nat} (h : Hs w base ab g m i o r) (k : w.grownBy w' row) (h1 : row ≠ some ab) (h2 : row ≠ some g) : Hs w' base ab g m i o r :=
  h.other (k.block _ h.lt.1 fun e => h1 e.symm) (k.block _ h.lt.2.1 fun e => h2 e.symm)
end
end Go.Proofs.Yteohepgpghmioaa
