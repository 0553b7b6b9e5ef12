/- HosePlays: what is known between the calls. -/
import Derived.Test.YteohepgpghmioaaHsMuch
import Derived.Test.YteohepgpghmioaaHsOrd
import Derived.Test.YteohepgpghmioaaWeave2
namespace Go.Proofs.Yteohepgpghmioaa
set_option linter.unusedVariables false
set_option linter.unusedSimpArgs false
open Go.ChangeShapes Go.WideShapes Go.ChangeAt Go.RowKit

theorem fst_nat (k z : Nat) : fst (k : Int) z = min k z := by unfold fst; rw [Int.toNat_natCast]
theorem fst_le (n : Int) (z : Nat) : fst n z ≤ z := by unfold fst; omega
/-- A call in memory. -/
def ActAt (w : World) (ga : Nat) (d a n : Int) (v : Value) : Prop := w.heap[ga]? = some (.cells #[.int .i64 d, .int .i64 a, .int .i64 n, v] 32 (0, 0))
section
variable {w w' : World} {ga : Nat} {d a n : Int} {v : Value}
theorem ActAt.c0 (h : ActAt w ga d a n v) : w.cell? ⟨ga, 0, none⟩ = some (.int .i64 d) := (cell_of_row w ga 0 _ _ _ h).trans rfl
theorem ActAt.c1 (h : ActAt w ga d a n v) : w.cell? ⟨ga, 1, none⟩ = some (.int .i64 a) := (cell_of_row w ga 1 _ _ _ h).trans rfl
theorem ActAt.c2 (h : ActAt w ga d a n v) : w.cell? ⟨ga, 2, none⟩ = some (.int .i64 n) := (cell_of_row w ga 2 _ _ _ h).trans rfl
theorem ActAt.c3 (h : ActAt w ga d a n v) : w.cell? ⟨ga, 3, none⟩ = some v := (cell_of_row w ga 3 _ _ _ h).trans rfl
theorem ActAt.lt (h : ActAt w ga d a n v) : ga < w.heap.size := (Array.getElem?_eq_some_iff.1 h).1
theorem ActAt.chg {base ab g m i o : Nat} {r : List UInt8} (h : ActAt w ga d a n v) (hs : Hs w base ab g m i o r) (k : Chg ab g w w') : ActAt w' ga d a n v := by
  refine (k.block ga h.lt (fun e => ?_) (fun e => ?_)).trans h
  · subst e
    have h1 := hs.blk
    unfold ActAt at h
    rw [h] at h1
    injection h1 with h1
    injection h1 with _ h1 _
    exact absurd h1 (by decide)
  · subst e
    obtain ⟨R, h1, _⟩ := hs.rng
    unfold ActAt at h
    rw [h] at h1
    injection h1 with h1
    injection h1 with _ h1 _
    exact absurd h1 (by decide)
end
/-- Behind i calls: the hose holds r, and v reads as r. -/
structure PlH (w wr : World) (ab g m i n o : Nat) (r : List UInt8) (v : Value) : Prop where
  hs : Hs wr w.heap.size ab g m n o r
  row : Byt wr v r
  ap : v.ownBlock ≠ some ab ∧ v.ownBlock ≠ some g
  bd : n ≤ 1048576 * i
  g : Grow w wr
theorem own_add (A : Option Addr) (k n c n' c' : Nat) : (Value.slice (A.map (·.add k)) n c).ownBlock = (Value.slice A n' c').ownBlock := by
  cases A with
  | none => rfl
  | some a =>
    simp only [Option.map_some, Value.ownBlock, Addr.add]
    split <;> rfl
theorem own_same (A : Option Addr) (n c n' c' : Nat) : (Value.slice A n c).ownBlock = (Value.slice A n' c').ownBlock := by cases A <;> rfl
def isB (l : List UInt8) (v : Value) (w : World) : Prop := Byt w v l
theorem isB_stays (l : List UInt8) : stays (isB l) := fun _ _ _ g h => Byt.grow h g
section
variable {w wr w' : World} {ab g m i n o : Nat} {r : List UInt8} {v : Value}
theorem PlH.grow (h : PlH w wr ab g m i n o r v) (k : Grow wr w') : PlH w w' ab g m i n o r v := ⟨h.hs.grow k, h.row.grow k, h.ap, h.bd, Grow.trans h.g k⟩
theorem PlH.next (h : PlH w wr ab g m i n o r v) : PlH w wr ab g m (i + 1) n o r v := ⟨h.hs, h.row, h.ap, by have := h.bd; omega, h.g⟩
theorem PlH.chg (h : PlH w wr ab g m i n o r v) (k : Chg ab g wr w') : Byt w' v r ∧ Grow w w' := ⟨k.byt h.row h.ap.1 h.ap.2, Below.trans h.g (k.low h.hs.low.1 h.hs.low.2 h.g.size)⟩
/-- Some of it came out. -/
theorem PlH.cut (h : PlH w wr ab g m i n o r v) (c : Chg ab g wr w') {k : Nat} (hs : Hs w' w.heap.size ab g m n (o + k) (r.drop k)) {v' : Value} (hv : Byt w' v' (r.drop k)) (he : v'.ownBlock = v.ownBlock) : PlH w w' ab g m (i + 1) n (o + k) (r.drop k) v' :=
  ⟨hs, hv, by rw [he]; exact h.ap, by have := h.bd; omega, (h.chg c).2⟩
/-- Some went in. -/
theorem PlH.more (h : PlH w wr ab g m i n o r v) {w2 : World} (c : Chg ab g wr w2) {b : List UInt8} {k : Nat} (hk : k ≤ 1048576) (hs : Hs w2 w.heap.size ab g m (n + k) o (r ++ b.take k)) (c2 : Grow w2 w') {v' : Value} (hv : Own w' w2.heap.size v' (r ++ b.take k)) : PlH w w' ab g m (i + 1) (n + k) o (r ++ b.take k) v' := by
  have hlt := hs.lt
  refine ⟨hs.grow c2, hv.byt, ⟨fun e => ?_, fun e => ?_⟩, by have := h.bd; omega, Grow.trans (h.chg c).2 c2⟩
  · have := (hv.lt e).2; omega
  · have := (hv.lt e).2; omega
theorem PlH.len (h : PlH w wr ab g m i n o r v) : r.length ≤ m ∧ m ≤ 1048576 := ⟨h.hs.cap, h.hs.pos.2⟩
theorem pl_write (h : PlH w wr ab g m i n o r v) (hi : i ≤ 1000) {vb : Value} {b : List UInt8} (hb : Byt w vb b) : Calls Try.prog 11 #[.pointer (some ⟨ab, 0, none⟩), vb] wr (WritePost wr w.heap.size ab g m n o r b (min b.length (m - r.length))) :=
  hWrite_any h.hs vb b (hb.grow h.g) (fun hp e => by
    have := hb.old hp e
    have := h.hs.low.2
    omega) (by have := h.bd; omega)
end
/-- append of bytes, as an operation of a chain. -/
theorem own0 (w : World) : Own (w.alloc (.cells #[] 5)) w.heap.size (.slice (some ⟨w.heap.size, 0, none⟩) 0 0) [] := World.ownsRow_lit (base := w.heap.size) (e := 5) (size := 1) w #[] 0 (Nat.le_refl _) (Nat.zero_le _) rfl
/-- append of bytes, as one step of a region that draws its order. -/
theorem step_appO (w : World) {ops : Array Oper} {o : Oper} {a : Act} {K : Act → World → Prop} {Q : Exit → Act → World → Prop} {E : Prop} (hgd : o.guard = none) (s x : Operand)
    (ho : o.op = .call { callee := .builtin .append, args := #[s, x], argTypes := #[30, 30] }) (base : Nat) (v u : Value) (xs ys : List UInt8) (hs : a.eval s = v) (hx : a.eval x = u) (hown : Own w base v xs) (hr : Byt w u ys)
    (hlen : xs.length + ys.length ≤ 100000000) (hb : base ≤ w.heap.size)
    (h : ∀ v' w', Own w' base v' (xs ++ ys) → w.grownBy w' v.ownBlock → K (a.put o.dst v') w') :
    if Region.wanted o (yielded ops a.tmps) = true then Oper.wp Try.prog o a w K Q else E := by
  have hw : Region.wanted o (yielded ops a.tmps) = true := by simp [Region.wanted, hgd]
  rw [if_pos hw]
  have f1 : (xs.map bv).length = xs.length := List.length_map _
  have f2 : (ys.map bv).length = ys.length := List.length_map _
  obtain ⟨v', w', hrun, h2, h3, h4⟩ := run_append_rd (P := Try.prog) w base 30 o.type 5 (.int .u8 0) 1 Try.underlying30 infoB rfl v (xs.map bv) (by rw [f1]; exact hown) u (ys.map bv) hr (bv_one _) (by rw [f1, f2]; omega) (by rw [f1, f2]; unfold maxLen; omega) hb
  unfold Oper.wp execOp
  simp only [ho, resolve, invoke, builtin, Sem.run_bind, Sem.run_pure, Result.andThen_ok, List.map_toArray, List.map_cons, List.map_nil, hs, hx, hrun]
  refine h v' w' ?_ h3
  unfold Own
  rw [← List.map_append, List.length_map] at h2
  exact h2
end Go.Proofs.Yteohepgpghmioaa
