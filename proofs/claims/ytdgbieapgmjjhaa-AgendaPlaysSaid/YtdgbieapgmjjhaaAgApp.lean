/- Rows of items: append, and what it leaves as it was. -/
import Derived.Test.YtdgbieapgmjjhaaAgRPl
import Derived.Test.YtdgbieapgmjjhaaAgDrp
namespace Go.Proofs.Ytdgbieapgmjjhaa
set_option linter.unusedVariables false
set_option linter.unusedSimpArgs false
open Go.ChangeShapes Go.WideShapes Go.ChangeAt Go.RowKit

/-- All blocks but o are as they were. -/
structure Pst (w w' : World) (o : Option Nat) : Prop where
  os : w'.os = w.os
  tape : w'.tape = w.tape
  output : w'.output = w.output
  size : w.heap.size ≤ w'.heap.size
  block : ∀ i, i < w.heap.size → some i ≠ o → w'.heap[i]? = w.heap[i]?
/-- Two rows of different blocks. -/
def Apt (v u : Value) : Prop := ∀ b, v.ownBlock = some b → u.ownBlock ≠ some b
theorem Its.pst {w w' : World} {base : Nat} {v u : Value} {l : List En} (h : Its w base v l) (p : Pst w w' u.ownBlock) (ha : Apt v u) : Its w' base v l :=
  ownsRow_other h fun b cs hb hh => p.block b (Array.getElem?_eq_some_iff.1 hh).1 fun e => ha b hb e.symm
theorem Its.lt {w : World} {base : Nat} {v : Value} {l : List En} (h : Its w base v l) {b : Nat} (hb : v.ownBlock = some b) : b < w.heap.size ∧ base ≤ b := by
  obtain ⟨cs, h1, h2⟩ := ownsRow_blk h hb
  exact ⟨(Array.getElem?_eq_some_iff.1 h1).1, h2⟩
theorem Its.base_ {w : World} {base b' : Nat} {v : Value} {l : List En} (h : Its w base v l) (hb : b' ≤ base) : Its w b' v l := ownsRow_base h hb
theorem Its.none (w : World) (base : Nat) : Its w base (.slice none 0 0) [] := ⟨rfl, .inl ⟨rfl, rfl⟩⟩
theorem apt_none (v : Value) : Apt v (.slice none 0 0) := fun b _ e => by cases e
/-- A row that is there is apart from one that is made later. -/
theorem Its.apt {w w' : World} {base base' : Nat} {v u : Value} {l l' : List En} (h : Its w base v l) (h' : Its w' base' u l') (hb : w.heap.size ≤ base') : Apt u v := fun b e1 e2 => by
  have := (h.lt e2).1
  have := (h'.lt e1).2
  omega
theorem Apt.new {w : World} {base : Nat} {v u u' : Value} {l : List En} (ha : Apt v u) (h : Its w base v l) (hn : u'.ownBlock = u.ownBlock ∨ ∃ b, u'.ownBlock = some b ∧ w.heap.size ≤ b) : Apt v u' := fun b e1 e2 => by
  rcases hn with q | ⟨c, q1, q2⟩
  · exact ha b e1 (by rw [← q]; exact e2)
  · rw [q1] at e2
    injection e2 with e2
    have := (h.lt e1).1
    omega
theorem run_itapp2 (w : World) (base : Nat) (v : Value) (l : List En) (t : En) (h : Its w base v l) (hb : base ≤ w.heap.size) (hl : l.length ≤ 1000000) {ops : Array Oper} {rest : List Oper} {o : Oper} {a : Act} {Q : Exit → Act → World → Prop} (hgd : o.guard = none) (s x : Operand)
    (ho : o.op = .call { callee := .builtin .append, args := #[s, x], argTypes := #[29, 29] }) (hs : a.eval s = v) (hx : a.eval x = .slice (some ⟨w.heap.size, 0, none⟩) 1 1)
    (hK : ∀ v5 w5, Its w5 base v5 (l ++ [t]) → Only base Zi3 w w5 → Pst w w5 v.ownBlock → (v5.ownBlock = v.ownBlock ∨ ∃ b, v5.ownBlock = some b ∧ w.heap.size ≤ b) → wpList Try.prog ops Q rest (a.put o.dst v5) w5) : wpList Try.prog ops Q (o :: rest) a (w.alloc (.cells #[.int .i64 t.id, .int .i64 t.at_, .int .i64 t.rk] 31)) := by
  have g1 : Grow w (w.alloc (.cells #[.int .i64 t.id, .int .i64 t.at_, .int .i64 t.rk] 31)) := Grow.alloc _ _
  have hlit : RdK (w.alloc (.cells #[.int .i64 t.id, .int .i64 t.at_, .int .i64 t.rk] 31)) 3 (.slice (some ⟨w.heap.size, 0, none⟩) 1 1) 1 (it t) := RdK.of_own (World.ownsRow_lit (base := w.heap.size) (e := 31) (size := 3) w #[.int .i64 t.id, .int .i64 t.at_, .int .i64 t.rk] 1 (Nat.le_refl _) (by decide) rfl)
  refine wpList_appK _ hgd s x 29 ho 31 _ 3 24 Try.underlying29 infoIt rfl (by decide) base v _ l.length 1 _ _ hs hx (h.grow g1) hlit (fun y hy => by simp [it] at hy; rcases hy with rfl | rfl | rfl <;> rfl) (by omega) (by unfold maxLen; omega) (Nat.le_trans hb g1.size) ?_
  intro v5 w5 ho5 hg5 hat5
  refine hK v5 w5 (by unfold Its; rw [List.length_append, List.flatMap_append]; simpa using ho5) ((Only.grow g1 hb Zi3).trans (Only.grown hg5 (fun b e => ?_) (Nat.le_trans hb g1.size))) ⟨hg5.os.trans g1.os, hg5.tape.trans g1.tape, hg5.output.trans g1.output, Nat.le_trans g1.size hg5.size, fun i hi hne => (hg5.block i (Nat.lt_of_lt_of_le hi g1.size) hne).trans (g1.block i hi)⟩ ?_
  · obtain ⟨cs, h1, h2⟩ := ownsRow_blk (h.grow g1) e
    exact ⟨h2, fun o T ho' hT => by rw [h1] at ho'; cases ho'; cases hT; rfl⟩
  · rcases hat5 with q | q
    · exact .inl q
    · exact .inr ⟨_, q, g1.size⟩
theorem zi_ag (b : Nat) : ¬ Zi3 b 61 := fun e => absurd (show 61 = 31 from e) (by decide)
theorem zi_mp (b : Nat) : ¬ Zi3 b mapT := fun e => absurd (show mapT = 31 from e) (by decide)
theorem zi_en (b : Nat) : ¬ Zi3 b 66 := fun e => absurd (show 66 = 31 from e) (by decide)
theorem posE_some {l : List En} {x : Int} (h : ∃ t ∈ l, t.id = x) : ∃ j : Nat, PosE l x (j : Int) := by
  obtain ⟨t, ht, hx⟩ := h
  have h1 : l.findIdx (fun e => decide (e.id = x)) < l.length := List.findIdx_lt_length_of_exists ⟨t, ht, decide_eq_true hx⟩
  have key : ∀ k (hk : k < l.length), pt l k = l[k] := fun k hk => by
    have := pt_get hk
    rw [List.getElem?_eq_getElem hk] at this
    exact (Option.some.inj this).symm
  refine ⟨_, .inr ⟨_, h1, ?_, fun i hi e => ?_, rfl⟩⟩
  · rw [key _ h1]
    exact of_decide_eq_true (List.findIdx_getElem (w := h1))
  · have h2 := List.not_of_lt_findIdx hi
    rw [key i (by omega)] at e
    exact of_decide_eq_false h2 e
end Go.Proofs.Ytdgbieapgmjjhaa
