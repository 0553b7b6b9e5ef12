/- Rows of elements of any make that begin anywhere in their block: of no program. -/
import Derived.Test.YtkblgigpgpjjlaaOff
import Derived.Test.YtkblgigpgpjjlaaRowG
namespace Go.Proofs.Ytkblgigpgpjjlaa
set_option linter.unusedVariables false
set_option linter.unusedSimpArgs false
open Go.ChangeShapes Go.WideShapes Go.ChangeAt Go.RowKit

def OfG {α : Type} (c : Cel α) (T : TypeId) (w : World) (base : Nat) (v : Value) (l : List α) : Prop := OffR w base T c.K v l.length (l.flatMap c.f)
section
variable {α : Type} {c : Cel α} {T : TypeId} {w w' : World} {base b' : Nat} {v : Value} {l l' : List α}
theorem OfG.of_own (h : OwG c T w base v l) : OfG c T w base v l := OffR.of_own h
theorem OfG.rd (h : OfG c T w base v l) : RdG c w v l := OffR.rd h
theorem OfG.grow (h : OfG c T w base v l) (g : Grow w w') : OfG c T w' base v l := OffR.grow h g
theorem OfG.base_ (h : OfG c T w base v l) (hb : b' ≤ base) : OfG c T w b' v l := OffR.base_ h hb
theorem OfG.one (h : OfG c T w base v l) : v.oneCell' = true := OffR.one h
theorem OfG.other (h : OfG c T w base v l) (hb : ∀ (b : Nat) (cs : Array Value), w.heap[b]? = some (.cells cs T (0, 0)) → w'.heap[b]? = w.heap[b]?) : OfG c T w' base v l := OffR.other h fun b cs _ hh => hb b cs hh
theorem OfG.only {b0 : Nat} {Z : Nat → TypeId → Prop} (h : OfG c T w base v l) (o : Only b0 Z w w') (hz : ∀ b, ¬ Z b T) : OfG c T w' base v l := h.other fun b cs hh => (o.cells hh (hz b)).trans hh.symm
theorem ofg_none (w : World) (base : Nat) : OfG c T w base (.slice none 0 0) [] := offR_nil _ _ _ _
theorem OfG.form (h : OfG c T w base v l) : ∃ A cp, v = .slice A l.length cp ∧ l.length ≤ cp ∧ cp ≤ maxLen := OffR.form h
theorem OfG.blk (h : OfG c T w base v l) {b : Nat} (hb : v.ownBlock = some b) : ∃ cs, w.heap[b]? = some (.cells cs T (0, 0)) ∧ base ≤ b := OffR.blk h hb
/-- The front is cut off. -/
theorem OfG.tail {A : Option Addr} {n cp : Nat} (h : OfG c T w base (.slice A n cp) l) {j : Nat} (hj : j ≤ l.length) : OfG c T w base (.slice (if cp = j then A else A.map (·.add (j * c.K))) (n - j) (cp - j)) (l.drop j) := by
  have hn : n = l.length := by
    obtain ⟨A', c', e, _⟩ := h.form
    injection e
  subst hn
  have := OffR.tail (j := j) h hj
  unfold OfG
  rw [List.length_drop, c.drop]
  exact this
end
end Go.Proofs.Ytkblgigpgpjjlaa
