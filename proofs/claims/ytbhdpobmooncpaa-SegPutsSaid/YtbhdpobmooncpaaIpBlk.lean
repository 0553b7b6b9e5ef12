/- A packet laid into its block, and read there. -/
import Derived.Test.YtbhdpobmooncpaaIpPut
import Derived.Laws.Tables
namespace Go.Proofs.Ytbhdpobmooncpaa
set_option linter.unusedVariables false
set_option linter.unusedSimpArgs false
open Go.ChangeShapes Go.WideShapes Go.ChangeAt Go.RowKit

/-- All blocks but g are as they were. -/
def But (g : Nat) (w w' : World) : Prop := w'.heap.size = w.heap.size ∧ ∀ b, b ≠ g → w'.heap[b]? = w.heap[b]?
theorem Own.but {w w' : World} {g base : Nat} {v : Value} {l : List UInt8} (h : Own w base v l) (hb : But g w w') (hg : g < base) : Own w' base v l := by
  refine ⟨h.1, ?_⟩
  rcases h.2 with h2 | ⟨b, cap, cur, hv, hbb, hh, r⟩
  · exact .inl h2
  · exact .inr ⟨b, cap, cur, hv, hbb, (hb.2 b (by omega)).trans hh, r⟩
theorem Own.one {w : World} {base : Nat} {v : Value} {l : List UInt8} (h : Own w base v l) : v.oneCell' = true := by
  rcases h.2 with ⟨rfl, _⟩ | ⟨b, cap, cur, rfl, _⟩ <;> rfl
theorem Byt.one {w : World} {v : Value} {l : List UInt8} (h : Byt w v l) : v.oneCell' = true := by
  obtain ⟨A, c, rfl, _, _⟩ := h.form
  rfl

def isO (b : Nat) (l : List UInt8) (v : Value) (w : World) : Prop := Own w b v l
theorem isO_stays {b : Nat} (l : List UInt8) : stays (isO b l) := fun _ _ _ hg h => Own.grow h hg
end Go.Proofs.Ytbhdpobmooncpaa
