/- What calls leave as it was: all but the blocks of a set. Of no program. -/
import Derived.Test.YtkblgigpgpjjlaaByLib
namespace Go.Proofs.Ytkblgigpgpjjlaa
set_option linter.unusedVariables false
set_option linter.unusedSimpArgs false
open Go.ChangeShapes Go.WideShapes Go.ChangeAt Go.RowKit

/-- What a call may touch: blocks of S. -/
structure ChgS (S : Nat → Prop) (w w' : World) : Prop where
  os : w'.os = w.os
  tape : w'.tape = w.tape
  output : w'.output = w.output
  size : w.heap.size ≤ w'.heap.size
  block : ∀ i, i < w.heap.size → ¬ S i → w'.heap[i]? = w.heap[i]?
section
variable {w w' : World} {S S' : Nat → Prop} {base : Nat} {v : Value}
theorem ChgS.of_grow (h : Grow w w') : ChgS S w w' := ⟨h.os, h.tape, h.output, h.size, fun i hi _ => h.block i hi⟩
theorem ChgS.low (h : ChgS S w w') (hS : ∀ b, S b → base ≤ b) (hb : base ≤ w.heap.size) : Below base w w' := ⟨h.os, h.tape, h.output, h.size, fun i hi => h.block i (by omega) fun q => by have := hS i q; omega⟩
theorem ChgS.byt {l : List UInt8} (h : ChgS S w w') (hv : Byt w v l) (hd : ∀ k, v.ownBlock = some k → ¬ S k) : Byt w' v l := hv.other h.size fun b hb hlt => h.block b hlt (hd b hb)
theorem ChgS.grow_of (h : ChgS S w w') (hS : ∀ b, S b → w.heap.size ≤ b) : Grow w w' := h.low hS (Nat.le_refl _)
/-- A row of what was there before is no block of what came to new blocks. -/
theorem aside (hd : ∀ k, v.ownBlock = some k → ¬ S k) (hl : ∀ k, v.ownBlock = some k → k < w.heap.size) (hS : ∀ b, S' b → S b ∨ w.heap.size ≤ b) : ∀ k, v.ownBlock = some k → ¬ S' k := fun k hk q => by
  rcases hS k q with h | h
  · exact hd k hk h
  · have := hl k hk
    omega
end
/-- Literals of bytes. -/
theorem litB (w : World) (l : List UInt8) (h : l.length ≤ 1000000) : Byt (w.alloc (.cells (l.map bv).toArray 5)) (.slice (some ⟨w.heap.size, 0, none⟩) l.length l.length) l :=
  Byt.of_own (by have := World.ownsRow_lit (base := 0) (e := 5) (size := 1) w (l.map bv).toArray l.length (Nat.zero_le _) (by unfold maxLen; omega) (by simp); simpa using this)
end Go.Proofs.Ytkblgigpgpjjlaa
