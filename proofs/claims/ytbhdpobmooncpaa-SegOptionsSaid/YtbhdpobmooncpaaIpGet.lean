/- Bytes as a packet: Get. -/
import Derived.Test.YtbhdpobmooncpaaIpMeas
import Derived.Test.YtbhdpobmooncpaaIpBlk
namespace Go.Proofs.Ytbhdpobmooncpaa
set_option linter.unusedVariables false
set_option linter.unusedSimpArgs false
open Go.ChangeShapes Go.WideShapes Go.ChangeAt Go.RowKit

theorem cutAt2 {w : World} {b off n c lo hi : Nat} {l : List UInt8} (h : Byt w (.slice (some ⟨b, off, none⟩) n c) l) (h1 : lo ≤ hi) (h2 : hi ≤ n) :
    Byt w (.slice (if c = lo then some ⟨b, off, none⟩ else some ⟨b, off + lo, none⟩) (hi - lo) (c - lo)) ((l.take hi).drop lo) := by
  have := h.cut h1 h2
  rwa [Option.map_some, add_at] at this
theorem dropAt {w : World} {b off n c lo : Nat} {l : List UInt8} (h : Byt w (.slice (some ⟨b, off, none⟩) n c) l) (h1 : lo ≤ n) :
    Byt w (.slice (if c = lo then some ⟨b, off, none⟩ else some ⟨b, off + lo, none⟩) (n - lo) (c - lo)) (l.drop lo) := by
  have := cutAt2 h h1 (Nat.le_refl _)
  rwa [h.len.1, List.take_length, ← h.len.1] at this
def isIp (b : Nat) (k : Pkt) (v : Value) (w : World) : Prop := ∃ vo vd, v = ipV k vo vd ∧ Own w b vo k.opts ∧ Own w b vd k.data
theorem isIp_stays {b : Nat} (k : Pkt) : stays (isIp b k) := fun _ _ _ hg h => by
  obtain ⟨vo, vd, e, h1, h2⟩ := h
  exact ⟨vo, vd, e, h1.grow hg, h2.grow hg⟩

end Go.Proofs.Ytbhdpobmooncpaa
