/- The document's own answer: bytes as a packet, where they are one. -/
import Derived.Test.YtbnnacohkemnhaaIpRGet
import Derived.Test.YtbnnacohkemnhaaOpen
namespace Go.Proofs.Ytbnnacohkemnhaa
set_option linter.unusedVariables false
set_option linter.unusedSimpArgs false
open Go.ChangeShapes Go.WideShapes Go.ChangeAt Go.RowKit

/-- The packet, as it is filled field by field. -/
def pA (l : List UInt8) : Pkt := ⟨byt l 1, num l 4, false, false, 0, byt l 8, byt l 9, 0, 0, [], []⟩
def pB (l : List UInt8) : Pkt := ⟨byt l 1, num l 4, decide (byt l 6 / 64 % 2 = 1), false, 0, byt l 8, byt l 9, 0, 0, [], []⟩
def pC (l : List UInt8) : Pkt := ⟨byt l 1, num l 4, decide (byt l 6 / 64 % 2 = 1), decide (byt l 6 / 32 % 2 = 1), 0, byt l 8, byt l 9, 0, 0, [], []⟩
def pD (l : List UInt8) : Pkt := ⟨byt l 1, num l 4, decide (byt l 6 / 64 % 2 = 1), decide (byt l 6 / 32 % 2 = 1), ((num l 6 % 8192 : Nat) : Int), byt l 8, byt l 9, 0, 0, [], []⟩
def pF (l : List UInt8) : Pkt := ⟨byt l 1, num l 4, decide (byt l 6 / 64 % 2 = 1), decide (byt l 6 / 32 % 2 = 1), ((num l 6 % 8192 : Nat) : Int), byt l 8, byt l 9, 65536 * num l 12 + num l 14, 0, [], []⟩
def pE (l : List UInt8) : Pkt := ⟨byt l 1, num l 4, decide (byt l 6 / 64 % 2 = 1), decide (byt l 6 / 32 % 2 = 1), ((num l 6 % 8192 : Nat) : Int), byt l 8, byt l 9, 65536 * num l 12 + num l 14, 65536 * num l 16 + num l 18, [], []⟩
def isNew (n : Nat) (v : Value) (w : World) : Prop := ∃ b, v = .pointer (some ⟨b, 0, none⟩) ∧ n ≤ b ∧ Blk w b zeroP (.slice none 0 0) (.slice none 0 0)
theorem isNew_stays (n : Nat) : stays (isNew n) := fun _ _ _ hg h => by
  obtain ⟨b, e, h1, h2⟩ := h
  exact ⟨b, e, h1, h2.grow hg⟩

theorem cutAt3 {w : World} {b off n c lo hi : Nat} {l : List UInt8} (h : Byt w (.slice (some ⟨b, off, none⟩) n c) l) (h1 : lo ≤ hi) (h2 : hi ≤ n) :
    Byt w (.slice (if c = lo then some ⟨b, off, none⟩ else some ⟨b, off + lo, none⟩) (hi - lo) (c - lo)) ((l.take hi).drop lo) := by
  have := h.cut h1 h2
  rwa [Option.map_some, add_at] at this

end Go.Proofs.Ytbnnacohkemnhaa
