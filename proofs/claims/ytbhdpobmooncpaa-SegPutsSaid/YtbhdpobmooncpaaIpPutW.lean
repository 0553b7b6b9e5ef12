/- The packet as bytes: Put. -/
import Derived.Test.YtbhdpobmooncpaaIpPut
namespace Go.Proofs.Ytbhdpobmooncpaa
set_option linter.unusedVariables false
set_option linter.unusedSimpArgs false
open Go.ChangeShapes Go.WideShapes Go.ChangeAt Go.RowKit

theorem check_zero {k : Pkt} (h : k.check = 0) : 0 ≤ k.off ∧ k.off ≤ 8191 ∧ k.opts.length ≤ 40 ∧ k.opts.length % 4 = 0 ∧ k.len ≤ 65535 := by
  unfold Pkt.check at h
  split at h
  · cases h
  · split at h
    · cases h
    · omega
theorem check_code (k : Pkt) : k.check = 0 ∨ k.check = 1 ∨ k.check = 9 := by
  unfold Pkt.check
  split
  · exact .inr (.inl rfl)
  · split
    · exact .inr (.inr rfl)
    · exact .inl rfl
theorem lay_head (k : Pkt) : lay k.bare 10 (two ((k.csum : Nat) : Int)) = k.head := by
  unfold lay Pkt.bare Pkt.head
  have h := pre_length k
  rw [two_length, List.append_assoc, List.append_assoc, List.take_left' h]
  congr 1

end Go.Proofs.Ytbhdpobmooncpaa
