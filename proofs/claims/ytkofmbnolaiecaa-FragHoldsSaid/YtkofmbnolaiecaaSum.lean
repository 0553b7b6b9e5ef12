/- Contracts: numbers added with the carry brought round, a check sum turned, and the sum of bytes as the document's own answer has it. -/
import Derived.Test.YtkofmbnolaiecaaJoin
import Derived.Test.YtkofmbnolaiecaaSumNum
namespace Go.Proofs.Ytkofmbnolaiecaa
set_option linter.unusedVariables false
set_option linter.unusedSimpArgs false
open Go.ChangeShapes Go.WideShapes Go.ChangeAt Go.RowKit

attribute [local go_sem] and_low

/-- A check sum, turned. -/
def turn (a b c : Int) : Nat := 65535 - addc (addc (65535 - low a) (65535 - low b)) (low c)
theorem low_wrap (n : Int) : low (wrap64 n) = low n := by unfold low wrap64; omega
theorem low_sub (n : Int) : low (65535 - n) = 65535 - low n := by unfold low; omega
theorem turn_lt (a b c : Int) : turn a b c < 65536 := by unfold turn; omega
attribute [local go_sem] low_wrap low_sub

theorem ones_all {l : List UInt8} {k : Nat} (h1 : k ≤ nwords l) (h2 : ¬ 2 * k < l.length) : sumc (wup l k) = ones l := by
  have : k = nwords l := by unfold nwords at *; omega
  rw [this]; rfl

end Go.Proofs.Ytkofmbnolaiecaa
