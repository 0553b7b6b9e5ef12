/- The header measured. -/
import Derived.Test.YtbhdpobmooncpaaIpRead
namespace Go.Proofs.Ytbhdpobmooncpaa
set_option linter.unusedVariables false
set_option linter.unusedSimpArgs false
open Go.ChangeShapes Go.WideShapes Go.ChangeAt Go.RowKit

def mhead (l : List UInt8) : Nat := if mcode l = 0 then hdr l else 0
def mall (l : List UInt8) : Nat := if mcode l = 0 then num l 2 else 0
theorem meas_bad {l : List UInt8} {e : Int} (h : mcode l = e) (he : e ≠ 0) : Ending.returned (.tuple #[.int .i64 0, .int .i64 0, .int .i64 e]) = .returned (.tuple #[.int .i64 (mhead l : Nat), .int .i64 (mall l : Nat), .int .i64 (mcode l)]) := by
  unfold mhead mall
  rw [if_neg (by omega), if_neg (by omega), h]
  rfl

end Go.Proofs.Ytbhdpobmooncpaa
