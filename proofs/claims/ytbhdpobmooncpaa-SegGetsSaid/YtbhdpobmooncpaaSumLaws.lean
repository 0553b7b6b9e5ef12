/- The laws' own walks, layer sum. -/
import Derived.Test.YtbhdpobmooncpaaSumIter
import Derived.Deep.DeepFit
namespace Go.Proofs.Ytbhdpobmooncpaa
set_option linter.unusedVariables false
set_option linter.unusedSimpArgs false
open Go.ChangeShapes Go.WideShapes Go.ChangeAt Go.RowKit

theorem Check_any (v : Value) (l : List UInt8) (w : World) (h : Byt w v l) (hl : l.length ≤ 281474976710656) :
    Calls Try.prog 41 #[v] w fun e w' => e = .returned (.int .i64 (65535 - (ones l : Int))) ∧ Grow w w' := by
  have l1 := ones_lt l
  go_enter Try.func41, Try.ntmps41
  go_wp2_with fail
  refine (Sum_any _ _ _ h hl).mono ?_
  rintro e w' ⟨rfl, hg⟩
  go_wp2_with fail
  go_ret
  exact ⟨rfl, hg⟩

end Go.Proofs.Ytbhdpobmooncpaa
