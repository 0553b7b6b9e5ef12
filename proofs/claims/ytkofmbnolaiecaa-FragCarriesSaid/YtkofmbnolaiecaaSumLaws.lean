/- The laws' own walks, layer sum. -/
import Derived.Test.YtkofmbnolaiecaaSumIter
import Derived.Deep.DeepFit
namespace Go.Proofs.Ytkofmbnolaiecaa
set_option linter.unusedVariables false
set_option linter.unusedSimpArgs false
open Go.ChangeShapes Go.WideShapes Go.ChangeAt Go.RowKit

end Go.Proofs.Ytkofmbnolaiecaa
