/- The document's own answer: bytes as a packet. -/
import Derived.Test.YtbnnacohkemnhaaIpFld
import Derived.Test.YtbnnacohkemnhaaIpMeas
namespace Go.Proofs.Ytbnnacohkemnhaa
set_option linter.unusedVariables false
set_option linter.unusedSimpArgs false
open Go.ChangeShapes Go.WideShapes Go.ChangeAt Go.RowKit

end Go.Proofs.Ytbnnacohkemnhaa
