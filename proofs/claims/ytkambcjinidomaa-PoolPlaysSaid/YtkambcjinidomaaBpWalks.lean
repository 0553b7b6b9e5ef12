/- The laws' walks, from the program's contracts (poolIf : BIf .., in the text BpPif). -/
import Derived.Test.YtkambcjinidomaaBpPif
import Derived.Test.YtkambcjinidomaaBpNilsW
import Derived.Test.YtkambcjinidomaaBpOnceW
import Derived.Test.YtkambcjinidomaaBpPlaysW
namespace Go.Proofs.Ytkambcjinidomaa
open Go.ChangeShapes Go.WideShapes Go.ChangeAt Go.RowKit
theorem poolNils_walk (w : World) {v : Value} {x : Ba} (hx : v = baV x ∧ x.Ok) : Calls Try.prog 5 #[v] w fun e w' => e = .returned (.bool true) ∧ Below w.heap.size w w' := poolNils_if poolIf w hx
theorem poolOnce_walk (w : World) {v : Value} {l : List Ba} (hl : Bas w v l) : Calls Try.prog 4 #[v] w fun e w' => e = .returned (.bool true) ∧ Below w.heap.size w w' := poolOnce_if poolIf w hl
theorem poolPlays_walk (w : World) {v : Value} {l : List Ba} (hl : Bas w v l) : Calls Try.prog 3 #[v] w fun e w' => e = .returned (.bool true) ∧ Below w.heap.size w w' := poolPlays_if poolIf w hl
end Go.Proofs.Ytkambcjinidomaa
