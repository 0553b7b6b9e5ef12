/- The laws' walks, from the program's contracts (portIf : OIf .., in the text PoPif). -/
import Derived.Test.YtkilfdhofbjkgaaPoPif
import Derived.Test.YtkilfdhofbjkgaaPoNilsW
import Derived.Test.YtkilfdhofbjkgaaPoPicksW
import Derived.Test.YtkilfdhofbjkgaaPoPlaysW
namespace Go.Proofs.Ytkilfdhofbjkgaa
open Go.ChangeShapes Go.WideShapes Go.ChangeAt Go.RowKit
theorem portNils_walk (w : World) {v : Value} {x : Pa} (hx : v = paV x ∧ x.Ok) : Calls Try.prog 5 #[v] w fun e w' => e = .returned (.bool true) ∧ Below w.heap.size w w' := portNils_if portIf w hx
theorem portPicks_walk (w : World) {v : Value} {l : List Pa} (hl : Pas w v l) (n : Int) (hn : 0 ≤ n ∧ n ≤ 4294967295) {vq : Value} {q : Qd} (hq : vq = qdV q ∧ q.Ok) : Calls Try.prog 4 #[v, .int .u32 n, vq] w fun e w' => e = .returned (.bool true) ∧ Below w.heap.size w w' := portPicks_if portIf w hl n ⟨hn.1, hn.2⟩ hq
theorem portPlays_walk (w : World) (lo : Int) (hlo : -9223372036854775808 ≤ lo ∧ lo ≤ 9223372036854775807) (hi : Int) (hhi : -9223372036854775808 ≤ hi ∧ hi ≤ 9223372036854775807) {v : Value} {l : List Pa} (hl : Pas w v l) : Calls Try.prog 3 #[.int .i64 lo, .int .i64 hi, v] w fun e w' => e = .returned (.bool true) ∧ Below w.heap.size w w' := portPlays_if portIf w lo ⟨hlo.1, hlo.2⟩ hi ⟨hhi.1, hhi.2⟩ hl
end Go.Proofs.Ytkilfdhofbjkgaa
