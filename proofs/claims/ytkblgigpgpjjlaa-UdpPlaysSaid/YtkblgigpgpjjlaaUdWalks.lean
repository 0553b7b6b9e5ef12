/- The laws' walks, from the program's contracts (udpIf : UIf .., in the text UdPif). -/
import Derived.Test.YtkblgigpgpjjlaaUdPif
import Derived.Test.YtkblgigpgpjjlaaUdNilsW
import Derived.Test.YtkblgigpgpjjlaaUdOrderW
import Derived.Test.YtkblgigpgpjjlaaUdPlaysW
namespace Go.Proofs.Ytkblgigpgpjjlaa
open Go.ChangeShapes Go.WideShapes Go.ChangeAt Go.RowKit
theorem udpNils_walk (w : World) {v : Value} {x : Ua} (hx : v = uaV x ∧ x.Ok w) : Calls Try.prog 5 #[v] w fun e w' => e = .returned (.bool true) ∧ Below w.heap.size w w' := udpNils_if udpIf w hx
theorem udpOrder_walk (w : World) (r : Int) (hr : 0 ≤ r ∧ r ≤ 65535) {v1 : Value} {l1 : List UInt8} (h1 : Byt w v1 l1) (_ : l1.length ≤ 140737488351232) {v2 : Value} {l2 : List Bool} (h2 : Bls w v2 l2) : Calls Try.prog 4 #[.int .u16 r, v1, v2] w fun e w' => e = .returned (.bool true) ∧ Below w.heap.size w w' := udpOrder_if udpIf w r hr h1 h2
theorem udpPlays_walk (w : World) (most : Int) (hmo : -9223372036854775808 ≤ most ∧ most ≤ 9223372036854775807) (room : Int) (hro : -9223372036854775808 ≤ room ∧ room ≤ 9223372036854775807) {v : Value} {l : List Ua} (hl : Uas w v l) : Calls Try.prog 3 #[.int .i64 most, .int .i64 room, v] w fun e w' => e = .returned (.bool true) ∧ Below w.heap.size w w' := udpPlays_if udpIf w most hmo room hro hl
end Go.Proofs.Ytkblgigpgpjjlaa
