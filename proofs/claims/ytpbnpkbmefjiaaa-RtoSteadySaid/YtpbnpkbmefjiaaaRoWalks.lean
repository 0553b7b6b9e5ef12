/- The laws' walks, from the program's contracts (rtoIf : RIf .., in the text RoPif). -/
import Derived.Test.YtpbnpkbmefjiaaaRoPif
import Derived.Test.YtpbnpkbmefjiaaaRoSteadyW
import Derived.Test.YtpbnpkbmefjiaaaRoPlaysW
namespace Go.Proofs.Ytpbnpkbmefjiaaa
open Go.ChangeShapes Go.WideShapes Go.ChangeAt Go.RowKit
theorem rtoSteady_walk (w : World) (a : Int) (ha : 0 ≤ a ∧ a ≤ 65535) : Calls Try.prog 4 #[.int .u16 a] w fun e w' => e = .returned (.bool true) ∧ Below w.heap.size w w' := rtoSteady_if rtoIf w a ha
theorem rtoPlays_walk (w : World) (l : Int) (hl : -9223372036854775808 ≤ l ∧ l ≤ 9223372036854775807) (h : Int) (hh : -9223372036854775808 ≤ h ∧ h ≤ 9223372036854775807) (f : Int) (hf : -9223372036854775808 ≤ f ∧ f ≤ 9223372036854775807) {v1 : Value} {L : List Int} (h1 : IntsR w v1 L) {v2 : Value} {Bs : List Bool} (h2 : BlsR w v2 Bs) :
    Calls Try.prog 3 #[.int .i64 l, .int .i64 h, .int .i64 f, v1, v2] w fun e w' => e = .returned (.bool true) ∧ Below w.heap.size w w' := rtoPlays_if rtoIf w l hl h hh f hf h1 h2
end Go.Proofs.Ytpbnpkbmefjiaaa
