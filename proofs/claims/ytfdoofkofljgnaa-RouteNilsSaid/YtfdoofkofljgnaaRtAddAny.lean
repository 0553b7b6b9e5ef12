/- Contract: Add, of any route. -/
import Derived.Test.YtfdoofkofljgnaaRtAddSet
import Derived.Test.YtfdoofkofljgnaaRtAddNew
namespace Go.Proofs.Ytfdoofkofljgnaa
set_option linter.unusedVariables false
open Go.RowKit

theorem Add_any (w : World) (base tb : Nat) (r : List Rt) (M : Net) (role : Nat → Role) (h : Trie w base tb (r.length : Int) M role) (hM : Tells M r) (hF : Fine r) (x : Rt) (hx : x.Ok) (hbase : base ≤ w.heap.size) :
    Calls Try.prog 16 #[.pointer (some ⟨tb, 0, none⟩), rtV x] w fun e w' => e = .returned (.int .i64 (raddE r x)) ∧ ∃ (M' : Net) (role' : Nat → Role), Trie w' base tb ((raddL r x).length : Int) M' role' ∧ Tells M' (raddL r x) ∧ Moves role w role' w' := by
  cases hgd : x.good with
  | false => exact Add_bad w base tb r M role h hM hF x hx hbase hgd
  | true =>
    by_cases hp : placeOf r x.net x.bits x.cost < r.length
    · exact Add_set w base tb r M role h hM hF x hx hbase hgd hp
    · by_cases h64 : 64 ≤ r.length
      · exact Add_full w base tb r M role h hM hF x hx hbase hgd hp h64
      · exact Add_new w base tb r M role h hM hF x hx hbase hgd hp h64
end Go.Proofs.Ytfdoofkofljgnaa
