/- Contracts: nets, as numbers: lower, Net, Last, In, Kind; the reference's Size, Net, Kind. -/
import Derived.Test.YtfdoofkofljgnaaStr
import Derived.Test.YtfdoofkofljgnaaAddrBits
import Derived.Deep.DeepCutAuto
import Derived.Deep.RegionWith
namespace Go.Proofs.Ytfdoofkofljgnaa
set_option linter.unusedVariables false
set_option linter.unusedSimpArgs false
open Go.ChangeShapes Go.WideShapes Go.ChangeAt Go.RowKit

set_option maxHeartbeats 400000 in
theorem lower_any (k : Int) (hk : 0 ≤ k ∧ k ≤ 32) (w : World) : Calls Try.prog 49 #[.int .i64 k] w fun e w' => e = .returned (.int .u32 (sz k - 1)) ∧ w = w' := by
  have e := sz_low hk
  go_enter Try.func49, Try.ntmps49
  go_wp2_with fail
  go_ret
  exact ⟨rfl, rfl⟩

set_option maxHeartbeats 400000 in
theorem Net_any (a k : Int) (ha : 0 ≤ a ∧ a ≤ 4294967295) (hk : 0 ≤ k ∧ k ≤ 32) (w : World) :
    Calls Try.prog 45 #[.int .u32 a, .int .i64 k] w fun e w' => e = .returned (.tuple #[.int .u32 (netOf a k), .int .i64 0]) ∧ w = w' := by
  have e0 := keep_bits ha hk
  go_enter Try.func45, Try.ntmps45
  go_wp2_with fail
  refine (lower_any _ hk _).mono ?_
  rintro e w' ⟨rfl, rfl⟩
  go_wp2_with fail
  go_ret2
  exact ⟨rfl, rfl⟩

set_option maxHeartbeats 400000 in
theorem Net_not (a k : Int) (hk : k < 0 ∨ 32 < k) (w : World) :
    Calls Try.prog 45 #[.int .u32 a, .int .i64 k] w fun e w' => e = .returned (.tuple #[.int .u32 0, .int .i64 1]) ∧ w = w' := by
  rcases hk with hk | hk
  · go_enter Try.func45, Try.ntmps45
    go_wp2_with fail
    go_ret2
    exact ⟨rfl, rfl⟩
  · have h0 : decide (k < 0) = false := decide_eq_false (by omega)
    go_enter Try.func45, Try.ntmps45
    go_wp2_with fail
    go_ret2
    exact ⟨rfl, rfl⟩

/-- What an address is for. -/
def kindOf (a : Int) : Int := if a = 0 then 0 else if a = 4294967295 then 3 else if 2130706432 ≤ a ∧ a ≤ 2147483647 then 1 else if 3758096384 ≤ a ∧ a ≤ 4026531839 then 2 else 4

end Go.Proofs.Ytfdoofkofljgnaa
