/- Contracts: sequence numbers; how far, how much further, one of so many. -/
import Derived.Test.YtdcgkamcffhgjaaRows
import Derived.Test.YtdcgkamcffhgjaaRead
import Derived.Test.YtdcgkamcffhgjaaNum
import Derived.WalkKit
import Derived.ProofKit
import Derived.OpenShut
import Derived.ShutString
import Derived.ChangeOld
import Derived.Below
import Derived.BigQuiet
import Derived.Deep.QuietTactic
import Derived.WalkSpells
import Derived.WalkLawsBesides
import Derived.Outline
import Derived.Lib.Hide
namespace Go.Proofs.Ytdcgkamcffhgjaa
set_option linter.unusedVariables false
set_option linter.unusedSimpArgs false
open Go.ChangeShapes Go.WideShapes Go.ChangeAt Go.RowKit

/-- So many further. -/
def fwd (s n : Int) : Int := (s + n) % 4294967296
/-- How far, going up. -/
def gap (a b : Int) : Int := (a - b) % 4294967296
/-- How far, the short way. -/
def dist (a b : Int) : Int := (a - b + 2147483648) % 4294967296 - 2147483648

set_option maxHeartbeats 400000 in
theorem SAdd_any (s n : Int) (w : World) : Calls Try.prog 12 #[.int .u32 s, .int .i64 n] w fun e w' => e = .returned (.int .u32 (fwd s n)) ∧ w = w' := by
  go_enter Try.func12, Try.ntmps12
  go_wp2_with fail
  go_ret
  exact ⟨ret_int (by unfold fwd; omega), rfl⟩

set_option maxHeartbeats 400000 in
theorem SRAdd_any (s n : Int) (hs : 0 ≤ s ∧ s ≤ 4294967295) (w : World) : Calls Try.prog 13 #[.int .u32 s, .int .i64 n] w fun e w' => e = .returned (.int .u32 (fwd s n)) ∧ w = w' := by
  go_enter Try.func13, Try.ntmps13
  go_wp2_with fail
  go_ret
  refine ⟨ret_int ?_, rfl⟩
  have e0 : ∀ x, IntKind.u64.wrap x = x % 18446744073709551616 := fun _ => rfl
  rw [e0, e0, Int.tmod_eq_emod_of_nonneg (by omega), Int.tmod_eq_emod_of_nonneg (by omega)]
  unfold fwd
  omega

set_option maxHeartbeats 400000 in
theorem SDiff_any (a b : Int) (w : World) : Calls Try.prog 9 #[.int .u32 a, .int .u32 b] w fun e w' => e = .returned (.int .i64 (dist a b)) ∧ w = w' := by
  go_enter Try.func9, Try.ntmps9
  go_wp2_with fail
  go_ret
  exact ⟨ret_int (by unfold dist wrap64 wrap32; omega), rfl⟩

set_option maxHeartbeats 400000 in
theorem SRDiff_any (a b : Int) (ha : 0 ≤ a ∧ a ≤ 4294967295) (hb : 0 ≤ b ∧ b ≤ 4294967295) (w : World) : Calls Try.prog 8 #[.int .u32 a, .int .u32 b] w fun e w' => e = .returned (.int .i64 (dist a b)) ∧ w = w' := by
  by_cases h1 : a - b < -2147483648
  · by_cases h2 : a - b + 4294967296 ≥ 2147483648
    · omega
    · go_enter Try.func8, Try.ntmps8
      go_wp2_with fail
      go_ret
      exact ⟨ret_int (by unfold dist; omega), rfl⟩
  · by_cases h2 : a - b ≥ 2147483648
    · go_enter Try.func8, Try.ntmps8
      go_wp2_with fail
      go_ret
      exact ⟨ret_int (by unfold dist; omega), rfl⟩
    · go_enter Try.func8, Try.ntmps8
      go_wp2_with fail
      go_ret
      exact ⟨ret_int (by unfold dist; omega), rfl⟩

set_option maxHeartbeats 400000 in
theorem SLess_any (a b : Int) (w : World) : Calls Try.prog 10 #[.int .u32 a, .int .u32 b] w fun e w' => e = .returned (.bool (decide (dist a b < 0))) ∧ w = w' := by
  go_enter Try.func10, Try.ntmps10
  go_wp2_with fail
  refine (SDiff_any _ _ _).mono ?_
  rintro e w' ⟨rfl, rfl⟩
  go_wp2_with fail
  go_ret
  exact ⟨rfl, rfl⟩

set_option maxHeartbeats 400000 in
theorem SMax_any (a b : Int) (w : World) : Calls Try.prog 11 #[.int .u32 a, .int .u32 b] w fun e w' => e = .returned (.int .u32 (if dist a b < 0 then b else a)) ∧ w = w' := by
  by_cases h : dist a b < 0
  · rw [if_pos h]
    go_enter Try.func11, Try.ntmps11
    go_wp2_with fail
    refine (SLess_any _ _ _).mono ?_
    rw [decide_eq_true h]
    rintro e w' ⟨rfl, rfl⟩
    go_wp2_with fail
    go_ret
    exact ⟨rfl, rfl⟩
  · rw [if_neg (by omega)]
    go_enter Try.func11, Try.ntmps11
    go_wp2_with fail
    refine (SLess_any _ _ _).mono ?_
    rw [decide_eq_false (by omega)]
    rintro e w' ⟨rfl, rfl⟩
    go_wp2_with fail
    go_ret
    exact ⟨rfl, rfl⟩

theorem gap_nonneg (a b : Int) : 0 ≤ gap a b := by unfold gap; omega

set_option maxHeartbeats 400000 in
theorem SIn_any (s f n : Int) (hn : n ≤ 9223372036854775807) (w : World) :
    Calls Try.prog 14 #[.int .u32 s, .int .u32 f, .int .i64 n] w fun e w' => e = .returned (.bool (decide (gap s f < n))) ∧ w = w' := by
  have h0 := gap_nonneg s f
  by_cases h : 0 < n
  · have e1 : n % 18446744073709551616 = n := by omega
    go_enter Try.func14, Try.ntmps14
    go_wp2_with fail
    go_ret
    exact ⟨by unfold gap; first | rfl | (congr 2; omega), rfl⟩
  · rw [decide_eq_false (by omega)]
    go_enter Try.func14, Try.ntmps14
    go_wp2_with fail
    go_ret
    exact ⟨rfl, rfl⟩

set_option maxHeartbeats 400000 in
theorem SRIn_any (s f n : Int) (hs : 0 ≤ s ∧ s ≤ 4294967295) (hf : 0 ≤ f ∧ f ≤ 4294967295) (w : World) :
    Calls Try.prog 15 #[.int .u32 s, .int .u32 f, .int .i64 n] w fun e w' => e = .returned (.bool (decide (gap s f < n))) ∧ w = w' := by
  by_cases h : s - f < 0
  · have e1 : gap s f = s - f + 4294967296 := by unfold gap; omega
    rw [e1]
    go_enter Try.func15, Try.ntmps15
    go_wp2_with fail
    go_ret
    exact ⟨rfl, rfl⟩
  · have e1 : gap s f = s - f := by unfold gap; omega
    rw [e1]
    go_enter Try.func15, Try.ntmps15
    go_wp2_with fail
    go_ret
    exact ⟨rfl, rfl⟩
end Go.Proofs.Ytdcgkamcffhgjaa
