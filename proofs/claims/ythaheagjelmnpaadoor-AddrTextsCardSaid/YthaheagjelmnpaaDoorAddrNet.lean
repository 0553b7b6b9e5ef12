/- Contracts: nets, as numbers: lower, Net, Last, In, Kind; the reference's Size, Net, Kind. -/
import Derived.Test.YthaheagjelmnpaaDoorStr
import Derived.Test.YthaheagjelmnpaaDoorAddrBits
import Derived.Deep.DeepCutAuto
import Derived.Deep.RegionWith
namespace Go.Proofs.YthaheagjelmnpaaDoor
set_option linter.unusedVariables false
set_option linter.unusedSimpArgs false
open Go.ChangeShapes Go.WideShapes Go.ChangeAt Go.RowKit

set_option maxHeartbeats 400000 in
theorem lower_any (k : Int) (hk : 0 ≤ k ∧ k ≤ 32) (w : World) : Calls Tryd.prog 23 #[.int .i64 k] w fun e w' => e = .returned (.int .u32 (sz k - 1)) ∧ w = w' := by
  have e := sz_low hk
  go_enter Tryd.func23, Tryd.ntmps23
  go_wp2_with fail
  go_ret
  exact ⟨rfl, rfl⟩

set_option maxHeartbeats 400000 in
theorem Net_any (a k : Int) (ha : 0 ≤ a ∧ a ≤ 4294967295) (hk : 0 ≤ k ∧ k ≤ 32) (w : World) :
    Calls Tryd.prog 13 #[.int .u32 a, .int .i64 k] w fun e w' => e = .returned (.tuple #[.int .u32 (netOf a k), .int .i64 0]) ∧ w = w' := by
  have e0 := keep_bits ha hk
  go_enter Tryd.func13, Tryd.ntmps13
  go_wp2_with fail
  refine (lower_any _ hk _).mono ?_
  rintro e w' ⟨rfl, rfl⟩
  go_wp2_with fail
  go_ret2
  exact ⟨rfl, rfl⟩

set_option maxHeartbeats 400000 in
theorem Net_not (a k : Int) (hk : k < 0 ∨ 32 < k) (w : World) :
    Calls Tryd.prog 13 #[.int .u32 a, .int .i64 k] w fun e w' => e = .returned (.tuple #[.int .u32 0, .int .i64 1]) ∧ w = w' := by
  rcases hk with hk | hk
  · go_enter Tryd.func13, Tryd.ntmps13
    go_wp2_with fail
    go_ret2
    exact ⟨rfl, rfl⟩
  · have h0 : decide (k < 0) = false := decide_eq_false (by omega)
    go_enter Tryd.func13, Tryd.ntmps13
    go_wp2_with fail
    go_ret2
    exact ⟨rfl, rfl⟩

set_option maxHeartbeats 400000 in
theorem Last_any (a k : Int) (ha : 0 ≤ a ∧ a ≤ 4294967295) (hk : 0 ≤ k ∧ k ≤ 32) (w : World) :
    Calls Tryd.prog 14 #[.int .u32 a, .int .i64 k] w fun e w' => e = .returned (.tuple #[.int .u32 (netOf a k + (sz k - 1)), .int .i64 0]) ∧ w = w' := by
  have e0 := join_bits (k := k) ha
  go_enter Tryd.func14, Tryd.ntmps14
  go_wp2_with fail
  refine (Net_any _ _ ha hk _).mono ?_
  rintro e w' ⟨rfl, rfl⟩
  go_wp2_with fail
  refine (lower_any _ hk _).mono ?_
  rintro e w' ⟨rfl, rfl⟩
  go_wp2_with fail
  go_ret2
  exact ⟨rfl, rfl⟩

set_option maxHeartbeats 400000 in
theorem Last_not (a k : Int) (hk : k < 0 ∨ 32 < k) (w : World) :
    Calls Tryd.prog 14 #[.int .u32 a, .int .i64 k] w fun e w' => e = .returned (.tuple #[.int .u32 0, .int .i64 1]) ∧ w = w' := by
  go_enter Tryd.func14, Tryd.ntmps14
  go_wp2_with fail
  refine (Net_not _ _ hk _).mono ?_
  rintro e w' ⟨rfl, rfl⟩
  go_wp2_with fail
  go_ret2
  exact ⟨rfl, rfl⟩

set_option maxHeartbeats 400000 in
theorem In_any (a b k : Int) (ha : 0 ≤ a ∧ a ≤ 4294967295) (hb : 0 ≤ b ∧ b ≤ 4294967295) (hk : 0 ≤ k ∧ k ≤ 32) (w : World) :
    Calls Tryd.prog 16 #[.int .u32 a, .int .u32 b, .int .i64 k] w fun e w' => e = .returned (.bool (netOf a k == netOf b k)) ∧ w = w' := by
  go_enter Tryd.func16, Tryd.ntmps16
  go_wp2_with fail
  refine (Net_any _ _ ha hk _).mono ?_
  rintro e w' ⟨rfl, rfl⟩
  go_wp2_with fail
  refine (Net_any _ _ hb hk _).mono ?_
  rintro e w' ⟨rfl, rfl⟩
  go_wp2_with fail
  go_ret
  exact ⟨rfl, rfl⟩

set_option maxHeartbeats 400000 in
theorem In_not (a b k : Int) (hk : k < 0 ∨ 32 < k) (w : World) :
    Calls Tryd.prog 16 #[.int .u32 a, .int .u32 b, .int .i64 k] w fun e w' => e = .returned (.bool false) ∧ w = w' := by
  go_enter Tryd.func16, Tryd.ntmps16
  go_wp2_with fail
  refine (Net_not _ _ hk _).mono ?_
  rintro e w' ⟨rfl, rfl⟩
  go_wp2_with fail
  refine (Net_not _ _ hk _).mono ?_
  rintro e w' ⟨rfl, rfl⟩
  go_wp2_with fail
  go_ret
  exact ⟨rfl, rfl⟩

/-- What an address is for. -/
def kindOf (a : Int) : Int := if a = 0 then 0 else if a = 4294967295 then 3 else if 2130706432 ≤ a ∧ a ≤ 2147483647 then 1 else if 3758096384 ≤ a ∧ a ≤ 4026531839 then 2 else 4

set_option maxHeartbeats 800000 in
theorem Kind_any (a : Int) (ha : 0 ≤ a ∧ a ≤ 4294967295) (w : World) :
    Calls Tryd.prog 10 #[.int .u32 a] w fun e w' => e = .returned (.int .i64 (kindOf a)) ∧ w = w' := by
  have s8 : sz 8 = 16777216 := rfl
  have s4 : sz 4 = 268435456 := rfl
  have e8 : netOf a 8 = netOf 2130706432 8 ↔ 2130706432 ≤ a ∧ a ≤ 2147483647 := by unfold netOf; rw [s8]; omega
  have e4 : netOf a 4 = netOf 3758096384 4 ↔ 3758096384 ≤ a ∧ a ≤ 4026531839 := by unfold netOf; rw [s4]; omega
  unfold kindOf
  by_cases h0 : a = 0
  · subst h0
    go_enter Tryd.func10, Tryd.ntmps10
    go_wp2_with fail
    go_ret
    exact ⟨rfl, rfl⟩
  · rw [if_neg h0]
    have b0 : (a == 0) = false := by simpa using h0
    by_cases h1 : 2130706432 ≤ a ∧ a ≤ 2147483647
    · rw [if_neg (by omega), if_pos h1]
      go_enter Tryd.func10, Tryd.ntmps10
      go_wp2_with fail
      refine (In_any _ _ _ ha (by decide) (by decide) _).mono ?_
      rw [show (netOf a 8 == netOf 2130706432 8) = true from by simpa using e8.2 h1]
      rintro e w' ⟨rfl, rfl⟩
      go_wp2_with fail
      go_ret
      exact ⟨rfl, rfl⟩
    · have i8 : (netOf a 8 == netOf 2130706432 8) = false := by
        rw [beq_eq_false_iff_ne]
        exact fun h => h1 (e8.1 h)
      by_cases h2 : 3758096384 ≤ a ∧ a ≤ 4026531839
      · rw [if_neg (by omega), if_neg h1, if_pos h2]
        go_enter Tryd.func10, Tryd.ntmps10
        go_wp2_with fail
        refine (In_any _ _ _ ha (by decide) (by decide) _).mono ?_
        rw [i8]
        rintro e w' ⟨rfl, rfl⟩
        go_wp2_with fail
        refine (In_any _ _ _ ha (by decide) (by decide) _).mono ?_
        rw [show (netOf a 4 == netOf 3758096384 4) = true from by simpa using e4.2 h2]
        rintro e w' ⟨rfl, rfl⟩
        go_wp2_with fail
        go_ret
        exact ⟨rfl, rfl⟩
      · have i4 : (netOf a 4 == netOf 3758096384 4) = false := by
          rw [beq_eq_false_iff_ne]
          exact fun h => h2 (e4.1 h)
        by_cases h3 : a = 4294967295
        · subst h3
          go_enter Tryd.func10, Tryd.ntmps10
          go_wp2_with fail
          refine (In_any _ _ _ ha (by decide) (by decide) _).mono ?_
          rw [i8]
          rintro e w' ⟨rfl, rfl⟩
          go_wp2_with fail
          refine (In_any _ _ _ ha (by decide) (by decide) _).mono ?_
          rw [i4]
          rintro e w' ⟨rfl, rfl⟩
          go_wp2_with fail
          go_ret
          exact ⟨rfl, rfl⟩
        · rw [if_neg h3, if_neg h1, if_neg h2]
          have b3 : (a == 4294967295) = false := by simpa using h3
          go_enter Tryd.func10, Tryd.ntmps10
          go_wp2_with fail
          refine (In_any _ _ _ ha (by decide) (by decide) _).mono ?_
          rw [i8]
          rintro e w' ⟨rfl, rfl⟩
          go_wp2_with fail
          refine (In_any _ _ _ ha (by decide) (by decide) _).mono ?_
          rw [i4]
          rintro e w' ⟨rfl, rfl⟩
          go_wp2_with fail
          go_ret
          exact ⟨rfl, rfl⟩

set_option maxHeartbeats 800000 in
theorem RKind_any (a : Int) (ha : 0 ≤ a ∧ a ≤ 4294967295) (w : World) :
    Calls Tryd.prog 11 #[.int .u32 a] w fun e w' => e = .returned (.int .i64 (kindOf a)) ∧ w = w' := by
  have ed : a.tdiv 16777216 = a / 16777216 := Int.tdiv_eq_ediv_of_nonneg ha.1
  unfold kindOf
  by_cases h0 : a = 0
  · subst h0
    go_enter Tryd.func11, Tryd.ntmps11
    go_wp2_with fail
    go_ret
    exact ⟨rfl, rfl⟩
  · rw [if_neg h0]
    have b0 : (a == 0) = false := by simpa using h0
    by_cases h3 : a = 4294967295
    · subst h3
      go_enter Tryd.func11, Tryd.ntmps11
      go_wp2_with fail
      go_ret
      exact ⟨rfl, rfl⟩
    · rw [if_neg h3]
      have b3 : (a == 4294967295) = false := by simpa using h3
      by_cases h1 : 2130706432 ≤ a ∧ a ≤ 2147483647
      · rw [if_pos h1]
        have b1 : (a / 16777216 == 127) = true := by simp; omega
        go_enter Tryd.func11, Tryd.ntmps11
        go_wp2_with fail
        go_ret
        exact ⟨rfl, rfl⟩
      · rw [if_neg h1]
        have b1 : (a / 16777216 == 127) = false := by simp; omega
        rcases Int.lt_or_le a 3758096384 with h4 | h4
        · rw [if_neg (by omega)]
          go_enter Tryd.func11, Tryd.ntmps11
          go_wp2_with fail
          go_ret
          exact ⟨rfl, rfl⟩
        · rcases Int.lt_or_le a 4026531840 with h5 | h5
          · rw [if_pos (by omega)]
            go_enter Tryd.func11, Tryd.ntmps11
            go_wp2_with fail
            go_ret
            exact ⟨rfl, rfl⟩
          · rw [if_neg (by omega)]
            go_enter Tryd.func11, Tryd.ntmps11
            go_wp2_with fail
            go_ret
            exact ⟨rfl, rfl⟩

theorem Acode_any (n : Int) (w : World) : Calls Tryd.prog 9 #[.int .i64 n] w fun e w' => e = .returned (.int .i64 n) ∧ w = w' := by
  go_enter Tryd.func9, Tryd.ntmps9
  go_wp2_with fail
  go_ret
  exact ⟨rfl, rfl⟩
end Go.Proofs.YthaheagjelmnpaaDoor
