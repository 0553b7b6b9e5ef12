/- Contracts: numbers added with the carry brought round, a check sum turned, and the sum of bytes as the document's own answer has it. -/
import Derived.Test.YtbhdpobmooncpaaJoin
import Derived.Test.YtbhdpobmooncpaaSumNum
namespace Go.Proofs.Ytbhdpobmooncpaa
set_option linter.unusedVariables false
set_option linter.unusedSimpArgs false
open Go.ChangeShapes Go.WideShapes Go.ChangeAt Go.RowKit

attribute [local go_sem] and_low

set_option maxHeartbeats 400000 in
theorem Add_any (a b : Int) (w : World) : Calls Try.prog 52 #[.int .i64 a, .int .i64 b] w fun e w' => e = .returned (.int .i64 (addc (low a) (low b) : Nat)) ∧ w = w' := by
  have l1 := low_lt a
  have l2 := low_lt b
  unfold addc
  by_cases h : low a + low b > 65535
  · rw [if_pos h]
    go_enter Try.func52, Try.ntmps52
    go_wp2
    go_ret
    exact ⟨ret_int (by omega), rfl⟩
  · rw [if_neg h]
    go_enter Try.func52, Try.ntmps52
    go_wp2
    go_ret
    exact ⟨ret_int (by omega), rfl⟩

set_option maxHeartbeats 400000 in
theorem Low_any (a : Int) (w : World) : Calls Try.prog 54 #[.int .i64 a] w fun e w' => e = .returned (.int .i64 (low a : Nat)) ∧ w = w' := by
  obtain ⟨hu, hn⟩ := u64_of a
  have H := Lib.hid hn
  clear hn
  go_enter Try.func54, Try.ntmps54
  go_wp2
  go_ret
  have hn := H.out
  exact ⟨ret_int (by rw [low_eq]; omega), rfl⟩

set_option maxHeartbeats 400000 in
theorem RAdd_any (a b : Int) (w : World) : Calls Try.prog 50 #[.int .i64 a, .int .i64 b] w fun e w' => e = .returned (.int .i64 (addc (low a) (low b) : Nat)) ∧ w = w' := by
  have l1 := low_lt a
  have l2 := low_lt b
  unfold addc
  by_cases h : low a + low b > 65535
  · rw [if_pos h]
    go_enter Try.func50, Try.ntmps50
    go_wp2_with ((go_at_call 54); (refine (Low_any _ _).mono ?_); (rintro e w' ⟨rfl, rfl⟩))
    go_ret
    exact ⟨ret_int (by omega), rfl⟩
  · rw [if_neg h]
    go_enter Try.func50, Try.ntmps50
    go_wp2_with ((go_at_call 54); (refine (Low_any _ _).mono ?_); (rintro e w' ⟨rfl, rfl⟩))
    go_ret
    exact ⟨ret_int (by omega), rfl⟩

/-- A check sum, turned. -/
def turn (a b c : Int) : Nat := 65535 - addc (addc (65535 - low a) (65535 - low b)) (low c)
theorem low_wrap (n : Int) : low (wrap64 n) = low n := by unfold low wrap64; omega
theorem low_sub (n : Int) : low (65535 - n) = 65535 - low n := by unfold low; omega
theorem turn_lt (a b c : Int) : turn a b c < 65536 := by unfold turn; omega
attribute [local go_sem] low_wrap low_sub

theorem ones_all {l : List UInt8} {k : Nat} (h1 : k ≤ nwords l) (h2 : ¬ 2 * k < l.length) : sumc (wup l k) = ones l := by
  have : k = nwords l := by unfold nwords at *; omega
  rw [this]; rfl

set_option maxHeartbeats 1000000 in
theorem RSum_any (v : Value) (l : List UInt8) (w : World) (h : Byt w v l) (hl : l.length ≤ 281474976710656) :
    Calls Try.prog 45 #[v] w fun e w' => e = .returned (.int .i64 (ones l : Nat)) ∧ w = w' := by
  obtain ⟨A, c, rfl, hc, hcm⟩ := h.form
  unfold maxLen at hcm
  by_cases h0 : 0 < l.length
  · obtain ⟨b, off, rfl, hb, hcell⟩ := h.at_ h0
    clear h
    go_enter Try.func45, Try.ntmps45
    go_wp2_with fail
    go_loop [3, 4] (fun n i => ∃ k : Nat, k ≤ nwords l ∧ i = .int .i64 ((2 * k : Nat) : Int) ∧ n = .int .i64 ((sumc (wup l k) : Nat) : Int)) (fun _ i => nwords l - (intOf i).toNat / 2)
    case atStart => exact ⟨0, Nat.zero_le _, rfl, rfl⟩
    case round =>
      obtain ⟨k, hk, rfl, rfl⟩ := hrel
      have k0 := sumc_lt l k
      have k1 := low_nat k0
      have k3 := wordAt_lt l k
      have k2 := low_nat k3
      by_cases hlt : 2 * k < l.length
      · have hn : k < nwords l := by unfold nwords; omega
        have hc1 : w.cell? ⟨b, off + 2 * k, none⟩ = some (.int .u8 ((l[2 * k]).toNat : Int)) := hcell (2 * k) hlt
        by_cases h2 : 2 * k + 1 < l.length
        · have hc2 : w.cell? ⟨b, off + (2 * k + 1), none⟩ = some (.int .u8 ((l[2 * k + 1]).toNat : Int)) := hcell (2 * k + 1) h2
          have e := wordAt_two l k h2
          have KK : low (256 * ((l[2 * k]).toNat : Int) + ((l[2 * k + 1]).toNat : Int)) = wordAt l k := by rw [← k2, e]; congr 1
          go_wp2_with fail
          refine (RAdd_any _ _ _).mono ?_
          rintro e' w' ⟨rfl, rfl⟩
          go_wp2_with fail
          go_round
          case rel => exact ⟨k + 1, hn, by go_num, by rw [wup_succ, sumc_snoc, e]⟩
          case measure => simp [intOf]; omega
        · have e := wordAt_one l k hlt h2
          have KK : low (256 * ((l[2 * k]).toNat : Int)) = wordAt l k := by rw [← k2, e]; congr 1
          go_wp2_with fail
          refine (RAdd_any _ _ _).mono ?_
          rintro e' w' ⟨rfl, rfl⟩
          go_wp2_with fail
          go_round
          case rel => exact ⟨k + 1, hn, by go_num, by rw [wup_succ, sumc_snoc, e]⟩
          case measure => simp [intOf]; omega
      · go_wp2_with fail
        go_ret
        rw [ones_all hk hlt]
        exact ⟨rfl, rfl⟩
  · obtain rfl : l = [] := List.eq_nil_of_length_eq_zero (by omega)
    go_enter Try.func45, Try.ntmps45
    go_wp2_with fail
    go_loop [3, 4] (fun n i => i = .int .i64 0 ∧ n = .int .i64 0) (fun _ _ => 0)
    case atStart => exact ⟨rfl, rfl⟩
    case round =>
      obtain ⟨rfl, rfl⟩ := hrel
      go_wp2_with fail
      go_ret
      exact ⟨rfl, rfl⟩

end Go.Proofs.Ytbhdpobmooncpaa
