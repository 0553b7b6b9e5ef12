import Derived.Test.YtbhdpobmooncpaaRows
import Derived.Test.YtbhdpobmooncpaaRead
import Derived.Test.YtbhdpobmooncpaaNum
import Derived.WalkKit
import Derived.ProofKit
import Derived.OpenShut
import Derived.ShutString
import Derived.ChangeOld
import Derived.Below
import Derived.BigQuiet
import Derived.Deep.QuietTactic
import Derived.WalkSpells
import Derived.WalkLawsBesides
import Derived.Outline
import Derived.Lib.Hide
namespace Go.Proofs.Ytbhdpobmooncpaa
set_option linter.unusedVariables false
open Go.ChangeShapes Go.WideShapes Go.ChangeAt Go.RowKit

set_option maxHeartbeats 400000 in
theorem within_any (A : Option Addr) (n c : Nat) (at_ m : Int) (w : World) (hn : n ≤ maxLen) (h1 : -9223372036854775808 ≤ at_) (h2 : at_ ≤ 9223372036854775807) :
    Calls Try.prog 53 #[.slice A n c, .int .i64 at_, .int .i64 m] w fun e w' => e = .returned (.int .i64 (withinCode n at_ m)) ∧ w = w' := by
  unfold maxLen at hn
  go_enter Try.func53, Try.ntmps53
  go_wp2
  all_goals (go_ret; refine ⟨ret_int ?_, rfl⟩; unfold withinCode; repeat' split) <;> omega

set_option maxHeartbeats 400000 in
theorem number_ok (A : Option Addr) (n c k : Nat) (m : Nat) (l : List UInt8) (w : World) (h : Byt w (.slice A n c) l) (hm : m ≤ 4) (hm0 : 0 < m) (hk : k + m ≤ n) :
    Calls Try.prog 49 #[.slice A n c, .int .i64 (k : Int), .int .i64 (m : Int)] w fun e w' => e = .returned (.tuple #[.int .u32 (numOf ((l.drop k).take m) : Nat), .int .i64 0]) ∧ w = w' := by
  obtain ⟨rfl, hc, hcm⟩ := h.len
  have hcm' := hcm
  unfold maxLen at hcm
  obtain ⟨b, off, rfl, hb, hcell⟩ := h.at_ (by omega)
  clear h
  go_enter Try.func49, Try.ntmps49
  go_wp2_with ((go_at_call 53); (refine (within_any _ _ _ _ _ _ (by omega) (by omega) (by omega)).mono ?_); (rintro e w' ⟨rfl, rfl⟩); (rw [show withinCode l.length (k : Int) (m : Int) = 0 from by unfold withinCode; rw [if_neg (by omega), if_neg (by omega), if_neg (by omega)]]))
  go_loop [9, 19] (fun t i => ∃ j : Nat, j ≤ m ∧ i = .int .i64 (j : Int) ∧ t = .int .u32 ((numOf ((l.drop k).take j) : Nat) : Int)) (fun _ i => m - (intOf i).toNat)
  case atStart => exact ⟨0, Nat.zero_le _, rfl, rfl⟩
  case round =>
    obtain ⟨j, hj, rfl, rfl⟩ := hrel
    by_cases hlt : j < m
    · have hc1 : w.cell? ⟨b, off + (k + j), none⟩ = some (.int .u8 ((l[k + j]'(by omega)).toNat : Int)) := hcell (k + j) (by omega)
      go_wp2
      go_round
      case rel =>
        refine ⟨j + 1, by omega, by go_num, ?_⟩
        have h3 := numOf_lt3 ((l.drop k).take j) (by simp; omega)
        have hu := (l[k + j]'(by omega)).toNat_lt
        rw [take_snoc l k j (by omega), numOf_snoc, or_byte _ _ hu h3]
      case measure => simp [intOf]; omega
    · go_wp2
      have : j = m := by omega
      subst this
      go_ret2
      exact ⟨rfl, rfl⟩

set_option maxHeartbeats 400000 in
theorem number_bad (A : Option Addr) (n c : Nat) (at_ m : Int) (w : World) (hn : n ≤ maxLen) (h1 : -9223372036854775808 ≤ at_) (h2 : at_ ≤ 9223372036854775807) (hc : withinCode n at_ m ≠ 0) :
    Calls Try.prog 49 #[.slice A n c, .int .i64 at_, .int .i64 m] w fun e w' => e = .returned (.tuple #[.int .u32 0, .int .i64 (withinCode n at_ m)]) ∧ w = w' := by
  have hb : (withinCode n at_ m == 0) = false := beq_eq_false_iff_ne.2 hc
  go_enter Try.func49, Try.ntmps49
  go_wp2_with ((go_at_call 53); (refine (within_any _ _ _ _ _ _ hn h1 h2).mono ?_); (rintro e w' ⟨rfl, rfl⟩))
  go_ret2
  exact ⟨rfl, rfl⟩

theorem number_any (v : Value) (at_ : Int) (m : Nat) (l : List UInt8) (w : World) (h : Byt w v l) (h1 : -9223372036854775808 ≤ at_) (h2 : at_ ≤ 9223372036854775807) (hm : m ≤ 4) (hm0 : 0 < m) :
    Calls Try.prog 49 #[v, .int .i64 at_, .int .i64 (m : Int)] w fun e w' => e = .returned (.tuple #[.int .u32 (numAt l at_ m).1, .int .i64 (numAt l at_ m).2]) ∧ w = w' := by
  obtain ⟨A, c, rfl, hc, hcm⟩ := h.form
  by_cases hz : withinCode l.length at_ m = 0
  · obtain ⟨h3, h4, h5⟩ := within_zero hz
    obtain ⟨k, rfl⟩ := Int.eq_ofNat_of_zero_le h3
    rw [numAt_ok (by omega)]
    exact number_ok A _ c k m l w h hm hm0 (by omega)
  · rw [numAt_bad hz]
    exact number_bad A _ c at_ m w (Nat.le_trans hc hcm) h1 h2 hz

set_option maxHeartbeats 400000 in
theorem Get16_any (v : Value) (at_ : Int) (l : List UInt8) (w : World) (h : Byt w v l) (h1 : -9223372036854775808 ≤ at_) (h2 : at_ ≤ 9223372036854775807) :
    Calls Try.prog 43 #[v, .int .i64 at_] w fun e w' => e = .returned (.tuple #[.int .i64 (numAt l at_ 2).1, .int .i64 (numAt l at_ 2).2]) ∧ w = w' := by
  have hlt := numAt_lt l at_ 2 (by omega)
  go_enter Try.func43, Try.ntmps43
  go_wp2_with ((go_at_call 49); (refine (number_any _ _ 2 _ _ h h1 h2 (by omega) (by omega)).mono ?_); (rintro e w' ⟨rfl, rfl⟩))
  go_ret2
  exact ⟨rfl, rfl⟩

set_option maxHeartbeats 400000 in
theorem Get32_any (v : Value) (at_ : Int) (l : List UInt8) (w : World) (h : Byt w v l) (h1 : -9223372036854775808 ≤ at_) (h2 : at_ ≤ 9223372036854775807) :
    Calls Try.prog 44 #[v, .int .i64 at_] w fun e w' => e = .returned (.tuple #[.int .u32 (numAt l at_ 4).1, .int .i64 (numAt l at_ 4).2]) ∧ w = w' := by
  have hlt := numAt_lt l at_ 4 (by omega)
  go_enter Try.func44, Try.ntmps44
  go_wp2_with ((go_at_call 49); (refine (number_any _ _ 4 _ _ h h1 h2 (by omega) (by omega)).mono ?_); (rintro e w' ⟨rfl, rfl⟩))
  go_ret2
  exact ⟨rfl, rfl⟩

end Go.Proofs.Ytbhdpobmooncpaa
