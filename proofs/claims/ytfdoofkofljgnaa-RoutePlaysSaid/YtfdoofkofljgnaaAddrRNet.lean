/- Contracts: the reference's Size and Net. -/
import Derived.Test.YtfdoofkofljgnaaAddrNet
namespace Go.Proofs.Ytfdoofkofljgnaa
set_option linter.unusedVariables false
set_option linter.unusedSimpArgs false
open Go.ChangeShapes Go.WideShapes Go.ChangeAt Go.RowKit

set_option maxHeartbeats 800000 in
theorem Size_any (k : Int) (hk : 0 ≤ k ∧ k ≤ 32) (w : World) : Calls Try.prog 37 #[.int .i64 k] w fun e w' => e = .returned (.int .i64 (sz k)) ∧ w = w' := by
  obtain ⟨n, rfl⟩ := Int.eq_ofNat_of_zero_le hk.1
  have hn : n ≤ 32 := by omega
  have es : sz (n : Int) = ((2 ^ (32 - n) : Nat) : Int) := rfl
  rw [es]
  clear es hk
  go_enter Try.func37, Try.ntmps37
  go_wp2_with fail
  go_loopg [3, 4] (32 - n) (fun g s3 s4 wr => ∃ i : Nat, n ≤ i ∧ i ≤ 32 ∧ g = 32 - i ∧ s3 = .int .i64 ((2 ^ (i - n) : Nat) : Int) ∧ s4 = .int .i64 (i : Int) ∧ wr = w)
  case atStart => exact ⟨n, Nat.le_refl _, hn, rfl, by rw [Nat.sub_self]; rfl, rfl, rfl⟩
  case round =>
    obtain ⟨i, hi, hi2, rfl, hs3, rfl, rfl⟩ := hrel
    rcases Nat.lt_or_ge i 32 with hlt | hge
    · have hd : decide ((i : Int) < 32) = true := decide_eq_true (by omega)
      have hp : 2 ^ (i - n) ≤ 2 ^ 32 := Nat.pow_le_pow_right (by decide) (by omega)
      have e2 : 2 ^ (i + 1 - n) = 2 * 2 ^ (i - n) := by rw [show i + 1 - n = i - n + 1 from by omega, Nat.pow_succ, Nat.mul_comm]
      generalize 2 ^ (i - n) = X at *
      subst hs3
      go_wp2_with fail
      go_roundg (32 - (i + 1))
      case measure => omega
      case rel => exact ⟨i + 1, by omega, by omega, rfl, by rw [e2]; go_num, by go_num, rfl⟩
    · obtain rfl : i = 32 := by omega
      generalize hX : 2 ^ (32 - n) = X at hs3
      have HX := Lib.hid hX
      clear hX
      subst hs3
      go_wp2_with fail
      go_ret
      exact ⟨by rw [HX.out]; rfl, rfl⟩

theorem leaves_same {P : Program} {f : FuncId} {args : Array Value} {w : World} {n : Nat} {v : Value}
    (h : Calls P f args (w.drewN n) fun e w' => e = .returned v ∧ w.drewN n = w') :
    Calls P f args (w.drewN n) fun e w'' => e = .returned v ∧ ∃ m, w'' = w.drewN m :=
  h.mono fun _ _ ⟨he, hm⟩ => ⟨he, n, hm.symm⟩

set_option maxHeartbeats 800000 in
theorem RNet_any (a k : Int) (ha : 0 ≤ a ∧ a ≤ 4294967295) (hk : 0 ≤ k ∧ k ≤ 32) (w : World) :
    Calls Try.prog 22 #[.int .u32 a, .int .i64 k] w fun e w' => e = .returned (.int .u32 (netOf a k)) ∧ ∃ m, w' = w.drewN m := by
  have hS : Hid (∀ w, Calls Try.prog 37 #[.int .i64 k] w fun e w' => e = .returned (.int .i64 (sz k)) ∧ w = w') := fun w => Size_any k hk w
  have h1 := sz_pos k
  have h2 := sz_le k
  have h3 := net_in (k := k) ha
  have e1 : a.tdiv (sz k) = a / sz k := Int.tdiv_eq_ediv_of_nonneg ha.1
  have e2 : a / sz k * sz k = netOf a k := by rw [net_row, Int.mul_comm]
  have q0 : 0 ≤ a / sz k := Int.ediv_nonneg ha.1 (by omega)
  have q1 : a / sz k ≤ a := Int.ediv_le_self _ ha.1
  generalize sz k = S at *
  generalize a / S = Q at *
  generalize netOf a k = N at *
  have hne : ¬ S = 0 := by omega
  have e3 : wrap64 Q = Q := IntWalk.wrap64_in _ (by omega)
  have e4 : wrap64 N = N := IntWalk.wrap64_in _ (by omega)
  have e5 : N % 4294967296 = N := by omega
  go_enter Try.func22, Try.ntmps22
  go_wp2_with fail
  go_quiet (((go_at_call 37; exact leaves_same (hS.out _))))
  go_wp2_with fail
  go_ret
  exact ⟨rfl, _, rfl⟩
end Go.Proofs.Ytfdoofkofljgnaa
