/- Contracts: what is wanted of a segment. -/
import Derived.Test.YtdcgkamcffhgjaaSeqAcc
import Derived.Deep.DeepCutAuto
import Derived.Deep.RegionWith
namespace Go.Proofs.Ytdcgkamcffhgjaa
set_option linter.unusedVariables false
set_option linter.unusedSimpArgs false
open Go.ChangeShapes Go.WideShapes Go.ChangeAt Go.RowKit

theorem leaves_world {P : Program} {f : FuncId} {args : Array Value} {w : World} {n : Nat} {v : Value}
    (h : Calls P f args (w.drewN n) fun e w' => e = .returned v ∧ w.drewN n = w') :
    Calls P f args (w.drewN n) fun e w'' => e = .returned v ∧ ∃ m, w'' = w.drewN m :=
  h.mono fun _ _ ⟨he, hm⟩ => ⟨he, n, hm.symm⟩

/-- Is the k-th number wanted? -/
def want (s k f m : Int) : Bool := decide (0 ≤ dist (fwd s k) f) && decide (dist (fwd s k) f < clip m)

set_option maxHeartbeats 400000 in
theorem Wanted_any (s k f m : Int) (hs : 0 ≤ s ∧ s ≤ 4294967295) (hf : 0 ≤ f ∧ f ≤ 4294967295) (w : World) :
    Calls Try.prog 21 #[.int .u32 s, .int .i64 k, .int .u32 f, .int .i64 m] w fun e w' => e = .returned (.bool (want s k f m)) ∧ w = w' := by
  unfold want
  rcases Int.lt_or_le (dist (fwd s k) f) 0 with h | h
  · rw [decide_eq_false (by omega), Bool.false_and]
    go_enter Try.func21, Try.ntmps21
    go_wp2_with fail
    refine (SRAdd_any _ _ hs _).mono ?_
    rintro e w' ⟨rfl, rfl⟩
    go_wp2_with fail
    refine (SRDiff_any _ _ (fwd_in _ _) hf _).mono ?_
    rintro e w' ⟨rfl, rfl⟩
    go_wp2_with fail
    go_ret
    exact ⟨rfl, rfl⟩
  · rw [decide_eq_true h, Bool.true_and]
    go_enter Try.func21, Try.ntmps21
    go_wp2_with fail
    refine (SRAdd_any _ _ hs _).mono ?_
    rintro e w' ⟨rfl, rfl⟩
    go_wp2_with fail
    refine (SRDiff_any _ _ (fwd_in _ _) hf _).mono ?_
    rintro e w' ⟨rfl, rfl⟩
    go_wp2_with fail
    refine (Clip_any _ _).mono ?_
    rintro e w' ⟨rfl, rfl⟩
    go_wp2_with fail
    go_ret
    exact ⟨rfl, rfl⟩

/-- The closure's answer. -/
def wish (s ln f m k : Int) : Bool := decide (0 ≤ k) && (decide (k < ln) && decide (gap (fwd s k) f < m))

set_option maxHeartbeats 1000000 in
theorem wanted_any (B0 B1 B2 B3 : Nat) (s ln f m k : Int) (hm : m ≤ 9223372036854775807) (w : World)
    (c1 : w.cell? ⟨B1, 0, none⟩ = some (.int .i64 ln)) (c0 : w.cell? ⟨B0, 0, none⟩ = some (.int .u32 s))
    (c2 : w.cell? ⟨B2, 0, none⟩ = some (.int .u32 f)) (c3 : w.cell? ⟨B3, 0, none⟩ = some (.int .i64 m)) :
    Calls Try.prog 23 #[.int .i64 k, .pointer (some ⟨B1, 0, none⟩), .pointer (some ⟨B0, 0, none⟩), .pointer (some ⟨B2, 0, none⟩), .pointer (some ⟨B3, 0, none⟩)] w
      fun e w' => e = .returned (.bool (wish s ln f m k)) ∧ ∃ n, w' = w.drewN n := by
  unfold wish
  rcases Int.lt_or_le k 0 with h1 | h1
  · rw [decide_eq_false (by omega), Bool.false_and]
    have hd : decide (0 ≤ k) = false := decide_eq_false (by omega)
    go_enter Try.func23, Try.ntmps23
    go_wp2_with fail
    go_quiet (fail)
    go_wp2_with fail
    go_ret
    exact ⟨rfl, _, rfl⟩
  · rw [decide_eq_true h1, Bool.true_and]
    rcases Int.lt_or_le k ln with h2 | h2
    · rw [decide_eq_true h2, Bool.true_and]
      go_enter Try.func23, Try.ntmps23
      go_wp2_with fail
      go_quiet ((first | (go_at_call 12; exact leaves_world (SAdd_any _ _ _)) | (go_at_call 14; exact leaves_world (SIn_any _ _ _ hm _))))
      go_wp2_with fail
      go_ret
      exact ⟨rfl, _, rfl⟩
    · rw [decide_eq_false (by omega), Bool.false_and]
      have hd : decide (k < ln) = false := decide_eq_false (by omega)
      go_enter Try.func23, Try.ntmps23
      go_wp2_with fail
      go_quiet (fail)
      go_wp2_with fail
      go_ret
      exact ⟨rfl, _, rfl⟩

theorem gap_fwd (s f k : Int) : gap (fwd s k) f = (gap s f + k) % 4294967296 := by unfold gap fwd; omega
theorem gap_in (s f : Int) : 0 ≤ gap s f ∧ gap s f ≤ 4294967295 := by unfold gap; omega
theorem dist_gap (s f : Int) : dist f s = if gap s f ≤ 2147483648 then - gap s f else 4294967296 - gap s f := by unfold gap dist; split <;> omega
theorem dist_end (s f m : Int) : dist (fwd f (m - 1)) s = (m - 1 - gap s f + 2147483648) % 4294967296 - 2147483648 := by unfold gap dist fwd; omega
theorem dist_in (a b : Int) : -2147483648 ≤ dist a b ∧ dist a b ≤ 2147483647 := by unfold dist; omega
/-- What is wanted is what lies from x on and ahead of y. -/
def Part (s ln f m x y : Int) : Prop := 0 ≤ x ∧ x ≤ y ∧ y ≤ ln ∧ (x = y → x = 0) ∧ ∀ k, 0 ≤ k → k < ln → (wish s ln f m k = true ↔ x ≤ k ∧ k < y)
theorem wish_iff (s ln f m k : Int) : wish s ln f m k = true ↔ 0 ≤ k ∧ k < ln ∧ (gap s f + k) % 4294967296 < m := by
  unfold wish; rw [gap_fwd]; simp
theorem wish_not (s ln f m k : Int) : wish s ln f m k = false ↔ ¬ (0 ≤ k ∧ k < ln ∧ (gap s f + k) % 4294967296 < m) := by
  rw [← wish_iff]; simp

theorem part_a {s ln f m : Int} (hl : 0 ≤ ln ∧ ln ≤ 1048576) (hm : 0 ≤ m ∧ m ≤ 1048576) (h0 : wish s ln f m 0 = true) (h1 : wish s ln f m (ln - 1) = true) : Part s ln f m 0 ln := by
  rw [wish_iff] at h0 h1
  have hd := gap_in s f
  refine ⟨by omega, by omega, by omega, by omega, fun k a b => ?_⟩
  rw [wish_iff]
  omega
theorem part_b {s ln f m : Int} (hl : 0 ≤ ln ∧ ln ≤ 1048576) (hm : 0 ≤ m ∧ m ≤ 1048576) (h0 : wish s ln f m 0 = true) (h1 : wish s ln f m (ln - 1) = false) : Part s ln f m 0 (dist (fwd f (m - 1)) s + 1) := by
  rw [wish_iff] at h0
  rw [wish_not] at h1
  have hd := gap_in s f
  rw [dist_end]
  refine ⟨by omega, by omega, by omega, by omega, fun k a b => ?_⟩
  rw [wish_iff]
  omega
theorem part_c {s ln f m : Int} (hl : 0 ≤ ln ∧ ln ≤ 1048576) (hm : 0 ≤ m ∧ m ≤ 1048576) (h0 : wish s ln f m 0 = false) (h1 : wish s ln f m (dist f s) = false) : Part s ln f m 0 0 := by
  rw [wish_not] at h0 h1
  have hd := gap_in s f
  rw [dist_gap] at h1
  refine ⟨by omega, by omega, by omega, by omega, fun k a b => ?_⟩
  rw [wish_iff]
  split at h1 <;> omega
theorem part_d {s ln f m : Int} (hl : 0 ≤ ln ∧ ln ≤ 1048576) (hm : 0 ≤ m ∧ m ≤ 1048576) (h0 : wish s ln f m 0 = false) (h1 : wish s ln f m (dist f s) = true) (h2 : wish s ln f m (ln - 1) = true) : Part s ln f m (dist f s) ln := by
  rw [wish_not] at h0
  rw [wish_iff] at h1 h2
  have hd := gap_in s f
  rw [dist_gap] at h1 ⊢
  split at h1
  · omega
  · rw [if_neg (by assumption)]
    refine ⟨by omega, by omega, by omega, by omega, fun k a b => ?_⟩
    rw [wish_iff]
    omega
theorem part_e {s ln f m : Int} (hl : 0 ≤ ln ∧ ln ≤ 1048576) (hm : 0 ≤ m ∧ m ≤ 1048576) (h0 : wish s ln f m 0 = false) (h1 : wish s ln f m (dist f s) = true) (h2 : wish s ln f m (ln - 1) = false) : Part s ln f m (dist f s) (dist (fwd f (m - 1)) s + 1) := by
  rw [wish_not] at h0 h2
  rw [wish_iff] at h1
  have hd := gap_in s f
  rw [dist_end]
  rw [dist_gap] at h1 ⊢
  split at h1
  · omega
  · rw [if_neg (by assumption)]
    refine ⟨by omega, by omega, by omega, by omega, fun k a b => ?_⟩
    rw [wish_iff]
    omega
end Go.Proofs.Ytdcgkamcffhgjaa
