/- Contracts: which segments are acceptable; what is wanted of one. -/
import Derived.Test.YtdcgkamcffhgjaaSeq
namespace Go.Proofs.Ytdcgkamcffhgjaa
set_option linter.unusedVariables false
set_option linter.unusedSimpArgs false
open Go.ChangeShapes Go.WideShapes Go.ChangeAt Go.RowKit

theorem fwd_zero {s : Int} (h : 0 ≤ s ∧ s ≤ 4294967295) : fwd s 0 = s := by unfold fwd; omega
theorem fwd_in (s n : Int) : 0 ≤ fwd s n ∧ fwd s n ≤ 4294967295 := by unfold fwd; omega
/-- Is a segment acceptable? -/
def acc (s length next window : Int) : Bool :=
  if window ≤ 0 then decide (length ≤ 0) && (s == next) else decide (gap s next < window) || decide (gap (fwd s (if length ≤ 1 then 0 else length - 1)) next < window)
def clip (n : Int) : Int := if n < 0 then 0 else if n > 1048576 then 1048576 else n
theorem clip_in (n : Int) : 0 ≤ clip n ∧ clip n ≤ 1048576 := by unfold clip; split <;> (try split) <;> omega

set_option maxHeartbeats 400000 in
theorem Clip_any (n : Int) (w : World) : Calls Try.prog 20 #[.int .i64 n] w fun e w' => e = .returned (.int .i64 (clip n)) ∧ w = w' := by
  unfold clip
  by_cases h1 : n < 0
  · rw [if_pos h1]
    go_enter Try.func20, Try.ntmps20
    go_wp2_with fail
    go_ret
    exact ⟨rfl, rfl⟩
  · rw [if_neg h1]
    by_cases h2 : n > 1048576
    · rw [if_pos h2]
      go_enter Try.func20, Try.ntmps20
      go_wp2_with fail
      go_ret
      exact ⟨rfl, rfl⟩
    · rw [if_neg h2]
      go_enter Try.func20, Try.ntmps20
      go_wp2_with fail
      go_ret
      exact ⟨rfl, rfl⟩

set_option maxHeartbeats 400000 in
theorem trimmed_any (n : Int) (w : World) : Calls Try.prog 22 #[.int .i64 n] w fun e w' => e = .returned (.int .i64 (clip n)) ∧ w = w' := by
  go_enter Try.func22, Try.ntmps22
  go_wp2_with fail
  all_goals go_ret
  all_goals
    refine ⟨ret_int ?_, rfl⟩
    unfold clip
    repeat' split
    all_goals omega

set_option maxHeartbeats 400000 in
theorem SAccept_any (s n f m : Int) (hn : n ≤ 9223372036854775807) (hm : m ≤ 9223372036854775807) (w : World) :
    Calls Try.prog 17 #[.int .u32 s, .int .i64 n, .int .u32 f, .int .i64 m] w fun e w' => e = .returned (.bool (acc s n f m)) ∧ w = w' := by
  unfold acc
  by_cases h1 : m ≤ 0
  · rw [if_pos h1]
    rcases Int.lt_or_le 0 n with h2 | h2
    · rw [decide_eq_false (by omega), Bool.false_and]
      go_enter Try.func17, Try.ntmps17
      go_wp2_with fail
      go_ret
      exact ⟨rfl, rfl⟩
    · rw [decide_eq_true h2, Bool.true_and]
      go_enter Try.func17, Try.ntmps17
      go_wp2_with fail
      go_ret
      exact ⟨rfl, rfl⟩
  · rw [if_neg h1]
    rcases Int.lt_or_le n 1 with h2 | h2
    · rw [if_pos (by omega)]
      by_cases h3 : gap s f < m
      · rw [decide_eq_true h3, Bool.true_or]
        go_enter Try.func17, Try.ntmps17
        go_wp2_with fail
        refine (SAdd_any _ _ _).mono ?_
        rintro e w' ⟨rfl, rfl⟩
        go_wp2_with fail
        refine (SIn_any _ _ _ hm _).mono ?_
        rw [decide_eq_true h3]
        rintro e w' ⟨rfl, rfl⟩
        go_wp2_with fail
        go_ret
        exact ⟨rfl, rfl⟩
      · rw [decide_eq_false h3, Bool.false_or]
        go_enter Try.func17, Try.ntmps17
        go_wp2_with fail
        refine (SAdd_any _ _ _).mono ?_
        rintro e w' ⟨rfl, rfl⟩
        go_wp2_with fail
        refine (SIn_any _ _ _ hm _).mono ?_
        rw [decide_eq_false (by omega)]
        rintro e w' ⟨rfl, rfl⟩
        go_wp2_with fail
        refine (SIn_any _ _ _ hm _).mono ?_
        rintro e w' ⟨rfl, rfl⟩
        go_wp2_with fail
        go_ret
        exact ⟨rfl, rfl⟩
    · rw [show (if n ≤ 1 then 0 else n - 1) = n - 1 by split <;> omega]
      by_cases h3 : gap s f < m
      · rw [decide_eq_true h3, Bool.true_or]
        go_enter Try.func17, Try.ntmps17
        go_wp2_with fail
        refine (SAdd_any _ _ _).mono ?_
        rintro e w' ⟨rfl, rfl⟩
        go_wp2_with fail
        refine (SIn_any _ _ _ hm _).mono ?_
        rw [decide_eq_true h3]
        rintro e w' ⟨rfl, rfl⟩
        go_wp2_with fail
        go_ret
        exact ⟨rfl, rfl⟩
      · rw [decide_eq_false h3, Bool.false_or]
        go_enter Try.func17, Try.ntmps17
        go_wp2_with fail
        refine (SAdd_any _ _ _).mono ?_
        rintro e w' ⟨rfl, rfl⟩
        go_wp2_with fail
        refine (SIn_any _ _ _ hm _).mono ?_
        rw [decide_eq_false (by omega)]
        rintro e w' ⟨rfl, rfl⟩
        go_wp2_with fail
        refine (SIn_any _ _ _ hm _).mono ?_
        rintro e w' ⟨rfl, rfl⟩
        go_wp2_with fail
        go_ret
        exact ⟨rfl, rfl⟩

set_option maxHeartbeats 400000 in
theorem RAccept_any (s n f m : Int) (hs : 0 ≤ s ∧ s ≤ 4294967295) (hn : -9223372036854775808 ≤ n ∧ n ≤ 9223372036854775807) (hf : 0 ≤ f ∧ f ≤ 4294967295) (w : World) :
    Calls Try.prog 18 #[.int .u32 s, .int .i64 n, .int .u32 f, .int .i64 m] w fun e w' => e = .returned (.bool (acc s n f m)) ∧ w = w' := by
  have h0 := gap_nonneg s f
  unfold acc
  rcases Int.lt_or_le 0 m with h1 | h1
  · rw [if_neg (by omega)]
    rcases Int.lt_or_le n 1 with h2 | h2
    · rw [if_pos (by omega)]
      rcases Int.lt_or_le n 0 with h3 | h3
      · go_enter Try.func18, Try.ntmps18
        go_wp2_with fail
        refine (SRIn_any _ _ _ hs hf _).mono ?_
        rintro e w' ⟨rfl, rfl⟩
        go_wp2_with fail
        go_ret
        exact ⟨by rw [fwd_zero hs, Bool.or_self]; rfl, rfl⟩
      · obtain rfl : n = 0 := by omega
        go_enter Try.func18, Try.ntmps18
        go_wp2_with fail
        refine (SRIn_any _ _ _ hs hf _).mono ?_
        rintro e w' ⟨rfl, rfl⟩
        go_wp2_with fail
        go_ret
        exact ⟨by rw [fwd_zero hs, Bool.or_self]; rfl, rfl⟩
    · rw [show (if n ≤ 1 then 0 else n - 1) = n - 1 by split <;> omega]
      by_cases h3 : gap s f < m
      · rw [decide_eq_true h3, Bool.true_or]
        go_enter Try.func18, Try.ntmps18
        go_wp2_with fail
        refine (SRIn_any _ _ _ hs hf _).mono ?_
        rw [decide_eq_true h3]
        rintro e w' ⟨rfl, rfl⟩
        go_wp2_with fail
        go_ret
        exact ⟨rfl, rfl⟩
      · rw [decide_eq_false h3, Bool.false_or]
        go_enter Try.func18, Try.ntmps18
        go_wp2_with fail
        refine (SRIn_any _ _ _ hs hf _).mono ?_
        rw [decide_eq_false (by omega)]
        rintro e w' ⟨rfl, rfl⟩
        go_wp2_with fail
        refine (SRAdd_any _ _ hs _).mono ?_
        rintro e w' ⟨rfl, rfl⟩
        go_wp2_with fail
        refine (SRIn_any _ _ _ (fwd_in _ _) hf _).mono ?_
        rintro e w' ⟨rfl, rfl⟩
        go_wp2_with fail
        go_ret
        exact ⟨rfl, rfl⟩
  · rw [if_pos h1]
    rcases Int.lt_or_le 0 n with h2 | h2
    · rw [decide_eq_false (by omega), Bool.false_and]
      go_enter Try.func18, Try.ntmps18
      rcases Int.lt_or_le m 0 with h3 | h3
      · go_wp2_with fail
        go_ret
        exact ⟨rfl, rfl⟩
      · obtain rfl : m = 0 := by omega
        go_wp2_with fail
        go_ret
        exact ⟨rfl, rfl⟩
    · rw [decide_eq_true h2, Bool.true_and]
      obtain ⟨n0, hn0⟩ : ∃ n0, n0 = n := ⟨n, rfl⟩
      by_cases h4 : s = f
      · subst h4
        rw [beq_self_eq_true]
        rcases Int.lt_or_le m 0 with h3 | h3
        · rcases Int.lt_or_le n 0 with h5 | h5
          · go_enter Try.func18, Try.ntmps18
            go_wp2_with fail
            go_ret
            exact ⟨rfl, rfl⟩
          · obtain rfl : n = 0 := by omega
            go_enter Try.func18, Try.ntmps18
            go_wp2_with fail
            go_ret
            exact ⟨rfl, rfl⟩
        · obtain rfl : m = 0 := by omega
          rcases Int.lt_or_le n 0 with h5 | h5
          · go_enter Try.func18, Try.ntmps18
            go_wp2_with fail
            go_ret
            exact ⟨rfl, rfl⟩
          · obtain rfl : n = 0 := by omega
            go_enter Try.func18, Try.ntmps18
            go_wp2_with fail
            go_ret
            exact ⟨rfl, rfl⟩
      · skip
        rcases Int.lt_or_le m 0 with h3 | h3
        · rcases Int.lt_or_le n 0 with h5 | h5
          · go_enter Try.func18, Try.ntmps18
            go_wp2_with fail
            refine (SRIn_any _ _ _ hs hf _).mono ?_
            rw [decide_eq_false (by omega)]
            rintro e w' ⟨rfl, rfl⟩
            go_wp2_with fail
            go_ret
            exact ⟨rfl, rfl⟩
          · obtain rfl : n = 0 := by omega
            go_enter Try.func18, Try.ntmps18
            go_wp2_with fail
            refine (SRIn_any _ _ _ hs hf _).mono ?_
            rw [decide_eq_false (by omega)]
            rintro e w' ⟨rfl, rfl⟩
            go_wp2_with fail
            go_ret
            exact ⟨rfl, rfl⟩
        · obtain rfl : m = 0 := by omega
          rcases Int.lt_or_le n 0 with h5 | h5
          · go_enter Try.func18, Try.ntmps18
            go_wp2_with fail
            refine (SRIn_any _ _ _ hs hf _).mono ?_
            rw [decide_eq_false (by omega)]
            rintro e w' ⟨rfl, rfl⟩
            go_wp2_with fail
            go_ret
            exact ⟨rfl, rfl⟩
          · obtain rfl : n = 0 := by omega
            go_enter Try.func18, Try.ntmps18
            go_wp2_with fail
            refine (SRIn_any _ _ _ hs hf _).mono ?_
            rw [decide_eq_false (by omega)]
            rintro e w' ⟨rfl, rfl⟩
            go_wp2_with fail
            go_ret
            exact ⟨rfl, rfl⟩
end Go.Proofs.Ytdcgkamcffhgjaa
