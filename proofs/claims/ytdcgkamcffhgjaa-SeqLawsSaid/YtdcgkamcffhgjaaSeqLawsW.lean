/- The laws' own walks, layer seq. -/
import Derived.Test.YtdcgkamcffhgjaaSeqTrimW
import Derived.Deep.DeepFit
namespace Go.Proofs.Ytdcgkamcffhgjaa
set_option linter.unusedVariables false
set_option linter.unusedSimpArgs false
open Go.ChangeShapes Go.WideShapes Go.ChangeAt Go.RowKit

theorem part_ex {x y : Int} (h : Part 4294967295 (clip 4) 1 (clip 1) x y) : x = 2 ∧ y = 3 := by
  have c4 : clip 4 = 4 := rfl
  have c1 : clip 1 = 1 := rfl
  rw [c4, c1] at h
  obtain ⟨h0, h1, h2, h3, h4⟩ := h
  have g : gap 4294967295 1 = 4294967294 := rfl
  have k1 := h4 1 (by omega) (by omega)
  have k2 := h4 2 (by omega) (by omega)
  have k3 := h4 3 (by omega) (by omega)
  rw [wish_iff, g] at k1 k2 k3
  omega

set_option maxHeartbeats 1000000 in
theorem live_any (w : World) : Calls Try.prog 16 #[] w fun e w' => e = .returned (.bool true) ∧ Grow w w' := by
  go_enter Try.func16, Try.ntmps16
  go_wp2_with fail
  refine (Trim_any _ _ _ _ (by omega) (by omega) _).mono ?_
  rintro e w1 ⟨⟨x, y, rfl, hp⟩, hg⟩
  obtain ⟨rfl, rfl⟩ := part_ex hp
  go_wp2_with fail
  refine (SLess_any _ _ _).mono ?_
  rw [show decide (dist 4294967295 1 < 0) = true from rfl]
  rintro e w2 ⟨rfl, rfl⟩
  go_wp2_with fail
  refine (SIn_any _ _ _ (by omega) _).mono ?_
  rw [show decide (gap 2 4294967295 < 4) = true from rfl]
  rintro e w2 ⟨rfl, rfl⟩
  go_wp2_with fail
  go_ret
  exact ⟨rfl, hg⟩

set_option maxHeartbeats 1000000 in
theorem seqAccepts_walk (w : World) (s : Int) (hs : 0 ≤ s ∧ s ≤ 4294967295) (n : Int) (hn : -9223372036854775808 ≤ n ∧ n ≤ 9223372036854775807) (f : Int) (hf : 0 ≤ f ∧ f ≤ 4294967295) (m : Int) (hm : -9223372036854775808 ≤ m ∧ m ≤ 9223372036854775807) :
    Calls Try.prog 4 #[.int .u32 s, .int .i64 n, .int .u32 f, .int .i64 m] w fun e w' => e = .returned (.bool true) ∧ Grow w w' := by
  go_enter Try.func4, Try.ntmps4
  go_wp2_with fail
  refine (SAccept_any _ _ _ _ hn.2 hm.2 _).mono ?_
  rintro e w1 ⟨rfl, rfl⟩
  go_wp2_with fail
  refine (RAccept_any _ _ _ _ hs hn hf _).mono ?_
  rintro e w1 ⟨rfl, rfl⟩
  generalize acc s n f m = t
  go_wp2_with fail
  refine (live_any _).mono ?_
  rintro e w1 ⟨rfl, hg⟩
  go_wp2_with fail
  go_ret
  exact ⟨rfl, hg⟩

set_option maxHeartbeats 4000000 in
theorem seqPairs_walk (w : World) (a : Int) (ha : 0 ≤ a ∧ a ≤ 4294967295) (b : Int) (hb : 0 ≤ b ∧ b ≤ 4294967295) (n : Int) (hn : -9223372036854775808 ≤ n ∧ n ≤ 9223372036854775807) :
    Calls Try.prog 3 #[.int .u32 a, .int .u32 b, .int .i64 n] w fun e w' => e = .returned (.bool true) ∧ Grow w w' := by
  have hd := dist_in a b
  rcases Int.lt_or_le (dist a b) 0 with h | h
  · go_enter Try.func3, Try.ntmps3
    go_wp2_with fail
    refine (SRDiff_any _ _ ha hb _).mono ?_
    rintro e w1 ⟨rfl, rfl⟩
    go_wp2_with fail
    refine (SDiff_any _ _ _).mono ?_
    rintro e w1 ⟨rfl, rfl⟩
    go_wp2_with fail
    refine (SLess_any _ _ _).mono ?_
    rw [decide_eq_true h]
    rintro e w1 ⟨rfl, rfl⟩
    go_wp2_with fail
    refine (SMax_any _ _ _).mono ?_
    rw [if_pos h]
    rintro e w1 ⟨rfl, rfl⟩
    go_wp2_with fail
    refine (SAdd_any _ _ _).mono ?_
    rintro e w1 ⟨rfl, rfl⟩
    go_wp2_with fail
    refine (SRAdd_any _ _ ha _).mono ?_
    rintro e w1 ⟨rfl, rfl⟩
    go_wp2_with fail
    refine (SIn_any _ _ _ hn.2 _).mono ?_
    rintro e w1 ⟨rfl, rfl⟩
    go_wp2_with fail
    refine (SRIn_any _ _ _ ha hb _).mono ?_
    rintro e w1 ⟨rfl, rfl⟩
    generalize decide (gap a b < n) = t
    go_wp2_with fail
    refine (live_any _).mono ?_
    rintro e w1 ⟨rfl, hg⟩
    go_wp2_with fail
    go_ret
    exact ⟨rfl, hg⟩
  · go_enter Try.func3, Try.ntmps3
    go_wp2_with fail
    refine (SRDiff_any _ _ ha hb _).mono ?_
    rintro e w1 ⟨rfl, rfl⟩
    go_wp2_with fail
    refine (SDiff_any _ _ _).mono ?_
    rintro e w1 ⟨rfl, rfl⟩
    go_wp2_with fail
    refine (SLess_any _ _ _).mono ?_
    rw [decide_eq_false (by omega)]
    rintro e w1 ⟨rfl, rfl⟩
    go_wp2_with fail
    refine (SMax_any _ _ _).mono ?_
    rw [if_neg (by omega)]
    rintro e w1 ⟨rfl, rfl⟩
    go_wp2_with fail
    refine (SAdd_any _ _ _).mono ?_
    rintro e w1 ⟨rfl, rfl⟩
    go_wp2_with fail
    refine (SRAdd_any _ _ ha _).mono ?_
    rintro e w1 ⟨rfl, rfl⟩
    go_wp2_with fail
    refine (SIn_any _ _ _ hn.2 _).mono ?_
    rintro e w1 ⟨rfl, rfl⟩
    go_wp2_with fail
    refine (SRIn_any _ _ _ ha hb _).mono ?_
    rintro e w1 ⟨rfl, rfl⟩
    generalize decide (gap a b < n) = t
    go_wp2_with fail
    refine (live_any _).mono ?_
    rintro e w1 ⟨rfl, hg⟩
    go_wp2_with fail
    go_ret
    refine ⟨?_, hg⟩
    show Ending.returned (.bool (!decide (dist a b < 0))) = _
    rw [decide_eq_false (by omega)]
    rfl

theorem fwd_dist (a b : Int) (ha : 0 ≤ a ∧ a ≤ 4294967295) : fwd b (dist a b) = a := by unfold fwd dist; omega
theorem dist_two (a b : Int) : dist a b + dist b a = 0 ∨ (dist a b = -2147483648 ∧ dist b a = -2147483648) := by unfold dist; omega
theorem want_wish {s f m k : Int} {ln : Int} (h1 : 0 ≤ k) (h2 : k < ln) : want s k f m = wish s ln f (clip m) k := by
  have c := clip_in m
  have g := gap_in (fwd s k) f
  unfold want wish
  rw [decide_eq_true h1, decide_eq_true h2, Bool.true_and, Bool.true_and]
  have e : dist (fwd s k) f = if gap (fwd s k) f < 2147483648 then gap (fwd s k) f else gap (fwd s k) f - 4294967296 := by
    unfold dist gap; split <;> omega
  rw [e]
  split
  · rw [decide_eq_true (by omega), Bool.true_and]
  · rw [decide_eq_false (by omega), Bool.false_and, decide_eq_false (by omega)]
theorem want_part {s n f m x y : Int} (h : Part s (clip n) f (clip m) x y) {k : Int} (h1 : 0 ≤ k) (h2 : k < clip n) : want s k f m = (decide (x ≤ k) && decide (k < y)) := by
  have h4 := h.2.2.2.2 k h1 h2
  rw [want_wish h1 h2]
  rw [Bool.eq_iff_iff, h4]
  simp

theorem acc_part {a b x y l m : Int} (hm : 0 ≤ m ∧ m ≤ 65535) (h : Part a (clip l) b (clip m) x y) (hxy : x < y) : acc (fwd a x) (y - x) b m = true := by
  obtain ⟨h0, h1, h2, h3, h4⟩ := h
  have e : clip m = m := by unfold clip; rw [if_neg (by omega), if_neg (by omega)]
  have k := (h4 x h0 (by omega)).2 ⟨by omega, hxy⟩
  rw [e] at k
  unfold wish at k
  simp only [Bool.and_eq_true, decide_eq_true_eq] at k
  have g := gap_in (fwd a x) b
  unfold acc
  rw [if_neg (by omega), decide_eq_true k.2.2, Bool.true_or]

set_option maxHeartbeats 4000000 in
theorem seqHalves_walk (w : World) (a : Int) (ha : 0 ≤ a ∧ a ≤ 4294967295) (x : Int) (hx : 0 ≤ x ∧ x ≤ 4294967295) (y : Int) (hy : 0 ≤ y ∧ y ≤ 4294967295) :
    Calls Try.prog 7 #[.int .u32 a, .int .u32 x, .int .u32 y] w fun e w' => e = .returned (.bool true) ∧ Grow w w' := by
  obtain ⟨p, hp⟩ : ∃ p, p = x % 2147483648 := ⟨_, rfl⟩
  obtain ⟨q, hq⟩ : ∃ q, q = y % 2147483648 := ⟨_, rfl⟩
  have lp : 0 ≤ p ∧ p ≤ 2147483647 := by omega
  have lq : 0 ≤ q ∧ q ≤ 2147483647 := by omega
  have p1 := Int.tmod_eq_emod_of_nonneg (a := x) (b := 2147483648) hx.1
  have p2 := Int.tmod_eq_emod_of_nonneg (a := y) (b := 2147483648) hy.1
  go_enter Try.func7, Try.ntmps7
  go_wp2_with fail
  rw [← hp, ← hq]
  obtain ⟨B, hB⟩ : ∃ B, B = fwd a p := ⟨_, rfl⟩
  obtain ⟨C, hC⟩ : ∃ C, C = fwd a q := ⟨_, rfl⟩
  have f1 : dist B C = p - q := by rw [hB, hC]; unfold dist fwd; omega
  have f2 : gap B a = p := by rw [hB]; unfold gap fwd; omega
  have f3 : dist B a = p := by rw [hB]; unfold dist fwd; omega
  have f4 : p ≠ q → ¬ C = B := by rw [hB, hC]; unfold fwd; omega
  have F1 := Lib.hid f1
  have F2 := Lib.hid f2
  have F3 := Lib.hid f3
  have F4 := Lib.hid f4
  have HB := Lib.hid hB
  have HC := Lib.hid hC
  clear f1 f2 f3 f4 hB hC hp hq p1 p2
  refine (SAdd_any _ _ _).mono ?_
  rw [← HB.out]
  rintro e w1 ⟨rfl, rfl⟩
  go_wp2_with fail
  refine (SAdd_any _ _ _).mono ?_
  rw [← HC.out]
  rintro e w1 ⟨rfl, rfl⟩
  rcases Int.lt_or_le p q with h | h
  · have hne : (C == B) = false := by simpa using F4.out (by omega)
    have hqp : decide (q ≤ p) = false := decide_eq_false (by omega)
    have hlt : decide (p - q < 0) = true := decide_eq_true (by omega)
    have hd1 : decide (p < p + 1) = true := decide_eq_true (by omega)
    have hd2 : decide (p < p) = false := decide_eq_false (by omega)
    have hd3 : decide (p < 0) = false := decide_eq_false (by omega)
    go_wp2_with fail
    refine (SLess_any _ _ _).mono ?_
    rw [F1.out, hlt]
    rintro e w1 ⟨rfl, rfl⟩
    go_wp2_with fail
    refine (SIn_any _ _ _ (by omega) _).mono ?_
    rw [F2.out, hd1]
    rintro e w1 ⟨rfl, rfl⟩
    go_wp2_with fail
    refine (SIn_any _ _ _ (by omega) _).mono ?_
    rw [F2.out, hd2]
    rintro e w1 ⟨rfl, rfl⟩
    go_wp2_with fail
    refine (SLess_any _ _ _).mono ?_
    rw [F3.out, hd3]
    rintro e w1 ⟨rfl, rfl⟩
    go_wp2_with fail
    refine (SMax_any _ _ _).mono ?_
    rw [F1.out, if_pos (by omega)]
    rintro e w1 ⟨rfl, rfl⟩
    go_wp2_with fail
    refine (live_any _).mono ?_
    rintro e w1 ⟨rfl, hg⟩
    go_wp2_with fail
    go_ret
    exact ⟨rfl, hg⟩
  · have hlt : decide (p - q < 0) = false := decide_eq_false (by omega)
    have hd1 : decide (p < p + 1) = true := decide_eq_true (by omega)
    have hd2 : decide (p < p) = false := decide_eq_false (by omega)
    have hd3 : decide (p < 0) = false := decide_eq_false (by omega)
    have hd4 : decide (p < q) = false := decide_eq_false (by omega)
    go_wp2_with fail
    refine (SLess_any _ _ _).mono ?_
    rw [F1.out, hlt]
    rintro e w1 ⟨rfl, rfl⟩
    go_wp2_with fail
    refine (SIn_any _ _ _ (by omega) _).mono ?_
    rw [F2.out, hd1]
    rintro e w1 ⟨rfl, rfl⟩
    go_wp2_with fail
    refine (SIn_any _ _ _ (by omega) _).mono ?_
    rw [F2.out, hd2]
    rintro e w1 ⟨rfl, rfl⟩
    go_wp2_with fail
    refine (SLess_any _ _ _).mono ?_
    rw [F3.out, hd3]
    rintro e w1 ⟨rfl, rfl⟩
    go_wp2_with fail
    refine (SMax_any _ _ _).mono ?_
    rw [F1.out, if_neg (by omega)]
    rintro e w1 ⟨rfl, rfl⟩
    go_wp2_with fail
    refine (live_any _).mono ?_
    rintro e w1 ⟨rfl, hg⟩
    go_wp2_with fail
    go_ret
    exact ⟨rfl, hg⟩

set_option maxHeartbeats 4000000 in
theorem seqLaws_walk (w : World) (a : Int) (ha : 0 ≤ a ∧ a ≤ 4294967295) (b : Int) (hb : 0 ≤ b ∧ b ≤ 4294967295) (n : Int) (hn : 0 ≤ n ∧ n ≤ 65535) (m : Int) (hm : 0 ≤ m ∧ m ≤ 65535) :
    Calls Try.prog 6 #[.int .u32 a, .int .u32 b, .int .u16 n, .int .u16 m] w fun e w' => e = .returned (.bool true) ∧ Grow w w' := by
  have h1 := dist_in a b
  have h2 := dist_in b a
  have hfd := fwd_dist a b ha
  obtain ⟨d, hd⟩ : ∃ d, d = dist a b := ⟨_, rfl⟩
  obtain ⟨e, he⟩ : ∃ e, e = dist b a := ⟨_, rfl⟩
  have ht := dist_two a b
  rw [← hd] at ht h1 hfd
  rw [← he] at ht h2
  have Hd := Lib.hid hd
  have He := Lib.hid he
  clear hd he
  go_enter Try.func6, Try.ntmps6
  go_wp2_with fail
  refine (SDiff_any _ _ _).mono ?_
  rw [← Hd.out]
  rintro e0 w1 ⟨rfl, rfl⟩
  go_wp2_with fail
  refine (SDiff_any _ _ _).mono ?_
  rw [← He.out]
  rintro e0 w1 ⟨rfl, rfl⟩
  rcases ht with ht | ⟨rfl, rfl⟩
  · rcases Int.lt_or_le d 0 with hs | hs
    · go_wp2_with fail
      refine (SAdd_any _ _ _).mono ?_
      rw [hfd]
      rintro e0 w1 ⟨rfl, rfl⟩
      go_wp2_with fail
      refine (SLess_any _ _ _).mono ?_
      rw [← Hd.out, decide_eq_true (by omega)]
      rintro e0 w1 ⟨rfl, rfl⟩
      go_wp2_with fail
      refine (SLess_any _ _ _).mono ?_
      rw [← He.out, decide_eq_false (by omega)]
      rintro e0 w1 ⟨rfl, rfl⟩
      go_wp2_with fail
      refine (Trim_any _ _ _ _ ha hb _).mono ?_
      rintro e0 w1 ⟨⟨x, y, rfl, hp⟩, hg⟩
      have b0 := clip_in n
      have b1 := hp.1
      have b2 := hp.2.1
      have b3 := hp.2.2.1
      rcases Int.lt_or_eq_of_le b2 with hxy | rfl
      · have hne : ¬ x = y := by omega
        go_wp2_with fail
        refine (SAdd_any _ _ _).mono ?_
        rintro e0 w2 ⟨rfl, rfl⟩
        go_wp2_with fail
        refine (SAccept_any _ _ _ _ (by omega) (by omega) _).mono ?_
        rw [acc_part hm hp hxy]
        rintro e0 w2 ⟨rfl, rfl⟩
        go_wp2_with fail
        refine (live_any _).mono ?_
        rintro e0 w2 ⟨rfl, hg2⟩
        go_wp2_with fail
        go_ret
        exact ⟨rfl, hg.trans hg2⟩
      · go_wp2_with fail
        refine (live_any _).mono ?_
        rintro e0 w2 ⟨rfl, hg2⟩
        go_wp2_with fail
        go_ret
        exact ⟨rfl, hg.trans hg2⟩
    · go_wp2_with fail
      refine (SAdd_any _ _ _).mono ?_
      rw [hfd]
      rintro e0 w1 ⟨rfl, rfl⟩
      go_wp2_with fail
      refine (SLess_any _ _ _).mono ?_
      rw [← Hd.out, decide_eq_false (by omega)]
      rintro e0 w1 ⟨rfl, rfl⟩
      go_wp2_with fail
      refine (Trim_any _ _ _ _ ha hb _).mono ?_
      rintro e0 w1 ⟨⟨x, y, rfl, hp⟩, hg⟩
      have b0 := clip_in n
      have b1 := hp.1
      have b2 := hp.2.1
      have b3 := hp.2.2.1
      rcases Int.lt_or_eq_of_le b2 with hxy | rfl
      · have hne : ¬ x = y := by omega
        go_wp2_with fail
        refine (SAdd_any _ _ _).mono ?_
        rintro e0 w2 ⟨rfl, rfl⟩
        go_wp2_with fail
        refine (SAccept_any _ _ _ _ (by omega) (by omega) _).mono ?_
        rw [acc_part hm hp hxy]
        rintro e0 w2 ⟨rfl, rfl⟩
        go_wp2_with fail
        refine (live_any _).mono ?_
        rintro e0 w2 ⟨rfl, hg2⟩
        go_wp2_with fail
        go_ret
        exact ⟨rfl, hg.trans hg2⟩
      · go_wp2_with fail
        refine (live_any _).mono ?_
        rintro e0 w2 ⟨rfl, hg2⟩
        go_wp2_with fail
        go_ret
        exact ⟨rfl, hg.trans hg2⟩
  · go_wp2_with fail
    refine (SAdd_any _ _ _).mono ?_
    rw [hfd]
    rintro e0 w1 ⟨rfl, rfl⟩
    go_wp2_with fail
    refine (SLess_any _ _ _).mono ?_
    rw [← Hd.out, decide_eq_true (by omega)]
    rintro e0 w1 ⟨rfl, rfl⟩
    go_wp2_with fail
    refine (SLess_any _ _ _).mono ?_
    rw [← He.out, decide_eq_true (by omega)]
    rintro e0 w1 ⟨rfl, rfl⟩
    go_wp2_with fail
    refine (Trim_any _ _ _ _ ha hb _).mono ?_
    rintro e0 w1 ⟨⟨x, y, rfl, hp⟩, hg⟩
    have b0 := clip_in n
    have b1 := hp.1
    have b2 := hp.2.1
    have b3 := hp.2.2.1
    rcases Int.lt_or_eq_of_le b2 with hxy | rfl
    · have hne : ¬ x = y := by omega
      go_wp2_with fail
      refine (SAdd_any _ _ _).mono ?_
      rintro e0 w2 ⟨rfl, rfl⟩
      go_wp2_with fail
      refine (SAccept_any _ _ _ _ (by omega) (by omega) _).mono ?_
      rw [acc_part hm hp hxy]
      rintro e0 w2 ⟨rfl, rfl⟩
      go_wp2_with fail
      refine (live_any _).mono ?_
      rintro e0 w2 ⟨rfl, hg2⟩
      go_wp2_with fail
      go_ret
      exact ⟨rfl, hg.trans hg2⟩
    · go_wp2_with fail
      refine (live_any _).mono ?_
      rintro e0 w2 ⟨rfl, hg2⟩
      go_wp2_with fail
      go_ret
      exact ⟨rfl, hg.trans hg2⟩
end Go.Proofs.Ytdcgkamcffhgjaa
