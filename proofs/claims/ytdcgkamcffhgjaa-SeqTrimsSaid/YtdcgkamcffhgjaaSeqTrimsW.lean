/- The walk of the law on what is wanted. -/
import Derived.Test.YtdcgkamcffhgjaaSeqLawsW
namespace Go.Proofs.Ytdcgkamcffhgjaa
set_option linter.unusedVariables false
set_option linter.unusedSimpArgs false
open Go.ChangeShapes Go.WideShapes Go.ChangeAt Go.RowKit

theorem want_in {s n f m x y : Int} (h : Part s (clip n) f (clip m) x y) {k : Int} (h1 : 0 ≤ k) (h2 : k < clip n) (h3 : x ≤ k) (h4 : k < y) : want s k f m = true := by
  rw [want_part h h1 h2, decide_eq_true h3, decide_eq_true h4]; rfl
theorem want_before {s n f m x y : Int} (h : Part s (clip n) f (clip m) x y) {k : Int} (h1 : 0 ≤ k) (h2 : k < clip n) (h3 : k < x) : want s k f m = false := by
  rw [want_part h h1 h2, decide_eq_false (by omega)]; rfl
theorem want_behind {s n f m x y : Int} (h : Part s (clip n) f (clip m) x y) {k : Int} (h1 : 0 ≤ k) (h2 : k < clip n) (h3 : y ≤ k) : want s k f m = false := by
  rw [want_part h h1 h2, decide_eq_false (p := k < y) (by omega), Bool.and_false]

set_option maxRecDepth 10000 in
set_option maxHeartbeats 4000000 in
theorem seqTrims_walk (w : World) (s : Int) (hs : 0 ≤ s ∧ s ≤ 4294967295) (n : Int) (hn : -9223372036854775808 ≤ n ∧ n ≤ 9223372036854775807) (f : Int) (hf : 0 ≤ f ∧ f ≤ 4294967295) (m : Int) (hm : -9223372036854775808 ≤ m ∧ m ≤ 9223372036854775807) (k : Int) (hk : 0 ≤ k ∧ k ≤ 4294967295) :
    Calls Try.prog 5 #[.int .u32 s, .int .i64 n, .int .u32 f, .int .i64 m, .int .u32 k] w fun e w' => e = .returned (.bool true) ∧ Grow w w' := by
  obtain ⟨ln, e1⟩ : ∃ ln, ln = clip n := ⟨_, rfl⟩
  have b0 := clip_in n
  rw [← e1] at b0
  have E1 := Lib.hid e1
  clear e1
  go_enter Try.func5, Try.ntmps5
  go_wp2_with fail
  refine (Trim_any _ _ _ _ hs hf _).mono ?_
  rintro e0 w1 ⟨⟨x, y, rfl, hp⟩, hg⟩
  have b1 := hp.1
  have b2 := hp.2.1
  have b3 := hp.2.2.1
  rw [← E1.out] at b3
  go_wp2_with fail
  refine (Clip_any _ _).mono ?_
  rw [← E1.out]
  rintro e0 w2 ⟨rfl, rfl⟩
  rcases Int.lt_or_eq_of_le b2 with hxy | hxy
  · have hne : (x == y) = false := by simp; omega
    have hln : (ln == 0) = false := by simp; omega
    have hln0 : ¬ ln = 0 := by omega
    have p1 := Int.tmod_eq_emod_of_nonneg (b := ln) hk.1
    have a1 := Int.emod_nonneg k hln0
    have a2 := Int.emod_lt_of_pos k (show 0 < ln by omega)
    go_wp2_with fail
    generalize k % ln = at_ at a1 a2 ⊢
    clear p1
    rcases Int.lt_or_le at_ x with h1 | h1
    · have hd1 : decide (x ≤ at_) = false := decide_eq_false (by omega)
      refine (Wanted_any _ _ _ _ hs hf _).mono ?_
      rw [want_before hp a1 (by rw [← E1.out]; omega) h1]
      rintro e0 w2 ⟨rfl, rfl⟩
      rcases Int.lt_or_eq_of_le b1 with hx0 | hx0
      · rcases Int.lt_or_eq_of_le b3 with hyn | hyn
        · have hd5 : decide (0 < x) = true := decide_eq_true hx0
          have hd6 : decide (y < ln) = true := decide_eq_true hyn
          go_wp2_with fail
          refine (Wanted_any _ _ _ _ hs hf _).mono ?_
          rw [want_in hp b1 (by rw [← E1.out]; omega) (by omega) hxy]
          rintro e0 w2 ⟨rfl, rfl⟩
          go_wp2_with fail
          refine (Wanted_any _ _ _ _ hs hf _).mono ?_
          rw [want_in hp (by omega) (by rw [← E1.out]; omega) (by omega) (by omega)]
          rintro e0 w2 ⟨rfl, rfl⟩
          go_wp2_with fail
          refine (Wanted_any _ _ _ _ hs hf _).mono ?_
          rw [want_before hp (by omega) (by rw [← E1.out]; omega) (by omega)]
          rintro e0 w2 ⟨rfl, rfl⟩
          go_wp2_with fail
          refine (Wanted_any _ _ _ _ hs hf _).mono ?_
          rw [want_behind hp (by omega) (by rw [← E1.out]; omega) (by omega)]
          rintro e0 w2 ⟨rfl, rfl⟩
          go_wp2_with fail
          refine (live_any _).mono ?_
          rintro e0 w2 ⟨rfl, hg2⟩
          go_wp2_with fail
          go_ret
          exact ⟨rfl, hg.trans hg2⟩
        · have hd5 : decide (0 < x) = true := decide_eq_true hx0
          have hd6 : decide (y < ln) = false := decide_eq_false (by omega)
          go_wp2_with fail
          refine (Wanted_any _ _ _ _ hs hf _).mono ?_
          rw [want_in hp b1 (by rw [← E1.out]; omega) (by omega) hxy]
          rintro e0 w2 ⟨rfl, rfl⟩
          go_wp2_with fail
          refine (Wanted_any _ _ _ _ hs hf _).mono ?_
          rw [want_in hp (by omega) (by rw [← E1.out]; omega) (by omega) (by omega)]
          rintro e0 w2 ⟨rfl, rfl⟩
          go_wp2_with fail
          refine (Wanted_any _ _ _ _ hs hf _).mono ?_
          rw [want_before hp (by omega) (by rw [← E1.out]; omega) (by omega)]
          rintro e0 w2 ⟨rfl, rfl⟩
          go_wp2_with fail
          refine (live_any _).mono ?_
          rintro e0 w2 ⟨rfl, hg2⟩
          go_wp2_with fail
          go_ret
          exact ⟨rfl, hg.trans hg2⟩
      · exfalso; omega
    · rcases Int.lt_or_le at_ y with h2 | h2
      · have hd1 : decide (x ≤ at_) = true := decide_eq_true (by omega)
        have hd2 : decide (at_ < y) = true := decide_eq_true (by omega)
        refine (Wanted_any _ _ _ _ hs hf _).mono ?_
        rw [want_in hp a1 (by rw [← E1.out]; omega) h1 h2]
        rintro e0 w2 ⟨rfl, rfl⟩
        rcases Int.lt_or_eq_of_le b1 with hx0 | hx0
        · rcases Int.lt_or_eq_of_le b3 with hyn | hyn
          · have hd5 : decide (0 < x) = true := decide_eq_true hx0
            have hd6 : decide (y < ln) = true := decide_eq_true hyn
            go_wp2_with fail
            refine (Wanted_any _ _ _ _ hs hf _).mono ?_
            rw [want_in hp b1 (by rw [← E1.out]; omega) (by omega) hxy]
            rintro e0 w2 ⟨rfl, rfl⟩
            go_wp2_with fail
            refine (Wanted_any _ _ _ _ hs hf _).mono ?_
            rw [want_in hp (by omega) (by rw [← E1.out]; omega) (by omega) (by omega)]
            rintro e0 w2 ⟨rfl, rfl⟩
            go_wp2_with fail
            refine (Wanted_any _ _ _ _ hs hf _).mono ?_
            rw [want_before hp (by omega) (by rw [← E1.out]; omega) (by omega)]
            rintro e0 w2 ⟨rfl, rfl⟩
            go_wp2_with fail
            refine (Wanted_any _ _ _ _ hs hf _).mono ?_
            rw [want_behind hp (by omega) (by rw [← E1.out]; omega) (by omega)]
            rintro e0 w2 ⟨rfl, rfl⟩
            go_wp2_with fail
            refine (live_any _).mono ?_
            rintro e0 w2 ⟨rfl, hg2⟩
            go_wp2_with fail
            go_ret
            exact ⟨rfl, hg.trans hg2⟩
          · have hd5 : decide (0 < x) = true := decide_eq_true hx0
            have hd6 : decide (y < ln) = false := decide_eq_false (by omega)
            go_wp2_with fail
            refine (Wanted_any _ _ _ _ hs hf _).mono ?_
            rw [want_in hp b1 (by rw [← E1.out]; omega) (by omega) hxy]
            rintro e0 w2 ⟨rfl, rfl⟩
            go_wp2_with fail
            refine (Wanted_any _ _ _ _ hs hf _).mono ?_
            rw [want_in hp (by omega) (by rw [← E1.out]; omega) (by omega) (by omega)]
            rintro e0 w2 ⟨rfl, rfl⟩
            go_wp2_with fail
            refine (Wanted_any _ _ _ _ hs hf _).mono ?_
            rw [want_before hp (by omega) (by rw [← E1.out]; omega) (by omega)]
            rintro e0 w2 ⟨rfl, rfl⟩
            go_wp2_with fail
            refine (live_any _).mono ?_
            rintro e0 w2 ⟨rfl, hg2⟩
            go_wp2_with fail
            go_ret
            exact ⟨rfl, hg.trans hg2⟩
        · have hd5 : decide (0 < x) = false := decide_eq_false (by omega)
          rcases Int.lt_or_eq_of_le b3 with hyn | hyn
          · have hd6 : decide (y < ln) = true := decide_eq_true hyn
            go_wp2_with fail
            refine (Wanted_any _ _ _ _ hs hf _).mono ?_
            rw [want_in hp b1 (by rw [← E1.out]; omega) (by omega) hxy]
            rintro e0 w2 ⟨rfl, rfl⟩
            go_wp2_with fail
            refine (Wanted_any _ _ _ _ hs hf _).mono ?_
            rw [want_in hp (by omega) (by rw [← E1.out]; omega) (by omega) (by omega)]
            rintro e0 w2 ⟨rfl, rfl⟩
            go_wp2_with fail
            refine (Wanted_any _ _ _ _ hs hf _).mono ?_
            rw [want_behind hp (by omega) (by rw [← E1.out]; omega) (by omega)]
            rintro e0 w2 ⟨rfl, rfl⟩
            go_wp2_with fail
            refine (live_any _).mono ?_
            rintro e0 w2 ⟨rfl, hg2⟩
            go_wp2_with fail
            go_ret
            exact ⟨rfl, hg.trans hg2⟩
          · have hd6 : decide (y < ln) = false := decide_eq_false (by omega)
            go_wp2_with fail
            refine (Wanted_any _ _ _ _ hs hf _).mono ?_
            rw [want_in hp b1 (by rw [← E1.out]; omega) (by omega) hxy]
            rintro e0 w2 ⟨rfl, rfl⟩
            go_wp2_with fail
            refine (Wanted_any _ _ _ _ hs hf _).mono ?_
            rw [want_in hp (by omega) (by rw [← E1.out]; omega) (by omega) (by omega)]
            rintro e0 w2 ⟨rfl, rfl⟩
            go_wp2_with fail
            refine (live_any _).mono ?_
            rintro e0 w2 ⟨rfl, hg2⟩
            go_wp2_with fail
            go_ret
            exact ⟨rfl, hg.trans hg2⟩
      · have hd1 : decide (x ≤ at_) = true := decide_eq_true (by omega)
        have hd2 : decide (at_ < y) = false := decide_eq_false (by omega)
        refine (Wanted_any _ _ _ _ hs hf _).mono ?_
        rw [want_behind hp a1 (by rw [← E1.out]; omega) h2]
        rintro e0 w2 ⟨rfl, rfl⟩
        rcases Int.lt_or_eq_of_le b1 with hx0 | hx0
        · rcases Int.lt_or_eq_of_le b3 with hyn | hyn
          · have hd5 : decide (0 < x) = true := decide_eq_true hx0
            have hd6 : decide (y < ln) = true := decide_eq_true hyn
            go_wp2_with fail
            refine (Wanted_any _ _ _ _ hs hf _).mono ?_
            rw [want_in hp b1 (by rw [← E1.out]; omega) (by omega) hxy]
            rintro e0 w2 ⟨rfl, rfl⟩
            go_wp2_with fail
            refine (Wanted_any _ _ _ _ hs hf _).mono ?_
            rw [want_in hp (by omega) (by rw [← E1.out]; omega) (by omega) (by omega)]
            rintro e0 w2 ⟨rfl, rfl⟩
            go_wp2_with fail
            refine (Wanted_any _ _ _ _ hs hf _).mono ?_
            rw [want_before hp (by omega) (by rw [← E1.out]; omega) (by omega)]
            rintro e0 w2 ⟨rfl, rfl⟩
            go_wp2_with fail
            refine (Wanted_any _ _ _ _ hs hf _).mono ?_
            rw [want_behind hp (by omega) (by rw [← E1.out]; omega) (by omega)]
            rintro e0 w2 ⟨rfl, rfl⟩
            go_wp2_with fail
            refine (live_any _).mono ?_
            rintro e0 w2 ⟨rfl, hg2⟩
            go_wp2_with fail
            go_ret
            exact ⟨rfl, hg.trans hg2⟩
          · exfalso; omega
        · have hd5 : decide (0 < x) = false := decide_eq_false (by omega)
          rcases Int.lt_or_eq_of_le b3 with hyn | hyn
          · have hd6 : decide (y < ln) = true := decide_eq_true hyn
            go_wp2_with fail
            refine (Wanted_any _ _ _ _ hs hf _).mono ?_
            rw [want_in hp b1 (by rw [← E1.out]; omega) (by omega) hxy]
            rintro e0 w2 ⟨rfl, rfl⟩
            go_wp2_with fail
            refine (Wanted_any _ _ _ _ hs hf _).mono ?_
            rw [want_in hp (by omega) (by rw [← E1.out]; omega) (by omega) (by omega)]
            rintro e0 w2 ⟨rfl, rfl⟩
            go_wp2_with fail
            refine (Wanted_any _ _ _ _ hs hf _).mono ?_
            rw [want_behind hp (by omega) (by rw [← E1.out]; omega) (by omega)]
            rintro e0 w2 ⟨rfl, rfl⟩
            go_wp2_with fail
            refine (live_any _).mono ?_
            rintro e0 w2 ⟨rfl, hg2⟩
            go_wp2_with fail
            go_ret
            exact ⟨rfl, hg.trans hg2⟩
          · exfalso; omega
  · obtain rfl := hp.2.2.2.1 hxy
    subst hxy
    rcases Int.lt_or_eq_of_le b0.1 with hl | hl
    · have hln : (ln == 0) = false := by simp; omega
      have hln0 : ¬ ln = 0 := by omega
      have p1 := Int.tmod_eq_emod_of_nonneg (b := ln) hk.1
      have a1 := Int.emod_nonneg k hln0
      have a2 := Int.emod_lt_of_pos k (show 0 < ln by omega)
      go_wp2_with fail
      generalize k % ln = at_ at a1 a2 ⊢
      clear p1
      have hd1 : decide (0 ≤ at_) = true := decide_eq_true (by omega)
      have hd2 : decide (at_ < 0) = false := decide_eq_false (by omega)
      refine (Wanted_any _ _ _ _ hs hf _).mono ?_
      rw [want_behind hp a1 (by rw [← E1.out]; omega) a1]
      rintro e0 w2 ⟨rfl, rfl⟩
      go_wp2_with fail
      refine (live_any _).mono ?_
      rintro e0 w2 ⟨rfl, hg2⟩
      go_wp2_with fail
      go_ret
      exact ⟨rfl, hg.trans hg2⟩
    · subst hl
      go_wp2_with fail
      refine (live_any _).mono ?_
      rintro e0 w2 ⟨rfl, hg2⟩
      go_wp2_with fail
      go_ret
      exact ⟨rfl, hg.trans hg2⟩
end Go.Proofs.Ytdcgkamcffhgjaa
