/- The page's example; TrailRes's walk. -/
import Derived.Test.YtmfgbanckehcgaaDoorTrailText
import Derived.Test.YtmfgbanckehcgaaDoorTrailSame
namespace Go.Proofs.YtmfgbanckehcgaaDoor
set_option linter.unusedVariables false
set_option linter.unusedSimpArgs false
open Go.ChangeShapes Go.WideShapes Go.ChangeAt Go.RowKit

def exL : PL := [(⟨#[104, 111, 115, 116]⟩, 2), (⟨#[114, 105, 110, 103]⟩, 0)]
theorem exL_text : str (textOf (told exL 5) 5) = ⟨#[104, 111, 115, 116, 32, 50, 58, 32, 114, 105, 110, 103, 32, 48, 58, 32, 101, 114, 114, 111, 114, 32, 53]⟩ := by
  have e2 : Lib.itoa 2 = [50] := itoa_one (q := 2) (by decide)
  have e0 : Lib.itoa 0 = [48] := itoa_one (q := 0) (by decide)
  have e5 : Lib.itoa 5 = [53] := itoa_one (q := 5) (by decide)
  rw [told_not _ (by decide)]
  unfold textOf
  rw [if_neg (by decide), e5]
  have ew : wayOf (exL.take 64) = [104, 111, 115, 116, 32, 50, 58, 32, 114, 105, 110, 103, 32, 48, 58, 32] := by
    show wayOf exL = _
    simp only [wayOf, exL, List.flatMap_cons, List.flatMap_nil, e2, e0]
    rfl
  rw [ew]
  rfl
theorem exL_ok : Okp exL := by
  intro p hp
  simp only [exL, List.mem_cons, List.not_mem_nil, or_false] at hp
  rcases hp with rfl | rfl
  · exact ⟨by decide, by decide, by decide⟩
  · exact ⟨by decide, by decide, by decide⟩

set_option maxHeartbeats 800000 in
theorem live_any (w : World) (hg : Base w) :
    Calls Tryd.prog 8 #[] w fun e w' => e = .returned (.bool true) ∧ Grow w w' := by
  have hP : Plc (w.alloc (.cells #[.string ⟨#[104, 111, 115, 116]⟩, .int .i64 2, .string ⟨#[114, 105, 110, 103]⟩, .int .i64 0] 45)) (.slice (some ⟨w.heap.size, 0, none⟩) 2 2) exL := by
    refine ⟨_, _, rfl, Nat.le_refl _, by unfold maxLen; decide, fun _ => ⟨_, _, rfl, by simp, fun j hj => ?_⟩⟩
    match j, hj with
    | 0, _ => exact ⟨by simp [exL], by simp [exL]⟩
    | 1, _ => exact ⟨by simp [exL], by simp [exL]⟩
  have HP := (show Aside _ from hP)
  clear hP
  go_enter Tryd.func8, Tryd.ntmps8
  go_wp2_with fail
  refine (made_any exL 5 _ _ HP.out).mono ?_
  rintro e w1 ⟨rfl, hg1⟩
  have A1 : Aside (Grow w w1) := (Grow.alloc w _).trans hg1
  clear hg1
  generalize hX : madeV exL 5 = X
  go_wp2_with fail
  subst hX
  refine (Text_made exL 5 (by decide) exL_ok (by decide) _ (hg.grow A1.out)).mono ?_
  rintro e w2 ⟨rfl, hg2⟩
  rw [exL_text]
  have A2 : Aside (Grow w w2) := A1.out.trans hg2
  clear hg2
  go_wp2_with fail
  go_ret
  exact ⟨rfl, A2.out⟩

theorem Code_err (n : Int) (w : World) (hg : Base w) :
    Calls Tryd.prog 12 #[.iface 30 (.int .i64 n)] w fun e w' => e = .returned (.int .i64 n) ∧ Grow w w' := Code_chain [] n w hg
theorem Res_err (n : Int) (h0 : n ≠ 0) (hn : -9223372036854775807 ≤ n ∧ n ≤ 9223372036854775807) (w : World) (hg : Base w) :
    Calls Tryd.prog 14 #[.iface 30 (.int .i64 n)] w fun e w' => e = .returned (.int .i64 (-n)) ∧ Grow w w' := by
  have h := Res_made [] n hn w hg
  rwa [madeV_nil, errV_not h0] at h
theorem made_none (n : Int) (w : World) : Calls Tryd.prog 9 #[.slice none 0 0, .int .i64 n] w fun e w' => e = .returned (errV n) ∧ Grow w w' := made_any [] n _ w (Plc.nil w)

set_option maxHeartbeats 1600000 in
theorem res_back (r : Int) (hr : -9223372036854775808 ≤ r ∧ r ≤ 9223372036854775807) (e : Int) (he : e ≤ 0) (w : World) (hg : Base w) :
    Calls Tryd.prog 5 #[.int .i64 e, .int .i64 r] w fun ev w' => ev = .returned (.bool true) ∧ Grow w w' := by
  have hF := (show Aside _ from From_any r hr)
  have hd : decide (0 < e) = false := decide_eq_false (by omega)
  rcases Int.lt_or_le r 0 with h0 | h0
  · have hr0 : decide (0 ≤ r) = false := decide_eq_false (by omega)
    by_cases hmin : r = -9223372036854775808
    · have hF1 := hF.out
      rw [if_neg (by omega), if_pos hmin, errV_not (by decide)] at hF1
      have HF := (show Aside _ from hF1)
      subst hmin
      clear hF1 hF
      go_enter Tryd.func5, Tryd.ntmps5
      go_wp2_with fail
      refine (HF.out _).mono ?_
      rintro ev w1 ⟨rfl, rfl⟩
      go_wp2_with fail
      refine (Code_err 1 _ hg).mono ?_
      rintro ev w1 ⟨rfl, hg1⟩
      have hg2 := hg.grow hg1
      have A1 := (show Aside _ from And.intro hg1 hg2)
      clear hg1 hg2
      go_wp2_with fail
      refine (live_any _ A1.out.2).mono ?_
      rintro ev w2 ⟨rfl, hg3⟩
      have A2 := (show Aside _ from A1.out.1.trans hg3)
      clear hg3
      go_wp2_with fail
      go_ret
      exact ⟨rfl, A2.out⟩
    · have hF1 := hF.out
      rw [if_neg (by omega), if_neg hmin, errV_not (by omega)] at hF1
      have HF := (show Aside _ from hF1)
      have hne : (r == -9223372036854775808) = false := by simpa using hmin
      have hw : wrap64 (-r) = -r := IntWalk.wrap64_in _ (by omega)
      have hnn : - -r = r := by omega
      clear hF1 hF
      go_enter Tryd.func5, Tryd.ntmps5
      go_wp2_with fail
      refine (HF.out _).mono ?_
      rintro ev w1 ⟨rfl, rfl⟩
      go_wp2_with fail
      refine (Code_err (-r) _ hg).mono ?_
      rintro ev w1 ⟨rfl, hg1⟩
      have hg2 := hg.grow hg1
      have A1 := (show Aside _ from And.intro hg1 hg2)
      clear hg1 hg2
      go_wp2_with fail
      refine (Res_err (-r) (by omega) (by omega) _ A1.out.2).mono ?_
      rintro ev w2 ⟨rfl, hg3⟩
      have hg4 := A1.out.2.grow hg3
      have A2 := (show Aside _ from And.intro (A1.out.1.trans hg3) hg4)
      clear hg3 hg4
      go_wp2_with fail
      refine (live_any _ A2.out.2).mono ?_
      rintro ev w3 ⟨rfl, hg5⟩
      have A3 := (show Aside _ from A2.out.1.trans hg5)
      clear hg5
      go_wp2_with fail
      go_ret
      exact ⟨rfl, A3.out⟩
  · have hr0 : decide (0 ≤ r) = true := decide_eq_true h0
    have hF1 := hF.out
    rw [if_pos h0, errV_zero] at hF1
    have HF := (show Aside _ from hF1)
    clear hF1 hF
    go_enter Tryd.func5, Tryd.ntmps5
    go_wp2_with fail
    refine (HF.out _).mono ?_
    rintro ev w1 ⟨rfl, rfl⟩
    go_wp2_with fail
    refine (live_any _ hg).mono ?_
    rintro ev w2 ⟨rfl, hg3⟩
    have A2 := (show Aside _ from hg3)
    clear hg3
    go_wp2_with fail
    go_ret
    exact ⟨rfl, A2.out⟩
set_option maxHeartbeats 1600000 in
theorem res_there (r : Int) (hr : -9223372036854775808 ≤ r ∧ r ≤ 9223372036854775807) (e : Int) (he : 0 < e) (he2 : e ≤ 9223372036854775807) (w : World) (hg : Base w) :
    Calls Tryd.prog 5 #[.int .i64 e, .int .i64 r] w fun ev w' => ev = .returned (.bool true) ∧ Grow w w' := by
  have hF := (show Aside _ from From_any r hr)
  have hd : decide (0 < e) = true := decide_eq_true he
  have hwe : wrap64 (-e) = -e := IntWalk.wrap64_in _ (by omega)
  have hM0 := made_none e w
  rw [errV_not (by omega)] at hM0
  have hM := (show Aside _ from hM0)
  clear hM0
  rcases Int.lt_or_le r 0 with h0 | h0
  · have hr0 : decide (0 ≤ r) = false := decide_eq_false (by omega)
    by_cases hmin : r = -9223372036854775808
    · have hF1 := hF.out
      rw [if_neg (by omega), if_pos hmin, errV_not (by decide)] at hF1
      have HF := (show Aside _ from hF1)
      subst hmin
      clear hF1 hF
      go_enter Tryd.func5, Tryd.ntmps5
      go_wp2_with fail
      refine Calls.mono hM.out ?_
      rintro ev wa ⟨rfl, hga⟩
      have AA := (show Aside _ from And.intro hga (hg.grow hga))
      clear hga
      go_wp2_with fail
      refine (Res_err e (by omega) (by omega) _ AA.out.2).mono ?_
      rintro ev wb ⟨rfl, hgb⟩
      have AB := (show Aside _ from And.intro (AA.out.1.trans hgb) (AA.out.2.grow hgb))
      clear hgb
      go_wp2_with fail
      refine (HF.out _).mono ?_
      rintro ev w1 ⟨rfl, rfl⟩
      go_wp2_with fail
      refine (Code_err 1 _ AB.out.2).mono ?_
      rintro ev w1 ⟨rfl, hg1⟩
      have hg2 := AB.out.2.grow hg1
      have A1 := (show Aside _ from And.intro (AB.out.1.trans hg1) hg2)
      clear hg1 hg2
      go_wp2_with fail
      refine (live_any _ A1.out.2).mono ?_
      rintro ev w2 ⟨rfl, hg3⟩
      have A2 := (show Aside _ from A1.out.1.trans hg3)
      clear hg3
      go_wp2_with fail
      go_ret
      exact ⟨rfl, A2.out⟩
    · have hF1 := hF.out
      rw [if_neg (by omega), if_neg hmin, errV_not (by omega)] at hF1
      have HF := (show Aside _ from hF1)
      have hne : (r == -9223372036854775808) = false := by simpa using hmin
      have hw : wrap64 (-r) = -r := IntWalk.wrap64_in _ (by omega)
      have hnn : - -r = r := by omega
      clear hF1 hF
      go_enter Tryd.func5, Tryd.ntmps5
      go_wp2_with fail
      refine Calls.mono hM.out ?_
      rintro ev wa ⟨rfl, hga⟩
      have AA := (show Aside _ from And.intro hga (hg.grow hga))
      clear hga
      go_wp2_with fail
      refine (Res_err e (by omega) (by omega) _ AA.out.2).mono ?_
      rintro ev wb ⟨rfl, hgb⟩
      have AB := (show Aside _ from And.intro (AA.out.1.trans hgb) (AA.out.2.grow hgb))
      clear hgb
      go_wp2_with fail
      refine (HF.out _).mono ?_
      rintro ev w1 ⟨rfl, rfl⟩
      go_wp2_with fail
      refine (Code_err (-r) _ AB.out.2).mono ?_
      rintro ev w1 ⟨rfl, hg1⟩
      have hg2 := AB.out.2.grow hg1
      have A1 := (show Aside _ from And.intro (AB.out.1.trans hg1) hg2)
      clear hg1 hg2
      go_wp2_with fail
      refine (Res_err (-r) (by omega) (by omega) _ A1.out.2).mono ?_
      rintro ev w2 ⟨rfl, hg3⟩
      have hg4 := A1.out.2.grow hg3
      have A2 := (show Aside _ from And.intro (A1.out.1.trans hg3) hg4)
      clear hg3 hg4
      go_wp2_with fail
      refine (live_any _ A2.out.2).mono ?_
      rintro ev w3 ⟨rfl, hg5⟩
      have A3 := (show Aside _ from A2.out.1.trans hg5)
      clear hg5
      go_wp2_with fail
      go_ret
      exact ⟨rfl, A3.out⟩
  · have hr0 : decide (0 ≤ r) = true := decide_eq_true h0
    have hF1 := hF.out
    rw [if_pos h0, errV_zero] at hF1
    have HF := (show Aside _ from hF1)
    clear hF1 hF
    go_enter Tryd.func5, Tryd.ntmps5
    go_wp2_with fail
    refine Calls.mono hM.out ?_
    rintro ev wa ⟨rfl, hga⟩
    have AA := (show Aside _ from And.intro hga (hg.grow hga))
    clear hga
    go_wp2_with fail
    refine (Res_err e (by omega) (by omega) _ AA.out.2).mono ?_
    rintro ev wb ⟨rfl, hgb⟩
    have AB := (show Aside _ from And.intro (AA.out.1.trans hgb) (AA.out.2.grow hgb))
    clear hgb
    go_wp2_with fail
    refine (HF.out _).mono ?_
    rintro ev w1 ⟨rfl, rfl⟩
    go_wp2_with fail
    refine (live_any _ AB.out.2).mono ?_
    rintro ev w2 ⟨rfl, hg3⟩
    have A2 := (show Aside _ from AB.out.1.trans hg3)
    clear hg3
    go_wp2_with fail
    go_ret
    exact ⟨rfl, A2.out⟩

theorem trailRes_walk (w : World) (e : Int) (ze : -9223372036854775808 ≤ e ∧ e ≤ 9223372036854775807) (r : Int) (zr : -9223372036854775808 ≤ r ∧ r ≤ 9223372036854775807) (hg : Base w) :
    Calls Tryd.prog 5 #[.int .i64 e, .int .i64 r] w fun ev w' => ev = .returned (.bool true) ∧ Grow w w' := by
  rcases Int.lt_or_le 0 e with h | h
  · exact res_there r zr e h ze.2 w hg
  · exact res_back r zr e h w hg
end Go.Proofs.YtmfgbanckehcgaaDoor
