/- The walk of TrailTells. -/
import Derived.Test.YtmfgbanckehcgaaDoorTrailWalks
namespace Go.Proofs.YtmfgbanckehcgaaDoor
set_option linter.unusedVariables false
set_option linter.unusedSimpArgs false
open Go.ChangeShapes Go.WideShapes Go.ChangeAt Go.RowKit

theorem Plc.front {w : World} {A : Option Addr} {n c : Nat} {l : PL} (h : Plc w (.slice A n c) l) (k : Nat) (hk : k ≤ n) : Plc w (.slice A k c) (l.take k) := by
  obtain ⟨e, hc, hm⟩ := h.len
  have hl : (l.take k).length = k := by rw [List.length_take]; omega
  refine ⟨A, c, by rw [hl], by omega, hm, fun hp => ?_⟩
  obtain ⟨b, off, rfl, hb, hcell⟩ := h.at_ (by omega)
  exact ⟨b, off, rfl, hb, fun j hj => by rw [List.getElem_take]; exact hcell j (by omega)⟩
theorem Res_nil (w : World) (hg : Base w) : Calls Tryd.prog 14 #[.nilIface] w fun e w' => e = .returned (.int .i64 0) ∧ Grow w w' := Res_made [] 0 (by decide) w hg
theorem Path_nil (w : World) : Calls Tryd.prog 10 #[.nilIface] w fun e w' => ∃ v, e = .returned v ∧ OwnP w' v [] ∧ Grow w w' := Path_made [] 0 (by decide) w
theorem Text_nil (w : World) (hg : Base w) : Calls Tryd.prog 11 #[.nilIface] w fun e w' => e = .returned (.string ⟨#[111, 107]⟩) ∧ Grow w w' := Text_made [] 0 (by decide) (fun p hp => absurd hp (by simp)) (by decide) w hg

set_option maxRecDepth 10000 in
set_option maxHeartbeats 1600000 in
theorem tells_nil (w : World) (l : PL) (v : Value) (hv : Plc w v l) (hlong : isLong l = false) (hg : Base w) :
    Calls Tryd.prog 3 #[v, .int .i64 0] w fun ev w' => ev = .returned (.bool true) ∧ Grow w w' := by
  have hM := (show Aside _ from made_any l 0 v w hv)
  have hL := (show Aside _ from long_any l v w hv)
  rw [hlong] at hL
  rw [madeV_zero] at hM
  go_enter Tryd.func3, Tryd.ntmps3
  go_wp2_with fail
  refine Calls.mono hL.out ?_
  rintro ev w1 ⟨rfl, rfl⟩
  go_wp2_with fail
  refine Calls.mono hM.out ?_
  rintro ev w1 ⟨rfl, hg1⟩
  have A1 := (show Aside _ from hg1)
  clear hg1
  go_wp2_with fail
  refine (Path_nil _).mono ?_
  rintro ev w2 ⟨v2, rfl, hO, hg2⟩
  obtain ⟨A5, m5, c5, rfl, hm5⟩ := hO.plc.form
  obtain rfl : m5 = 0 := hm5.out
  have A2 := (show Aside _ from Grow.trans A1.out hg2)
  clear hg2 hO hm5
  go_wp2_with fail
  refine (Text_nil _ (hg.grow A2.out)).mono ?_
  rintro ev w3 ⟨rfl, hg3⟩
  have A3 := (show Aside _ from Grow.trans A2.out hg3)
  clear hg3
  go_wp2_with fail
  refine (Code_nil _).mono ?_
  rintro ev w4 ⟨rfl, hg4⟩
  have A4 := (show Aside _ from Grow.trans A3.out hg4)
  clear hg4
  go_wp2_with fail
  refine (Is_none _).mono ?_
  rintro ev w5 ⟨rfl, hg5⟩
  have A5 := (show Aside _ from Grow.trans A4.out hg5)
  clear hg5
  go_wp2_with fail
  refine (Res_nil _ (hg.grow A5.out)).mono ?_
  rintro ev w6 ⟨rfl, hg6⟩
  have A6 := (show Aside _ from Grow.trans A5.out hg6)
  clear hg6
  go_wp2_with fail
  refine (live_here w _ A6.out hg).mono ?_
  rintro ev w7 ⟨rfl, hg7⟩
  have A7 := (show Aside _ from hg7)
  clear hg7
  go_wp2_with fail
  go_ret
  exact ⟨rfl, A7.out⟩

set_option maxRecDepth 10000 in
set_option maxHeartbeats 1600000 in
theorem tells_long (w : World) (l : PL) (v : Value) (hv : Plc w v l) (hlong : isLong l = true) (e : Int) (hg : Base w) :
    Calls Tryd.prog 3 #[v, .int .i64 e] w fun ev w' => ev = .returned (.bool true) ∧ Grow w w' := by
  have hL := (show Aside _ from long_any l v w hv)
  rw [hlong] at hL
  go_enter Tryd.func3, Tryd.ntmps3
  go_wp2_with fail
  refine Calls.mono hL.out ?_
  rintro ev w1 ⟨rfl, rfl⟩
  go_wp2_with fail
  refine (live_any _ hg).mono ?_
  rintro ev w2 ⟨rfl, hg3⟩
  have A2 := (show Aside _ from hg3)
  clear hg3
  go_wp2_with fail
  go_ret
  exact ⟨rfl, A2.out⟩

set_option maxRecDepth 10000 in
set_option maxHeartbeats 3200000 in
theorem tells_some (w : World) (l : PL) (v : Value) (hv : Plc w v l) (hlong : isLong l = false) (hok : Okp l) (e : Int) (h0 : e ≠ 0) (ze : -9223372036854775808 ≤ e ∧ e ≤ 9223372036854775807) (hg : Base w) :
    Calls Tryd.prog 3 #[v, .int .i64 e] w fun ev w' => ev = .returned (.bool true) ∧ Grow w w' := by
  have hM := (show Aside _ from made_any l e v w hv)
  have hL := (show Aside _ from long_any l v w hv)
  rw [hlong] at hL
  have hRT : ∀ wx, Grow w wx → Calls Tryd.prog 16 #[v, .int .i64 e] wx fun ev w' => ev = .returned (.string (str (textOf (l.take 64) e))) ∧ Grow wx w' := fun wx hx => RText_any l e ze v wx (hv.grow hx) hok
  have HRT := (show Aside _ from hRT)
  clear hRT
  obtain ⟨A, c, rfl, hlc, hcm, _⟩ := id hv
  have hm : l.length ≤ 9223372036854775807 := Nat.le_trans hlc hcm
  have HV := (show Aside _ from And.intro hv hm)
  clear hv
  have hle := (isLong_all hlong).1
  have hC : ∀ wx, Base wx → Calls Tryd.prog 12 #[madeV l e] wx fun ev w' => ev = .returned (.int .i64 e) ∧ Grow wx w' := fun wx => Code_made l e wx
  have hI : ∀ wx, Calls Tryd.prog 13 #[madeV l e, .int .i64 e] wx fun ev w' => ev = .returned (.bool true) ∧ Grow wx w' := fun wx => by rw [madeV_chain h0]; exact Is_same l e h0 wx
  have hI0 : ∀ wx, Calls Tryd.prog 13 #[madeV l e, .int .i64 0] wx fun ev w' => ev = .returned (.bool false) ∧ Grow wx w' := fun wx => by
    obtain ⟨t, u, h⟩ := madeV_iface h0 l
    rw [h]; exact Is_ok t u wx
  have hP : ∀ wx, Calls Tryd.prog 10 #[madeV l e] wx fun ev w' => ∃ v, ev = .returned v ∧ OwnP w' v (l.take 64) ∧ Grow wx w' := fun wx => by
    have h := Path_made l e hm wx
    rwa [told_not _ h0] at h
  have hT : ∀ wx, Base wx → Calls Tryd.prog 11 #[madeV l e] wx fun ev w' => ev = .returned (.string (str (textOf (l.take 64) e))) ∧ Grow wx w' := fun wx hgx => by
    have h := Text_made l e ze hok hm wx hgx
    rwa [told_not _ h0] at h
  have H := (show Aside _ from And.intro hC (And.intro hI (And.intro hI0 (And.intro hP hT))))
  clear hC hI hI0 hP hT hlong hok
  obtain ⟨t, u, hX⟩ := madeV_iface h0 l
  rw [hX] at hM H
  clear hX
  have he0 : (e == 0) = false := by simpa using h0
  have hW : ∃ m, Aside (Plc w (.slice A m c) (l.take 64) ∧ (64 < l.length → m = 64) ∧ (¬ 64 < l.length → m = l.length)) := by
    by_cases h : 64 < l.length
    · exact ⟨64, HV.out.1.front 64 (by omega), fun _ => rfl, fun h' => absurd h h'⟩
    · exact ⟨l.length, by rw [List.take_of_length_le (by omega)]; exact HV.out.1, fun h' => absurd h' h, fun _ => rfl⟩
  obtain ⟨m, HW⟩ := hW
  generalize str (textOf (l.take 64) e) = S at HRT H
  clear hm
  by_cases h64 : 64 < l.length
  · obtain rfl := HW.out.2.1 h64
    have hd : decide (64 < (l.length : Int)) = true := decide_eq_true (by omega)
    go_enter Tryd.func3, Tryd.ntmps3
    go_wp2_with fail
    refine Calls.mono hL.out ?_
    rintro ev w1 ⟨rfl, rfl⟩
    go_wp2_with fail
    refine Calls.mono hM.out ?_
    rintro ev w1 ⟨rfl, hg1⟩
    have A1 := (show Aside _ from hg1)
    clear hg1
    go_wp2_with fail
    refine Calls.mono (H.out.1 _ (hg.grow A1.out)) ?_
    rintro ev w2 ⟨rfl, hg2⟩
    have A2 := (show Aside _ from Grow.trans A1.out hg2)
    clear hg2
    go_wp2_with fail
    refine Calls.mono (H.out.2.1 _) ?_
    rintro ev w3 ⟨rfl, hg3⟩
    have A3 := (show Aside _ from Grow.trans A2.out hg3)
    clear hg3
    go_wp2_with fail
    refine Calls.mono (H.out.2.2.1 _) ?_
    rintro ev w4 ⟨rfl, hg4⟩
    have A4 := (show Aside _ from Grow.trans A3.out hg4)
    clear hg4
    go_wp2_with fail
    refine Calls.mono (H.out.2.2.2.1 _) ?_
    rintro ev w5 ⟨v5, rfl, hO5, hg5⟩
    have A5 := (show Aside _ from And.intro (Grow.trans A4.out hg5) hO5.plc)
    clear hg5 hO5
    go_wp2_with fail
    refine (same_true (l.take 64) v5 _ _ A5.out.2 (HW.out.1.grow A5.out.1)).mono ?_
    rintro ev w6 ⟨rfl, hg6⟩
    have A6 := (show Aside _ from Grow.trans A5.out.1 hg6)
    clear hg6
    go_wp2_with fail
    refine Calls.mono (H.out.2.2.2.2 _ (hg.grow A6.out)) ?_
    rintro ev w7 ⟨rfl, hg7⟩
    have A7 := (show Aside _ from Grow.trans A6.out hg7)
    clear hg7
    go_wp2_with fail
    refine Calls.mono (HRT.out _ A7.out) ?_
    rintro ev w8 ⟨rfl, hg8⟩
    have A8 := (show Aside _ from Grow.trans A7.out hg8)
    clear hg8
    go_wp2_with fail
    refine (live_here w _ A8.out hg).mono ?_
    rintro ev w9 ⟨rfl, hg9⟩
    have A9 := (show Aside _ from hg9)
    clear hg9
    go_wp2_with fail
    go_ret
    exact ⟨rfl, A9.out⟩
  · obtain rfl := HW.out.2.2 h64
    have hd : decide (64 < (l.length : Int)) = false := decide_eq_false (by omega)
    go_enter Tryd.func3, Tryd.ntmps3
    go_wp2_with fail
    refine Calls.mono hL.out ?_
    rintro ev w1 ⟨rfl, rfl⟩
    go_wp2_with fail
    refine Calls.mono hM.out ?_
    rintro ev w1 ⟨rfl, hg1⟩
    have A1 := (show Aside _ from hg1)
    clear hg1
    go_wp2_with fail
    refine Calls.mono (H.out.1 _ (hg.grow A1.out)) ?_
    rintro ev w2 ⟨rfl, hg2⟩
    have A2 := (show Aside _ from Grow.trans A1.out hg2)
    clear hg2
    go_wp2_with fail
    refine Calls.mono (H.out.2.1 _) ?_
    rintro ev w3 ⟨rfl, hg3⟩
    have A3 := (show Aside _ from Grow.trans A2.out hg3)
    clear hg3
    go_wp2_with fail
    refine Calls.mono (H.out.2.2.1 _) ?_
    rintro ev w4 ⟨rfl, hg4⟩
    have A4 := (show Aside _ from Grow.trans A3.out hg4)
    clear hg4
    go_wp2_with fail
    refine Calls.mono (H.out.2.2.2.1 _) ?_
    rintro ev w5 ⟨v5, rfl, hO5, hg5⟩
    have A5 := (show Aside _ from And.intro (Grow.trans A4.out hg5) hO5.plc)
    clear hg5 hO5
    go_wp2_with fail
    refine (same_true (l.take 64) v5 _ _ A5.out.2 (HW.out.1.grow A5.out.1)).mono ?_
    rintro ev w6 ⟨rfl, hg6⟩
    have A6 := (show Aside _ from Grow.trans A5.out.1 hg6)
    clear hg6
    go_wp2_with fail
    refine Calls.mono (H.out.2.2.2.2 _ (hg.grow A6.out)) ?_
    rintro ev w7 ⟨rfl, hg7⟩
    have A7 := (show Aside _ from Grow.trans A6.out hg7)
    clear hg7
    go_wp2_with fail
    refine Calls.mono (HRT.out _ A7.out) ?_
    rintro ev w8 ⟨rfl, hg8⟩
    have A8 := (show Aside _ from Grow.trans A7.out hg8)
    clear hg8
    go_wp2_with fail
    refine (live_here w _ A8.out hg).mono ?_
    rintro ev w9 ⟨rfl, hg9⟩
    have A9 := (show Aside _ from hg9)
    clear hg9
    go_wp2_with fail
    go_ret
    exact ⟨rfl, A9.out⟩

theorem trailTells_walk (w : World) {l : PL} {v : Value} (hv : Plc w v l) (hok : Okn l) (e : Int) (ze : -9223372036854775808 ≤ e ∧ e ≤ 9223372036854775807) (hg : Base w) :
    Calls Tryd.prog 3 #[v, .int .i64 e] w fun ev w' => ev = .returned (.bool true) ∧ Grow w w' := by
  cases hlong : isLong l with
  | true => exact tells_long w l v hv hlong e hg
  | false =>
    by_cases h0 : e = 0
    · subst h0; exact tells_nil w l v hv hlong hg
    · exact tells_some w l v hv hlong (hok.okp hlong) e h0 ze hg
end Go.Proofs.YtmfgbanckehcgaaDoor
