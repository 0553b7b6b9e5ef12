/- RouteBack, walked. -/
import Derived.Test.YtfdoofkofljgnaaRtActs
import Derived.Test.YtfdoofkofljgnaaRtPure
namespace Go.Proofs.Ytfdoofkofljgnaa
set_option linter.unusedVariables false
set_option linter.unusedSimpArgs false
open Go.ChangeShapes Go.WideShapes Go.ChangeAt Go.RowKit Go.Shelf
attribute [local irreducible] wpQuiet

set_option maxRecDepth 10000 in
set_option maxHeartbeats 2000000 in
theorem routeBack_walk (w : World) {v : Value} {l : List (Bool × Rt)} (ha : Acts w v l) {u : Value} {x : Rt} (hx : u = rtV x ∧ x.Ok) :
    Calls Try.prog 4 #[v, u] w fun e w' => e = .returned (.bool true) ∧ Grow w w' := by
  obtain ⟨rfl, hok⟩ := hx
  have cL := live_any
  have cC := code_any
  have HA := Lib.hid ha
  obtain ⟨A, cp, rfl, hlc, hcm, _, _⟩ := ha
  have hcm2 : cp ≤ 9223372036854775807 := hcm
  obtain ⟨xn, xb, xv, xi, xc⟩ := x
  have HOK := Lib.hid hok
  unfold rtV
  by_cases hlen : 150 < l.length
  · have hd : decide ((150 : Int) < (l.length : Int)) = true := decide_eq_true (by omega)
    clear hok
    go_enter Try.func4, Try.ntmps4
    go_wp2_with (go_at_call 7; refine (cL _).mono ?_; rintro e w3 ⟨rfl, hg3⟩; have HG3 := Lib.hid hg3; clear hg3)
    go_ret
    exact ⟨rfl, (Grow.alloc _ _).trans HG3.out⟩
  have hd : decide ((150 : Int) < (l.length : Int)) = false := decide_eq_false (by omega)
  have hle : l.length ≤ 150 := by omega
  clear hlen hok hcm hlc
  go_enter Try.func4, Try.ntmps4
  go_wp2_with fail
  generalize hW : w.alloc (.cells #[.int .u32 xn, .int .i64 xb, .int .u32 xv, .int .i64 xi, .int .i64 xc] 32) = W
  have hG : Grow w W := by rw [← hW]; exact Grow.alloc _ _
  have hsz : w.heap.size < W.heap.size := by rw [← hW]; simp
  have RX : RtAt W w.heap.size 0 ⟨xn, xb, xv, xi, xc⟩ := by rw [← hW]; exact RtAt.new w ⟨xn, xb, xv, xi, xc⟩ _
  clear hW
  have HBX := Lib.hid (fun w1 (hg : Grow W w1) => RX.grow hg hsz)
  have HAW : Hid (Acts W (.slice A l.length cp) l) := HA.out.grow hG
  have HG := Lib.hid hG
  clear hG RX
  refine (played_any W _ l HAW.out hle).mono ?_
  rintro e w1 ⟨v1, r, rfl, hh⟩
  obtain ⟨A2, c2, rfl, hl2, hm2⟩ := hh.rts.form
  have hm22 : c2 ≤ 9223372036854775807 := hm2
  have H1 := Lib.hid hh
  clear hh hd hcm2 hle hm2
  go_wp2_with fail
  go_loopg [8] r.length (fun g s8 wr => ∃ k : Nat, k ≤ r.length ∧ g = r.length - k ∧ s8 = .int .i64 (k : Int) ∧ (∀ j (hj : j < r.length), j < k → r[j].at xn xb xc = false) ∧ Grow w1 wr)
  case atStart => exact ⟨0, Nat.zero_le _, rfl, rfl, fun j _ h => absurd h (Nat.not_lt_zero _), Grow.refl _⟩
  case round =>
    obtain ⟨k, hk, rfl, rfl, hall, hgr⟩ := hrel
    rcases Nat.lt_or_ge k r.length with hlt | hge
    · obtain ⟨b, off, rfl, hb, hc⟩ := H1.out.rts.at_ (by omega)
      obtain ⟨y0, y1, y2, y3, y4⟩ := (hc k hlt).grow hgr hb
      obtain ⟨q0, q1, q2, q3, q4⟩ := HBX.out wr (H1.out.out.trans hgr)
      simp only [Nat.zero_add] at q1 q2 q3 q4
      have HN : Hid (r[k].at xn xb xc = false → ∀ j (hj : j < r.length), j < k + 1 → r[j].at xn xb xc = false) := fun h j hj hjk => by
        rcases Nat.lt_or_ge j k with h1 | h1
        · exact hall j hj h1
        · obtain rfl : j = k := by omega
          exact h
      have A1 := Lib.hid hgr
      have hkI : (k : Int) < (r.length : Int) := by omega
      clear hc hgr hb hall
      generalize r[k] = y at *
      obtain ⟨yn, yb, yv, yi, yc⟩ := y
      simp only at y0 y1 y2 y3 y4
      by_cases hn : yn = xn
      · subst hn
        by_cases hbb : yb = xb
        · subst hbb
          by_cases hcc : yc = xc
          · subst hcc
            go_wp2_with fail
            go_quiet (fail)
            go_wp2_with (go_at_call 7; refine (cL _).mono ?_; rintro e w3 ⟨rfl, hg3⟩; have HG3 := Lib.hid hg3; clear hg3)
            go_ret
            exact ⟨rfl, ((HG.out.trans H1.out.out).trans A1.out).trans (Grow.trans (⟨rfl, rfl, rfl, Nat.le_refl _, fun _ _ => rfl⟩ : Grow wr (wr.drewN _)) HG3.out)⟩
          · have hx : Rt.at ⟨yn, yb, yv, yi, yc⟩ yn yb xc = false := Bool.eq_false_iff.2 fun h => hcc (Rt.at_iff.1 h).2.2
            have HN2 := Lib.hid (HN.out hx)
            have hdc : decide (yc = xc) = false := decide_eq_false hcc
            clear hx
            go_wp2_with fail
            go_quiet (fail)
            go_wp2_with fail
            go_roundg (r.length - (k + 1))
            case measure => omega
            case rel => exact ⟨k + 1, by omega, rfl, by go_num, HN2.out, A1.out.trans ⟨rfl, rfl, rfl, Nat.le_refl _, fun _ _ => rfl⟩⟩
        · have hx : Rt.at ⟨yn, yb, yv, yi, yc⟩ yn xb xc = false := Bool.eq_false_iff.2 fun h => hbb (Rt.at_iff.1 h).2.1
          have HN2 := Lib.hid (HN.out hx)
          have hdb : decide (yb = xb) = false := decide_eq_false hbb
          clear hx
          go_wp2_with fail
          go_quiet (fail)
          go_wp2_with fail
          go_roundg (r.length - (k + 1))
          case measure => omega
          case rel => exact ⟨k + 1, by omega, rfl, by go_num, HN2.out, A1.out.trans ⟨rfl, rfl, rfl, Nat.le_refl _, fun _ _ => rfl⟩⟩
      · have hx : Rt.at ⟨yn, yb, yv, yi, yc⟩ xn xb xc = false := Bool.eq_false_iff.2 fun h => hn (Rt.at_iff.1 h).1
        have HN2 := Lib.hid (HN.out hx)
        have hdn : decide (yn = xn) = false := decide_eq_false hn
        clear hx
        go_wp2_with fail
        go_quiet (fail)
        go_wp2_with fail
        go_roundg (r.length - (k + 1))
        case measure => omega
        case rel => exact ⟨k + 1, by omega, rfl, by go_num, HN2.out, A1.out.trans ⟨rfl, rfl, rfl, Nat.le_refl _, fun _ _ => rfl⟩⟩
    · have hkk : k = r.length := by omega
      subst hkk
      have hno : ¬ placeOf r xn xb xc < r.length := fun hp => by
        have := placeOf_at hp
        have h2 := hall _ hp hp
        rw [Rt.at_iff.2 this] at h2
        cases h2
      have HP := Lib.hid (back_pure (r := r) (x := ⟨xn, xb, xv, xi, xc⟩) hno)
      have hhr := H1.out.grow hgr
      have cA := hhr.add (Grow.refl _) ⟨xn, xb, xv, xi, xc⟩ HOK.out
      obtain ⟨q0, q1, q2, q3, q4⟩ := HBX.out wr hhr.out
      simp only [Nat.zero_add] at q1 q2 q3 q4
      clear hall hgr hhr hno hk hge
      unfold rtV at cA
      go_wp2_with fail
      refine cA.mono ?_
      clear cA q0 q1 q2 q3 q4
      rintro e w2 ⟨rfl, hh2, -⟩
      obtain ⟨q0, q1, q2, q3, q4⟩ := HBX.out w2 hh2.out
      simp only [Nat.zero_add] at q1 q2 q3 q4
      have H2 := Lib.hid hh2
      clear hh2
      go_wp2_with fail
      refine (H2.out.rem (Grow.refl _) xn xb xc ⟨HOK.out.n0, HOK.out.n1⟩).mono ?_
      clear q0 q1 q2 q3 q4
      rintro e w3 ⟨rfl, hh3, -⟩
      obtain ⟨hp1, hp2⟩ := HP.out
      try simp only at hp1 hp2
      rw [hp1] at hh3
      have H3 := Lib.hid hh3
      clear hh3 hp1
      generalize raddE r ⟨xn, xb, xv, xi, xc⟩ = ea at *
      generalize rremE (raddL r ⟨xn, xb, xv, xi, xc⟩) xn xb xc = em at *
      have cAll := H3.out.all
      rcases hp2 with ⟨rfl, rfl⟩ | ⟨rfl, rfl⟩ | ⟨rfl, rfl⟩
      all_goals
        go_wp2_with (go_at_call 15; refine (cC _ _).mono ?_; rintro e w' ⟨rfl, rfl⟩)
        refine cAll.mono ?_
        rintro e w5 ⟨v5, rfl, ho5, hg5⟩
        go_wp2_with fail
        refine (H3.out.grow hg5).rall.mono ?_
        rintro e w6 ⟨v6, rfl, hr6, hg6⟩
        go_wp2_with fail
        refine (RSame_any _ _ _ w6 (ho5.rts.grow hg6) hr6).mono ?_
        rintro e w7 ⟨rfl, hg7⟩
        have hg37 := (hg5.trans hg6).trans hg7
        have cS := (H3.out.grow hg37).size
        have H7 := Lib.hid (H3.out.grow hg37).out
        clear hg5 hg6 hg7 ho5 hr6 hg37
        go_wp2_with (first
          | (go_at_call 18; refine cS.mono ?_; rintro e w' ⟨rfl, rfl⟩)
          | (go_at_call 7; refine (cL _).mono ?_; rintro e w9 ⟨rfl, hg9⟩; have HG9 := Lib.hid hg9; clear hg9))
        go_ret
        exact ⟨rfl, (HG.out.trans H7.out).trans HG9.out⟩
end Go.Proofs.Ytfdoofkofljgnaa
