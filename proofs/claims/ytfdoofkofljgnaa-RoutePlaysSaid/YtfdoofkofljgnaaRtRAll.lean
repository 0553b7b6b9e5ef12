/- The reference's All. -/
import Derived.Test.YtfdoofkofljgnaaRtPut
import Derived.Test.YtfdoofkofljgnaaGw
namespace Go.Proofs.Ytfdoofkofljgnaa
set_option linter.unusedVariables false
set_option linter.unusedSimpArgs false
open Go.ChangeShapes Go.WideShapes Go.ChangeAt Go.RowKit Go.Shelf

theorem insAll_take {p : Rt → Rt → Bool} {l : List Rt} {k : Nat} (hk : k < l.length) : insAll p (l.take (k + 1)) = insBy p (insAll p (l.take k)) l[k] := by
  rw [List.take_succ_eq_append_getElem hk, insAll_snoc]

set_option maxRecDepth 10000 in
set_option maxHeartbeats 4000000 in
theorem RAll_any (w : World) (v : Value) (l : List Rt) (hv : Rts w v l) (hlen : l.length ≤ 100000) :
    Calls Try.prog 13 #[v] w fun e w' => ∃ v', e = .returned v' ∧ Rts w' v' (rallL l) ∧ Grow w w' := by
  obtain ⟨A, cp, rfl, hlc, hcm⟩ := hv.form
  have hcm2 : l.length ≤ 9223372036854775807 := Nat.le_trans hlc hcm
  have HV := Lib.hid hv
  clear hv
  go_enter Try.func13, Try.ntmps13
  go_wp2_with fail
  go_loopg [3, 4] l.length (fun g s3 s4 wr => ∃ k : Nat, k ≤ l.length ∧ g = l.length - k ∧ s4 = .int .i64 (k : Int) ∧ Rts wr s3 (insAll risesB (l.take k)) ∧ Grow w wr)
  case atStart => exact ⟨0, Nat.zero_le _, rfl, rfl, Rts.nil _, Grow.refl _⟩
  case round =>
    obtain ⟨k, hk, rfl, rfl, ho, hgr⟩ := hrel
    rcases Nat.lt_or_ge k l.length with hlt | hge
    · obtain ⟨W1, rfl⟩ : ∃ W1, W1 = wr := ⟨_, rfl⟩
      have hol : (insAll risesB (l.take k)).length = k := by rw [length_insAll, List.length_take]; omega
      have hins := insAll_take (p := risesB) hlt
      obtain ⟨A2, c2, hs3, hl2, hm2⟩ := ho.form
      subst hs3
      obtain ⟨b, off, rfl, hb, hcell⟩ := HV.out.at_ (by omega)
      have RX : RtAt W1 b (off + k * 5) l[k] := (hcell k hlt).grow hgr hb
      have hbW : b < W1.heap.size := Nat.lt_of_lt_of_le hb hgr.size
      rw [hol] at hl2 ho ⊢
      generalize hx : l[k] = x at *
      generalize hO : insAll risesB (l.take k) = O at *
      have HZ := Lib.hid (And.intro hgr (And.intro hins (And.intro hol (And.intro hx hO))))
      have HR := Lib.hid (fun (y : Rt) w => rises_any y x w)
      have HP := Lib.hid (fun w1 (hg : Grow W1 w1) t (ht : t ≤ k) => put_any w1 (.slice A2 k c2) O (ho.grow hg) (by omega) t (by omega) x)
      have HOo := Lib.hid ho
      clear hgr hins hcell hx hO ho hb
      obtain ⟨xn, xb, xv, xi, xc⟩ := x
      have hltI : (k : Int) < (l.length : Int) := by omega
      go_wp2_with fail
      go_loopg [5] k (fun g s5 wr => ∃ t : Nat, t ≤ k ∧ g = k - t ∧ s5 = .int .i64 (t : Int) ∧ (∀ j (hj : j < O.length), j < t → risesB O[j] ⟨xn, xb, xv, xi, xc⟩ = true) ∧ Grow W1 wr)
      case atStart => exact ⟨0, Nat.zero_le _, rfl, rfl, fun j hj h => by omega, Grow.refl _⟩
      case round =>
        obtain ⟨t, ht, rfl, rfl, hall, hg2⟩ := hrel
        have RX2 := RX.grow hg2 hbW
        have HFIN : Hid ((∀ h : t < O.length, risesB O[t] ⟨xn, xb, xv, xi, xc⟩ = false) → insBy risesB O ⟨xn, xb, xv, xi, xc⟩ = O.take t ++ ⟨xn, xb, xv, xi, xc⟩ :: O.drop t) := fun h => insBy_at risesB _ O t (by omega) hall h
        rcases Nat.lt_or_ge t k with htl | htg
        · obtain ⟨b2, off2, rfl, hb2, hcell2⟩ := HOo.out.at_ (by omega)
          have RY := (hcell2 t (by omega)).grow hg2 hb2
          have hb2' : b2 < wr.heap.size := Nat.lt_of_lt_of_le hb2 hg2.size
          have hb1' : b < wr.heap.size := Nat.lt_of_lt_of_le hbW hg2.size
          have hcall := HR.out O[t]
          have hnx : risesB O[t] ⟨xn, xb, xv, xi, xc⟩ = true → ∀ j (hj : j < O.length), j < t + 1 → risesB O[j] ⟨xn, xb, xv, xi, xc⟩ = true := fun h j hj hjt => by
            rcases Nat.lt_or_ge j t with h1 | h1
            · exact hall j hj h1
            · obtain rfl : j = t := by omega
              exact h
          have HN := Lib.hid hnx
          have HA := Lib.hid (And.intro hall hg2)
          clear hall hg2 hnx hcell2 hb2
          have hstop : risesB O[t] ⟨xn, xb, xv, xi, xc⟩ = false → ∀ h : t < O.length, risesB O[t] ⟨xn, xb, xv, xi, xc⟩ = false := fun h _ => h
          generalize hy : O[t] = y at *
          clear hy
          have c0 := fun p : Gw wr => (RX2.gw hb1' p).1
          have c1 := fun p : Gw wr => (RX2.gw hb1' p).2.1
          have c2' := fun p : Gw wr => (RX2.gw hb1' p).2.2.1
          have c3 := fun p : Gw wr => (RX2.gw hb1' p).2.2.2.1
          have c4 := fun p : Gw wr => (RX2.gw hb1' p).2.2.2.2
          have d0 := fun p : Gw wr => (RY.gw hb2' p).1
          have d1 := fun p : Gw wr => (RY.gw hb2' p).2.1
          have d2 := fun p : Gw wr => (RY.gw hb2' p).2.2.1
          have d3 := fun p : Gw wr => (RY.gw hb2' p).2.2.2.1
          have d4 := fun p : Gw wr => (RY.gw hb2' p).2.2.2.2
          have HRX := Lib.hid RX2
          clear RX2 RY
          obtain ⟨yn, yb, yv, yi, yc⟩ := y
          have htI : (t : Int) < (k : Int) := by omega
          cases hr : risesB ⟨yn, yb, yv, yi, yc⟩ ⟨xn, xb, xv, xi, xc⟩ with
          | true =>
            have HNN := Lib.hid (HN.out hr)
            rw [hr] at hcall
            clear hstop hr
            unfold rtV at hcall
            go_wp2_with fail
            refine wp_region_gw (by kernel_rfl) (by kernel_rfl) ?_
            repeat (quiet_step ((go_at_call 26; exact Calls.gw (hcall _))))
            refine wpQuiet_nil ?_
            intro _ hw'
            obtain ⟨⟨wq, hgq⟩, hw2⟩ := hw'
            subst hw2
            go_wp2_with fail
            go_roundg (k - (t + 1))
            case measure => omega
            case rel => exact ⟨t + 1, by omega, rfl, by go_num, HNN.out, HA.out.2.trans hgq⟩
          | false =>
            have hin := HFIN.out (hstop hr)
            rw [hr] at hcall
            clear hstop hr
            unfold rtV at hcall
            have HI := Lib.hid hin
            clear hin
            go_wp2_with fail
            refine wp_region_gw (by kernel_rfl) (by kernel_rfl) ?_
            repeat (quiet_step ((go_at_call 26; exact Calls.gw (hcall _))))
            refine wpQuiet_nil ?_
            intro _ hw'
            obtain ⟨⟨wq, hgq⟩, hw2⟩ := hw'
            subst hw2
            have hp := HP.out _ (HA.out.2.trans hgq) t (by omega)
            obtain ⟨e0, e1, e2, e3, e4⟩ := HRX.out.grow hgq hb1'
            clear c0 c1 c2' c3 c4 d0 d1 d2 d3 d4
            unfold rtV at hp
            go_wp2_with (go_at_call 24; refine hp.mono ?_; rintro e w3 ⟨v3, rfl, ho3, hg3⟩; have H3 := Lib.hid (And.intro ho3 hg3); clear ho3 hg3)
            obtain ⟨hgr, hins, _, _, _⟩ := HZ.out
            go_roundg (l.length - (k + 1))
            case measure => omega
            case rel => exact ⟨k + 1, by omega, rfl, by go_num, by rw [hins, HI.out]; exact H3.out.1.rts, ((hgr.trans HA.out.2).trans hgq).trans H3.out.2⟩
        · obtain rfl : t = k := by omega
          have hin := HFIN.out fun h => by omega
          have HI := Lib.hid hin
          have HA := Lib.hid hg2
          have hp := HP.out _ (hg2.trans (Grow.drew _)) t (Nat.le_refl _)
          have hb1' : b < wr.heap.size := Nat.lt_of_lt_of_le hbW hg2.size
          obtain ⟨e0, e1, e2, e3, e4⟩ := RX2.grow (Grow.drew wr) hb1'
          clear hin hall hg2 RX2 ht htg
          unfold rtV at hp
          go_wp2_with fail
          go_region
          all_goals
            go_wp2_with (go_at_call 24; refine hp.mono ?_; rintro e w3 ⟨v3, rfl, ho3, hg3⟩; have H3 := Lib.hid (And.intro ho3 hg3); clear ho3 hg3)
            obtain ⟨hgr, hins, _, _, _⟩ := HZ.out
            go_roundg (l.length - (t + 1))
            case measure => omega
            case rel => exact ⟨t + 1, by omega, rfl, by go_num, by rw [hins, HI.out]; exact H3.out.1.rts, ((hgr.trans HA.out).trans (Grow.drew _)).trans H3.out.2⟩
    · obtain rfl : k = l.length := by omega
      rw [List.take_length] at ho
      have A1 := Lib.hid (And.intro ho hgr)
      clear ho hgr
      go_wp2_with fail
      go_ret
      exact ⟨_, rfl, A1.out⟩
end Go.Proofs.Ytfdoofkofljgnaa
