/- The reference's Ways. -/
import Derived.Test.YtfdoofkofljgnaaRtRAll
namespace Go.Proofs.Ytfdoofkofljgnaa
set_option linter.unusedVariables false
set_option linter.unusedSimpArgs false
open Go.ChangeShapes Go.WideShapes Go.ChangeAt Go.RowKit Go.Shelf

theorem to_yes {l : List Rt} {a : Int} {k : Nat} (hk : k < l.length) (h : netOf a l[k].bits = l[k].net) : to_ (l.take (k + 1)) a = to_ (l.take k) a ++ [l[k]] := by
  unfold to_
  rw [List.take_succ_eq_append_getElem hk, List.filter_append]
  simp [h]
theorem to_not {l : List Rt} {a : Int} {k : Nat} (hk : k < l.length) (h : ¬ netOf a l[k].bits = l[k].net) : to_ (l.take (k + 1)) a = to_ (l.take k) a := by
  unfold to_
  rw [List.take_succ_eq_append_getElem hk, List.filter_append]
  simp [h]

set_option maxRecDepth 10000 in
set_option maxHeartbeats 4000000 in
theorem RWays_any (w : World) (v : Value) (l : List Rt) (hv : Rts w v l) (hlen : l.length ≤ 100000) (hbt : ∀ y ∈ l, 0 ≤ y.bits ∧ y.bits ≤ 32) (a : Int) (ha : 0 ≤ a ∧ a ≤ 4294967295) :
    Calls Try.prog 9 #[v, .int .u32 a] w fun e w' => ∃ v', e = .returned v' ∧ Rts w' v' (rwaysL l a) ∧ Grow w w' := by
  obtain ⟨A, cp, rfl, hlc, hcm⟩ := hv.form
  have hcm2 : l.length ≤ 9223372036854775807 := Nat.le_trans hlc hcm
  have HV := Lib.hid hv
  clear hv
  go_enter Try.func9, Try.ntmps9
  go_wp2_with fail
  go_loopg [5, 6] l.length (fun g s3 s4 wr => ∃ k : Nat, k ≤ l.length ∧ g = l.length - k ∧ s4 = .int .i64 (k : Int) ∧ Rts wr s3 (insAll narrowB (to_ (l.take k) a)) ∧ Grow w wr)
  case atStart => exact ⟨0, Nat.zero_le _, rfl, rfl, Rts.nil _, Grow.refl _⟩
  case round =>
    obtain ⟨k, hk, rfl, rfl, ho, hgr⟩ := hrel
    rcases Nat.lt_or_ge k l.length with hlt | hge
    · obtain ⟨W1, rfl⟩ : ∃ W1, W1 = wr := ⟨_, rfl⟩
      have hol : (insAll narrowB (to_ (l.take k) a)).length ≤ k := by
        rw [length_insAll]
        unfold to_
        exact Nat.le_trans (List.length_filter_le _ _) (by rw [List.length_take]; omega)
      have hins := fun h => (congrArg (insAll narrowB) (to_yes (a := a) hlt h)).trans (insAll_snoc _ _ _)
      have hins2 := fun h => congrArg (insAll narrowB) (to_not (a := a) hlt h)
      have hbit := hbt _ (List.getElem_mem hlt)
      obtain ⟨A2, c2, hs3, hl2, hm2⟩ := ho.form
      subst hs3
      obtain ⟨b, off, rfl, hb, hcell⟩ := HV.out.at_ (by omega)
      have RX : RtAt W1 b (off + k * 5) l[k] := (hcell k hlt).grow hgr hb
      have hbW : b < W1.heap.size := Nat.lt_of_lt_of_le hb hgr.size
      generalize hx : l[k] = x at *
      generalize hO : insAll narrowB (to_ (l.take k) a) = O at *
      generalize hq : O.length = q at *
      have HR := Lib.hid (fun (y : Rt) w => narrow_any y x w)
      have HP := Lib.hid (fun w1 (hg : Grow W1 w1) t (ht : t ≤ q) => put_any w1 (.slice A2 q c2) O (ho.grow hg) (by omega) t (by omega) x)
      have HZ := Lib.hid (And.intro hgr (And.intro hins (And.intro hins2 hol)))
      have HOo := Lib.hid ho
      have HQ := Lib.hid hq
      clear hgr hins hins2 hcell hx hO ho hb hq
      obtain ⟨xn, xb, xv, xi, xc⟩ := x
      have hbit' : 0 ≤ xb ∧ xb ≤ 32 := hbit
      have cN := fun w => RNet_any a xb ha hbit' w
      have hltI : (k : Int) < (l.length : Int) := by omega
      have r0 := fun p : Gw W1 => (RX.gw hbW p).1
      have r1 := fun p : Gw W1 => (RX.gw hbW p).2.1
      have HRX1 := Lib.hid RX
      have hcg : ∀ p : Gw W1, Calls Try.prog 22 #[.int .u32 a, .int .i64 xb] p.v fun e w' => e = .returned (.int .u32 (netOf a xb)) ∧ ∃ q : Gw W1, w' = q.v := fun p => Calls.gw ((cN p.v).mono fun _ _ ⟨he, m, hm⟩ => ⟨he, by rw [hm]; exact ⟨rfl, rfl, rfl, Nat.le_refl _, fun _ _ => rfl⟩⟩)
      clear hbit hbit' cN
      generalize hNN : netOf a xb = NN at *
      have HNN := Lib.hid hNN
      clear hNN
      clear RX
      by_cases hmt : NN = xn
      rotate_left
      · have hne : (NN == xn) = false := by simpa using hmt
        have HM := Lib.hid hmt
        clear hmt
        go_wp2_with fail
        refine wp_region_gw (by kernel_rfl) (by kernel_rfl) ?_
        repeat (quiet_step ((go_at_call 22; exact hcg _)))
        refine wpQuiet_nil ?_
        intro _ hw'
        obtain ⟨⟨wq0, hgq0⟩, hw2⟩ := hw'
        subst hw2
        go_wp2_with fail
        obtain ⟨hgr, hins, hins2, hol⟩ := HZ.out
        go_roundg (l.length - (k + 1))
        case measure => omega
        case rel => exact ⟨k + 1, by omega, rfl, by go_num, by rw [hins2 HM.out]; exact HOo.out.grow hgq0, hgr.trans hgq0⟩
      subst hmt
      have HM : Hid (NN = NN) := rfl
      go_wp2_with fail
      refine wp_region_gw (by kernel_rfl) (by kernel_rfl) ?_
      repeat (quiet_step ((go_at_call 22; exact hcg _)))
      refine wpQuiet_nil ?_
      intro W2 hw'
      obtain ⟨⟨wq0, hgq0⟩, hw2⟩ := hw'
      subst hw2
      have RX := HRX1.out.grow hgq0 hbW
      have HG0 := Lib.hid hgq0
      have hbW2 : b < W2.heap.size := Nat.lt_of_lt_of_le hbW hgq0.size
      clear hgq0 r0 r1 hcg
      go_wp2_with fail
      go_loopg [7] q (fun g s5 wr => ∃ t : Nat, t ≤ q ∧ g = q - t ∧ s5 = .int .i64 (t : Int) ∧ (∀ j (hj : j < O.length), j < t → narrowB O[j] ⟨NN, xb, xv, xi, xc⟩ = true) ∧ Grow W2 wr)
      case atStart => exact ⟨0, Nat.zero_le _, rfl, rfl, fun j hj h => by omega, Grow.refl _⟩
      case round =>
        obtain ⟨t, ht, rfl, rfl, hall, hg2⟩ := hrel
        have RX2 := RX.grow hg2 hbW2
        have HFIN : Hid ((∀ h : t < O.length, narrowB O[t] ⟨NN, xb, xv, xi, xc⟩ = false) → insBy narrowB O ⟨NN, xb, xv, xi, xc⟩ = O.take t ++ ⟨NN, xb, xv, xi, xc⟩ :: O.drop t) := fun h => insBy_at narrowB _ O t (by have := HQ.out; omega) hall h
        rcases Nat.lt_or_ge t q with htl | htg
        · obtain ⟨b2, off2, rfl, hb2, hcell2⟩ := HOo.out.at_ (by omega)
          have hQt : t < O.length := by have := HQ.out; omega
          have RY := (hcell2 t hQt).grow (HG0.out.trans hg2) hb2
          have hb2' : b2 < wr.heap.size := Nat.lt_of_lt_of_le hb2 (HG0.out.trans hg2).size
          have hb1' : b < wr.heap.size := Nat.lt_of_lt_of_le hbW2 hg2.size
          have hcall := HR.out O[t]
          have hnx : narrowB O[t] ⟨NN, xb, xv, xi, xc⟩ = true → ∀ j (hj : j < O.length), j < t + 1 → narrowB O[j] ⟨NN, xb, xv, xi, xc⟩ = true := fun h j hj hjt => by
            rcases Nat.lt_or_ge j t with h1 | h1
            · exact hall j hj h1
            · obtain rfl : j = t := by omega
              exact h
          have HN := Lib.hid hnx
          have HA := Lib.hid (And.intro hall hg2)
          clear hall hg2 hnx hcell2 hb2
          have hstop : narrowB O[t] ⟨NN, xb, xv, xi, xc⟩ = false → ∀ h : t < O.length, narrowB O[t] ⟨NN, xb, xv, xi, xc⟩ = false := fun h _ => h
          generalize hy : O[t] = y at *
          clear hy
          have c0 := fun p : Gw wr => (RX2.gw hb1' p).1
          have c1 := fun p : Gw wr => (RX2.gw hb1' p).2.1
          have c2' := fun p : Gw wr => (RX2.gw hb1' p).2.2.1
          have c3 := fun p : Gw wr => (RX2.gw hb1' p).2.2.2.1
          have c4 := fun p : Gw wr => (RX2.gw hb1' p).2.2.2.2
          have d0 := fun p : Gw wr => (RY.gw hb2' p).1
          have d1 := fun p : Gw wr => (RY.gw hb2' p).2.1
          have d2 := fun p : Gw wr => (RY.gw hb2' p).2.2.1
          have d3 := fun p : Gw wr => (RY.gw hb2' p).2.2.2.1
          have d4 := fun p : Gw wr => (RY.gw hb2' p).2.2.2.2
          have HRX := Lib.hid RX2
          clear RX2 RY
          obtain ⟨yn, yb, yv, yi, yc⟩ := y
          have htI : (t : Int) < (q : Int) := by omega
          cases hr : narrowB ⟨yn, yb, yv, yi, yc⟩ ⟨NN, xb, xv, xi, xc⟩ with
          | true =>
            have HNN := Lib.hid (HN.out hr)
            rw [hr] at hcall
            clear hstop hr
            unfold rtV at hcall
            go_wp2_with fail
            refine wp_region_gw (by kernel_rfl) (by kernel_rfl) ?_
            repeat (quiet_step ((go_at_call 23; exact Calls.gw (hcall _))))
            refine wpQuiet_nil ?_
            intro _ hw'
            obtain ⟨⟨wq, hgq⟩, hw2⟩ := hw'
            subst hw2
            go_wp2_with fail
            go_roundg (q - (t + 1))
            case measure => omega
            case rel => exact ⟨t + 1, by omega, rfl, by go_num, HNN.out, HA.out.2.trans hgq⟩
          | false =>
            have hin := HFIN.out (hstop hr)
            rw [hr] at hcall
            clear hstop hr
            unfold rtV at hcall
            have HI := Lib.hid hin
            clear hin
            go_wp2_with fail
            refine wp_region_gw (by kernel_rfl) (by kernel_rfl) ?_
            repeat (quiet_step ((go_at_call 23; exact Calls.gw (hcall _))))
            refine wpQuiet_nil ?_
            intro _ hw'
            obtain ⟨⟨wq, hgq⟩, hw2⟩ := hw'
            subst hw2
            have hp := HP.out _ ((HG0.out.trans HA.out.2).trans hgq) t (by omega)
            obtain ⟨e0, e1, e2, e3, e4⟩ := HRX.out.grow hgq hb1'
            clear c0 c1 c2' c3 c4 d0 d1 d2 d3 d4
            unfold rtV at hp
            go_wp2_with (go_at_call 24; refine hp.mono ?_; rintro e w3 ⟨v3, rfl, ho3, hg3⟩; have H3 := Lib.hid (And.intro ho3 hg3); clear ho3 hg3)
            obtain ⟨hgr, hins, _, _⟩ := HZ.out
            go_roundg (l.length - (k + 1))
            case measure => omega
            case rel => exact ⟨k + 1, by omega, rfl, by go_num, by rw [hins HM.out]; show Rts w3 v3 (insBy narrowB O _); rw [HI.out]; exact H3.out.1.rts, (((hgr.trans HG0.out).trans HA.out.2).trans hgq).trans H3.out.2⟩
        · obtain rfl : t = q := by omega
          have hin := HFIN.out fun h => by have := HQ.out; omega
          have HI := Lib.hid hin
          have HA := Lib.hid hg2
          have hp := HP.out _ ((HG0.out.trans hg2).trans (Grow.drew _)) t (Nat.le_refl _)
          have hb1' : b < wr.heap.size := Nat.lt_of_lt_of_le hbW2 hg2.size
          obtain ⟨e0, e1, e2, e3, e4⟩ := RX2.grow (Grow.drew wr) hb1'
          clear hin hall hg2 RX2 ht htg
          unfold rtV at hp
          go_wp2_with fail
          go_region
          all_goals
            go_wp2_with (go_at_call 24; refine hp.mono ?_; rintro e w3 ⟨v3, rfl, ho3, hg3⟩; have H3 := Lib.hid (And.intro ho3 hg3); clear ho3 hg3)
            obtain ⟨hgr, hins, _, _⟩ := HZ.out
            go_roundg (l.length - (k + 1))
            case measure => omega
            case rel => exact ⟨k + 1, by omega, rfl, by go_num, by rw [hins HM.out]; show Rts w3 v3 (insBy narrowB O _); rw [HI.out]; exact H3.out.1.rts, (((hgr.trans HG0.out).trans HA.out).trans (Grow.drew _)).trans H3.out.2⟩
    · obtain rfl : k = l.length := by omega
      rw [List.take_length] at ho
      have A1 := Lib.hid (And.intro ho hgr)
      clear ho hgr
      go_wp2_with fail
      go_ret
      exact ⟨_, rfl, A1.out⟩
end Go.Proofs.Ytfdoofkofljgnaa
