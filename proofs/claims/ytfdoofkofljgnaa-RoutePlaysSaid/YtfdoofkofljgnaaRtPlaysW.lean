/- RoutePlays, walked. -/
import Derived.Test.YtfdoofkofljgnaaRtPlayed
import Derived.Test.YtfdoofkofljgnaaGw
namespace Go.Proofs.Ytfdoofkofljgnaa
set_option linter.unusedVariables false
set_option linter.unusedSimpArgs false
open Go.ChangeShapes Go.WideShapes Go.ChangeAt Go.RowKit Go.Shelf
attribute [local irreducible] wpQuiet

set_option maxRecDepth 10000 in
set_option maxHeartbeats 2000000 in
theorem routePlays_walk (w : World) {v : Value} {l : List (Bool × Rt)} (ha : Acts w v l) (n : Int) (hn : 0 ≤ n ∧ n ≤ 4294967295) :
    Calls Try.prog 3 #[v, .int .u32 n] w fun e w' => e = .returned (.bool true) ∧ Grow w w' := by
  have cL := live_any
  have cC := code_any
  have HA := Lib.hid ha
  obtain ⟨A, cp, rfl, hlc, hcm, _, _⟩ := ha
  have hcm2 : cp ≤ 9223372036854775807 := hcm
  by_cases hlen : 150 < l.length
  · have hd : decide ((150 : Int) < (l.length : Int)) = true := decide_eq_true (by omega)
    go_enter Try.func3, Try.ntmps3
    go_wp2_with (go_at_call 7; refine (cL _).mono ?_; rintro e w3 ⟨rfl, hg3⟩; have HG3 := Lib.hid hg3; clear hg3)
    go_ret
    exact ⟨rfl, HG3.out⟩
  have hd : decide ((150 : Int) < (l.length : Int)) = false := decide_eq_false (by omega)
  have cP := played_any w _ l HA.out (by omega)
  clear hlc hcm HA hlen
  go_enter Try.func3, Try.ntmps3
  go_wp2_with fail
  refine cP.mono ?_
  clear cP
  rintro e w1 ⟨v1, r, rfl, hh⟩
  have H1 := Lib.hid hh
  clear hh
  go_wp2_with fail
  refine (H1.out.rways n hn).mono ?_
  rintro e w2 ⟨v2, rfl, hr2, hg2⟩
  have hh2 := H1.out.grow hg2
  cases hW : rwaysL r n with
  | nil =>
    rw [hW] at hr2
    obtain ⟨A2, c2, rfl, hl2, hm2⟩ := hr2.form
    have H2 := Lib.hid (And.intro hh2 hr2)
    have hm22 : c2 ≤ 9223372036854775807 := hm2
    clear hh2 hr2 hg2 hm2
    have cF := H2.out.1.find n hn
    rw [hW] at cF
    unfold findR findE rtV at cF
    go_wp2_with fail
    refine cF.mono ?_
    clear cF
    rintro e w3 ⟨rfl, hg3⟩
    have hh3 := H2.out.1.grow (hg3.trans (Grow.alloc w3 (.cells #[.int .u32 0, .int .i64 0, .int .u32 0, .int .i64 0, .int .i64 0] 32)))
    have hr3 := H2.out.2.grow (hg3.trans (Grow.alloc w3 (.cells #[.int .u32 0, .int .i64 0, .int .u32 0, .int .i64 0, .int .i64 0] 32)))
    have RX := Lib.hid (RtAt.new w3 ⟨0, 0, 0, 0, 0⟩ 32)
    have H3 := Lib.hid (And.intro hh3 hr3)
    clear hg3 hh3 hr3 H1
    go_wp2_with fail
    refine H3.out.1.all.mono ?_
    rintro e w5 ⟨v5, rfl, ho5, hg5⟩
    go_wp2_with fail
    refine (H3.out.1.grow hg5).rall.mono ?_
    rintro e w6 ⟨v6, rfl, hr6, hg6⟩
    go_wp2_with fail
    refine (RSame_any _ _ _ w6 (ho5.rts.grow hg6) hr6).mono ?_
    rintro e w7 ⟨rfl, hg7⟩
    have hg37 := (hg5.trans hg6).trans hg7
    clear hg5 hg6 hg7 ho5 hr6
    have H7 := Lib.hid hg37
    clear hg37
    go_wp2_with fail
    refine ((H3.out.1.grow H7.out).ways n hn).mono ?_
    rintro e w8 ⟨v8, rfl, ho8, hg8⟩
    rw [hW] at ho8
    go_wp2_with fail
    refine (RSame_any _ _ _ w8 ho8.rts ((H3.out.2.grow H7.out).grow hg8)).mono ?_
    rintro e w9 ⟨rfl, hg9⟩
    have hg39 := (H7.out.trans hg8).trans hg9
    obtain ⟨q0, q1, q2, q3, q4⟩ := RX.out.grow hg39 (by simp)
    simp only [Nat.zero_add] at q0 q1 q2 q3 q4
    have H9 := Lib.hid (H3.out.1.grow hg39).out
    clear hg39 hg8 hg9 ho8
    go_wp2_with (first
      | (go_at_call 15; refine (cC _ _).mono ?_; rintro e w' ⟨rfl, rfl⟩)
      | (go_at_call 7; refine (cL _).mono ?_; rintro e w3 ⟨rfl, hg3⟩; have HG3 := Lib.hid hg3; clear hg3))
    go_ret
    exact ⟨rfl, H9.out.trans HG3.out⟩
  | cons y ys =>
    rw [hW] at hr2
    obtain ⟨A2, c2, rfl, hl2, hm2⟩ := hr2.form
    obtain ⟨b, off, rfl, hb, hc⟩ := hr2.at_ (by simp)
    have hy := hc 0 (by simp)
    have H2 := Lib.hid (And.intro hh2 hr2)
    have hm22 : c2 ≤ 9223372036854775807 := hm2
    have hne : decide (((y :: ys).length : Int) = 0) = false := decide_eq_false (by simp; omega)
    have hpos : (0 : Int) < ((y :: ys).length : Int) := by simp
    clear hh2 hr2 hg2 hm2 hc
    have cF := H2.out.1.find n hn
    rw [hW] at cF
    have HY := Lib.hid (fun w1 (hg : Grow w2 w1) => RtAt.grow hy hg hb)
    obtain ⟨b2, hb2⟩ : ∃ b2, b2 = b := ⟨_, rfl⟩
    have HB := Lib.hid hb
    have hposN : 0 < (y :: ys).length := by simp
    generalize hNN : (y :: ys).length = N at *
    unfold findR findE at cF
    simp only at cF
    simp only [List.getElem_cons_zero] at HY
    clear hy
    obtain ⟨xn, xb, xv, xi, xc⟩ := y
    unfold rtV at cF
    go_wp2_with fail
    refine cF.mono ?_
    clear cF
    rintro e w3 ⟨rfl, hg3⟩
    have hg4 := hg3.trans (Grow.alloc w3 (.cells #[.int .u32 xn, .int .i64 xb, .int .u32 xv, .int .i64 xi, .int .i64 xc] 32))
    have hh3 := H2.out.1.grow hg4
    have hr3 := H2.out.2.grow hg4
    have RX := Lib.hid (RtAt.new w3 ⟨xn, xb, xv, xi, xc⟩ 32)
    have H3 := Lib.hid (And.intro hg4 (And.intro hh3 hr3))
    clear hg3 hh3 hr3 hg4 H1
    go_wp2_with fail
    refine H3.out.2.1.all.mono ?_
    rintro e w5 ⟨v5, rfl, ho5, hg5⟩
    go_wp2_with fail
    refine (H3.out.2.1.grow hg5).rall.mono ?_
    rintro e w6 ⟨v6, rfl, hr6, hg6⟩
    go_wp2_with fail
    refine (RSame_any _ _ _ w6 (ho5.rts.grow hg6) hr6).mono ?_
    rintro e w7 ⟨rfl, hg7⟩
    have hg37 := (hg5.trans hg6).trans hg7
    clear hg5 hg6 hg7 ho5 hr6
    have H7 := Lib.hid hg37
    clear hg37
    go_wp2_with fail
    refine ((H3.out.2.1.grow H7.out).ways n hn).mono ?_
    rintro e w8 ⟨v8, rfl, ho8, hg8⟩
    rw [hW] at ho8
    go_wp2_with fail
    refine (RSame_any _ _ _ w8 ho8.rts ((H3.out.2.2.grow H7.out).grow hg8)).mono ?_
    rintro e w9 ⟨rfl, hg9⟩
    have hg39 := (H7.out.trans hg8).trans hg9
    have hs3 : w3.heap.size < w9.heap.size := Nat.lt_of_lt_of_le (by simp) hg39.size
    obtain ⟨q0, q1, q2, q3, q4⟩ := RX.out.grow hg39 (by simp)
    simp only [Nat.zero_add] at q0 q1 q2 q3 q4
    obtain ⟨y0, y1, y2, y3, y4⟩ := HY.out w9 (H3.out.1.trans hg39)
    have hbs : b < w9.heap.size := Nat.lt_of_lt_of_le HB.out (H3.out.1.trans hg39).size
    simp only [Nat.zero_mul, Nat.add_zero] at y0 y1 y2 y3 y4
    have H9 := Lib.hid (H3.out.2.1.grow hg39).out
    clear hg39 hg8 hg9 ho8
    have c0 := fun p : Gw w9 => Gw.cell (a := ⟨w3.heap.size, 0, none⟩) hs3 q0 p
    have c1 := fun p : Gw w9 => Gw.cell (a := ⟨w3.heap.size, 1, none⟩) hs3 q1 p
    have c2' := fun p : Gw w9 => Gw.cell (a := ⟨w3.heap.size, 2, none⟩) hs3 q2 p
    have c3 := fun p : Gw w9 => Gw.cell (a := ⟨w3.heap.size, 3, none⟩) hs3 q3 p
    have c4 := fun p : Gw w9 => Gw.cell (a := ⟨w3.heap.size, 4, none⟩) hs3 q4 p
    have d0 := fun p : Gw w9 => Gw.cell (a := ⟨b, off, none⟩) hbs y0 p
    have d1 := fun p : Gw w9 => Gw.cell (a := ⟨b, off + 1, none⟩) hbs y1 p
    have d2 := fun p : Gw w9 => Gw.cell (a := ⟨b, off + 2, none⟩) hbs y2 p
    have d3 := fun p : Gw w9 => Gw.cell (a := ⟨b, off + 3, none⟩) hbs y3 p
    have d4 := fun p : Gw w9 => Gw.cell (a := ⟨b, off + 4, none⟩) hbs y4 p
    have cCg : ∀ p : Gw w9, Calls Try.prog 15 #[.int .i64 0] p.v fun e w' => e = .returned (.int .i64 0) ∧ ∃ q : Gw w9, w' = q.v := fun p => Calls.gw ((cC 0 p.v).mono fun _ _ ⟨he, h⟩ => ⟨he, by rw [h]; exact Grow.refl _⟩)
    have cLg : ∀ p : Gw w9, Calls Try.prog 7 #[] p.v fun e w' => e = .returned (.bool true) ∧ ∃ q : Gw w9, w' = q.v := fun p => Calls.gw (cL p.v)
    clear q0 q1 q2 q3 q4 y0 y1 y2 y3 y4
    go_wp2_with fail
    refine wp_region_gw (by kernel_rfl) (by kernel_rfl) ?_
    repeat (quiet_step (first | (go_at_call 15; exact cCg _) | (go_at_call 7; exact cLg _)))
    refine wpQuiet_nil ?_
    intro _ hw'
    obtain ⟨⟨wq, hgq⟩, hw2⟩ := hw'
    subst hw2
    go_wp2_with fail
    go_ret
    exact ⟨rfl, H9.out.trans hgq⟩
end Go.Proofs.Ytfdoofkofljgnaa
