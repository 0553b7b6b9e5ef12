/- Contract: the reference's State. -/
import Derived.Test.YtkambcjinidomaaBpRef1
namespace Go.Proofs.Ytkambcjinidomaa
set_option linter.unusedVariables false
set_option linter.unusedSimpArgs false
open Go.ChangeShapes Go.WideShapes Go.ChangeAt Go.RowKit

theorem PlC.len_fr {w : World} {base : Nat} {cs : Array Value} {p : Pls} (hp : POk p) {k : Nat} (hk : k < 16) : (p k).fr.length ≤ 1000000 ∧ (p k).out.length ≤ 1000000 := by
  have := (hp k hk).len
  omega
set_option maxRecDepth 10000 in
set_option maxHeartbeats 1000000 in
theorem rStateB (w : World) (base : Nat) (v : Value) (p : Pls) (h : RPl w base v p) (hp : POk p) (g x : Int) : Calls Try.prog 18 #[v, .int .i64 g, .int .i64 x] w fun e w' => e = .returned (.int .i64 (stS p g x)) ∧ Grow w w' := by
  obtain ⟨cs, rfl, hc⟩ := h
  obtain ⟨W, hW⟩ : ∃ W, W = w.alloc (.cells cs 30) := ⟨_, rfl⟩
  have g1 : Grow w W := by rw [hW]; exact Grow.alloc _ _
  have hb : PlBlk W w.heap.size cs := by rw [hW]; exact heap_alloc_new w _
  have G1 := Lib.hid g1
  by_cases hg : Bad g
  · have HE : Hid (stS p g x = 0) := if_pos hg
    unfold Bad at hg
    have d0 : g < 0 ∨ 15 < g := hg
    clear hc hb g1 hg
    rcases d0 with d | d
    · have d1 : decide (g < 0) = true := decide_eq_true d
      go_enter Try.func18, Try.ntmps18
      go_upto_region 1 with fail
      rw [← hW]
      have HW := Lib.hid hW
      clear hW
      go_wp2_with fail
      go_ret
      exact ⟨by rw [HE.out]; rfl, G1.out⟩
    · have d1 : decide (g < 0) = false := decide_eq_false (by omega)
      have d2 : decide (15 < g) = true := decide_eq_true d
      go_enter Try.func18, Try.ntmps18
      go_upto_region 1 with fail
      rw [← hW]
      have HW := Lib.hid hW
      clear hW
      go_wp2_with fail
      go_ret
      exact ⟨by rw [HE.out]; rfl, G1.out⟩
  · obtain ⟨k, rfl, hk, hk2⟩ := bad_nat hg
    obtain ⟨a, b, e1, e2, h3, h4⟩ := hc.at_ k hk
    have l1 := (PlC.len_fr (w := w) (base := base) (cs := cs) hp hk).1
    have l2 := (PlC.len_fr (w := w) (base := base) (cs := cs) hp hk).2
    have c1 := hb.cell (k * 2)
    rw [e1] at c1
    have c2 := hb.cell (k * 2 + 1)
    rw [e2] at c2
    have d1 : decide ((k : Int) < 0) = false := decide_eq_false (by omega)
    have d2 : decide (15 < (k : Int)) = false := decide_eq_false (by omega)
    have d3 : (k : Int) < 16 := by omega
    have d4 : k < 16 := hk
    have hst : stS p k x = if Hasb (p k).fr x then 1 else if Hasb (p k).out x then 2 else 0 := by
      unfold stS
      rw [if_neg hg, hk2]
    by_cases q1 : Hasb (p k).fr x
    · have HE : Hid (stS p k x = 1) := hst.trans (if_pos q1)
      have C1 := rPlcB_any W a _ (h3.rd.grow g1) l1 x _ (posB_has q1)
      obtain ⟨A, cp, rfl, _⟩ := h3.rd.form
      generalize (p k).fr.length = n1 at *
      have z0 : (0 : Int) ≤ (ix (p k).fr x : Int) := by omega
      generalize (ix (p k).fr x : Int) = z at *
      clear hc hb g1 hg e1 e2 h3 h4 hst q1 hk2 l1 l2
      go_enter Try.func18, Try.ntmps18
      go_upto_region 1 with fail
      rw [← hW]
      have HW := Lib.hid hW
      clear hW
      go_wp2_with fail
      refine C1.mono ?_
      rintro e w' ⟨rfl, hw⟩
      subst w'
      go_wp2_with fail
      go_ret
      exact ⟨by rw [HE.out]; rfl, G1.out⟩
    · have C1 := rPlcB_any W a _ (h3.rd.grow g1) l1 x _ (posB_not q1)
      obtain ⟨A, cp, rfl, _⟩ := h3.rd.form
      generalize (p k).fr.length = n1 at *
      by_cases q2 : Hasb (p k).out x
      · have HE : Hid (stS p k x = 2) := hst.trans ((if_neg q1).trans (if_pos q2))
        have C2 := rPlcB_any W b _ (h4.rd.grow g1) l2 x _ (posB_has q2)
        obtain ⟨A', cp', rfl, _⟩ := h4.rd.form
        generalize (p k).out.length = n2 at *
        have z0 : (0 : Int) ≤ (ix (p k).out x : Int) := by omega
        generalize (ix (p k).out x : Int) = z at *
        clear hc hb g1 hg e1 e2 h3 h4 hst q1 hk2 q2 l1 l2
        go_enter Try.func18, Try.ntmps18
        go_upto_region 1 with fail
        rw [← hW]
        have HW := Lib.hid hW
        clear hW
        go_wp2_with fail
        refine C1.mono ?_
        rintro e w' ⟨rfl, hw⟩
        subst w'
        go_wp2_with fail
        refine C2.mono ?_
        rintro e w' ⟨rfl, hw⟩
        subst w'
        go_wp2_with fail
        go_ret
        exact ⟨by rw [HE.out]; rfl, G1.out⟩
      · have HE : Hid (stS p k x = 0) := hst.trans ((if_neg q1).trans (if_neg q2))
        have C2 := rPlcB_any W b _ (h4.rd.grow g1) l2 x _ (posB_not q2)
        obtain ⟨A', cp', rfl, _⟩ := h4.rd.form
        generalize (p k).out.length = n2 at *
        clear hc hb g1 hg e1 e2 h3 h4 hst q1 hk2 q2 l1 l2
        go_enter Try.func18, Try.ntmps18
        go_upto_region 1 with fail
        rw [← hW]
        have HW := Lib.hid hW
        clear hW
        go_wp2_with fail
        refine C1.mono ?_
        rintro e w' ⟨rfl, hw⟩
        subst w'
        go_wp2_with fail
        refine C2.mono ?_
        rintro e w' ⟨rfl, hw⟩
        subst w'
        go_wp2_with fail
        go_ret
        exact ⟨by rw [HE.out]; rfl, G1.out⟩
end Go.Proofs.Ytkambcjinidomaa
