/- The walk of FragCarries. -/
import Derived.Test.YtkofmbnolaiecaaFrLive
namespace Go.Proofs.Ytkofmbnolaiecaa
set_option linter.unusedVariables false
set_option linter.unusedSimpArgs false
open Go.ChangeShapes Go.WideShapes Go.ChangeAt Go.RowKit

theorem fcar_mod (l : List UInt8) : (fcar l).length % 4 = 0 := (fcar_length l).2

set_option maxHeartbeats 2000000 in
theorem fragCarries_walk (w : World) {v : Value} {l : List UInt8} (h : Byt w v l) (hl0 : l.length ≤ 140737488351232) :
    Calls Try.prog 4 #[v] w fun e w' => e = .returned (.bool true) ∧ Grow w w' := by
  obtain ⟨A, c, rfl, hlc, hcm⟩ := h.form
  have cV := fragLive_any
  by_cases hL : 1000 < l.length
  · have dL : decide ((1000 : Int) < (l.length : Int)) = true := decide_eq_true (by omega)
    go_enter Try.func4, Try.ntmps4
    go_wp2_with fail
    refine (cV _).mono ?_
    rintro e wl ⟨rfl, hgl⟩
    go_wp2_with fail
    go_ret
    exact ⟨rfl, hgl⟩
  have dL : decide ((1000 : Int) < (l.length : Int)) = false := decide_eq_false (by omega)
  have hc3 := fcode_in l
  have cC := fun w => fragCode_any (fcode l) w (by omega) (by omega)
  have c1 := Carried_any _ l w h (by omega)
  have HB := Lib.hid h
  have hn40 := (fcar_length l).1
  have hmod : Hid ((fcar l).length % 4 = 0) := fcar_mod l
  clear h
  go_enter Try.func4, Try.ntmps4
  go_wp2_with fail
  refine c1.mono ?_
  rintro e w1 ⟨u1, rfl, hb1, hg1⟩
  obtain ⟨A1, n1, d1, rfl, hn1⟩ := hb1.form2
  have G1 := Lib.hid hg1
  have B1 := Lib.hid hb1
  clear hb1 hg1 c1
  go_wp2_with fail
  refine (RCarried_any _ l w1 (HB.out.grow G1.out) (by omega)).mono ?_
  rintro e w2 ⟨u2, rfl, hb2, hg2⟩
  obtain ⟨A2, n2, d2, rfl, hn2⟩ := hb2.form2
  have G2 := Lib.hid (G1.out.trans hg2)
  have s1 := str1 (B1.out.grow hg2)
  have s2 := str1 hb2
  unfold strV at s1 s2
  have hnb : n1 ≤ 40 := by have := hn1.out; omega
  have hnm : ((n1 : Int) % 4 == 0) = true := beq_iff_eq.2 (by have := hn1.out; have := hmod.out; omega)
  clear hb2 hg2
  go_wp2_with fail
  refine (cC _).mono ?_
  rintro e w' ⟨rfl, rfl⟩
  go_wp2_with fail
  refine (cV _).mono ?_
  rintro e wl ⟨rfl, hgl⟩
  go_wp2_with fail
  go_ret
  exact ⟨rfl, G2.out.trans hgl⟩
end Go.Proofs.Ytkofmbnolaiecaa
