/- The reference's Add, to a full list. -/
import Derived.Test.YtfdoofkofljgnaaRtRAdd
import Derived.Test.YtfdoofkofljgnaaRtPut
import Derived.Test.YtfdoofkofljgnaaRtFind
namespace Go.Proofs.Ytfdoofkofljgnaa
set_option linter.unusedVariables false
set_option linter.unusedSimpArgs false
open Go.ChangeShapes Go.WideShapes Go.ChangeAt Go.RowKit Go.Shelf
attribute [local irreducible] wpQuiet

set_option maxRecDepth 10000 in
set_option maxHeartbeats 2000000 in
theorem RAdd_full (w : World) (v : Value) (l : List Rt) (hv : Rts w v l) (hlen : l.length ≤ 100000) (xn xb xv xi xc : Int) (hxn : 0 ≤ xn ∧ xn ≤ 4294967295) (hgd : (⟨xn, xb, xv, xi, xc⟩ : Rt).good = true) (hp : ¬ placeOf l xn xb xc < l.length) (h64 : 64 ≤ l.length) :
    Calls Try.prog 21 #[v, .agg #[.int .u32 xn, .int .i64 xb, .int .u32 xv, .int .i64 xi, .int .i64 xc]] w fun e w' => ∃ v', e = .returned (.tuple #[v', .int .i64 5]) ∧ Rts w' v' (l) ∧ NewOr w v v' ∧ Grow w w' := by
  obtain ⟨g1, g2, g3, g4, g5, g6, g7⟩ := Rt.good_iff.1 hgd
  have d1 : decide (xb < 0) = false := decide_eq_false (by have : 0 ≤ xb := g1; omega)
  have d2 : decide (32 < xb) = false := decide_eq_false (by have : xb ≤ 32 := g2; omega)
  have d4 : decide (xi < 0) = false := decide_eq_false (by have : 0 ≤ xi := g4; omega)
  have d5 : decide (15 < xi) = false := decide_eq_false (by have : xi ≤ 15 := g5; omega)
  have d6 : decide (xc < 0) = false := decide_eq_false (by have : 0 ≤ xc := g6; omega)
  have d7 : decide (65535 < xc) = false := decide_eq_false (by have : xc ≤ 65535 := g7; omega)
  have cN := fun w => RNet_any xn xb hxn ⟨g1, g2⟩ w
  rw [show netOf xn xb = xn from g3] at cN
  obtain ⟨A, cp, hv', hlc, hcm⟩ := hv.form
  subst hv'
  have hcm2 : cp ≤ 9223372036854775807 := hcm
  have cP := fun w1 (hg : Grow w w1) => place_any w1 _ l (hv.grow hg) xn xb xc
  have HV := Lib.hid hv
  clear hxn g1 g2 g3 g4 g5 g6 g7 hgd hv
  have hpl : placeI l xn xb xc = -1 := by unfold placeI; rw [if_neg hp]
  go_enter Try.func21, Try.ntmps21
  go_wp2_with fail
  generalize hW : w.alloc (.cells #[.int .u32 xn, .int .i64 xb, .int .u32 xv, .int .i64 xi, .int .i64 xc] 32) = W
  have hG : Grow w W := by rw [← hW]; exact Grow.alloc _ _
  have hsz : w.heap.size < W.heap.size := by rw [← hW]; simp
  have RX : RtAt W w.heap.size 0 ⟨xn, xb, xv, xi, xc⟩ := by rw [← hW]; exact RtAt.new w ⟨xn, xb, xv, xi, xc⟩ _
  clear hW
  have HBX := Lib.hid (fun w1 (hg : Grow W w1) => RX.grow hg hsz)
  obtain ⟨b0, b1, b2, b3, b4⟩ := RX
  simp only [Nat.zero_add] at b1 b2 b3 b4
  have HG := Lib.hid hG
  clear hG
  have c0 := fun p : Gw W => Gw.cell (a := ⟨w.heap.size, 0, none⟩) hsz b0 p
  have c1 := fun p : Gw W => Gw.cell (a := ⟨w.heap.size, 1, none⟩) hsz b1 p
  have c3 := fun p : Gw W => Gw.cell (a := ⟨w.heap.size, 3, none⟩) hsz b3 p
  have c4 := fun p : Gw W => Gw.cell (a := ⟨w.heap.size, 4, none⟩) hsz b4 p
  have hcg : ∀ p : Gw W, Calls Try.prog 22 #[.int .u32 xn, .int .i64 xb] p.v fun e w' => e = .returned (.int .u32 xn) ∧ ∃ q : Gw W, w' = q.v := fun p => Calls.gw ((cN p.v).mono fun _ _ ⟨he, m, hm⟩ => ⟨he, by rw [hm]; exact ⟨rfl, rfl, rfl, Nat.le_refl _, fun _ _ => rfl⟩⟩)
  clear cN b0 b1 b2 b3 b4
  refine wp_region_gw (by kernel_rfl) (by kernel_rfl) ?_
  repeat (quiet_step ((go_at_call 22; exact hcg _)))
  refine wpQuiet_nil ?_
  intro W2 hw'
  obtain ⟨⟨wq, hgq⟩, hw2⟩ := hw'
  subst hw2
  obtain ⟨b0, b1, b2, b3, b4⟩ := HBX.out W2 hgq
  simp only [Nat.zero_add] at b1 b2 b3 b4
  have hgw2 : Grow w W2 := HG.out.trans hgq
  have cPP := cP W2 hgw2
  have HG2 := Lib.hid (And.intro hgw2 (Nat.lt_of_lt_of_le hsz hgq.size))
  clear cP hgq hgw2 c0 c1 c3 c4 hcg
  rw [hpl] at cPP
  clear hpl hp
  have h64I : decide ((64 : Int) ≤ (l.length : Int)) = true := decide_eq_true (by omega)
  go_wp2_with (go_at_call 36; refine cPP.mono ?_; rintro e w' ⟨rfl, rfl⟩)
  go_ret2
  exact ⟨_, rfl, HV.out.grow HG2.out.1, .inl rfl, HG2.out.1⟩
end Go.Proofs.Ytfdoofkofljgnaa
