/- The reference's Add, of one more. -/
import Derived.Test.YtfdoofkofljgnaaRtRAdd
import Derived.Test.YtfdoofkofljgnaaRtPut
import Derived.Test.YtfdoofkofljgnaaRtFind
namespace Go.Proofs.Ytfdoofkofljgnaa
set_option linter.unusedVariables false
set_option linter.unusedSimpArgs false
open Go.ChangeShapes Go.WideShapes Go.ChangeAt Go.RowKit Go.Shelf
attribute [local irreducible] wpQuiet

set_option maxRecDepth 10000 in
set_option maxHeartbeats 2000000 in
theorem RAdd_new (w : World) (v : Value) (l : List Rt) (hv : Rts w v l) (hlen : l.length ≤ 100000) (xn xb xv xi xc : Int) (hxn : 0 ≤ xn ∧ xn ≤ 4294967295) (hgd : (⟨xn, xb, xv, xi, xc⟩ : Rt).good = true) (hp : ¬ placeOf l xn xb xc < l.length) (h64 : ¬ 64 ≤ l.length) :
    Calls Try.prog 21 #[v, .agg #[.int .u32 xn, .int .i64 xb, .int .u32 xv, .int .i64 xi, .int .i64 xc]] w fun e w' => ∃ v', e = .returned (.tuple #[v', .int .i64 0]) ∧ Rts w' v' (l ++ [⟨xn, xb, xv, xi, xc⟩]) ∧ NewOr w v v' ∧ Grow w w' := by
  obtain ⟨g1, g2, g3, g4, g5, g6, g7⟩ := Rt.good_iff.1 hgd
  have d1 : decide (xb < 0) = false := decide_eq_false (by have : 0 ≤ xb := g1; omega)
  have d2 : decide (32 < xb) = false := decide_eq_false (by have : xb ≤ 32 := g2; omega)
  have d4 : decide (xi < 0) = false := decide_eq_false (by have : 0 ≤ xi := g4; omega)
  have d5 : decide (15 < xi) = false := decide_eq_false (by have : xi ≤ 15 := g5; omega)
  have d6 : decide (xc < 0) = false := decide_eq_false (by have : 0 ≤ xc := g6; omega)
  have d7 : decide (65535 < xc) = false := decide_eq_false (by have : xc ≤ 65535 := g7; omega)
  have cN := fun w => RNet_any xn xb hxn ⟨g1, g2⟩ w
  rw [show netOf xn xb = xn from g3] at cN
  obtain ⟨A, cp, hv', hlc, hcm⟩ := hv.form
  subst hv'
  have hcm2 : cp ≤ 9223372036854775807 := hcm
  have cP := fun w1 (hg : Grow w w1) => place_any w1 _ l (hv.grow hg) xn xb xc
  have HV := Lib.hid hv
  clear hxn g1 g2 g3 g4 g5 g6 g7 hgd hv
  have hpl : placeI l xn xb xc = -1 := by unfold placeI; rw [if_neg hp]
  go_enter Try.func21, Try.ntmps21
  go_wp2_with fail
  generalize hW : w.alloc (.cells #[.int .u32 xn, .int .i64 xb, .int .u32 xv, .int .i64 xi, .int .i64 xc] 32) = W
  have hG : Grow w W := by rw [← hW]; exact Grow.alloc _ _
  have hsz : w.heap.size < W.heap.size := by rw [← hW]; simp
  have RX : RtAt W w.heap.size 0 ⟨xn, xb, xv, xi, xc⟩ := by rw [← hW]; exact RtAt.new w ⟨xn, xb, xv, xi, xc⟩ _
  clear hW
  have HBX := Lib.hid (fun w1 (hg : Grow W w1) => RX.grow hg hsz)
  obtain ⟨b0, b1, b2, b3, b4⟩ := RX
  simp only [Nat.zero_add] at b1 b2 b3 b4
  have HG := Lib.hid hG
  clear hG
  have c0 := fun p : Gw W => Gw.cell (a := ⟨w.heap.size, 0, none⟩) hsz b0 p
  have c1 := fun p : Gw W => Gw.cell (a := ⟨w.heap.size, 1, none⟩) hsz b1 p
  have c3 := fun p : Gw W => Gw.cell (a := ⟨w.heap.size, 3, none⟩) hsz b3 p
  have c4 := fun p : Gw W => Gw.cell (a := ⟨w.heap.size, 4, none⟩) hsz b4 p
  have hcg : ∀ p : Gw W, Calls Try.prog 22 #[.int .u32 xn, .int .i64 xb] p.v fun e w' => e = .returned (.int .u32 xn) ∧ ∃ q : Gw W, w' = q.v := fun p => Calls.gw ((cN p.v).mono fun _ _ ⟨he, m, hm⟩ => ⟨he, by rw [hm]; exact ⟨rfl, rfl, rfl, Nat.le_refl _, fun _ _ => rfl⟩⟩)
  clear cN b0 b1 b2 b3 b4
  refine wp_region_gw (by kernel_rfl) (by kernel_rfl) ?_
  repeat (quiet_step ((go_at_call 22; exact hcg _)))
  refine wpQuiet_nil ?_
  intro W2 hw'
  obtain ⟨⟨wq, hgq⟩, hw2⟩ := hw'
  subst hw2
  obtain ⟨b0, b1, b2, b3, b4⟩ := HBX.out W2 hgq
  simp only [Nat.zero_add] at b1 b2 b3 b4
  have hgw2 : Grow w W2 := HG.out.trans hgq
  have cPP := cP W2 hgw2
  have HG2 := Lib.hid (And.intro hgw2 (Nat.lt_of_lt_of_le hsz hgq.size))
  clear cP hgq hgw2 c0 c1 c3 c4 hcg
  rw [hpl] at cPP
  clear hpl hp
  have h64I : decide ((64 : Int) ≤ (l.length : Int)) = false := decide_eq_false (by omega)
  go_wp2_with (go_at_call 36; refine cPP.mono ?_; rintro e w' ⟨rfl, rfl⟩)
  have hbx : w.heap.size < W2.heap.size := HG2.out.2
  have hBY : Hid (∀ w1, Grow W2 w1 → w1.cell? ⟨w.heap.size, 0, none⟩ = some (.int .u32 xn) ∧ w1.cell? ⟨w.heap.size, 1, none⟩ = some (.int .i64 xb) ∧ w1.cell? ⟨w.heap.size, 2, none⟩ = some (.int .u32 xv) ∧ w1.cell? ⟨w.heap.size, 3, none⟩ = some (.int .i64 xi) ∧ w1.cell? ⟨w.heap.size, 4, none⟩ = some (.int .i64 xc)) :=
    fun w1 hg => ⟨(hg.cell (p := ⟨w.heap.size, 0, none⟩) hbx).trans b0, (hg.cell (p := ⟨w.heap.size, 1, none⟩) hbx).trans b1, (hg.cell (p := ⟨w.heap.size, 2, none⟩) hbx).trans b2, (hg.cell (p := ⟨w.heap.size, 3, none⟩) hbx).trans b3, (hg.cell (p := ⟨w.heap.size, 4, none⟩) hbx).trans b4⟩
  have hL0 : Hid (Rts ((W2.drew.alloc (.cells #[] 32)).alloc (.cells #[.int .u32 xn, .int .i64 xb, .int .u32 xv, .int .i64 xi, .int .i64 xc] 32)) (.slice (some ⟨W2.heap.size + 1, 0, none⟩) 1 1) [(⟨xn, xb, xv, xi, xc⟩ : Rt)]) := (Orow.lit_at 32 (W2.drew.alloc (.cells #[] 32)) ⟨xn, xb, xv, xi, xc⟩ _ rfl (W2.heap.size + 1) (by simp)).rts
  have hO0 : Hid (Orow 32 ((W2.drew.alloc (.cells #[] 32)).alloc (.cells #[.int .u32 xn, .int .i64 xb, .int .u32 xv, .int .i64 xi, .int .i64 xc] 32)) W2.heap.size (.slice (some ⟨W2.heap.size, 0, none⟩) 0 0) []) := (Orow.lit0 32 W2.drew).grow (Grow.alloc _ _)
  have hg0 : Hid (Grow W2 ((W2.drew.alloc (.cells #[] 32)).alloc (.cells #[.int .u32 xn, .int .i64 xb, .int .u32 xv, .int .i64 xi, .int .i64 xc] 32))) := ((Grow.drew W2).trans (Grow.alloc _ _)).trans (Grow.alloc _ _)
  have hO2' := ((Orow.lit0 32 (W2.drew.alloc (.cells #[.int .u32 xn, .int .i64 xb, .int .u32 xv, .int .i64 xi, .int .i64 xc] 32))).base_ (b' := W2.heap.size) (by simp))
  simp only [World.size_alloc, World.size_drew] at hO2'
  have hO2 := Lib.hid hO2'
  clear hO2'
  have hg2 : Hid (Grow W2 ((W2.drew.alloc (.cells #[.int .u32 xn, .int .i64 xb, .int .u32 xv, .int .i64 xi, .int .i64 xc] 32)).alloc (.cells #[] 32))) := ((Grow.drew W2).trans (Grow.alloc _ _)).trans (Grow.alloc _ _)
  have hL2 : Hid (∀ w1, ((W2.drew.alloc (.cells #[.int .u32 xn, .int .i64 xb, .int .u32 xv, .int .i64 xi, .int .i64 xc] 32)).alloc (.cells #[] 32)).grownBy w1 (Value.ownBlock (.slice (some ⟨W2.heap.size + 1, 0, none⟩) 0 0)) → Rts w1 (.slice (some ⟨W2.heap.size, 0, none⟩) 1 1) [(⟨xn, xb, xv, xi, xc⟩ : Rt)]) := fun w1 hg => ((Orow.lit_at 32 W2.drew ⟨xn, xb, xv, xi, xc⟩ _ rfl W2.heap.size (by simp)).grow (Grow.alloc _ _)).rts.other hg.size fun b hb hlt => hg.block b hlt fun e => by
    injection hb with hb
    injection e with e
    have h1 : W2.heap.size = b := hb
    have h2 : b = W2.heap.size + 1 := e
    omega
  have hL1 : Hid (∀ w1, ((W2.drew.alloc (.cells #[] 32)).alloc (.cells #[.int .u32 xn, .int .i64 xb, .int .u32 xv, .int .i64 xi, .int .i64 xc] 32)).grownBy w1 (Value.ownBlock (.slice (some ⟨W2.heap.size, 0, none⟩) 0 0)) → Rts w1 (.slice (some ⟨W2.heap.size + 1, 0, none⟩) 1 1) [(⟨xn, xb, xv, xi, xc⟩ : Rt)]) := fun w1 hg => hL0.out.other hg.size fun b hb hlt => hg.block b hlt fun e => by
    injection hb with hb
    injection e with e
    have h1 : W2.heap.size + 1 = b := hb
    have h2 : b = W2.heap.size := e
    omega
  go_region_law (first
    | (refine step_app5 _ rfl (.tmp 68) (.tmp 69) 26 32 rfl Try.underlying26 infoRoute W2.heap.size _ _ [] l rfl rfl (Orow.lit0 32 W2.drew) (HV.out.grow (HG2.out.1.trans ((Grow.drew _).trans (Grow.alloc _ _)))) (by simp; omega) (by simp) ?_; intro v1 w1 ho1 hg1 hat1; rw [List.nil_append] at ho1; have hgw : Grow W2 w1 := Grow.row ((Grow.drew W2).trans (Grow.alloc _ _)) hg1 (Orow.lit0 32 W2.drew); obtain ⟨q0, q1, q2, q3, q4⟩ := hBY.out w1 hgw; have H1 := Lib.hid (And.intro ho1 hgw); clear ho1 hg1 hat1 hgw)
    | (refine step_app5 _ rfl (.tmp 68) (.tmp 69) 26 32 rfl Try.underlying26 infoRoute W2.heap.size _ _ [] l rfl rfl hO0.out (HV.out.grow (HG2.out.1.trans hg0.out)) (by simp; omega) (by simp; omega) ?_; intro v1 w1 ho1 hg1 hat1; rw [List.nil_append] at ho1; have hgw : Grow W2 w1 := Grow.row hg0.out hg1 hO0.out; have hLit := Lib.hid (hL1.out w1 hg1); have H1 := Lib.hid (And.intro ho1 hgw); clear ho1 hg1 hat1 hgw)
    | (refine step_app5 _ rfl (.tmp 68) (.tmp 69) 26 32 rfl Try.underlying26 infoRoute W2.heap.size _ _ [] l rfl rfl hO2.out (HV.out.grow (HG2.out.1.trans hg2.out)) (by simp; omega) (by simp; omega) ?_; intro v1 w1 ho1 hg1 hat1; rw [List.nil_append] at ho1; have hgw : Grow W2 w1 := Grow.row hg2.out hg1 hO2.out; have hLit := Lib.hid (hL2.out w1 hg1); have H1 := Lib.hid (And.intro ho1 hgw); clear ho1 hg1 hat1 hgw)
    | (refine step_app5 _ rfl (.tmp 70) (.tmp 72) 26 32 rfl Try.underlying26 infoRoute W2.heap.size _ _ l [(⟨xn, xb, xv, xi, xc⟩ : Rt)] rfl rfl (H1.out.1.grow (Grow.alloc _ _)) (Orow.lit_at 32 w1 ⟨xn, xb, xv, xi, xc⟩ _ rfl _ rfl).rts (by simp; omega) (Nat.le_trans H1.out.2.size (by simp)) ?_; intro v2 w2 ho2 hg2 hat2; have hgw : Grow W2 w2 := Grow.row (H1.out.2.trans (Grow.alloc _ _)) hg2 (H1.out.1.grow (Grow.alloc _ _)); have H2 := Lib.hid (And.intro ho2 hgw); clear ho2 hg2 hat2 hgw)
    | (refine step_app5 _ rfl (.tmp 70) (.tmp 72) 26 32 rfl Try.underlying26 infoRoute W2.heap.size _ _ l [(⟨xn, xb, xv, xi, xc⟩ : Rt)] rfl rfl H1.out.1 hLit.out (by simp; omega) H1.out.2.size ?_; intro v2 w2 ho2 hg2 hat2; have hgw : Grow W2 w2 := Grow.row H1.out.2 hg2 H1.out.1; have H2 := Lib.hid (And.intro ho2 hgw); clear ho2 hg2 hat2 hgw))
  all_goals
    go_wp2_with fail
    go_ret2
    exact ⟨_, rfl, H2.out.1.rts, .inr fun b hb => Nat.le_trans HG2.out.1.size (H2.out.1.lt b hb).1, HG2.out.1.trans H2.out.2⟩
end Go.Proofs.Ytfdoofkofljgnaa
