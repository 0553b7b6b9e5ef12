/- The reference's Add, of one that replaces. -/
import Derived.Test.YtfdoofkofljgnaaRtRAdd
import Derived.Test.YtfdoofkofljgnaaRtPut
import Derived.Test.YtfdoofkofljgnaaRtFind
namespace Go.Proofs.Ytfdoofkofljgnaa
set_option linter.unusedVariables false
set_option linter.unusedSimpArgs false
open Go.ChangeShapes Go.WideShapes Go.ChangeAt Go.RowKit Go.Shelf
attribute [local irreducible] wpQuiet

set_option maxRecDepth 10000 in
set_option maxHeartbeats 2000000 in
theorem RAdd_set (w : World) (v : Value) (l : List Rt) (hv : Rts w v l) (hlen : l.length ≤ 100000) (xn xb xv xi xc : Int) (hxn : 0 ≤ xn ∧ xn ≤ 4294967295) (hgd : (⟨xn, xb, xv, xi, xc⟩ : Rt).good = true) (hp : placeOf l xn xb xc < l.length) :
    Calls Try.prog 21 #[v, .agg #[.int .u32 xn, .int .i64 xb, .int .u32 xv, .int .i64 xi, .int .i64 xc]] w fun e w' => ∃ v', e = .returned (.tuple #[v', .int .i64 0]) ∧ Rts w' v' (l.set (placeOf l xn xb xc) ⟨xn, xb, xv, xi, xc⟩) ∧ NewOr w v v' ∧ Grow w w' := by
  obtain ⟨g1, g2, g3, g4, g5, g6, g7⟩ := Rt.good_iff.1 hgd
  have d1 : decide (xb < 0) = false := decide_eq_false (by have : 0 ≤ xb := g1; omega)
  have d2 : decide (32 < xb) = false := decide_eq_false (by have : xb ≤ 32 := g2; omega)
  have d4 : decide (xi < 0) = false := decide_eq_false (by have : 0 ≤ xi := g4; omega)
  have d5 : decide (15 < xi) = false := decide_eq_false (by have : xi ≤ 15 := g5; omega)
  have d6 : decide (xc < 0) = false := decide_eq_false (by have : 0 ≤ xc := g6; omega)
  have d7 : decide (65535 < xc) = false := decide_eq_false (by have : xc ≤ 65535 := g7; omega)
  have cN := fun w => RNet_any xn xb hxn ⟨g1, g2⟩ w
  rw [show netOf xn xb = xn from g3] at cN
  obtain ⟨A, cp, hv', hlc, hcm⟩ := hv.form
  subst hv'
  have hcm2 : cp ≤ 9223372036854775807 := hcm
  have cP := fun w1 (hg : Grow w w1) => place_any w1 _ l (hv.grow hg) xn xb xc
  have HV := Lib.hid hv
  clear hxn g1 g2 g3 g4 g5 g6 g7 hgd hv
  have hpl : placeI l xn xb xc = (placeOf l xn xb xc : Int) := by unfold placeI; rw [if_pos hp]
  generalize placeOf l xn xb xc = i at *
  go_enter Try.func21, Try.ntmps21
  go_wp2_with fail
  generalize hW : w.alloc (.cells #[.int .u32 xn, .int .i64 xb, .int .u32 xv, .int .i64 xi, .int .i64 xc] 32) = W
  have hG : Grow w W := by rw [← hW]; exact Grow.alloc _ _
  have hsz : w.heap.size < W.heap.size := by rw [← hW]; simp
  have RX : RtAt W w.heap.size 0 ⟨xn, xb, xv, xi, xc⟩ := by rw [← hW]; exact RtAt.new w ⟨xn, xb, xv, xi, xc⟩ _
  clear hW
  have HBX := Lib.hid (fun w1 (hg : Grow W w1) => RX.grow hg hsz)
  obtain ⟨b0, b1, b2, b3, b4⟩ := RX
  simp only [Nat.zero_add] at b1 b2 b3 b4
  have HG := Lib.hid hG
  clear hG
  have c0 := fun p : Gw W => Gw.cell (a := ⟨w.heap.size, 0, none⟩) hsz b0 p
  have c1 := fun p : Gw W => Gw.cell (a := ⟨w.heap.size, 1, none⟩) hsz b1 p
  have c3 := fun p : Gw W => Gw.cell (a := ⟨w.heap.size, 3, none⟩) hsz b3 p
  have c4 := fun p : Gw W => Gw.cell (a := ⟨w.heap.size, 4, none⟩) hsz b4 p
  have hcg : ∀ p : Gw W, Calls Try.prog 22 #[.int .u32 xn, .int .i64 xb] p.v fun e w' => e = .returned (.int .u32 xn) ∧ ∃ q : Gw W, w' = q.v := fun p => Calls.gw ((cN p.v).mono fun _ _ ⟨he, m, hm⟩ => ⟨he, by rw [hm]; exact ⟨rfl, rfl, rfl, Nat.le_refl _, fun _ _ => rfl⟩⟩)
  clear cN b0 b1 b2 b3 b4
  refine wp_region_gw (by kernel_rfl) (by kernel_rfl) ?_
  repeat (quiet_step ((go_at_call 22; exact hcg _)))
  refine wpQuiet_nil ?_
  intro W2 hw'
  obtain ⟨⟨wq, hgq⟩, hw2⟩ := hw'
  subst hw2
  obtain ⟨b0, b1, b2, b3, b4⟩ := HBX.out W2 hgq
  simp only [Nat.zero_add] at b1 b2 b3 b4
  have hgw2 : Grow w W2 := HG.out.trans hgq
  have cPP := cP W2 hgw2
  have HG2 := Lib.hid (And.intro hgw2 (Nat.lt_of_lt_of_le hsz hgq.size))
  clear cP hgq hgw2 c0 c1 c3 c4 hcg
  rw [hpl] at cPP
  clear hpl
  have hiI : (i : Int) < (l.length : Int) := by omega
  have hO1 := Orow.lit0 32 W2
  have hS : Rts (W2.alloc (.cells #[] 32)) (.slice A l.length cp) l := HV.out.grow (HG2.out.1.trans (Grow.alloc _ _))
  have HS := Lib.hid (And.intro hO1 hS)
  clear hO1 hS
  go_wp2_with (first
    | (go_at_call 36; refine cPP.mono ?_; rintro e w' ⟨rfl, rfl⟩)
    | (at_builtin; refine wpList_app5 _ rfl (.tmp 56) (.tmp 57) 26 32 rfl Try.underlying26 infoRoute W2.heap.size _ _ [] l rfl rfl HS.out.1 HS.out.2 (by simp; omega) (by simp) ?_; intro v1 w1 ho1 hg1 hat1; rw [List.nil_append] at ho1; have hgw : Grow W2 w1 := Grow.row (Grow.alloc W2 _) hg1 HS.out.1; obtain ⟨q0, q1, q2, q3, q4⟩ := RtAt.grow (show RtAt W2 w.heap.size 0 ⟨xn, xb, xv, xi, xc⟩ from ⟨b0, b1, b2, b3, b4⟩) hgw HG2.out.2; simp only [Nat.zero_add] at q1 q2 q3 q4; clear b0 b1 b2 b3 b4; have H1 := Lib.hid (And.intro ho1 hgw); clear ho1 hg1 hat1 hgw; obtain ⟨gg, cc, hv1, hgb, hgl, hnc, hcmm⟩ := H1.out.1.pos (by omega); subst hv1; obtain ⟨r0, r1, r2, r3, r4⟩ := rtAt_of (off := 0) (fun j u hj => (by have := World.ownsRow.cells H1.out.1 (g := gg) rfl j u hj; rwa [add_at] at this)) i (by omega); simp only [Nat.zero_add] at r0 r1 r2 r3 r4; have fz : ∀ j, w1.frozen? ⟨gg, j, none⟩ = false := fun j => World.ownsRow.frozenAt H1.out.1 j; have hst := Lib.hid (H1.out.1.set5 (p := i) (by omega) ⟨xn, xb, xv, xi, xc⟩); generalize l[i] = old at *; clear hgl; change Hid _))
  unfold Hid
  clear cPP
  clear hnc hcmm
  refine Or.inl ?_
  go_wp2_with fail
  go_ret2
  have h1 := hst.out.1.rts
  have h2 : Grow w (Go.Proofs.Ytfdoofkofljgnaa.set5 w1 gg (i * 5) ⟨xn, xb, xv, xi, xc⟩) := below_set5 (HG2.out.1.trans H1.out.2) (Nat.le_trans HG2.out.1.size hgb) (i * 5) ⟨xn, xb, xv, xi, xc⟩
  unfold Go.Proofs.Ytfdoofkofljgnaa.set5 at h1 h2
  exact ⟨_, rfl, h1, .inr fun b hb => by
    injection hb with hb
    rw [← hb]
    exact Nat.le_trans HG2.out.1.size hgb, h2⟩
end Go.Proofs.Ytfdoofkofljgnaa
