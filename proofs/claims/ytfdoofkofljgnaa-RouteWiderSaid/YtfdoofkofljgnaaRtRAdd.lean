/- The reference's Add, of what may be no route. -/
import Derived.Test.YtfdoofkofljgnaaRtAll
import Derived.Test.YtfdoofkofljgnaaGw
namespace Go.Proofs.Ytfdoofkofljgnaa
set_option linter.unusedVariables false
set_option linter.unusedSimpArgs false
open Go.ChangeShapes Go.WideShapes Go.ChangeAt Go.RowKit Go.Shelf
attribute [local irreducible] wpQuiet

set_option maxRecDepth 10000 in
set_option maxHeartbeats 400000 in
theorem RAdd_b0 (w : World) (v : Value) (xn xb xv xi xc : Int) (hxn : 0 ≤ xn ∧ xn ≤ 4294967295) (h1 : xb < 0) :
    Calls Try.prog 21 #[v, .agg #[.int .u32 xn, .int .i64 xb, .int .u32 xv, .int .i64 xi, .int .i64 xc]] w fun e w' => e = .returned (.tuple #[v, .int .i64 1]) ∧ Grow w w' := by
  have d1 : decide (xb < 0) = true := decide_eq_true h1
  clear hxn h1
  go_enter Try.func21, Try.ntmps21
  go_wp2_with fail
  generalize hW : w.alloc (.cells #[.int .u32 xn, .int .i64 xb, .int .u32 xv, .int .i64 xi, .int .i64 xc] 32) = W
  have hG : Grow w W := by rw [← hW]; exact Grow.alloc _ _
  have hsz : w.heap.size < W.heap.size := by rw [← hW]; simp
  have RX : RtAt W w.heap.size 0 ⟨xn, xb, xv, xi, xc⟩ := by rw [← hW]; exact RtAt.new w ⟨xn, xb, xv, xi, xc⟩ _
  clear hW
  obtain ⟨b0, b1, b2, b3, b4⟩ := RX
  simp only [Nat.zero_add] at b1 b2 b3 b4
  have HG := Lib.hid hG
  clear hG
  have c0 := fun p : Gw W => Gw.cell (a := ⟨w.heap.size, 0, none⟩) hsz b0 p
  have c1 := fun p : Gw W => Gw.cell (a := ⟨w.heap.size, 1, none⟩) hsz b1 p
  have c3 := fun p : Gw W => Gw.cell (a := ⟨w.heap.size, 3, none⟩) hsz b3 p
  have c4 := fun p : Gw W => Gw.cell (a := ⟨w.heap.size, 4, none⟩) hsz b4 p
  clear b0 b1 b2 b3 b4
  refine wp_region_gw (by kernel_rfl) (by kernel_rfl) ?_
  repeat (quiet_step (fail))
  refine wpQuiet_nil ?_
  intro W2 hw'
  obtain ⟨⟨wq, hgq⟩, hw2⟩ := hw'
  subst hw2
  go_wp2_with fail
  go_ret2
  exact ⟨rfl, HG.out.trans hgq⟩

set_option maxRecDepth 10000 in
set_option maxHeartbeats 400000 in
theorem RAdd_b1 (w : World) (v : Value) (xn xb xv xi xc : Int) (hxn : 0 ≤ xn ∧ xn ≤ 4294967295) (h1 : ¬ xb < 0) (h2 : 32 < xb) :
    Calls Try.prog 21 #[v, .agg #[.int .u32 xn, .int .i64 xb, .int .u32 xv, .int .i64 xi, .int .i64 xc]] w fun e w' => e = .returned (.tuple #[v, .int .i64 1]) ∧ Grow w w' := by
  have d1 : decide (xb < 0) = false := decide_eq_false h1
  have d2 : decide (32 < xb) = true := decide_eq_true h2
  clear hxn h1 h2
  go_enter Try.func21, Try.ntmps21
  go_wp2_with fail
  generalize hW : w.alloc (.cells #[.int .u32 xn, .int .i64 xb, .int .u32 xv, .int .i64 xi, .int .i64 xc] 32) = W
  have hG : Grow w W := by rw [← hW]; exact Grow.alloc _ _
  have hsz : w.heap.size < W.heap.size := by rw [← hW]; simp
  have RX : RtAt W w.heap.size 0 ⟨xn, xb, xv, xi, xc⟩ := by rw [← hW]; exact RtAt.new w ⟨xn, xb, xv, xi, xc⟩ _
  clear hW
  obtain ⟨b0, b1, b2, b3, b4⟩ := RX
  simp only [Nat.zero_add] at b1 b2 b3 b4
  have HG := Lib.hid hG
  clear hG
  have c0 := fun p : Gw W => Gw.cell (a := ⟨w.heap.size, 0, none⟩) hsz b0 p
  have c1 := fun p : Gw W => Gw.cell (a := ⟨w.heap.size, 1, none⟩) hsz b1 p
  have c3 := fun p : Gw W => Gw.cell (a := ⟨w.heap.size, 3, none⟩) hsz b3 p
  have c4 := fun p : Gw W => Gw.cell (a := ⟨w.heap.size, 4, none⟩) hsz b4 p
  clear b0 b1 b2 b3 b4
  refine wp_region_gw (by kernel_rfl) (by kernel_rfl) ?_
  repeat (quiet_step (fail))
  refine wpQuiet_nil ?_
  intro W2 hw'
  obtain ⟨⟨wq, hgq⟩, hw2⟩ := hw'
  subst hw2
  go_wp2_with fail
  go_ret2
  exact ⟨rfl, HG.out.trans hgq⟩

set_option maxRecDepth 10000 in
set_option maxHeartbeats 400000 in
theorem RAdd_n (w : World) (v : Value) (xn xb xv xi xc : Int) (hxn : 0 ≤ xn ∧ xn ≤ 4294967295) (h1 : ¬ xb < 0) (h2 : ¬ 32 < xb) (h3 : ¬ netOf xn xb = xn) :
    Calls Try.prog 21 #[v, .agg #[.int .u32 xn, .int .i64 xb, .int .u32 xv, .int .i64 xi, .int .i64 xc]] w fun e w' => e = .returned (.tuple #[v, .int .i64 1]) ∧ Grow w w' := by
  have d1 : decide (xb < 0) = false := decide_eq_false h1
  have d2 : decide (32 < xb) = false := decide_eq_false h2
  have cN := fun w => RNet_any xn xb hxn (by omega) w
  generalize netOf xn xb = NN at *
  have hne : (NN == xn) = false := by simpa using h3
  have hne2 : (NN != xn) = true := by simpa using h3
  clear hxn h1 h2 h3
  go_enter Try.func21, Try.ntmps21
  go_wp2_with fail
  generalize hW : w.alloc (.cells #[.int .u32 xn, .int .i64 xb, .int .u32 xv, .int .i64 xi, .int .i64 xc] 32) = W
  have hG : Grow w W := by rw [← hW]; exact Grow.alloc _ _
  have hsz : w.heap.size < W.heap.size := by rw [← hW]; simp
  have RX : RtAt W w.heap.size 0 ⟨xn, xb, xv, xi, xc⟩ := by rw [← hW]; exact RtAt.new w ⟨xn, xb, xv, xi, xc⟩ _
  clear hW
  obtain ⟨b0, b1, b2, b3, b4⟩ := RX
  simp only [Nat.zero_add] at b1 b2 b3 b4
  have HG := Lib.hid hG
  clear hG
  have c0 := fun p : Gw W => Gw.cell (a := ⟨w.heap.size, 0, none⟩) hsz b0 p
  have c1 := fun p : Gw W => Gw.cell (a := ⟨w.heap.size, 1, none⟩) hsz b1 p
  have c3 := fun p : Gw W => Gw.cell (a := ⟨w.heap.size, 3, none⟩) hsz b3 p
  have c4 := fun p : Gw W => Gw.cell (a := ⟨w.heap.size, 4, none⟩) hsz b4 p
  have hcg : ∀ p : Gw W, Calls Try.prog 22 #[.int .u32 xn, .int .i64 xb] p.v fun e w' => e = .returned (.int .u32 NN) ∧ ∃ q : Gw W, w' = q.v := fun p => Calls.gw ((cN p.v).mono fun _ _ ⟨he, m, hm⟩ => ⟨he, by rw [hm]; exact ⟨rfl, rfl, rfl, Nat.le_refl _, fun _ _ => rfl⟩⟩)
  clear cN
  clear b0 b1 b2 b3 b4
  refine wp_region_gw (by kernel_rfl) (by kernel_rfl) ?_
  repeat (quiet_step ((go_at_call 22; exact hcg _)))
  refine wpQuiet_nil ?_
  intro W2 hw'
  obtain ⟨⟨wq, hgq⟩, hw2⟩ := hw'
  subst hw2
  go_wp2_with fail
  go_ret2
  exact ⟨rfl, HG.out.trans hgq⟩

set_option maxRecDepth 10000 in
set_option maxHeartbeats 400000 in
theorem RAdd_i0 (w : World) (v : Value) (xn xb xv xi xc : Int) (hxn : 0 ≤ xn ∧ xn ≤ 4294967295) (h1 : ¬ xb < 0) (h2 : ¬ 32 < xb) (h3 : netOf xn xb = xn) (h4 : xi < 0) :
    Calls Try.prog 21 #[v, .agg #[.int .u32 xn, .int .i64 xb, .int .u32 xv, .int .i64 xi, .int .i64 xc]] w fun e w' => e = .returned (.tuple #[v, .int .i64 1]) ∧ Grow w w' := by
  have d1 : decide (xb < 0) = false := decide_eq_false h1
  have d2 : decide (32 < xb) = false := decide_eq_false h2
  have d4 : decide (xi < 0) = true := decide_eq_true h4
  have cN := fun w => RNet_any xn xb hxn (by omega) w
  rw [h3] at cN
  clear hxn h1 h2 h3 h4
  go_enter Try.func21, Try.ntmps21
  go_wp2_with fail
  generalize hW : w.alloc (.cells #[.int .u32 xn, .int .i64 xb, .int .u32 xv, .int .i64 xi, .int .i64 xc] 32) = W
  have hG : Grow w W := by rw [← hW]; exact Grow.alloc _ _
  have hsz : w.heap.size < W.heap.size := by rw [← hW]; simp
  have RX : RtAt W w.heap.size 0 ⟨xn, xb, xv, xi, xc⟩ := by rw [← hW]; exact RtAt.new w ⟨xn, xb, xv, xi, xc⟩ _
  clear hW
  obtain ⟨b0, b1, b2, b3, b4⟩ := RX
  simp only [Nat.zero_add] at b1 b2 b3 b4
  have HG := Lib.hid hG
  clear hG
  have c0 := fun p : Gw W => Gw.cell (a := ⟨w.heap.size, 0, none⟩) hsz b0 p
  have c1 := fun p : Gw W => Gw.cell (a := ⟨w.heap.size, 1, none⟩) hsz b1 p
  have c3 := fun p : Gw W => Gw.cell (a := ⟨w.heap.size, 3, none⟩) hsz b3 p
  have c4 := fun p : Gw W => Gw.cell (a := ⟨w.heap.size, 4, none⟩) hsz b4 p
  have hcg : ∀ p : Gw W, Calls Try.prog 22 #[.int .u32 xn, .int .i64 xb] p.v fun e w' => e = .returned (.int .u32 xn) ∧ ∃ q : Gw W, w' = q.v := fun p => Calls.gw ((cN p.v).mono fun _ _ ⟨he, m, hm⟩ => ⟨he, by rw [hm]; exact ⟨rfl, rfl, rfl, Nat.le_refl _, fun _ _ => rfl⟩⟩)
  clear cN
  clear b0 b1 b2 b3 b4
  refine wp_region_gw (by kernel_rfl) (by kernel_rfl) ?_
  repeat (quiet_step ((go_at_call 22; exact hcg _)))
  refine wpQuiet_nil ?_
  intro W2 hw'
  obtain ⟨⟨wq, hgq⟩, hw2⟩ := hw'
  subst hw2
  go_wp2_with fail
  go_ret2
  exact ⟨rfl, HG.out.trans hgq⟩

set_option maxRecDepth 10000 in
set_option maxHeartbeats 400000 in
theorem RAdd_i1 (w : World) (v : Value) (xn xb xv xi xc : Int) (hxn : 0 ≤ xn ∧ xn ≤ 4294967295) (h1 : ¬ xb < 0) (h2 : ¬ 32 < xb) (h3 : netOf xn xb = xn) (h4 : ¬ xi < 0) (h5 : 15 < xi) :
    Calls Try.prog 21 #[v, .agg #[.int .u32 xn, .int .i64 xb, .int .u32 xv, .int .i64 xi, .int .i64 xc]] w fun e w' => e = .returned (.tuple #[v, .int .i64 1]) ∧ Grow w w' := by
  have d1 : decide (xb < 0) = false := decide_eq_false h1
  have d2 : decide (32 < xb) = false := decide_eq_false h2
  have d4 : decide (xi < 0) = false := decide_eq_false h4
  have d5 : decide (15 < xi) = true := decide_eq_true h5
  have cN := fun w => RNet_any xn xb hxn (by omega) w
  rw [h3] at cN
  clear hxn h1 h2 h3 h4 h5
  go_enter Try.func21, Try.ntmps21
  go_wp2_with fail
  generalize hW : w.alloc (.cells #[.int .u32 xn, .int .i64 xb, .int .u32 xv, .int .i64 xi, .int .i64 xc] 32) = W
  have hG : Grow w W := by rw [← hW]; exact Grow.alloc _ _
  have hsz : w.heap.size < W.heap.size := by rw [← hW]; simp
  have RX : RtAt W w.heap.size 0 ⟨xn, xb, xv, xi, xc⟩ := by rw [← hW]; exact RtAt.new w ⟨xn, xb, xv, xi, xc⟩ _
  clear hW
  obtain ⟨b0, b1, b2, b3, b4⟩ := RX
  simp only [Nat.zero_add] at b1 b2 b3 b4
  have HG := Lib.hid hG
  clear hG
  have c0 := fun p : Gw W => Gw.cell (a := ⟨w.heap.size, 0, none⟩) hsz b0 p
  have c1 := fun p : Gw W => Gw.cell (a := ⟨w.heap.size, 1, none⟩) hsz b1 p
  have c3 := fun p : Gw W => Gw.cell (a := ⟨w.heap.size, 3, none⟩) hsz b3 p
  have c4 := fun p : Gw W => Gw.cell (a := ⟨w.heap.size, 4, none⟩) hsz b4 p
  have hcg : ∀ p : Gw W, Calls Try.prog 22 #[.int .u32 xn, .int .i64 xb] p.v fun e w' => e = .returned (.int .u32 xn) ∧ ∃ q : Gw W, w' = q.v := fun p => Calls.gw ((cN p.v).mono fun _ _ ⟨he, m, hm⟩ => ⟨he, by rw [hm]; exact ⟨rfl, rfl, rfl, Nat.le_refl _, fun _ _ => rfl⟩⟩)
  clear cN
  clear b0 b1 b2 b3 b4
  refine wp_region_gw (by kernel_rfl) (by kernel_rfl) ?_
  repeat (quiet_step ((go_at_call 22; exact hcg _)))
  refine wpQuiet_nil ?_
  intro W2 hw'
  obtain ⟨⟨wq, hgq⟩, hw2⟩ := hw'
  subst hw2
  go_wp2_with fail
  go_ret2
  exact ⟨rfl, HG.out.trans hgq⟩

set_option maxRecDepth 10000 in
set_option maxHeartbeats 400000 in
theorem RAdd_c0 (w : World) (v : Value) (xn xb xv xi xc : Int) (hxn : 0 ≤ xn ∧ xn ≤ 4294967295) (h1 : ¬ xb < 0) (h2 : ¬ 32 < xb) (h3 : netOf xn xb = xn) (h4 : ¬ xi < 0) (h5 : ¬ 15 < xi) (h6 : xc < 0) :
    Calls Try.prog 21 #[v, .agg #[.int .u32 xn, .int .i64 xb, .int .u32 xv, .int .i64 xi, .int .i64 xc]] w fun e w' => e = .returned (.tuple #[v, .int .i64 1]) ∧ Grow w w' := by
  have d1 : decide (xb < 0) = false := decide_eq_false h1
  have d2 : decide (32 < xb) = false := decide_eq_false h2
  have d4 : decide (xi < 0) = false := decide_eq_false h4
  have d5 : decide (15 < xi) = false := decide_eq_false h5
  have d6 : decide (xc < 0) = true := decide_eq_true h6
  have cN := fun w => RNet_any xn xb hxn (by omega) w
  rw [h3] at cN
  clear hxn h1 h2 h3 h4 h5 h6
  go_enter Try.func21, Try.ntmps21
  go_wp2_with fail
  generalize hW : w.alloc (.cells #[.int .u32 xn, .int .i64 xb, .int .u32 xv, .int .i64 xi, .int .i64 xc] 32) = W
  have hG : Grow w W := by rw [← hW]; exact Grow.alloc _ _
  have hsz : w.heap.size < W.heap.size := by rw [← hW]; simp
  have RX : RtAt W w.heap.size 0 ⟨xn, xb, xv, xi, xc⟩ := by rw [← hW]; exact RtAt.new w ⟨xn, xb, xv, xi, xc⟩ _
  clear hW
  obtain ⟨b0, b1, b2, b3, b4⟩ := RX
  simp only [Nat.zero_add] at b1 b2 b3 b4
  have HG := Lib.hid hG
  clear hG
  have c0 := fun p : Gw W => Gw.cell (a := ⟨w.heap.size, 0, none⟩) hsz b0 p
  have c1 := fun p : Gw W => Gw.cell (a := ⟨w.heap.size, 1, none⟩) hsz b1 p
  have c3 := fun p : Gw W => Gw.cell (a := ⟨w.heap.size, 3, none⟩) hsz b3 p
  have c4 := fun p : Gw W => Gw.cell (a := ⟨w.heap.size, 4, none⟩) hsz b4 p
  have hcg : ∀ p : Gw W, Calls Try.prog 22 #[.int .u32 xn, .int .i64 xb] p.v fun e w' => e = .returned (.int .u32 xn) ∧ ∃ q : Gw W, w' = q.v := fun p => Calls.gw ((cN p.v).mono fun _ _ ⟨he, m, hm⟩ => ⟨he, by rw [hm]; exact ⟨rfl, rfl, rfl, Nat.le_refl _, fun _ _ => rfl⟩⟩)
  clear cN
  clear b0 b1 b2 b3 b4
  refine wp_region_gw (by kernel_rfl) (by kernel_rfl) ?_
  repeat (quiet_step ((go_at_call 22; exact hcg _)))
  refine wpQuiet_nil ?_
  intro W2 hw'
  obtain ⟨⟨wq, hgq⟩, hw2⟩ := hw'
  subst hw2
  go_wp2_with fail
  go_ret2
  exact ⟨rfl, HG.out.trans hgq⟩

set_option maxRecDepth 10000 in
set_option maxHeartbeats 400000 in
theorem RAdd_c1 (w : World) (v : Value) (xn xb xv xi xc : Int) (hxn : 0 ≤ xn ∧ xn ≤ 4294967295) (h1 : ¬ xb < 0) (h2 : ¬ 32 < xb) (h3 : netOf xn xb = xn) (h4 : ¬ xi < 0) (h5 : ¬ 15 < xi) (h6 : ¬ xc < 0) (h7 : 65535 < xc) :
    Calls Try.prog 21 #[v, .agg #[.int .u32 xn, .int .i64 xb, .int .u32 xv, .int .i64 xi, .int .i64 xc]] w fun e w' => e = .returned (.tuple #[v, .int .i64 1]) ∧ Grow w w' := by
  have d1 : decide (xb < 0) = false := decide_eq_false h1
  have d2 : decide (32 < xb) = false := decide_eq_false h2
  have d4 : decide (xi < 0) = false := decide_eq_false h4
  have d5 : decide (15 < xi) = false := decide_eq_false h5
  have d6 : decide (xc < 0) = false := decide_eq_false h6
  have d7 : decide (65535 < xc) = true := decide_eq_true h7
  have cN := fun w => RNet_any xn xb hxn (by omega) w
  rw [h3] at cN
  clear hxn h1 h2 h3 h4 h5 h6 h7
  go_enter Try.func21, Try.ntmps21
  go_wp2_with fail
  generalize hW : w.alloc (.cells #[.int .u32 xn, .int .i64 xb, .int .u32 xv, .int .i64 xi, .int .i64 xc] 32) = W
  have hG : Grow w W := by rw [← hW]; exact Grow.alloc _ _
  have hsz : w.heap.size < W.heap.size := by rw [← hW]; simp
  have RX : RtAt W w.heap.size 0 ⟨xn, xb, xv, xi, xc⟩ := by rw [← hW]; exact RtAt.new w ⟨xn, xb, xv, xi, xc⟩ _
  clear hW
  obtain ⟨b0, b1, b2, b3, b4⟩ := RX
  simp only [Nat.zero_add] at b1 b2 b3 b4
  have HG := Lib.hid hG
  clear hG
  have c0 := fun p : Gw W => Gw.cell (a := ⟨w.heap.size, 0, none⟩) hsz b0 p
  have c1 := fun p : Gw W => Gw.cell (a := ⟨w.heap.size, 1, none⟩) hsz b1 p
  have c3 := fun p : Gw W => Gw.cell (a := ⟨w.heap.size, 3, none⟩) hsz b3 p
  have c4 := fun p : Gw W => Gw.cell (a := ⟨w.heap.size, 4, none⟩) hsz b4 p
  have hcg : ∀ p : Gw W, Calls Try.prog 22 #[.int .u32 xn, .int .i64 xb] p.v fun e w' => e = .returned (.int .u32 xn) ∧ ∃ q : Gw W, w' = q.v := fun p => Calls.gw ((cN p.v).mono fun _ _ ⟨he, m, hm⟩ => ⟨he, by rw [hm]; exact ⟨rfl, rfl, rfl, Nat.le_refl _, fun _ _ => rfl⟩⟩)
  clear cN
  clear b0 b1 b2 b3 b4
  refine wp_region_gw (by kernel_rfl) (by kernel_rfl) ?_
  repeat (quiet_step ((go_at_call 22; exact hcg _)))
  refine wpQuiet_nil ?_
  intro W2 hw'
  obtain ⟨⟨wq, hgq⟩, hw2⟩ := hw'
  subst hw2
  go_wp2_with fail
  go_ret2
  exact ⟨rfl, HG.out.trans hgq⟩

end Go.Proofs.Ytfdoofkofljgnaa
