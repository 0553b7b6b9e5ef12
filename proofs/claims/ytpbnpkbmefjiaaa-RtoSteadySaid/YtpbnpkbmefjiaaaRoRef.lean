/- Contracts: Right, Back, Sample of the reference of rto. -/
import Derived.Test.YtpbnpkbmefjiaaaRoNum
namespace Go.Proofs.Ytpbnpkbmefjiaaa
set_option linter.unusedVariables false
set_option linter.unusedSimpArgs false
open Go.ChangeShapes Go.WideShapes Go.ChangeAt Go.RowKit

theorem roRight_any (w : World) (l h f : Int) : Calls Try.prog 7 #[.int .i64 l, .int .i64 h, .int .i64 f] w fun e w' => e = .returned (.bool (decide (RoRight l h f))) ∧ w' = w := by
  by_cases q1 : 1 ≤ l
  · have d1 : decide (1 ≤ l) = true := decide_eq_true q1
    by_cases q2 : l ≤ f
    · have d2 : decide (l ≤ f) = true := decide_eq_true q2
      by_cases q3 : f ≤ h
      · have d3 : decide (f ≤ h) = true := decide_eq_true q3
        by_cases q4 : h ≤ 1073741824
        · have d4 : decide (h ≤ 1073741824) = true := decide_eq_true q4
          have HE : Hid (decide (RoRight l h f) = true) := decide_eq_true ⟨q1, q2, q3, q4⟩
          clear q1 q2 q3 q4
          go_enter Try.func7, Try.ntmps7
          go_wp2_with fail
          go_ret
          exact ⟨by rw [HE.out]; rfl, rfl⟩
        · have d4 : decide (h ≤ 1073741824) = false := decide_eq_false q4
          have HE : Hid (decide (RoRight l h f) = false) := decide_eq_false fun q => q4 q.2.2.2
          clear q1 q2 q3 q4
          go_enter Try.func7, Try.ntmps7
          go_wp2_with fail
          go_ret
          exact ⟨by rw [HE.out]; rfl, rfl⟩
      · have d3 : decide (f ≤ h) = false := decide_eq_false q3
        have HE : Hid (decide (RoRight l h f) = false) := decide_eq_false fun q => q3 q.2.2.1
        clear q1 q2 q3
        go_enter Try.func7, Try.ntmps7
        go_wp2_with fail
        go_ret
        exact ⟨by rw [HE.out]; rfl, rfl⟩
    · have d2 : decide (l ≤ f) = false := decide_eq_false q2
      have HE : Hid (decide (RoRight l h f) = false) := decide_eq_false fun q => q2 q.2.1
      clear q1 q2
      go_enter Try.func7, Try.ntmps7
      go_wp2_with fail
      go_ret
      exact ⟨by rw [HE.out]; rfl, rfl⟩
  · have d1 : decide (1 ≤ l) = false := decide_eq_false q1
    have HE : Hid (decide (RoRight l h f) = false) := decide_eq_false fun q => q1 q.1
    clear q1
    go_enter Try.func7, Try.ntmps7
    go_wp2_with fail
    go_ret
    exact ⟨by rw [HE.out]; rfl, rfl⟩
def zeroRo : Ro := ⟨0, 0, 0, 0, 0, 0, false⟩
/-- The two boxes of a call of the reference: its argument's, its result's. -/
structure RoSt (w wx : World) (r u : Ro) : Prop where
  b : RoB wx w.heap.size r
  c : RoB wx (w.heap.size + 1) u
  g : Grow w wx
section
variable {w wx : World} {r u : Ro}
theorem roSt (w : World) (r : Ro) {W : World} (hW : W = (w.alloc (.cells (roA r) 33)).alloc (.cells (roA zeroRo) 33)) : RoSt w W r zeroRo := by
  subst hW
  have s1 : (w.alloc (.cells (roA r) 33)).heap.size = w.heap.size + 1 := Array.size_push _
  have h1 := heap_alloc_new w (.cells (roA r) 33)
  have h2 := heap_alloc_new (w.alloc (.cells (roA r) 33)) (.cells (roA zeroRo) 33)
  rw [s1] at h2
  exact ⟨((Grow.alloc (w.alloc (.cells (roA r) 33)) _).block _ (by omega)).trans h1, h2, (Grow.alloc _ _).trans (Grow.alloc _ _)⟩
theorem RoSt.set (h : RoSt w wx r u) {i : Nat} {x : Value} {r' : Ro} (e : (roA r).setIfInBounds i x = roA r') : RoSt w (wx.setCell ⟨w.heap.size, i, none⟩ x) r' u := by
  refine ⟨?_, ?_, h.g.setCell (Nat.le_refl _) _⟩
  · have := heap_setCell_own (k := i) h.b x
    rw [e] at this
    exact this
  · exact (Below.heap_setCell _ _ _ _ (fun e => by have e : w.heap.size + 1 = w.heap.size := e; omega)).trans h.c
theorem RoSt.fz (h : RoSt w wx r u) (i : Nat) : wx.frozen? ⟨w.heap.size, i, none⟩ = false := frozen_of h.b
end
set_option maxRecDepth 10000 in
set_option maxHeartbeats 1000000 in
theorem roBack_any (w : World) (r : Ro) (ok : RoOk r) (hb : r.backs < 4611686018427387904) : Calls Try.prog 11 #[.agg (roA r)] w fun e w' => e = .returned (.agg (roA (roBk r))) ∧ Grow w w' := by
  have hn := ok.n2
  have hh := ok.hi
  obtain ⟨W, hW⟩ : ∃ W, W = (w.alloc (.cells (roA r) 33)).alloc (.cells (roA zeroRo) 33) := ⟨_, rfl⟩
  have HS := Lib.hid (roSt w r hW)
  obtain ⟨l, h, m, v, n, b, k⟩ := r
  simp only at hn hh hb
  have c1 := HS.out.b.c1
  have c4 := HS.out.b.c4
  have c5 := HS.out.b.c5
  have fz := HS.out.fz
  simp only at c1 c4 c5
  obtain ⟨D, hD⟩ : ∃ D : Nat, D = 2 * n := ⟨_, rfl⟩
  have w1 : wrap64 (2 * (n : Int)) = (D : Int) := by rw [hD]; exact (IntWalk.wrap64_in _ (by omega)).trans (by omega)
  obtain ⟨B1, hB1⟩ : ∃ B1 : Nat, B1 = b + 1 := ⟨_, rfl⟩
  have w2 : wrap64 ((b : Int) + 1) = (B1 : Int) := by rw [hB1]; exact (IntWalk.wrap64_in _ (by omega)).trans (by omega)
  have HB := Lib.hid (And.intro hD hB1)
  by_cases q : h < D
  · have q1 : (h : Int) < (D : Int) := by omega
    have HE : Hid (roBk ⟨l, h, m, v, n, b, k⟩ = ⟨l, h, m, v, h, B1, k⟩) := by
      show roBk ⟨l, h, m, v, n, b, k⟩ = _
      unfold roBk roTop
      rw [if_pos (by show h < 2 * n; omega), ← HB.out.2]
    have HX : Hid (RoSt w (((W.setCell ⟨w.heap.size, 4, none⟩ (.int .i64 (D : Int))).setCell ⟨w.heap.size, 4, none⟩ (.int .i64 (h : Int))).setCell ⟨w.heap.size, 5, none⟩ (.int .i64 (B1 : Int))) ⟨l, h, m, v, h, B1, k⟩ zeroRo) :=
      ((HS.out.set (r' := ⟨l, h, m, v, D, b, k⟩) rfl).set (r' := ⟨l, h, m, v, h, b, k⟩) rfl).set rfl
    clear hD hB1 hn hh hb ok
    go_enter Try.func11, Try.ntmps11
    go_upto_region 1 with fail
    show Code.wp _ _ _ _ ((w.alloc (.cells (roA ⟨l, h, m, v, n, b, k⟩) 33)).alloc (.cells (roA zeroRo) 33))
    rw [← hW]
    clear hW
    go_upto_region 5 with fail
    go_wp2_with (first | (show wpList _ _ _ (⟨some 19, .load 33 (.tmp 1), _, _, _, _⟩ :: _) _ _; refine wpList_load_ro _ rfl _ rfl w.heap.size _ rfl HX.out.b ?_) | (show wpList _ _ _ (⟨none, .store 33 (.tmp 2) (.tmp 19), _, _, _, _⟩ :: _) _ _; refine wpList_store_ro w _ rfl _ _ rfl rfl (w.heap.size + 1) ⟨l, h, m, v, h, B1, k⟩ zeroRo rfl rfl HX.out.c HX.out.g (Nat.le_succ _) ?_; intro W2 b2 k2 g2; have H2 := Lib.hid (And.intro b2 g2); clear b2 k2 g2))
    refine bodyPost_ret (results_ro rfl _ _ (w.heap.size + 1) _ rfl H2.out.1) rfl ?_
    rw [HE.out]
    exact ⟨rfl, H2.out.2⟩
  · have q1 : ¬ (h : Int) < (D : Int) := by omega
    have HE : Hid (roBk ⟨l, h, m, v, n, b, k⟩ = ⟨l, h, m, v, D, B1, k⟩) := by
      show roBk ⟨l, h, m, v, n, b, k⟩ = _
      unfold roBk roTop
      rw [if_neg (by show ¬ h < 2 * n; omega), ← HB.out.2, ← HB.out.1]
    have HX : Hid (RoSt w ((W.setCell ⟨w.heap.size, 4, none⟩ (.int .i64 (D : Int))).setCell ⟨w.heap.size, 5, none⟩ (.int .i64 (B1 : Int))) ⟨l, h, m, v, D, B1, k⟩ zeroRo) :=
      (HS.out.set (r' := ⟨l, h, m, v, D, b, k⟩) rfl).set rfl
    clear hD hB1 hn hh hb ok
    go_enter Try.func11, Try.ntmps11
    go_upto_region 1 with fail
    show Code.wp _ _ _ _ ((w.alloc (.cells (roA ⟨l, h, m, v, n, b, k⟩) 33)).alloc (.cells (roA zeroRo) 33))
    rw [← hW]
    clear hW
    go_upto_region 5 with fail
    go_wp2_with (first | (show wpList _ _ _ (⟨some 19, .load 33 (.tmp 1), _, _, _, _⟩ :: _) _ _; refine wpList_load_ro _ rfl _ rfl w.heap.size _ rfl HX.out.b ?_) | (show wpList _ _ _ (⟨none, .store 33 (.tmp 2) (.tmp 19), _, _, _, _⟩ :: _) _ _; refine wpList_store_ro w _ rfl _ _ rfl rfl (w.heap.size + 1) ⟨l, h, m, v, D, B1, k⟩ zeroRo rfl rfl HX.out.c HX.out.g (Nat.le_succ _) ?_; intro W2 b2 k2 g2; have H2 := Lib.hid (And.intro b2 g2); clear b2 k2 g2))
    refine bodyPost_ret (results_ro rfl _ _ (w.heap.size + 1) _ rfl H2.out.1) rfl ?_
    rw [HE.out]
    exact ⟨rfl, H2.out.2⟩
end Go.Proofs.Ytpbnpkbmefjiaaa
