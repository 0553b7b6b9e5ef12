/- Rows of items read; the page's example. -/
import Derived.Test.YtdgbieapgmjjhaaAgAgd
namespace Go.Proofs.Ytdgbieapgmjjhaa
set_option linter.unusedVariables false
set_option linter.unusedSimpArgs false
open Go.ChangeShapes Go.WideShapes Go.ChangeAt Go.RowKit

theorem flat_it_at : ∀ (l : List En) (i : Nat) (t : En), l[i]? = some t → ∀ k u, (it t)[k]? = some u → (l.flatMap it)[i * 3 + k]? = some u
  | [], i, t, h, _, _, _ => by simp at h
  | x :: l, 0, t, h, k, u, hk => by
    simp at h
    subst h
    have hk3 : k < (it x).length := (List.getElem?_eq_some_iff.1 hk).1
    rw [List.flatMap_cons, Nat.zero_mul, Nat.zero_add, List.getElem?_append_left hk3]
    exact hk
  | x :: l, i + 1, t, h, k, u, hk => by
    have := flat_it_at l i t (by simpa using h) k u hk
    rw [List.flatMap_cons, List.getElem?_append_right (by simp [it]; omega)]
    rw [show (i + 1) * 3 + k - (it x).length = i * 3 + k from by simp [it]; omega]
    exact this
/-- The slice v reads as these items. -/
def RdIt (w : World) (v : Value) (l : List En) : Prop := RdK w 3 v l.length (l.flatMap it)
section
variable {w w' : World} {base : Nat} {v : Value} {l : List En}
theorem Its.rd (h : Its w base v l) : RdIt w v l := RdK.of_own h
theorem RdIt.grow (h : RdIt w v l) (g : Grow w w') : RdIt w' v l := RdK.grow h g
theorem RdIt.form (h : RdIt w v l) : ∃ A c, v = .slice A l.length c ∧ l.length ≤ c ∧ c ≤ maxLen := RdK.form h
/-- Its cells. -/
theorem RdIt.cell (h : RdIt w v l) (hp : 0 < l.length) : ∃ b off c, v = .slice (some ⟨b, off, none⟩) l.length c ∧ b < w.heap.size ∧
    ∀ k, k < l.length → w.cell? ⟨b, off + k * 3, none⟩ = some (.int .i64 (pt l k).id) ∧ w.cell? ⟨b, off + k * 3 + 1, none⟩ = some (.int .i64 (pt l k).at_) ∧ w.cell? ⟨b, off + k * 3 + 2, none⟩ = some (.int .i64 (pt l k).rk) := by
  obtain ⟨A, c, rfl, h0, h1, h2, h3⟩ := h
  obtain ⟨b, off, rfl, hb, hc⟩ := h3 hp
  refine ⟨b, off, c, rfl, hb, fun k hk => ?_⟩
  have key : ∀ r u, (it (pt l k))[r]? = some u → w.cell? ⟨b, off + k * 3 + r, none⟩ = some u := by
    intro r u hr
    have := hc (k * 3 + r) u (flat_it_at l k _ (pt_get hk) r u hr)
    rwa [← Nat.add_assoc] at this
  exact ⟨key 0 _ rfl, key 1 _ rfl, key 2 _ rfl⟩
theorem Its.only {b0 : Nat} {Z : Nat → TypeId → Prop} (h : Its w base v l) (o : Only b0 Z w w') (hz : ∀ b, ¬ Z b 31) : Its w' base v l := o.row h fun g _ => hz g
end
theorem zq_it (b : Nat) : ¬ Zq b 31 := fun e => by rcases e with e | e | e <;> exact absurd e (by decide)
set_option maxRecDepth 10000 in
set_option maxHeartbeats 4000000 in
theorem alive_any (w : World) : Calls Try.prog 6 #[] w fun e w' => e = .returned (.bool true) ∧ Grow w w' := by
  have c0 := agNew_any w w.heap.size (Nat.le_refl _) 9 (by omega) (by omega)
  have HC := Lib.hid (fun x w => code_any x w)
  go_enter Try.func6, Try.ntmps6
  go_wp2_with fail
  refine c0.mono ?_
  rintro e w1 ⟨rfl, h1, g1⟩
  have H1 := Lib.hid (And.intro h1 g1)
  clear c0 h1 g1
  go_wp2_with fail
  refine (HC.out _ _).mono ?_
  rintro e w' ⟨rfl, hw⟩
  subst w'
  have c1 := agPush_ok w1 _ _ _ _ _ _ H1.out.1 (by simp) (by omega) 1 5 0 (by simp) (by simp)
  go_wp2_with fail
  refine c1.mono ?_
  rintro e w2 ⟨rfl, h2, o2⟩
  have H2 := Lib.hid (And.intro h2 o2)
  clear c1 h2 o2
  have c2 := agPush_ok w2 _ _ _ _ _ _ H2.out.1 (by simp) (by omega) 2 3 0 (by simp) (by simp)
  go_wp2_with fail
  refine c2.mono ?_
  rintro e w3 ⟨rfl, h3, o3⟩
  have H3 := Lib.hid (And.intro h3 (H2.out.2.trans o3))
  clear c2 h3 o3
  have c3 := agPush_ok w3 _ _ _ _ _ _ H3.out.1 (by simp) (by omega) 3 5 0 (by simp) (by simp)
  go_wp2_with fail
  refine c3.mono ?_
  rintro e w4 ⟨rfl, h4, o4⟩
  have H4 : Hid (Agd w4 w.heap.size (w.heap.size + 1) w.heap.size [⟨1, 5, 0, 0⟩, ⟨2, 3, 0, 1⟩, ⟨3, 5, 0, 2⟩] 9 3 ∧ Only w.heap.size Zq w1 w4) := ⟨h4, H3.out.2.trans o4⟩
  clear c3 h4 o4
  have c4 := agPop_any w4 _ _ _ _ _ _ 4 H4.out.1 (by simp)
  have e1 : sortE ([⟨1, 5, 0, 0⟩, ⟨2, 3, 0, 1⟩, ⟨3, 5, 0, 2⟩].filter fun e : En => decide (e.at_ ≤ 4)) = [⟨2, 3, 0, 1⟩] := by simp [sortE, insE, leE]
  have e2 : ([⟨1, 5, 0, 0⟩, ⟨2, 3, 0, 1⟩, ⟨3, 5, 0, 2⟩].filter fun e : En => decide (4 < e.at_)) = [⟨1, 5, 0, 0⟩, ⟨3, 5, 0, 2⟩] := by simp
  rw [e1, e2] at c4
  clear e1 e2
  go_wp2_with fail
  refine c4.mono ?_
  rintro e w5 ⟨s5, rfl, r5, h5, o5⟩
  have H5 := Lib.hid (And.intro r5 (And.intro h5 (H4.out.2.trans o5)))
  clear c4 r5 h5 o5
  have c5 := agPop_any w5 _ _ _ _ _ _ 5 H5.out.2.1 (by simp)
  have e1 : sortE ([⟨1, 5, 0, 0⟩, ⟨3, 5, 0, 2⟩].filter fun e : En => decide (e.at_ ≤ 5)) = [⟨1, 5, 0, 0⟩, ⟨3, 5, 0, 2⟩] := by simp [sortE, insE, leE]
  rw [e1] at c5
  clear e1
  go_wp2_with fail
  refine c5.mono ?_
  rintro e w6 ⟨s6, rfl, r6, h6, o6⟩
  have H6 : Hid (Grow w w6) := Lib.hid (Below.trans H1.out.2 (H5.out.2.2.trans o6).low)
  obtain ⟨b5, f5, c5', rfl, _, k5⟩ := (H5.out.1.only o6 zq_it).rd.cell (by simp)
  obtain ⟨b6, f6, c6', rfl, _, k6⟩ := r6.rd.cell (by simp)
  obtain ⟨x0, _⟩ := k5 0 (by simp)
  obtain ⟨y0, _⟩ := k6 0 (by simp)
  obtain ⟨y1, _⟩ := k6 1 (by simp)
  simp only [Nat.zero_mul, Nat.one_mul, Nat.add_zero, pt, List.getD_cons_zero, List.getD_cons_succ] at x0 y0 y1
  clear c5 r6 h6 o6 k5 k6 H5
  go_wp2_with fail
  refine (HC.out _ _).mono ?_
  rintro e w' ⟨rfl, hw⟩
  subst w'
  go_wp2_with fail
  refine (HC.out _ _).mono ?_
  rintro e w' ⟨rfl, hw⟩
  subst w'
  go_wp2_with fail
  refine (HC.out _ _).mono ?_
  rintro e w' ⟨rfl, hw⟩
  subst w'
  go_wp2_with fail
  go_ret
  exact ⟨rfl, H6.out⟩
end Go.Proofs.Ytdgbieapgmjjhaa
