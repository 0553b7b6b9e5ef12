/- AgendaPlays: an agenda and the reference's list, call by call. -/
import Derived.Test.YtdgbieapgmjjhaaAgAll
import Derived.Test.YtdgbieapgmjjhaaAgRPo
import Derived.Test.YtdgbieapgmjjhaaAgOpen
namespace Go.Proofs.Ytdgbieapgmjjhaa
set_option linter.unusedVariables false
set_option linter.unusedSimpArgs false
open Go.ChangeShapes Go.WideShapes Go.ChangeAt Go.RowKit

/-- Behind i calls: the agenda holds L, and v reads as L. -/
structure PlA (w wr : World) (ab mb : Nat) (mo : Int) (i : Nat) (L : List En) (v : Value) : Prop where
  q : ∃ pu : Int, Agd wr w.heap.size ab mb L mo pu ∧ pu ≤ (i : Int)
  row : Its wr w.heap.size v L
  len : L.length ≤ i
  g : Grow w wr
section
variable {w wr w' : World} {ab mb i : Nat} {mo : Int} {L : List En} {v : Value}
theorem PlA.grow (h : PlA w wr ab mb mo i L v) (g : Grow wr w') : PlA w w' ab mb mo i L v := by
  obtain ⟨pu, h1, h2⟩ := h.q
  exact ⟨⟨pu, h1.grow g, h2⟩, h.row.grow g, h.len, Grow.trans h.g g⟩
theorem PlA.next (h : PlA w wr ab mb mo i L v) : PlA w wr ab mb mo (i + 1) L v := by
  obtain ⟨pu, h1, h2⟩ := h.q
  exact ⟨⟨pu, h1, by omega⟩, h.row, by have := h.len; omega, h.g⟩
theorem PlA.bas (h : PlA w wr ab mb mo i L v) : w.heap.size ≤ wr.heap.size := h.g.size
theorem push_both (h : PlA w wr ab mb mo i L v) (hi : i ≤ 1000) (a b r : Int) : ∃ f : Int, Calls Try.prog 9 #[.pointer (some ⟨ab, 0, none⟩), .agg #[.int .i64 a, .int .i64 b, .int .i64 r]] wr fun e w2 => e = .returned (.int .i64 f) ∧ Only w.heap.size Zq wr w2 ∧
    Calls Try.prog 10 #[v, .int .i64 mo, .agg #[.int .i64 a, .int .i64 b, .int .i64 r]] w2 fun e w3 => ∃ A' n' c', e = .returned (.tuple #[.slice A' n' c', .int .i64 f]) ∧ ∃ L', n' = L'.length ∧ PlA w w3 ab mb mo (i + 1) L' (.slice A' n' c') ∧ Grow w2 w3 := by
  obtain ⟨pu, h1, h2⟩ := h.q
  obtain ⟨A, c, hv⟩ := h.row.form
  have hl := h.len
  by_cases hx : ∃ e ∈ L, e.id = a
  · refine ⟨140, (agPush_same h1 a b r hx).mono ?_⟩
    rintro e w2 ⟨rfl, g2⟩
    refine ⟨rfl, Only.grow g2 h.bas _, (rPushE_same w2 v L (h.row.grow g2).rd (by omega) mo a b r hx).mono ?_⟩
    rintro e w3 ⟨rfl, g3⟩
    exact ⟨A, L.length, c, by rw [hv], L, rfl, by rw [← hv]; exact ((h.grow g2).grow g3).next, g3⟩
  · have hx' : ∀ e ∈ L, e.id ≠ a := fun e he q => hx ⟨e, he, q⟩
    by_cases hf : (L.length : Int) < mo
    · refine ⟨0, (agPush_ok wr _ _ _ L mo pu h1 (by omega) (by omega) a b r hx' hf).mono ?_⟩
      rintro e w2 ⟨rfl, q2, o2⟩
      refine ⟨rfl, o2, (rPushE_ok w2 v L (h.row.only o2 zq_it).rd (by omega) mo a b r hx' hf pu).mono ?_⟩
      rintro e w3 ⟨v3, rfl, r3, g3⟩
      obtain ⟨A3, c3, hv3⟩ := r3.form
      subst hv3
      have hg2 : Grow w w2 := Below.trans h.g o2.low
      exact ⟨A3, _, c3, rfl, _, rfl, ⟨⟨pu + 1, q2.grow g3, by omega⟩, r3.base_ hg2.size, by rw [List.length_append, List.length_singleton]; omega, Grow.trans hg2 g3⟩, g3⟩
    · refine ⟨5, (agPush_full h1 a b r hx' hf).mono ?_⟩
      rintro e w2 ⟨rfl, g2⟩
      refine ⟨rfl, Only.grow g2 h.bas _, (rPushE_full w2 v L (h.row.grow g2).rd (by omega) mo a b r hx' hf).mono ?_⟩
      rintro e w3 ⟨rfl, g3⟩
      exact ⟨A, L.length, c, by rw [hv], L, rfl, by rw [← hv]; exact ((h.grow g2).grow g3).next, g3⟩
theorem move_both (h : PlA w wr ab mb mo i L v) (hi : i ≤ 1000) (a b r : Int) : ∃ f : Int, Calls Try.prog 11 #[.pointer (some ⟨ab, 0, none⟩), .int .i64 a, .int .i64 b, .int .i64 r] wr fun e w2 => e = .returned (.int .i64 f) ∧ Only w.heap.size Zq wr w2 ∧
    Calls Try.prog 12 #[v, .int .i64 a, .int .i64 b, .int .i64 r] w2 fun e w3 => ∃ A' n' c', e = .returned (.tuple #[.slice A' n' c', .int .i64 f]) ∧ ∃ L', n' = L'.length ∧ PlA w w3 ab mb mo (i + 1) L' (.slice A' n' c') ∧ Grow w2 w3 := by
  obtain ⟨pu, h1, h2⟩ := h.q
  obtain ⟨A, c, hv⟩ := h.row.form
  have hl := h.len
  by_cases hx : ∃ e ∈ L, e.id = a
  · refine ⟨0, (agMove_some h1 (by omega) a b r hx).mono ?_⟩
    rintro e w2 ⟨rfl, q2, o2⟩
    refine ⟨rfl, o2, (rMoveE_some w2 v L (h.row.only o2 zq_it).rd (by omega) h1.nod a b r hx).mono ?_⟩
    rintro e w3 ⟨v3, rfl, r3, g3⟩
    obtain ⟨A3, c3, hv3⟩ := r3.form
    subst hv3
    have hg2 : Grow w w2 := Below.trans h.g o2.low
    exact ⟨A3, _, c3, rfl, _, rfl, ⟨⟨pu, q2.grow g3, by omega⟩, r3.base_ hg2.size, by rw [mv_len]; omega, Grow.trans hg2 g3⟩, g3⟩
  · have hx' : ∀ e ∈ L, e.id ≠ a := fun e he q => hx ⟨e, he, q⟩
    refine ⟨6, (agMove_none h1 a b r hx').mono ?_⟩
    rintro e w2 ⟨rfl, hw⟩
    subst w2
    refine ⟨rfl, Only.refl _ _ _, (rMoveE_none wr v L h.row.rd (by omega) a b r hx').mono ?_⟩
    rintro e w3 ⟨rfl, hw⟩
    subst w3
    exact ⟨A, L.length, c, by rw [hv], L, rfl, by rw [← hv]; exact h.next, Grow.refl _⟩
theorem drop_both (h : PlA w wr ab mb mo i L v) (hi : i ≤ 1000) (a : Int) : ∃ f : Bool, Calls Try.prog 13 #[.pointer (some ⟨ab, 0, none⟩), .int .i64 a] wr fun e w2 => e = .returned (.bool f) ∧ Only w.heap.size Zq wr w2 ∧
    Calls Try.prog 14 #[v, .int .i64 a] w2 fun e w3 => ∃ A' n' c', e = .returned (.tuple #[.slice A' n' c', .bool f]) ∧ ∃ L', n' = L'.length ∧ PlA w w3 ab mb mo (i + 1) L' (.slice A' n' c') ∧ Grow w2 w3 := by
  obtain ⟨pu, h1, h2⟩ := h.q
  obtain ⟨A, c, hv⟩ := h.row.form
  have hl := h.len
  by_cases hx : ∃ e ∈ L, e.id = a
  · obtain ⟨j, hj, hja, hp, _⟩ := pos_nod h1.nod hx
    refine ⟨true, (agDrop_some h1 (by omega) a hx).mono ?_⟩
    rintro e w2 ⟨rfl, q2, o2⟩
    refine ⟨rfl, o2, (rDropE_some w2 v L (h.row.only o2 zq_it).rd (by omega) a j hj hp).mono ?_⟩
    rintro e w3 ⟨v3, rfl, r3, g3⟩
    rw [erase_at h1.nod hj, hja] at r3
    obtain ⟨A3, c3, hv3⟩ := r3.form
    subst hv3
    have hg2 : Grow w w2 := Below.trans h.g o2.low
    exact ⟨A3, _, c3, rfl, _, rfl, ⟨⟨pu, q2.grow g3, by omega⟩, r3.base_ hg2.size, by have := List.length_filter_le (fun u : En => decide (u.id ≠ a)) L; omega, Grow.trans hg2 g3⟩, g3⟩
  · have hx' : ∀ e ∈ L, e.id ≠ a := fun e he q => hx ⟨e, he, q⟩
    refine ⟨false, (agDrop_none h1 a hx').mono ?_⟩
    rintro e w2 ⟨rfl, hw⟩
    subst w2
    refine ⟨rfl, Only.refl _ _ _, (rDropE_none wr v L h.row.rd (by omega) a hx').mono ?_⟩
    rintro e w3 ⟨rfl, hw⟩
    subst w3
    exact ⟨A, L.length, c, by rw [hv], L, rfl, by rw [← hv]; exact h.next, Grow.refl _⟩
theorem pop_both (h : PlA w wr ab mb mo i L v) (hi : i ≤ 1000) (now : Int) : Calls Try.prog 15 #[.pointer (some ⟨ab, 0, none⟩), .int .i64 now] wr fun e w2 => ∃ Ax nx cx, e = .returned (.slice Ax nx cx) ∧ Only w.heap.size Zq wr w2 ∧
    Calls Try.prog 16 #[v, .int .i64 now] w2 fun e w3 => ∃ A' n' c' A2 n2 c2, e = .returned (.tuple #[.slice A' n' c', .slice A2 n2 c2]) ∧ ∃ L', n' = L'.length ∧ PlA w w3 ab mb mo (i + 1) L' (.slice A' n' c') ∧ Grow w2 w3 ∧
      Calls Try.prog 17 #[.slice Ax nx cx, .slice A2 n2 c2] w3 fun e w4 => e = .returned (.bool true) ∧ Grow w3 w4 := by
  obtain ⟨pu, h1, h2⟩ := h.q
  obtain ⟨A, c, hv⟩ := h.row.form
  have hl := h.len
  refine (agPop_any wr _ _ _ L mo pu now h1 (by omega)).mono ?_
  rintro e w2 ⟨s2, rfl, r2, q2, o2⟩
  obtain ⟨Ax, cx, hs2⟩ := r2.form
  subst hs2
  refine ⟨Ax, _, cx, rfl, o2, (rPopE_any w2 v L now (h.row.only o2 zq_it).rd (by omega)).mono ?_⟩
  rintro e w3 ⟨v1, v2, rfl, r3, r4, g3⟩
  obtain ⟨A3, c3, hv3⟩ := r3.form
  subst hv3
  obtain ⟨A4, c4, hv4⟩ := r4.form
  subst hv4
  have hg2 : Grow w w2 := Below.trans h.g o2.low
  have hfl := List.length_filter_le (fun e : En => decide (now < e.at_)) L
  have hfl2 := List.length_filter_le (fun e : En => decide (e.at_ ≤ now)) L
  exact ⟨A3, _, c3, A4, _, c4, rfl, _, rfl, ⟨⟨pu, q2.grow g3, by omega⟩, r3.base_ hg2.size, by omega, Grow.trans hg2 g3⟩, g3, rSameE_any w3 _ _ _ (r2.grow g3).rd r4.rd (by rw [sortE_len]; omega)⟩
end
/-- A call's item in memory. -/
def ItAt (w : World) (g : Nat) (x : En) : Prop := w.heap[g]? = some (.cells #[.int .i64 x.id, .int .i64 x.at_, .int .i64 x.rk] 31 (0, 0))
theorem ItAt.c0 {w : World} {g : Nat} {x : En} (h : ItAt w g x) : w.cell? ⟨g, 0, none⟩ = some (.int .i64 x.id) := (cell_of_row w g 0 _ _ _ h).trans rfl
theorem ItAt.c1 {w : World} {g : Nat} {x : En} (h : ItAt w g x) : w.cell? ⟨g, 1, none⟩ = some (.int .i64 x.at_) := (cell_of_row w g 1 _ _ _ h).trans rfl
theorem ItAt.c2 {w : World} {g : Nat} {x : En} (h : ItAt w g x) : w.cell? ⟨g, 2, none⟩ = some (.int .i64 x.rk) := (cell_of_row w g 2 _ _ _ h).trans rfl
theorem ItAt.grow {w w' : World} {g : Nat} {x : En} (h : ItAt w g x) (k : Grow w w') : ItAt w' g x := (k.block g (Array.getElem?_eq_some_iff.1 h).1).trans h
theorem ItAt.only {w w' : World} {g base : Nat} {x : En} (h : ItAt w g x) (o : Only base Zq w w') : ItAt w' g x := o.cells h (zq_it _)
end Go.Proofs.Ytdgbieapgmjjhaa
