/- AgendaOnce: the states of its loops. -/
import Derived.Test.YtdgbieapgmjjhaaAgApp
import Derived.Test.YtdgbieapgmjjhaaAgOpen
namespace Go.Proofs.Ytdgbieapgmjjhaa
set_option linter.unusedVariables false
set_option linter.unusedSimpArgs false
open Go.ChangeShapes Go.WideShapes Go.ChangeAt Go.RowKit

/-- Pushing: L so far. -/
structure On1 (w wr : World) (ab mb k : Nat) (L : List En) (v : Value) : Prop where
  q : Agd wr w.heap.size ab mb L 200 (L.length : Int)
  row : Its wr w.heap.size v L
  le : L.length ≤ k
  ok : ∀ e ∈ L, EOk e
  g : Grow w wr
/-- Popping: O told, F left. -/
structure On2 (w wr : World) (ab mb : Nat) (L O F : List En) (v u : Value) : Prop where
  q : Agd wr w.heap.size ab mb F 200 (L.length : Int)
  inr : Its wr w.heap.size v L
  out : Its wr w.heap.size u O
  apt : Apt v u
  perm : (O ++ F).Perm L
  g : Grow w wr
/-- Telling: D told, of which k so far. -/
structure On3 (w wr : World) (ab mb k : Nat) (L O D F : List En) (v u d : Value) : Prop where
  q : Agd wr w.heap.size ab mb F 200 (L.length : Int)
  inr : Its wr w.heap.size v L
  out : Its wr w.heap.size u (O ++ D.take k)
  due : Its wr w.heap.size d D
  apt : Apt v u
  aptd : Apt d u
  g : Grow w wr
theorem On1.same {w wr wr' : World} {ab mb k : Nat} {L : List En} {v : Value} (h : On1 w wr ab mb k L v) (g : Grow wr wr') : On1 w wr' ab mb (k + 1) L v :=
  ⟨h.q.grow g, h.row.grow g, by have := h.le; omega, h.ok, Grow.trans h.g g⟩
theorem On3.grow {w wr wr' : World} {ab mb k : Nat} {L O D F : List En} {v u d : Value} (h : On3 w wr ab mb k L O D F v u d) (g : Grow wr wr') : On3 w wr' ab mb k L O D F v u d :=
  ⟨h.q.grow g, h.inr.grow g, h.out.grow g, h.due.grow g, h.apt, h.aptd, Grow.trans h.g g⟩
theorem On1.ids {w wr : World} {ab mb k : Nat} {L : List En} {v : Value} (h : On1 w wr ab mb k L v) : (L.map En.id).Nodup := h.q.nod
theorem split_perm {O F L : List En} {now : Int} (h : (O ++ F).Perm L) : (O ++ sortE (F.filter fun e => decide (e.at_ ≤ now)) ++ F.filter fun e => decide (now < e.at_)).Perm L := by
  rw [List.append_assoc]
  refine (List.Perm.append_left O ?_).trans h
  refine ((sortE_perm _).append_right _).trans ?_
  have e : (F.filter fun e => decide (now < e.at_)) = F.filter fun e => !decide (e.at_ ≤ now) := List.filter_congr fun x _ => by
    by_cases q : x.at_ ≤ now
    · rw [decide_eq_true q, decide_eq_false (show ¬ now < x.at_ by omega)]; rfl
    · rw [decide_eq_false q, decide_eq_true (show now < x.at_ by omega)]; rfl
  rw [e]
  exact List.filter_append_perm _ _
/-- The next one told: told for the first time, and in order. -/
theorem next_told {O D F L : List En} {now : Int} {k : Nat} (hL : (L.map En.id).Nodup) (hp : (O ++ D ++ F).Perm L) (hk : k < D.length) (hs : SrtE D) : (∀ t ∈ O ++ D.take k, t.id ≠ (pt D k).id) ∧ (∃ t ∈ L, t.id = (pt D k).id) ∧ ∀ m, m < k → ¬ (pt D k).at_ < (pt D m).at_ ∧ ((pt D m).at_ = (pt D k).at_ → ¬ (pt D k).rk < (pt D m).rk) := by
  have key : ∀ m (hm : m < D.length), pt D m = D[m] := fun m hm => by
    have := pt_get hm
    rw [List.getElem?_eq_getElem hm] at this
    exact (Option.some.inj this).symm
  refine ⟨fun t ht e => ?_, ⟨pt D k, hp.mem_iff.1 (List.mem_append_left _ (List.mem_append_right _ (pt_in hk))), rfl⟩, fun m hm => ?_⟩
  · have h1 : ((O ++ D ++ F).map En.id).Nodup := (hp.map En.id).nodup_iff.2 hL
    have e2 : D = D.take k ++ pt D k :: D.drop (k + 1) := by
      rw [key k hk, List.getElem_cons_drop, List.take_append_drop]
    rw [e2] at h1
    have h2 : ((O ++ D.take k).map En.id ++ ((pt D k :: D.drop (k + 1)) ++ F).map En.id).Nodup := by
      have e3 : O ++ (D.take k ++ pt D k :: D.drop (k + 1)) ++ F = (O ++ D.take k) ++ ((pt D k :: D.drop (k + 1)) ++ F) := by simp
      rw [e3, List.map_append] at h1
      exact h1
    have h3 := (List.nodup_append.1 h2).2.2 _ (List.mem_map_of_mem ht) (pt D k).id (by simp)
    exact h3 e
  · have := List.pairwise_iff_getElem.1 hs m k (by omega) hk hm
    rw [← key m (by omega), ← key k hk] at this
    unfold ltE at this
    omega
theorem take_next {D : List En} {k : Nat} (hk : k < D.length) (O : List En) : O ++ D.take (k + 1) = (O ++ D.take k) ++ [pt D k] := by
  have key : pt D k = D[k] := by
    have := pt_get hk
    rw [List.getElem?_eq_getElem hk] at this
    exact (Option.some.inj this).symm
  rw [List.take_succ_eq_append_getElem hk, key, List.append_assoc]
end Go.Proofs.Ytdgbieapgmjjhaa
