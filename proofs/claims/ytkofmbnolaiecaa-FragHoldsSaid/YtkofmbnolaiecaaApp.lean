/- append onto a row of bytes of the call's own, as one step of a walk. -/
import Derived.Test.YtkofmbnolaiecaaJoin
import Derived.Deep.RegionLaw
namespace Go.Proofs.Ytkofmbnolaiecaa
set_option linter.unusedVariables false
set_option linter.unusedSimpArgs false
open Go.RowKit

theorem wpList_app (w₀ w : World) {ops : Array Oper} {rest : List Oper} {o : Oper} {a : Act} {Q : Exit → Act → World → Prop} (hgd : o.guard = none) (s x : Operand)
    (ho : o.op = .call { callee := .builtin .append, args := #[s, x], argTypes := #[25, 25] })
    (v u : Value) (l m : List UInt8) (hs : a.eval s = v) (hx : a.eval x = u) (hown : Own w w₀.heap.size v l) (hg : Grow w₀ w) (hr : Byt w u m) (hl : l.length + m.length ≤ 140737488355328)
    (h : ∀ v' w', Own w' w₀.heap.size v' (l ++ m) → Grow w₀ w' → wpList Try.prog ops Q rest (a.put o.dst v') w') : wpList Try.prog ops Q (o :: rest) a w := by
  have f2 : Hid ((m.map bv).length = m.length) := Lib.hid (by simp)
  have hb := hg.size
  refine wpList_append_rd _ hgd s x 25 ho w₀.heap.size 5 (.int .u8 0) 1 Try.underlying25 infoByte rfl v l.length m.length _ hs hown u _ hx hr f2 (bv_one _) (by omega) (by unfold maxLen; omega) hb ?_
  intro v' w' hown' hgr hat
  refine h v' w' ?_ (hg.grown hgr hb fun k hk => own_block hown k hk)
  unfold Own
  rw [List.length_append, List.map_append]
  exact hown'

theorem Own.base {w : World} {b b' : Nat} {v : Value} {l : List UInt8} (h : Own w b v l) (hb : b' ≤ b) : Own w b' v l := by
  obtain ⟨h1, h2⟩ := h
  refine ⟨h1, ?_⟩
  rcases h2 with h2 | ⟨g, cap, cur, e1, e2, r⟩
  · exact .inl h2
  · exact .inr ⟨g, cap, cur, e1, by omega, r⟩
theorem Own.empty (w : World) : Own (w.alloc (.cells #[] 5)) w.heap.size (.slice (some ⟨w.heap.size, 0, none⟩) 0 0) [] := Own.lit w #[] [] rfl (by unfold maxLen; simp)

theorem heap_setCell_own {w : World} {g k : Nat} {cs : Array Value} {t : TypeId} (h : w.heap[g]? = some (.cells cs t (0, 0))) (u : Value) : (w.setCell ⟨g, k, none⟩ u).heap[g]? = some (.cells (cs.setIfInBounds k u) t (0, 0)) := by
  simp [World.setCell, Array.getElem?_modify, h]
/-- A row of the call's own that is not empty: its block, its cells, and that they may be written. -/
theorem Own.row {w : World} {base : Nat} {v : Value} {l : List UInt8} (h : Own w base v l) (hl : 0 < l.length) : ∃ g cap, v = .slice (some ⟨g, 0, none⟩) l.length cap ∧ base ≤ g ∧ g < w.heap.size ∧ l.length ≤ cap ∧ cap ≤ maxLen ∧
    ∀ j (hj : j < l.length), w.cell? ⟨g, j, none⟩ = some (.int .u8 ((l[j]).toNat : Int)) ∧ w.frozen? ⟨g, j, none⟩ = false := by
  obtain ⟨h1, h2⟩ := h
  rcases h2 with ⟨_, hx⟩ | ⟨g, cap, cur, e1, e2, hh, hn, hm, hc, ht⟩
  · simp at hx; subst hx; simp at hl
  · have hlt : g < w.heap.size := (Array.getElem?_eq_some_iff.1 hh).1
    refine ⟨g, cap, e1, e2, hlt, hn, hm, fun j hj => ⟨?_, ?_⟩⟩
    · have e := congrArg (fun q => q[j]?) ht
      simp only [List.getElem?_take, List.getElem?_map, List.getElem?_eq_getElem hj, Option.map_some] at e
      rw [if_pos (by omega)] at e
      unfold World.cell?
      rw [hh]
      simp only [Array.getElem?_toList] at e
      simpa [bv] using e
    · unfold World.frozen?
      rw [hh]
      simp
theorem Own.set {w : World} {base g n cap : Nat} {l : List UInt8} (h : Own w base (.slice (some ⟨g, 0, none⟩) n cap) l) (k : Nat) (u : UInt8) (y : Int) (hy : y = (u.toNat : Int)) : Own (w.setCell ⟨g, k, none⟩ (.int .u8 y)) base (.slice (some ⟨g, 0, none⟩) n cap) (l.set k u) := by
  subst hy
  obtain ⟨h1, h2⟩ := h
  refine ⟨by simp, ?_⟩
  rcases h2 with ⟨e, _⟩ | ⟨g', cap', cur, e1, e2, hh, hn, hm, hc, ht⟩
  · cases e
  · cases e1
    refine .inr ⟨g, cap, _, by rw [List.length_set], e2, heap_setCell_own hh _, by rw [List.length_set]; exact hn, hm, by rw [Array.size_setIfInBounds]; exact hc, ?_⟩
    rw [List.length_set, Array.toList_setIfInBounds, List.take_set, ht, List.map_set]
    rfl

/-- The same, as one step of a region that draws its order. -/
theorem step_app (w₀ w : World) {ops : Array Oper} {o : Oper} {a : Act} {K : Act → World → Prop} {Q : Exit → Act → World → Prop} {E : Prop} (hgd : o.guard = none) (s x : Operand)
    (ho : o.op = .call { callee := .builtin .append, args := #[s, x], argTypes := #[25, 25] })
    (v u : Value) (l m : List UInt8) (hs : a.eval s = v) (hx : a.eval x = u) (hown : Own w w₀.heap.size v l) (hg : Grow w₀ w) (hr : Byt w u m) (hl : l.length + m.length ≤ 140737488355328)
    (h : ∀ v' w', Own w' w₀.heap.size v' (l ++ m) → Grow w₀ w' → K (a.put o.dst v') w') :
    if Region.wanted o (yielded ops a.tmps) = true then Oper.wp Try.prog o a w K Q else E := by
  have hw : Region.wanted o (yielded ops a.tmps) = true := by simp [Region.wanted, hgd]
  rw [if_pos hw]
  have f2 : (m.map bv).length = m.length := by simp
  have hb := hg.size
  have q : (l.map bv).length = l.length := by simp
  obtain ⟨v', w', hrun, h2, h3, h4⟩ := run_append_rd (P := Try.prog) w w₀.heap.size 25 o.type 5 (.int .u8 0) 1 Try.underlying25 infoByte rfl v (l.map bv) (by rw [q]; exact hown) u (m.map bv) hr (bv_one _) (by rw [q, f2]; omega) (by rw [q, f2]; unfold maxLen; omega) hb
  unfold Oper.wp execOp
  simp only [ho, resolve, invoke, builtin, Sem.run_bind, Sem.run_pure, Result.andThen_ok, List.map_toArray, List.map_cons, List.map_nil, hs, hx, hrun]
  refine h v' w' ?_ (hg.grown h3 hb fun k hk => own_block hown k hk)
  unfold Own
  rw [← List.map_append, List.length_map] at h2
  exact h2
end Go.Proofs.Ytkofmbnolaiecaa
