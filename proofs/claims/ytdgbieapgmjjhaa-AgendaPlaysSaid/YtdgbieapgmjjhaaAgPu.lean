/- Contract: Push of a queue. -/
import Derived.Test.YtdgbieapgmjjhaaAgPp
import Derived.Deep.RegionLaw
namespace Go.Proofs.Ytdgbieapgmjjhaa
set_option linter.unusedVariables false
set_option linter.unusedSimpArgs false
open Go.ChangeShapes Go.WideShapes Go.ChangeAt Go.RowKit

theorem infoEn : (Try.prog.info? 66).map (fun i => (i.zero, i.size, i.bytes)) = some (some (.agg #[.int .i64 0, .int .i64 0, .int .i64 0, .int .i64 0]), 4, 32) := by kernel_rfl
theorem PlE.push {f : Int → Option Int} {E : List En} (h : PlE f E) {x : En} (hx : ∀ m, m < E.length → (pt E m).id ≠ x.id) : PlE (fun y => if y = x.id then some (E.length : Int) else f y) (E ++ [x]) := by
  intro y k
  show (if y = x.id then some (E.length : Int) else f y) = some k ↔ _
  have hpt : ∀ m, m < E.length → pt (E ++ [x]) m = pt E m := fun m hm => by
    unfold pt
    rw [List.getD_eq_getElem?_getD, List.getD_eq_getElem?_getD, List.getElem?_append_left hm]
  have hlast : pt (E ++ [x]) E.length = x := by
    unfold pt
    rw [List.getD_eq_getElem?_getD, List.getElem?_append_right (Nat.le_refl _), Nat.sub_self]
    rfl
  rw [List.length_append, List.length_singleton]
  by_cases q : y = x.id
  · rw [if_pos q]
    constructor
    · intro e
      injection e with e
      exact ⟨E.length, by omega, by rw [hlast, q], e.symm⟩
    · rintro ⟨m, hm, h1, rfl⟩
      rcases Nat.lt_or_ge m E.length with a | a
      · rw [hpt m a, q] at h1
        exact absurd h1 (hx m a)
      · have : m = E.length := by omega
        rw [this]
  · rw [if_neg q, h y k]
    constructor
    · rintro ⟨m, hm, h1, h2⟩
      exact ⟨m, by omega, by rw [hpt m hm]; exact h1, h2⟩
    · rintro ⟨m, hm, h1, h2⟩
      rcases Nat.lt_or_ge m E.length with a | a
      · exact ⟨m, a, by rw [← hpt m a]; exact h1, h2⟩
      · have e : m = E.length := by omega
        rw [e, hlast] at h1
        exact absurd h1.symm q
theorem assert_en (x : En) (w : World) : (Instr.typeAssert (.iface 66 (.agg #[.int .i64 x.id, .int .i64 x.at_, .int .i64 x.rk, .int .i64 x.no])) 20 66 false).run Try.prog w = .ok (.agg #[.int .i64 x.id, .int .i64 x.at_, .int .i64 x.rk, .int .i64 x.no]) w := by kernel_rfl
set_option maxRecDepth 100000 in
set_option maxHeartbeats 4000000 in
theorem qpush_any (w : World) (base ab mb : Nat) (v : Value) (E : List En) (mo pu : Int) (h : Qu w base ab mb v E mo pu) (x : En) (hx : ∀ m, m < E.length → (pt E m).id ≠ x.id) (hn : E.length ≤ 90000) :
    Calls Try.prog 73 #[.pointer (some ⟨ab, 2, none⟩), .iface 66 (enV x)] w fun e w' => e = .returned (.tuple #[]) ∧ ∃ v', Qu w' base ab mb v' (E ++ [x]) mo pu ∧ Only base Zq w w' := by
  obtain ⟨A, c, hv, _⟩ := h.form
  have hta := assert_en x
  have hab := h.lt
  have hbs : base ≤ w.heap.size := by have := h.low.1; omega
  obtain ⟨f, hf, hfE⟩ := h.map
  have habm : ab ≠ mb := fun e => by
    obtain ⟨L, ⟨es, ck, hm, _⟩, _⟩ := hf
    have := h.blk
    rw [e, hm] at this
    cases this
  obtain ⟨W1, hW1⟩ : ∃ W1, W1 = w.alloc (.cells #[.int .i64 x.id, .int .i64 x.at_, .int .i64 x.rk, .int .i64 x.no] 66) := ⟨_, rfl⟩
  have g1 : Grow w W1 := by rw [hW1]; exact Grow.alloc _ _
  have hnew : W1.heap[w.heap.size]? = some (.cells #[.int .i64 x.id, .int .i64 x.at_, .int .i64 x.rk, .int .i64 x.no] 66 (0, 0)) := by rw [hW1]; exact heap_alloc_new w _
  have hq1 := h.grow g1
  have a2 := hq1.cell.1
  have a3 := hq1.cell.2.1
  have z0 : W1.cell? ⟨w.heap.size, 0, none⟩ = some (.int .i64 x.id) := (cell_of_row W1 _ 0 _ _ _ hnew).trans rfl
  have hf1 : PlF W1.drew mb f := hf.keep (g1.block mb hf.lt)
  obtain ⟨w2, p1, p2, p3⟩ := PlF.put (w := W1.drew) hf1 x.id (E.length : Int)
  have k2 : ∀ b, b ≠ mb → b < W1.heap.size → w2.heap[b]? = W1.heap[b]? := fun b hb hl => p3.block b hl (fun e => hb (Option.some.inj e))
  have s1 : W1.heap.size ≤ w2.heap.size := p3.size
  have s0 := g1.size
  have hb2 := (k2 ab habm (by omega)).trans hq1.blk
  have hgmb : ∀ b, v.ownBlock = some b → b ≠ mb ∧ b ≠ ab := by
    intro b hb
    obtain ⟨cs, h1, h2⟩ := ownsRow_blk h.row hb
    refine ⟨fun e => ?_, fun e => ?_⟩
    · obtain ⟨L, ⟨es, ck, hm, _⟩, _⟩ := hf
      rw [e, hm] at h1
      cases h1
    · rw [e, h.blk] at h1
      injection h1 with h1
      injection h1 with _ h1
      exact absurd h1 (by decide)
  have r2 : w2.ownsRow base 66 4 v E.length (E.flatMap en) := ownsRow_other hq1.row fun b cs hb hh => k2 b (hgmb b hb).1 (Array.getElem?_eq_some_iff.1 hh).1
  have HR2 : Hid (∀ q, Grow w2 q → q.ownsRow base 66 4 v E.length (E.flatMap en)) := fun q g => ownsRow_other r2 fun b cs _ hh => g.block b (Array.getElem?_eq_some_iff.1 hh).1
  have hnew2 : w2.heap[w.heap.size]? = some (.cells #[.int .i64 x.id, .int .i64 x.at_, .int .i64 x.rk, .int .i64 x.no] 66 (0, 0)) := (k2 _ (by have := hf.lt; omega) (Array.getElem?_eq_some_iff.1 hnew).1).trans hnew
  have d2 : w2.cell? ⟨ab, 2, none⟩ = some v := (cell_of_row w2 ab 2 _ _ _ hb2).trans rfl
  have e0 : w2.cell? ⟨w.heap.size, 0, none⟩ = some (.int .i64 x.id) := (cell_of_row w2 _ 0 _ _ _ hnew2).trans rfl
  have e1 : w2.cell? ⟨w.heap.size, 1, none⟩ = some (.int .i64 x.at_) := (cell_of_row w2 _ 1 _ _ _ hnew2).trans rfl
  have e2 : w2.cell? ⟨w.heap.size, 2, none⟩ = some (.int .i64 x.rk) := (cell_of_row w2 _ 2 _ _ _ hnew2).trans rfl
  have e3 : w2.cell? ⟨w.heap.size, 3, none⟩ = some (.int .i64 x.no) := (cell_of_row w2 _ 3 _ _ _ hnew2).trans rfl
  have hbs2 : base ≤ w2.heap.size := by omega
  have hl1 : ab < w2.heap.size := (Array.getElem?_eq_some_iff.1 hb2).1
  have hl2 : w.heap.size < w2.heap.size := (Array.getElem?_eq_some_iff.1 hnew2).1
  have oM : Only base Zq w w2 := (Only.grow (Grow.trans g1 (Grow.drew _)) hbs _).trans (Only.grown p3 (fun b e => by
        cases e
        obtain ⟨L, ⟨es, ck, hm, _⟩, _⟩ := hf1
        exact ⟨h.low.2, fun o T ho hT => by rw [hm] at ho; cases ho; cases hT; exact .inr (.inl rfl)⟩) (by show base ≤ W1.heap.size; omega))
  have HF : Hid (E.length ≤ 90000 ∧ base ≤ w2.heap.size ∧ ∀ (v5 : Value) (w5 : World), w5.ownsRow base 66 4 v5 (E.length + 1) (E.flatMap en ++ en x) → (w2.drew.alloc (.cells #[.int .i64 x.id, .int .i64 x.at_, .int .i64 x.rk, .int .i64 x.no] 66)).grownBy w5 v.ownBlock →
      w5.cell? ⟨ab, 2, none⟩ = some v ∧ w5.frozen? ⟨ab, 2, none⟩ = false ∧ Qu (w5.setCell ⟨ab, 2, none⟩ v5) base ab mb v5 (E ++ [x]) mo pu ∧ Only base Zq w (w5.setCell ⟨ab, 2, none⟩ v5)) := by
    refine ⟨hn, hbs2, fun v5 w5 ho5 hg5 => ?_⟩
    have gA : Grow w2 (w2.drew.alloc (.cells #[.int .i64 x.id, .int .i64 x.at_, .int .i64 x.rk, .int .i64 x.no] 66)) := Grow.trans (Grow.drew _) (Grow.alloc _ _)
    have k5 : ∀ b, v.ownBlock ≠ some b → b < w2.heap.size → w5.heap[b]? = w2.heap[b]? := fun b hb hl => (hg5.block b (Nat.lt_of_lt_of_le hl gA.size) (fun e => hb e.symm)).trans (gA.block b hl)
    have ab2 : ab < w2.heap.size := (Array.getElem?_eq_some_iff.1 hb2).1
    have hb5 := (k5 ab (fun e => (hgmb ab e).2 rfl) ab2).trans hb2
    have hs5 := heap_setCell_own (k := 2) hb5 v5
    have kS : ∀ b, b ≠ ab → (w5.setCell ⟨ab, 2, none⟩ v5).heap[b]? = w5.heap[b]? := fun b hb => Below.heap_setCell _ _ _ _ hb
    refine ⟨(cell_of_row w5 ab 2 _ _ _ hb5).trans rfl, frozen_of hb5, ⟨hs5, ?_, ⟨_, (p2.keep (k5 mb (fun e => (hgmb mb e).1 rfl) p2.lt)).keep (kS mb habm.symm), hfE.push hx⟩, ?_, h.low⟩, ?_⟩
    · rw [List.length_append, List.flatMap_append, List.length_singleton]
      refine ownsRow_other (by simpa using ho5) fun b cs hb hh => kS b fun e => ?_
      rw [e, hb5] at hh
      injection hh with hh
      injection hh with _ hh
      exact absurd hh (by decide)
    · rw [List.map_append]
      refine List.nodup_append.2 ⟨h.nod, by simp, ?_⟩
      intro a ha b hb
      simp at hb
      obtain ⟨y, hy, rfl⟩ := List.mem_map.1 ha
      obtain ⟨m, hm⟩ := List.getElem?_of_mem hy
      have hml := (List.getElem?_eq_some_iff.1 hm).1
      rw [pt_get hml] at hm
      rw [hb, ← Option.some.inj hm]
      exact hx m hml
    · refine ((oM.trans (Only.grow gA hbs2 _)).trans (Only.grown hg5 (fun b e => ?_) (Nat.le_trans hbs2 gA.size))).trans (Only.set hb5 h.low.1 (.inl rfl) _)
      obtain ⟨cs, h1, h2⟩ := ownsRow_blk r2 e
      refine ⟨h2, fun o T ho hT => ?_⟩
      rw [gA.block b (Array.getElem?_eq_some_iff.1 h1).1, h1] at ho
      cases ho
      cases hT
      exact .inr (.inr rfl)
  subst hv
  generalize hE : E.length = n at *
  clear h hfE hf hf1 hq1 hb2 hgmb r2 hnew hnew2 p2 p3 k2 s1 s0 g1 habm hab hbs hbs2 oM hE hx
  unfold enV
  go_enter Try.func73, Try.ntmps73
  go_upto_region 1 with fail
  rw [← hW1]
  have HW1 := Lib.hid hW1
  clear hW1
  obtain ⟨wD, hwD⟩ : ∃ wD, wD = W1.drew := ⟨_, rfl⟩
  have a2' : wD.cell? ⟨ab, 2, none⟩ = some (.slice A n c) := by rw [hwD]; exact a2
  have a3' : wD.cell? ⟨ab, 3, none⟩ = some (.map (some mb)) := by rw [hwD]; exact a3
  have z0' : wD.cell? ⟨w.heap.size, 0, none⟩ = some (.int .i64 x.id) := by rw [hwD]; exact z0
  rw [← hwD] at p1
  refine wp_region_still_tail 12 (by kernel_rfl) (by kernel_rfl) ?_
  simp only [List.take_succ_cons, List.take_zero, List.drop_succ_cons, List.drop_zero]
  change wpStill _ _ W1.drew (fun a' => wpList _ _ _ _ a' W1.drew) _ _
  rw [← hwD]
  have HD := Lib.hid hwD
  clear hwD a2 a3 z0
  repeat still_step
  refine wpStill_nil ?_
  go_upto_region 2 with fail
  clear a2' a3' z0' p1
  go_region_law (first
    | (refine step_appK _ rfl (.tmp 23) (.tmp 25) 57 rfl 66 _ 4 32 Try.underlying57 infoEn rfl (by decide) base _ (.slice (some ⟨w2.heap.size, 0, none⟩) 1 1) n 1 (E.flatMap en) (en x) rfl rfl (HR2.out _ (Grow.trans (Grow.drew w2) (Grow.alloc _ _))) (RdK.of_own (World.ownsRow_lit (base := w2.heap.size) (e := 66) (size := 4) w2.drew #[.int .i64 x.id, .int .i64 x.at_, .int .i64 x.rk, .int .i64 x.no] 1 (Nat.le_refl _) (by decide) rfl)) (fun y hy => by simp [en] at hy; rcases hy with rfl | rfl | rfl | rfl <;> rfl) (by have := HF.out.1; omega) (by have := HF.out.1; unfold maxLen; omega) (Nat.le_trans HF.out.2.1 (Grow.trans (Grow.drew w2) (Grow.alloc _ _)).size) ?_; intro v5 w5 ho5 hg5 _; obtain ⟨t5, f5, q5, o5⟩ := HF.out.2.2 v5 w5 ho5 hg5; obtain ⟨A5, c5, hv5, _⟩ := RdK.form (RdK.of_own ho5); subst hv5; have H5 := Lib.hid (And.intro q5 o5); clear ho5 hg5 q5 o5))
  all_goals
    go_wp2_with fail
    refine bodyPost_end (results_none rfl _ _ _) rfl ?_
    exact ⟨rfl, _, H5.out⟩
end Go.Proofs.Ytdgbieapgmjjhaa
