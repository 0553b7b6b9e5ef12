/- Contract: Top. -/
import Derived.Test.YtdgbieapgmjjhaaAgNew
import Derived.Laws.ResultCell
namespace Go.Proofs.Ytdgbieapgmjjhaa
set_option linter.unusedVariables false
set_option linter.unusedSimpArgs false
open Go.ChangeShapes Go.WideShapes Go.ChangeAt Go.RowKit

theorem results_top {fn : Func} {p u : Tmp} (h : fn.results = #[.cell p 31, .tmp u]) (tmps : Array Value) (w : World) (g : Nat) (a b c : Int) (y : Value) (ht : tmps.getD p undef = .pointer (some ⟨g, 0, none⟩)) (hy : tmps.getD u undef = y)
    (b0 : w.cell? ⟨g, 0, none⟩ = some (.int .i64 a)) (b1 : w.cell? ⟨g, 1, none⟩ = some (.int .i64 b)) (b2 : w.cell? ⟨g, 2, none⟩ = some (.int .i64 c)) :
    (results fn tmps).run Try.prog w = .ok (.tuple #[.agg #[.int .i64 a, .int .i64 b, .int .i64 c], y]) w := by
  have ht' : tmps[p]?.getD undef = .pointer (some ⟨g, 0, none⟩) := by simpa using ht
  have hy' : tmps[u]?.getD undef = y := by simpa using hy
  simp only [results, h, go_sem]
  simp [ht', hy', b0, b1, b2, go_sem]
theorem aTop_nil (w : World) : Calls Try.prog 19 #[.pointer none] w fun e w' => e = .returned (.tuple #[.agg #[.int .i64 0, .int .i64 0, .int .i64 0], .bool false]) ∧ Grow w w' := by
  have c0 := fun w => aLen_nil w
  obtain ⟨W, hW⟩ : ∃ W, W = w.alloc (.cells #[.int .i64 0, .int .i64 0, .int .i64 0] 31) := ⟨_, rfl⟩
  have hb : W.heap[w.heap.size]? = some (.cells #[.int .i64 0, .int .i64 0, .int .i64 0] 31 (0, 0)) := by rw [hW]; exact heap_alloc_new w _
  have b0 : W.cell? ⟨w.heap.size, 0, none⟩ = some (.int .i64 0) := (cell_of_row W _ 0 _ _ _ hb).trans rfl
  have b1 : W.cell? ⟨w.heap.size, 1, none⟩ = some (.int .i64 0) := (cell_of_row W _ 1 _ _ _ hb).trans rfl
  have b2 : W.cell? ⟨w.heap.size, 2, none⟩ = some (.int .i64 0) := (cell_of_row W _ 2 _ _ _ hb).trans rfl
  have hg : Grow w W := by rw [hW]; exact Grow.alloc _ _
  have HX := Lib.hid (And.intro hg (And.intro b0 (And.intro b1 b2)))
  have HW := Lib.hid hW
  clear hb b0 b1 b2 hg hW
  go_enter Try.func19, Try.ntmps19
  go_wp2_with fail
  refine (c0 _).mono ?_
  rintro e w' ⟨rfl, hw⟩
  subst hw
  go_wp2_with fail
  rw [← HW.out]
  refine bodyPost_ret (results_top rfl _ _ w.heap.size 0 0 0 (.bool false) rfl rfl HX.out.2.1 HX.out.2.2.1 HX.out.2.2.2) rfl ?_
  exact ⟨rfl, HX.out.1⟩
/-- A new item in memory. -/
theorem box_item (w : World) (a b c : Int) {W : World} (hW : W = w.alloc (.cells #[.int .i64 a, .int .i64 b, .int .i64 c] 31)) : Grow w W ∧ W.cell? ⟨w.heap.size, 0, none⟩ = some (.int .i64 a) ∧ W.cell? ⟨w.heap.size, 1, none⟩ = some (.int .i64 b) ∧ W.cell? ⟨w.heap.size, 2, none⟩ = some (.int .i64 c) := by
  have hb : W.heap[w.heap.size]? = some (.cells #[.int .i64 a, .int .i64 b, .int .i64 c] 31 (0, 0)) := by rw [hW]; exact heap_alloc_new w _
  exact ⟨by rw [hW]; exact Grow.alloc _ _, (cell_of_row W _ 0 _ _ _ hb).trans rfl, (cell_of_row W _ 1 _ _ _ hb).trans rfl, (cell_of_row W _ 2 _ _ _ hb).trans rfl⟩
theorem aTop_empty (w : World) (base ab mb : Nat) (v : Value) (mo pu : Int) (h : Qu w base ab mb v [] mo pu) : Calls Try.prog 19 #[.pointer (some ⟨ab, 0, none⟩)] w fun e w' => e = .returned (.tuple #[.agg #[.int .i64 0, .int .i64 0, .int .i64 0], .bool false]) ∧ Grow w w' := by
  obtain ⟨W, hW⟩ : ∃ W, W = w.alloc (.cells #[.int .i64 0, .int .i64 0, .int .i64 0] 31) := ⟨_, rfl⟩
  have HX := Lib.hid (box_item w 0 0 0 hW)
  have c0 := aLen_any W base ab mb v [] mo pu (h.grow HX.out.1)
  have HW := Lib.hid hW
  rw [hW] at c0
  clear h hW
  go_enter Try.func19, Try.ntmps19
  go_wp2_with fail
  refine c0.mono ?_
  rintro e w' ⟨rfl, hw⟩
  subst hw
  go_wp2_with fail
  rw [← HW.out]
  refine bodyPost_ret (results_top rfl _ _ w.heap.size 0 0 0 (.bool false) rfl rfl HX.out.2.1 HX.out.2.2.1 HX.out.2.2.2) rfl ?_
  exact ⟨rfl, HX.out.1⟩
theorem aTop_some (w : World) (base ab mb : Nat) (v : Value) (E : List En) (mo pu : Int) (h : Qu w base ab mb v E mo pu) (hp : 0 < E.length) : Calls Try.prog 19 #[.pointer (some ⟨ab, 0, none⟩)] w fun e w' => e = .returned (.tuple #[itV (pt E 0), .bool true]) ∧ Grow w w' := by
  obtain ⟨W0, hW0⟩ : ∃ W0, W0 = w.alloc (.cells #[.int .i64 0, .int .i64 0, .int .i64 0] 31) := ⟨_, rfl⟩
  have h0 := h.grow (box_item w 0 0 0 hW0).1
  have c0 := aLen_any W0 base ab mb v E mo pu h0
  obtain ⟨g, c, cur, hv, _, hg, _, _, _, hc⟩ := h0.ents hp
  subst hv
  obtain ⟨x0, x1, x2, _⟩ := hc 0 hp
  have a2 := h0.cell.1
  rw [Nat.zero_mul] at x0 x1 x2
  rw [Nat.zero_add] at x1 x2
  generalize pt E 0 = x at *
  obtain ⟨n, hn⟩ : ∃ n, n = E.length := ⟨_, rfl⟩
  rw [← hn] at c0 a2 hp
  obtain ⟨W, hW⟩ : ∃ W, W = w.alloc (.cells #[.int .i64 x.id, .int .i64 x.at_, .int .i64 x.rk] 31) := ⟨_, rfl⟩
  have HX := Lib.hid (box_item w x.id x.at_ x.rk hW)
  have HW := Lib.hid hW
  have q0 : ((n : Int) == 0) = false := by rw [beq_eq_false_iff_ne]; omega
  have q1 : ¬ ((n : Int) = 0) := by omega
  have q2 : (0 : Int) < (n : Int) := by omega
  have q3 : ¬ (n = 0) := by omega
  rw [hW0] at c0 a2 x0 x1 x2
  clear h h0 hc hg hn hW hW0
  unfold itV
  go_enter Try.func19, Try.ntmps19
  go_wp2_with fail
  refine c0.mono ?_
  rintro e w' ⟨rfl, hw⟩
  subst hw
  clear c0
  go_wp2_with fail
  rw [← HW.out]
  refine bodyPost_ret (results_top rfl _ _ w.heap.size x.id x.at_ x.rk (.bool true) rfl rfl HX.out.2.1 HX.out.2.2.1 HX.out.2.2.2) rfl ?_
  exact ⟨rfl, HX.out.1⟩
end Go.Proofs.Ytdgbieapgmjjhaa
