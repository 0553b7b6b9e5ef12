/- Contract: New of the program's table. -/
import Derived.Test.YtkilfdhofbjkgaaPqBd
namespace Go.Proofs.Ytkilfdhofbjkgaa
set_option linter.unusedVariables false
set_option linter.unusedSimpArgs false
open Go.ChangeShapes Go.WideShapes Go.ChangeAt Go.RowKit

theorem run_mk1 (w : World) : (Instr.makeMap 62 none).run Try.prog w = .ok (.map (some w.heap.size)) (w.alloc (.map #[] 0)) := by kernel_rfl
theorem run_mk2 (w : World) : (Instr.makeMap 63 none).run Try.prog w = .ok (.map (some w.heap.size)) (w.alloc (.map #[] 0)) := by kernel_rfl
theorem run_mk3 (w : World) : (Instr.makeMap 64 none).run Try.prog w = .ok (.map (some w.heap.size)) (w.alloc (.map #[] 0)) := by kernel_rfl
theorem newNotP (w : World) (lo hi : Int) (h : ¬ (1 ≤ lo ∧ lo ≤ hi ∧ hi ≤ 65535)) : Calls Try.prog 7 #[.int .i64 lo, .int .i64 hi] w fun e w' => e = .returned (.tuple #[.pointer none, .int .i64 1]) ∧ Grow w w' := by
  by_cases h1 : lo < 1
  · have d1 : decide (lo < 1) = true := decide_eq_true h1
    clear h
    go_enter Try.func7, Try.ntmps7
    go_wp2_with fail
    go_ret2
    exact ⟨rfl, Grow.refl _⟩
  have d1 : decide (lo < 1) = false := decide_eq_false h1
  by_cases h2 : hi < lo
  · have d2 : decide (hi < lo) = true := decide_eq_true h2
    clear h
    go_enter Try.func7, Try.ntmps7
    go_wp2_with fail
    go_ret2
    exact ⟨rfl, Grow.refl _⟩
  have d2 : decide (hi < lo) = false := decide_eq_false h2
  have h3 : 65535 < hi := by omega
  have d3 : decide (65535 < hi) = true := decide_eq_true h3
  clear h
  go_enter Try.func7, Try.ntmps7
  go_wp2_with fail
  go_ret2
  exact ⟨rfl, Grow.refl _⟩
theorem new_pts (w : World) (lo hi : Int) (h : 1 ≤ lo ∧ lo ≤ hi ∧ hi ≤ 65535) : Hid (Ppp ((((w.alloc (.cells #[.int .i64 lo, .int .i64 hi, .int .i64 lo, .map (some (w.heap.size + 1)), .map (some (w.heap.size + 1 + 1)), .map (some (w.heap.size + 1 + 1 + 1))] 66)).alloc (.map #[] 0)).alloc (.map #[] 0)).alloc (.map #[] 0)) w.heap.size w.heap.size (noneT lo hi) ∧
    Grow w ((((w.alloc (.cells #[.int .i64 lo, .int .i64 hi, .int .i64 lo, .map (some (w.heap.size + 1)), .map (some (w.heap.size + 1 + 1)), .map (some (w.heap.size + 1 + 1 + 1))] 66)).alloc (.map #[] 0)).alloc (.map #[] 0)).alloc (.map #[] 0))) := by
  obtain ⟨C, hC⟩ : ∃ C : Obj, C = .cells #[.int .i64 lo, .int .i64 hi, .int .i64 lo, .map (some (w.heap.size + 1)), .map (some (w.heap.size + 1 + 1)), .map (some (w.heap.size + 1 + 1 + 1))] 66 (0, 0) := ⟨_, rfl⟩
  rw [← hC]
  obtain ⟨A, hA⟩ : ∃ A, A = w.alloc C := ⟨_, rfl⟩
  have hb : A.heap[w.heap.size]? = some C := by rw [hA]; exact heap_alloc_new w _
  have gA : Grow w A := by rw [hA]; exact Grow.alloc _ _
  have sA : A.heap.size = w.heap.size + 1 := by rw [hA]; exact Array.size_push _
  rw [← hA]
  have m1 := mb_new (enc := edV) A
  have s1 : (A.alloc (.map #[] 0)).heap.size = A.heap.size + 1 := Array.size_push _
  have g1 := Grow.alloc A (.map #[] 0)
  generalize A.alloc (.map #[] 0) = A1 at *
  have m2 := mb_new (enc := qdV) A1
  have s2 : (A1.alloc (.map #[] 0)).heap.size = A1.heap.size + 1 := Array.size_push _
  have g2 := Grow.alloc A1 (.map #[] 0)
  generalize A1.alloc (.map #[] 0) = A2 at *
  have m3 := mb_new (enc := poV) A2
  have g3 := Grow.alloc A2 (.map #[] 0)
  generalize A2.alloc (.map #[] 0) = A3 at *
  rw [s2, s1, sA] at m3
  rw [s1, sA] at m2
  rw [sA] at m1
  have g13 := (g2.trans g3)
  have g03 := g1.trans g13
  refine ⟨⟨tok_none h, w.heap.size + 1, w.heap.size + 1 + 1, w.heap.size + 1 + 1 + 1, lo, ?_⟩, gA.trans g03⟩
  refine ⟨((g03.block _ (by omega)).trans hb).trans (congrArg some hC), ?_, Nat.le_refl _, by omega, by omega, by omega, m1.keep (g13.block _ m1.lt), m2.keep (g3.block _ m2.lt), ⟨[], m3, ⟨fun q c hq => (by cases hq), fun q _ => rfl⟩⟩, by omega, by omega, by omega⟩
  show lo = if hi = hi then lo else hi + 1
  rw [if_pos rfl]
set_option maxRecDepth 10000 in
set_option maxHeartbeats 1000000 in
theorem newP (w : World) (lo hi : Int) (h : 1 ≤ lo ∧ lo ≤ hi ∧ hi ≤ 65535) : Calls Try.prog 7 #[.int .i64 lo, .int .i64 hi] w fun e w' => ∃ pb, e = .returned (.tuple #[.pointer (some ⟨pb, 0, none⟩), .int .i64 0]) ∧ Ppp w' w.heap.size pb (noneT lo hi) ∧ Grow w w' := by
  have d1 : decide (lo < 1) = false := decide_eq_false (by omega)
  have d2 : decide (hi < lo) = false := decide_eq_false (by omega)
  have d3 : decide (65535 < hi) = false := decide_eq_false (by omega)
  have r1 := fun w => run_mk1 w
  have r2 := fun w => run_mk2 w
  have r3 := fun w => run_mk3 w
  have HH := Lib.hid h
  clear h
  go_enter Try.func7, Try.ntmps7
  go_wp2_with fail
  go_ret2
  exact ⟨_, rfl, (new_pts w lo hi HH.out).out⟩
end Go.Proofs.Ytkilfdhofbjkgaa
