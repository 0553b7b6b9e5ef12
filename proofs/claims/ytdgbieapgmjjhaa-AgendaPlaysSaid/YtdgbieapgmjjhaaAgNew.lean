/- Contracts: New of an agenda. -/
import Derived.Test.YtdgbieapgmjjhaaAgHp
namespace Go.Proofs.Ytdgbieapgmjjhaa
set_option linter.unusedVariables false
set_option linter.unusedSimpArgs false
open Go.ChangeShapes Go.WideShapes Go.ChangeAt Go.RowKit Go.MapKept

theorem run_mm (w : World) : (Instr.makeMap 56 none).run Try.prog w = .ok (.map (some w.heap.size)) (w.alloc (.map #[] 0)) := by kernel_rfl
set_option maxHeartbeats 1000000 in
theorem aNew_walk (w : World) (n : Int) (h1 : 1 ≤ n) (h2 : n ≤ 4096) : Calls Try.prog 7 #[.int .i64 n] w fun e w' => e = .returned (.tuple #[.pointer (some ⟨w.heap.size + 1, 0, none⟩), .int .i64 0]) ∧ w' = (w.alloc (.map #[] 0)).alloc (.cells #[.int .i64 n, .int .i64 0, .slice none 0 0, .map (some w.heap.size)] 61) := by
  have hmm := run_mm
  have d1 : decide (n < 1) = false := decide_eq_false (by omega)
  have d2 : ¬ (4096 < n) := by omega
  clear h1 h2
  go_enter Try.func7, Try.ntmps7
  go_wp2_with fail
  go_ret2
  exact ⟨rfl, rfl⟩
theorem aNew_any (w : World) (base : Nat) (hb : base ≤ w.heap.size) (n : Int) (h1 : 1 ≤ n) (h2 : n ≤ 4096) : Calls Try.prog 7 #[.int .i64 n] w fun e w' => e = .returned (.tuple #[.pointer (some ⟨w.heap.size + 1, 0, none⟩), .int .i64 0]) ∧ Qu w' base (w.heap.size + 1) w.heap.size (.slice none 0 0) [] n 0 ∧ Grow w w' := by
  refine (aNew_walk w n h1 h2).mono ?_
  rintro e w' ⟨rfl, rfl⟩
  have hB := heap_alloc_new (w.alloc (.map #[] 0)) (.cells #[.int .i64 n, .int .i64 0, .slice none 0 0, .map (some w.heap.size)] 61)
  have hM := heap_alloc_new w (.map #[] 0)
  have g2 := Grow.alloc (w.alloc (.map #[] 0)) (.cells #[.int .i64 n, .int .i64 0, .slice none 0 0, .map (some w.heap.size)] 61)
  have hs : (w.alloc (.map #[] 0)).heap.size = w.heap.size + 1 := Array.size_push _
  have hM2 := (g2.block w.heap.size (by omega)).trans hM
  rw [hs] at hB
  refine ⟨rfl, ⟨hB, ⟨rfl, .inl ⟨rfl, rfl⟩⟩, ⟨fun _ => none, ⟨[], ⟨#[], 0, hM2, ?_, rfl⟩, List.nodup_nil, fun x i => ?_⟩, fun x i => ?_⟩, List.nodup_nil, ⟨by omega, hb⟩⟩, Grow.trans (Grow.alloc _ _) g2⟩
  · exact stamped_empty 0
  · simp
  · simp
end Go.Proofs.Ytdgbieapgmjjhaa
