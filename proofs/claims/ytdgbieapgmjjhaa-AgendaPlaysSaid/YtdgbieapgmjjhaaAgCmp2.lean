/- Contract: compare, with what it draws. -/
import Derived.Test.YtdgbieapgmjjhaaAgEn
import Derived.Shelf.SlSortCmp.WholeK
namespace Go.Proofs.Ytdgbieapgmjjhaa
set_option linter.unusedVariables false
set_option linter.unusedSimpArgs false
open Go.ChangeShapes Go.WideShapes Go.ChangeAt Go.RowKit

/-- Old memory stays, and draws are counted on. -/
def Gd (w w' : World) : Prop := Grow w w' ∧ w.drawn ≤ w'.drawn
theorem Gd.form {w w' : World} (h : Gd w w') : ∃ q os, w' = Go.Sort.grow (w.drewN q) os := by
  obtain ⟨g, hd⟩ := h
  refine ⟨w'.drawn - w.drawn, w'.heap.extract w.heap.size w'.heap.size, ?_⟩
  have hh : w.heap ++ w'.heap.extract w.heap.size w'.heap.size = w'.heap := by
    apply Array.ext_getElem?
    intro i
    rcases Nat.lt_or_ge i w.heap.size with q | q
    · rw [Array.getElem?_append_left q]
      exact (g.block i q).symm
    · rw [Array.getElem?_append_right q, Array.getElem?_extract]
      have hs := g.size
      by_cases q2 : i < w'.heap.size
      · rw [if_pos (by omega)]
        rw [show w.heap.size + (i - w.heap.size) = i from by omega]
      · rw [if_neg (by omega), Array.getElem?_eq_none (by omega)]
  obtain ⟨h1, h2, h3, h4, h5⟩ := w
  obtain ⟨k1, k2, k3, k4, k5⟩ := w'
  have e1 := g.os
  have e2 := g.tape
  have e3 := g.output
  dsimp only at e1 e2 e3 hd hh
  subst e1 e2 e3
  unfold Go.Sort.grow World.drewN
  dsimp only
  rw [hh, show h3 + (k3 - h3) = k3 from by omega]
set_option maxHeartbeats 1000000 in
set_option maxRecDepth 100000 in
theorem compare_gd (a b : En) (w : World) : Calls Try.prog 29 #[enV a, enV b] w fun e w' => e = .returned (.int .i64 (cmpE a b)) ∧ Gd w w' := by
  obtain ⟨W0, hW0⟩ : ∃ W0, W0 = w.alloc (.cells #[.int .i64 a.id, .int .i64 a.at_, .int .i64 a.rk, .int .i64 a.no] 66) := ⟨_, rfl⟩
  obtain ⟨W1, hW1⟩ : ∃ W1, W1 = W0.alloc (.cells #[.int .i64 b.id, .int .i64 b.at_, .int .i64 b.rk, .int .i64 b.no] 66) := ⟨_, rfl⟩
  have s0 : W0.heap.size = w.heap.size + 1 := by rw [hW0]; exact Array.size_push _
  have g0 : Grow w W0 := by rw [hW0]; exact Grow.alloc _ _
  have g1 : Grow W0 W1 := by rw [hW1]; exact Grow.alloc _ _
  have ha : W0.heap[w.heap.size]? = some (.cells #[.int .i64 a.id, .int .i64 a.at_, .int .i64 a.rk, .int .i64 a.no] 66 (0, 0)) := by rw [hW0]; exact heap_alloc_new w _
  have hb : W1.heap[w.heap.size + 1]? = some (.cells #[.int .i64 b.id, .int .i64 b.at_, .int .i64 b.rk, .int .i64 b.no] 66 (0, 0)) := by rw [hW1, ← s0]; exact heap_alloc_new W0 _
  have ha1 := (g1.block w.heap.size (by omega)).trans ha
  have HA : Hid (∀ q, Grow W1 q → ∀ i v, (#[.int .i64 a.id, .int .i64 a.at_, .int .i64 a.rk, .int .i64 a.no] : Array Value)[i]? = some v → q.cell? ⟨w.heap.size, i, none⟩ = some v) := fun q g i v hv =>
    (cell_of_row q w.heap.size i _ _ _ ((g.block _ (Array.getElem?_eq_some_iff.1 ha1).1).trans ha1)).trans hv
  have HBB : Hid (∀ q, Grow W1 q → ∀ i v, (#[.int .i64 b.id, .int .i64 b.at_, .int .i64 b.rk, .int .i64 b.no] : Array Value)[i]? = some v → q.cell? ⟨w.heap.size + 1, i, none⟩ = some v) := fun q g i v hv =>
    (cell_of_row q (w.heap.size + 1) i _ _ _ ((g.block _ (Array.getElem?_eq_some_iff.1 hb).1).trans hb)).trans hv
  have HG : Hid (Gd w W1) := ⟨Grow.trans g0 g1, by rw [hW1, hW0]; exact Nat.le_refl _⟩
  rw [hW0] at hW1
  have HW1 := Lib.hid hW1
  clear s0 g0 g1 ha hb ha1 hW0
  unfold enV
  go_enter Try.func29, Try.ntmps29
  go_upto_region 1 with fail
  rw [← hW1]
  clear hW1
  refine wp_region_weave (A := ?frame1) [19, 20, 21] (fun q => Gd W1 q) (inVals (isW (.pointer (some ⟨w.heap.size, 0, none⟩)) :: isW (.pointer (some ⟨w.heap.size, 1, none⟩)) :: isW (.int .i64 a.at_) :: isW (.pointer (some ⟨w.heap.size + 1, 0, none⟩)) :: isW (.pointer (some ⟨w.heap.size + 1, 1, none⟩)) :: isW (.int .i64 b.at_) :: isW (.int .i64 (cmpI a.at_ b.at_)) :: isW (.pointer (some ⟨w.heap.size, 0, none⟩)) :: isW (.pointer (some ⟨w.heap.size, 2, none⟩)) :: isW (.int .i64 a.rk) :: isW (.pointer (some ⟨w.heap.size + 1, 0, none⟩)) :: isW (.pointer (some ⟨w.heap.size + 1, 2, none⟩)) :: isW (.int .i64 b.rk) :: isW (.int .i64 (cmpI a.rk b.rk)) :: isW (.pointer (some ⟨w.heap.size, 3, none⟩)) :: isW (.int .i64 a.no) :: isW (.pointer (some ⟨w.heap.size + 1, 3, none⟩)) :: isW (.int .i64 b.no) :: isW (.int .i64 (cmpI a.no b.no)) :: isAll :: isAll :: isAll :: [])) (fun j vs q => match j, vs with | 0, [] => True | 1, [v1] => ∃ z, v1 = .slice (some ⟨z, 0, none⟩) 3 3 ∧ q.cell? ⟨z, 0, none⟩ = some (.int .i64 (cmpI a.at_ b.at_)) ∧ q.cell? ⟨z, 1, none⟩ = some (.int .i64 (cmpI a.rk b.rk)) ∧ q.cell? ⟨z, 2, none⟩ = some (.int .i64 (cmpI a.no b.no)) | 2, [_, v2] => v2 = .int .i64 (cmpE a b) | 3, [_, _, v3] => v3 = .int .i64 (cmpE a b) | _, _ => False) (by kernel_rfl) (by kernel_rfl) (by kernel_rfl) (by kernel_rfl) (fun x => ?frameEq1) ⟨Grow.drew W1, Nat.le_succ _⟩ trivial ?_ ?_ ?_
  case frameEq1 => go_simp; rfl
  · refine ⟨fun _ x w1 hI hd post hp => ?_, fun _ x w1 hI hd post hp => ?_, fun _ x w1 hI hd post hp => ?_, fun _ x w1 hI hd post hp => ?_, fun _ x w1 hI hd post hp => ?_, fun _ x w1 hI hd post hp => ?_, fun _ x w1 hI hd post hp => ?_, fun _ x w1 hI hd post hp => ?_, fun _ x w1 hI hd post hp => ?_, fun _ x w1 hI hd post hp => ?_, fun _ x w1 hI hd post hp => ?_, fun _ x w1 hI hd post hp => ?_, fun _ x w1 hI hd post hp => ?_, fun _ x w1 hI hd post hp => ?_, fun _ x w1 hI hd post hp => ?_, fun _ x w1 hI hd post hp => ?_, fun _ x w1 hI hd post hp => ?_, fun _ x w1 hI hd post hp => ?_, fun _ x w1 hI hd post hp => ?_, fun hn => absurd hn (by decide), fun hn => absurd hn (by decide), fun hn => absurd hn (by decide), trivial⟩
    · -- 0: slot 5: Op.fieldAddr 66 t2 0
      clear hd
      go_simp
      exact hp _ rfl
    · -- 1: slot 6: Op.fieldAddr 31 t5 1
      have h5 : x 5 = .pointer (some ⟨w.heap.size, 0, none⟩) := hd 0 (by decide) (by decide) _ rfl
      clear hd
      go_simp
      exact hp _ rfl
    · -- 2: slot 7: Op.load 3 t6
      have h6 : x 6 = .pointer (some ⟨w.heap.size, 1, none⟩) := hd 1 (by decide) (by decide) _ rfl
      clear hd
      have k := HA.out w1 hI.1 1 _ rfl
      go_simp
      exact hp _ rfl
    · -- 3: slot 8: Op.fieldAddr 66 t3 0
      clear hd
      go_simp
      exact hp _ rfl
    · -- 4: slot 9: Op.fieldAddr 31 t8 1
      have h8 : x 8 = .pointer (some ⟨w.heap.size + 1, 0, none⟩) := hd 3 (by decide) (by decide) _ rfl
      clear hd
      go_simp
      exact hp _ rfl
    · -- 5: slot 10: Op.load 3 t9
      have h9 : x 9 = .pointer (some ⟨w.heap.size + 1, 1, none⟩) := hd 4 (by decide) (by decide) _ rfl
      clear hd
      have k := HBB.out w1 hI.1 1 _ rfl
      go_simp
      exact hp _ rfl
    · -- 6: slot 11: Op.call { value (Operand.func 36), args := #[t7, t10], argTypes := #[3, 3] }
      have h7 : x 7 = .int .i64 a.at_ := hd 2 (by decide) (by decide) _ rfl
      have h10 : x 10 = .int .i64 b.at_ := hd 5 (by decide) (by decide) _ rfl
      clear hd
      go_simp
      refine (Compare_any _ _ _).mono ?_
      rintro e w2 ⟨rfl, rfl⟩
      exact ⟨_, rfl, hp _ rfl⟩
    · -- 7: slot 12: Op.fieldAddr 66 t2 0
      clear hd
      go_simp
      exact hp _ rfl
    · -- 8: slot 13: Op.fieldAddr 31 t12 2
      have h12 : x 12 = .pointer (some ⟨w.heap.size, 0, none⟩) := hd 7 (by decide) (by decide) _ rfl
      clear hd
      go_simp
      exact hp _ rfl
    · -- 9: slot 14: Op.load 3 t13
      have h13 : x 13 = .pointer (some ⟨w.heap.size, 2, none⟩) := hd 8 (by decide) (by decide) _ rfl
      clear hd
      have k := HA.out w1 hI.1 2 _ rfl
      go_simp
      exact hp _ rfl
    · -- 10: slot 15: Op.fieldAddr 66 t3 0
      clear hd
      go_simp
      exact hp _ rfl
    · -- 11: slot 16: Op.fieldAddr 31 t15 2
      have h15 : x 15 = .pointer (some ⟨w.heap.size + 1, 0, none⟩) := hd 10 (by decide) (by decide) _ rfl
      clear hd
      go_simp
      exact hp _ rfl
    · -- 12: slot 17: Op.load 3 t16
      have h16 : x 16 = .pointer (some ⟨w.heap.size + 1, 2, none⟩) := hd 11 (by decide) (by decide) _ rfl
      clear hd
      have k := HBB.out w1 hI.1 2 _ rfl
      go_simp
      exact hp _ rfl
    · -- 13: slot 18: Op.call { value (Operand.func 36), args := #[t14, t17], argTypes := #[3, 3] }
      have h14 : x 14 = .int .i64 a.rk := hd 9 (by decide) (by decide) _ rfl
      have h17 : x 17 = .int .i64 b.rk := hd 12 (by decide) (by decide) _ rfl
      clear hd
      go_simp
      refine (Compare_any _ _ _).mono ?_
      rintro e w2 ⟨rfl, rfl⟩
      exact ⟨_, rfl, hp _ rfl⟩
    · -- 14: slot 19: Op.fieldAddr 66 t2 1
      clear hd
      go_simp
      exact hp _ rfl
    · -- 15: slot 20: Op.load 3 t19
      have h19 : x 19 = .pointer (some ⟨w.heap.size, 3, none⟩) := hd 14 (by decide) (by decide) _ rfl
      clear hd
      have k := HA.out w1 hI.1 3 _ rfl
      go_simp
      exact hp _ rfl
    · -- 16: slot 21: Op.fieldAddr 66 t3 1
      clear hd
      go_simp
      exact hp _ rfl
    · -- 17: slot 22: Op.load 3 t21
      have h21 : x 21 = .pointer (some ⟨w.heap.size + 1, 3, none⟩) := hd 16 (by decide) (by decide) _ rfl
      clear hd
      have k := HBB.out w1 hI.1 3 _ rfl
      go_simp
      exact hp _ rfl
    · -- 18: slot 23: Op.call { value (Operand.func 36), args := #[t20, t22], argTypes := #[3, 3] }
      have h20 : x 20 = .int .i64 a.no := hd 15 (by decide) (by decide) _ rfl
      have h22 : x 22 = .int .i64 b.no := hd 17 (by decide) (by decide) _ rfl
      clear hd
      go_simp
      refine (Compare_any _ _ _).mono ?_
      rintro e w2 ⟨rfl, rfl⟩
      exact ⟨_, rfl, hp _ rfl⟩
  · refine ⟨fun x w1 hI hd hs post hp => ?_, fun x w1 hI hd hs post hp => ?_, fun x w1 hI hd hs post hp => ?_, trivial⟩
    · -- 19: slot 24: Op.buildSlice 52 3 #[(0, t11), (1, t18), (2, t23)]
      have h11 : x 11 = .int .i64 (cmpI a.at_ b.at_) := hd 6 (by decide) (by decide) _ rfl
      have h18 : x 18 = .int .i64 (cmpI a.rk b.rk) := hd 13 (by decide) (by decide) _ rfl
      have h23 : x 23 = .int .i64 (cmpI a.no b.no) := hd 18 (by decide) (by decide) _ rfl
      clear hd
      go_simp
      exact hp _ _ ⟨Grow.trans hI.1 (Grow.alloc _ _), hI.2⟩ ⟨w1.heap.size, rfl, (cell_of_row _ w1.heap.size 0 _ _ _ (heap_alloc_new w1 _)).trans rfl, (cell_of_row _ w1.heap.size 1 _ _ _ (heap_alloc_new w1 _)).trans rfl, (cell_of_row _ w1.heap.size 2 _ _ _ (heap_alloc_new w1 _)).trans rfl⟩
    · -- 20: slot 25: Op.call { value (Operand.func 35), args := #[t24], argTypes := #[52] }
      clear hd
      obtain ⟨z, h24, z0, z1, z2⟩ : ∃ z, x 24 = .slice (some ⟨z, 0, none⟩) 3 3 ∧ w1.cell? ⟨z, 0, none⟩ = some (.int .i64 (cmpI a.at_ b.at_)) ∧ w1.cell? ⟨z, 1, none⟩ = some (.int .i64 (cmpI a.rk b.rk)) ∧ w1.cell? ⟨z, 2, none⟩ = some (.int .i64 (cmpI a.no b.no)) := hs
      go_simp
      refine (Or_any w1 z _ _ _ z0 z1 z2).mono ?_
      rintro e w2 ⟨rfl, rfl⟩
      exact ⟨_, rfl, hp _ _ hI rfl⟩
    · -- 21: slot 4: Op.assign t25
      clear hd
      have h25 : x 25 = .int .i64 (cmpE a b) := hs
      go_simp
      exact hp _ _ hI rfl
  · intro x w1 hI hd hs
    have h4 : x 4 = .int .i64 (cmpE a b) := hs
    have HW := Lib.hid hI
    clear hd hI
    rw [h4]
    clear h4
    go_wp2_with fail
    go_ret
    exact ⟨rfl, Grow.trans HG.out.1 HW.out.1, Nat.le_trans HG.out.2 HW.out.2⟩
end Go.Proofs.Ytdgbieapgmjjhaa
