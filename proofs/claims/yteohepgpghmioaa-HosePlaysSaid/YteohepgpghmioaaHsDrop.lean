/- Contracts: New, Drop; the calls of none; the reference's First and Peek. -/
import Derived.Test.YteohepgpghmioaaHsFn
namespace Go.Proofs.Yteohepgpghmioaa
set_option linter.unusedVariables false
set_option linter.unusedSimpArgs false
open Go.ChangeShapes Go.WideShapes Go.ChangeAt Go.RowKit

/-- Nought bytes. -/
def zer (n : Nat) : List Value := List.replicate n (.int .u8 0)
theorem zer_len (n : Nat) : (zer n).length = n := by simp [zer]
theorem zer_one (n : Nat) : ∀ y ∈ zer n, y.oneCell' = true := fun y hy => by rw [List.eq_of_mem_replicate hy]; rfl
theorem run_mku (n : Nat) (hn : n ≤ 16777216) (w : World) : (Instr.makeSlice 30 (.int .i64 (n : Int)) (.int .i64 (n : Int))).run Try.prog w = .ok (.slice (some ⟨w.heap.size, 0, none⟩) n n) (w.alloc (.cells (zer n).toArray 5)) := by
  have hinfo : (Try.prog.info? 5).map (fun i => (i.zero, i.size, i.bytes)) = some (some (.int .u8 0), 1, 1) := by kernel_rfl
  cases hi : Try.prog.info? 5 with
  | none => rw [hi] at hinfo; cases hinfo
  | some i =>
    rw [hi] at hinfo
    simp only [Option.map_some, Option.some.injEq, Prod.mk.injEq] at hinfo
    obtain ⟨hz, hs, hb⟩ := hinfo
    have hr := run_make (P := Try.prog) w 30 5 i (.int .u8 0) Try.underlying30 hi hz .i64 .i64 (n : Int) (n : Int) (by omega) (Int.le_refl _) (by rw [hb]; omega) (by omega)
    simp only [Int.toNat_natCast] at hr
    rw [hr]
    congr 3
    rw [hs, Nat.mul_one]
    unfold madeCells zer
    refine Array.ext' (List.ext_getElem? fun k => ?_)
    simp [Value.cells, Nat.mod_one, List.getElem?_replicate, List.getElem?_range]
    by_cases h : k < n <;> simp [h]
theorem hNew_walk (w : World) (m : Nat) (h1 : 1 ≤ m) (h2 : m ≤ 1048576) : Calls Try.prog 8 #[.int .i64 (m : Int)] w fun e w' => e = .returned (.tuple #[.pointer (some ⟨w.heap.size + 1, 0, none⟩), .int .i64 0]) ∧
    w' = (w.alloc (.cells (zer m).toArray 5)).alloc (.cells #[.slice (some ⟨w.heap.size, 0, none⟩) m m, .int .i64 0, .int .i64 0] 47) := by
  have hmk := run_mku m (by omega)
  have d1 : decide ((m : Int) < 1) = false := decide_eq_false (by omega)
  have d2 : ¬ (1048576 < (m : Int)) := by omega
  clear h1 h2
  go_enter Try.func8, Try.ntmps8
  go_wp2_with fail
  go_ret2
  exact ⟨rfl, rfl⟩
theorem hNew_any (w : World) (m : Nat) (h1 : 1 ≤ m) (h2 : m ≤ 1048576) : Calls Try.prog 8 #[.int .i64 (m : Int)] w fun e w' => e = .returned (.tuple #[.pointer (some ⟨w.heap.size + 1, 0, none⟩), .int .i64 0]) ∧ Hs w' w.heap.size (w.heap.size + 1) w.heap.size m 0 0 [] ∧ Grow w w' := by
  refine (hNew_walk w m h1 h2).mono ?_
  rintro e w' ⟨rfl, rfl⟩
  have hB := heap_alloc_new (w.alloc (.cells (zer m).toArray 5)) (.cells #[.slice (some ⟨w.heap.size, 0, none⟩) m m, .int .i64 0, .int .i64 0] 47)
  have hM := heap_alloc_new w (.cells (zer m).toArray 5)
  have g2 := Grow.alloc (w.alloc (.cells (zer m).toArray 5)) (.cells #[.slice (some ⟨w.heap.size, 0, none⟩) m m, .int .i64 0, .int .i64 0] 47)
  have hs : (w.alloc (.cells (zer m).toArray 5)).heap.size = w.heap.size + 1 := Array.size_push _
  have hM2 := (g2.block w.heap.size (by omega)).trans hM
  rw [hs] at hB
  exact ⟨rfl, ⟨hB, ⟨zer m, hM2, zer_len m, ring_nil _ _ (zer_one m)⟩, rfl, Nat.zero_le _, by decide, ⟨h1, h2⟩, ⟨Nat.le_succ _, Nat.le_refl _⟩⟩, Grow.trans (Grow.alloc _ _) g2⟩
theorem hNew_not (w : World) (n : Int) (h : n < 1 ∨ 1048576 < n) : Calls Try.prog 8 #[.int .i64 n] w fun e w' => e = .returned (.tuple #[.pointer none, .int .i64 1]) ∧ w' = w := by
  by_cases q : n < 1
  · have d1 : decide (n < 1) = true := decide_eq_true q
    clear h q
    go_enter Try.func8, Try.ntmps8
    go_wp2_with fail
    go_ret2
    exact ⟨rfl, rfl⟩
  · have d1 : decide (n < 1) = false := decide_eq_false q
    have d2 : 1048576 < n := by omega
    clear h q
    go_enter Try.func8, Try.ntmps8
    go_wp2_with fail
    go_ret2
    exact ⟨rfl, rfl⟩
/-- How many of n there are. -/
def fst (n : Int) (k : Nat) : Nat := min n.toNat k
theorem first_any (n : Int) (k : Nat) (w : World) : Calls Try.prog 10 #[.int .i64 n, .int .i64 (k : Int)] w fun e w' => e = .returned (.int .i64 (fst n k : Int)) ∧ w' = w := by
  by_cases q : n < 0
  · have e1 : fst n k = 0 := by unfold fst; omega
    rw [e1]
    have d1 : decide (n < 0) = true := decide_eq_true q
    go_enter Try.func10, Try.ntmps10
    go_wp2_with fail
    go_ret
    exact ⟨rfl, rfl⟩
  · have d1 : decide (n < 0) = false := decide_eq_false q
    by_cases q2 : (k : Int) < n
    · have e1 : fst n k = k := by unfold fst; omega
      rw [e1]
      go_enter Try.func10, Try.ntmps10
      go_wp2_with fail
      go_ret
      exact ⟨rfl, rfl⟩
    · have e1 : (fst n k : Int) = n := by unfold fst; omega
      rw [e1]
      clear e1
      go_enter Try.func10, Try.ntmps10
      go_wp2_with fail
      go_ret
      exact ⟨rfl, rfl⟩
theorem hDrop_nil (w : World) (n : Int) : Calls Try.prog 13 #[.pointer none, .int .i64 n] w fun e w' => e = .returned (.int .i64 0) ∧ w' = w := by
  have c0 := hLen_nil w
  by_cases q : 0 < n
  · go_enter Try.func13, Try.ntmps13
    go_wp2_with fail
    refine c0.mono ?_
    rintro e w' ⟨rfl, hw⟩
    subst w'
    go_wp2_with fail
    go_ret
    exact ⟨rfl, rfl⟩
  · have d1 : decide (n < 1) = true := decide_eq_true (by omega)
    have d2 : n < 1 := by omega
    go_enter Try.func13, Try.ntmps13
    go_wp2_with fail
    refine c0.mono ?_
    rintro e w' ⟨rfl, hw⟩
    subst w'
    go_wp2_with fail
    go_ret
    exact ⟨rfl, rfl⟩
theorem hPeek_nil (w : World) (a n : Int) : Calls Try.prog 14 #[.pointer none, .int .i64 a, .int .i64 n] w fun e w' => e = .returned (.slice none 0 0) ∧ w' = w := by
  have c0 := hLen_nil w
  by_cases q : a < 0
  · have d1 : decide (a < 0) = true := decide_eq_true q
    go_enter Try.func14, Try.ntmps14
    go_wp2_with fail
    go_ret
    exact ⟨rfl, rfl⟩
  · have d1 : decide (a < 0) = false := decide_eq_false q
    have d2 : 0 ≤ a := by omega
    go_enter Try.func14, Try.ntmps14
    go_wp2_with fail
    refine c0.mono ?_
    rintro e w' ⟨rfl, hw⟩
    subst w'
    go_wp2_with fail
    go_ret
    exact ⟨rfl, rfl⟩
theorem hRead_nil (w : World) (n : Int) : Calls Try.prog 12 #[.pointer none, .int .i64 n] w fun e w' => e = .returned (.slice none 0 0) ∧ w' = w := by
  have c0 := hPeek_nil w 0 n
  have c1 := hDrop_nil w 0
  go_enter Try.func12, Try.ntmps12
  go_wp2_with fail
  refine c0.mono ?_
  rintro e w' ⟨rfl, hw⟩
  subst w'
  go_wp2_with fail
  refine c1.mono ?_
  rintro e w' ⟨rfl, hw⟩
  subst w'
  go_wp2_with fail
  go_ret
  exact ⟨rfl, rfl⟩
theorem hWrite_nil (w : World) (v : Value) (l : List UInt8) (h : Byt w v l) : Calls Try.prog 11 #[.pointer none, v] w fun e w' => e = .returned (.int .i64 0) ∧ w' = w := by
  have c0 := hRoom_nil w
  obtain ⟨A, c, rfl, h1, h2⟩ := h.form
  unfold maxLen at h2
  generalize l.length = n at *
  clear h
  by_cases q : 0 < n
  · have d1 : (0 : Int) < (n : Int) := by omega
    go_enter Try.func11, Try.ntmps11
    go_wp2_with fail
    refine c0.mono ?_
    rintro e w' ⟨rfl, hw⟩
    subst w'
    go_wp2_with fail
    go_ret
    exact ⟨rfl, rfl⟩
  · obtain rfl : n = 0 := by omega
    go_enter Try.func11, Try.ntmps11
    go_wp2_with fail
    refine c0.mono ?_
    rintro e w' ⟨rfl, hw⟩
    subst w'
    go_wp2_with fail
    go_ret
    exact ⟨rfl, rfl⟩
section
variable {w w' : World} {base ab g m i o : Nat} {r : List UInt8}
/-- What the calls of a hose leave: the hose, and all blocks but its two. -/
def DropPost (w : World) (base ab g m i o : Nat) (r : List UInt8) (d : Nat) (e : Ending) (w' : World) : Prop := e = .returned (.int .i64 (d : Int)) ∧ Hs w' base ab g m i (o + d) (r.drop d) ∧ Chg ab g w w'
/-- The number of those removed, set. -/
theorem Hs.setOut (h : Hs w base ab g m i o r) (d : Nat) (hd : d ≤ r.length) : Hs (w.setCell ⟨ab, 2, none⟩ (.int .i64 ((o + d : Nat) : Int))) base ab g m i (o + d) (r.drop d) ∧ Chg ab g w (w.setCell ⟨ab, 2, none⟩ (.int .i64 ((o + d : Nat) : Int))) := by
  obtain ⟨R, h1, h2, h3⟩ := h.rng
  have hl := h.len
  have hs : (w.setCell ⟨ab, 2, none⟩ (.int .i64 ((o + d : Nat) : Int))).heap.size = w.heap.size := by simp [World.setCell]
  have hother : ∀ j, j ≠ ab → (w.setCell ⟨ab, 2, none⟩ (.int .i64 ((o + d : Nat) : Int))).heap[j]? = w.heap[j]? := fun j hj => Below.heap_setCell _ _ _ _ hj
  refine ⟨⟨(heap_setCell_own h.blk _).trans (by rfl), ⟨R, (hother g (fun e => h.lt.2.2 e.symm)).trans h1, h2, ring_drop h3⟩, ?_, ?_, h.big, h.pos, h.low⟩, ⟨rfl, rfl, rfl, Nat.le_of_eq hs.symm, fun j _ h1 _ => hother j h1⟩⟩
  · rw [List.length_drop]; omega
  · rw [List.length_drop]; have := h.cap; omega
theorem hDrop_none (h : Hs w base ab g m i o r) (n : Int) (hd : fst n r.length = 0) : Calls Try.prog 13 #[.pointer (some ⟨ab, 0, none⟩), .int .i64 n] w (DropPost w base ab g m i o r 0) := by
  have c0 := hLen_any h
  have H : Hid (∀ w', Grow w w' → Hs w' base ab g m i (o + 0) (r.drop 0) ∧ Chg ab g w w') := fun w' k => ⟨h.grow k, Chg.of_grow k⟩
  unfold fst at hd
  clear h
  generalize r.length = k at *
  by_cases q : (k : Int) < n
  · obtain rfl : k = 0 := by omega
    go_enter Try.func13, Try.ntmps13
    go_wp2_with fail
    refine c0.mono ?_
    rintro e w2 ⟨rfl, g2⟩
    have H2 := Lib.hid g2
    clear c0 g2
    go_wp2_with fail
    go_ret
    exact ⟨rfl, H.out _ H2.out⟩
  · have d1 : decide (n < 1) = true := decide_eq_true (by omega)
    have d2 : n < 1 := by omega
    clear hd
    go_enter Try.func13, Try.ntmps13
    go_wp2_with fail
    refine c0.mono ?_
    rintro e w2 ⟨rfl, g2⟩
    have H2 := Lib.hid g2
    clear c0 g2
    go_wp2_with fail
    go_ret
    exact ⟨rfl, H.out _ H2.out⟩
set_option maxHeartbeats 1000000 in
theorem hDrop_some (h : Hs w base ab g m i o r) (n : Int) (d : Nat) (hd : fst n r.length = d) (hp : 0 < d) : Calls Try.prog 13 #[.pointer (some ⟨ab, 0, none⟩), .int .i64 n] w (DropPost w base ab g m i o r d) := by
  have c0 := hLen_any h
  have H : Hid (∀ w', Grow w w' → Hs (w'.setCell ⟨ab, 2, none⟩ (.int .i64 ((o + d : Nat) : Int))) base ab g m i (o + d) (r.drop d) ∧ Chg ab g w (w'.setCell ⟨ab, 2, none⟩ (.int .i64 ((o + d : Nat) : Int)))) := fun w' k => by
    obtain ⟨h1, h2⟩ := (h.grow k).setOut d (by unfold fst at hd; omega)
    exact ⟨h1, (Chg.of_grow k).trans h2⟩
  have HX : Hid (∀ w', Grow w w' → w'.cell? ⟨ab, 2, none⟩ = some (.int .i64 (o : Int)) ∧ w'.frozen? ⟨ab, 2, none⟩ = false) := fun w' k => ⟨(h.grow k).cells.2.2, frozen_of (h.grow k).blk⟩
  have e2 : IntKind.i64.wrap ((o : Int) + (d : Int)) = ((o + d : Nat) : Int) := by rw [IntKind.wrap_i64]; have := h.big; have := h.len; unfold fst at hd; omega
  have E2 := Lib.hid e2
  unfold fst at hd
  clear h e2
  generalize r.length = k at *
  by_cases q : (k : Int) < n
  · obtain rfl : k = d := by omega
    have d1 : decide ((k : Int) < 1) = false := decide_eq_false (by omega)
    have d2 : ¬ ((k : Int) < 1) := by omega
    clear hd
    go_enter Try.func13, Try.ntmps13
    go_wp2_with fail
    refine c0.mono ?_
    rintro e w2 ⟨rfl, g2⟩
    have H2 := Lib.hid g2
    obtain ⟨x2, f2⟩ := HX.out _ g2
    have e2 := E2.out
    clear c0 g2
    go_wp2_with fail
    go_ret
    exact ⟨rfl, H.out _ H2.out⟩
  · obtain rfl : n = (d : Int) := by omega
    have d1 : decide ((d : Int) < 1) = false := decide_eq_false (by omega)
    have d2 : ¬ ((d : Int) < 1) := by omega
    clear hd
    go_enter Try.func13, Try.ntmps13
    go_wp2_with fail
    refine c0.mono ?_
    rintro e w2 ⟨rfl, g2⟩
    have H2 := Lib.hid g2
    obtain ⟨x2, f2⟩ := HX.out _ g2
    have e2 := E2.out
    clear c0 g2
    go_wp2_with fail
    go_ret
    exact ⟨rfl, H.out _ H2.out⟩
theorem hDrop_any (h : Hs w base ab g m i o r) (n : Int) : Calls Try.prog 13 #[.pointer (some ⟨ab, 0, none⟩), .int .i64 n] w (DropPost w base ab g m i o r (fst n r.length)) := by
  rcases Nat.eq_zero_or_pos (fst n r.length) with q | q
  · rw [q]
    exact hDrop_none h n q
  · exact hDrop_some h n _ rfl q
end
end Go.Proofs.Yteohepgpghmioaa
