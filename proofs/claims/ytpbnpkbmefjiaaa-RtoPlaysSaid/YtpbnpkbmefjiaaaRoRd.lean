/- Contracts: what reads of the program's time to wait; New; a number brought into bounds. -/
import Derived.Test.YtpbnpkbmefjiaaaRoSt
import Derived.Test.YtpbnpkbmefjiaaaPhase
namespace Go.Proofs.Ytpbnpkbmefjiaaa
set_option linter.unusedVariables false
set_option linter.unusedSimpArgs false
open Go.ChangeShapes Go.WideShapes Go.ChangeAt Go.RowKit

section
variable {w : World} {pb : Nat} {r : Ro}
theorem nowP (h : RpB w pb r) : Calls Try.prog 9 #[.pointer (some ⟨pb, 0, none⟩)] w fun e w' => e = .returned (.int .i64 (r.now : Int)) ∧ Grow w w' := by
  have c2 := h.c2
  clear h
  go_enter Try.func9, Try.ntmps9
  go_wp2_with fail
  go_ret
  exact ⟨rfl, Grow.refl _⟩
theorem backsP (h : RpB w pb r) : Calls Try.prog 15 #[.pointer (some ⟨pb, 0, none⟩)] w fun e w' => e = .returned (.int .i64 (r.backs : Int)) ∧ Grow w w' := by
  have c6 := h.c6
  clear h
  go_enter Try.func15, Try.ntmps15
  go_wp2_with fail
  go_ret
  exact ⟨rfl, Grow.refl _⟩
theorem smoothP (h : RpB w pb r) (hr : RoOk r) : Calls Try.prog 14 #[.pointer (some ⟨pb, 0, none⟩)] w fun e w' => e = .returned (.tuple #[.int .i64 ((r.m / 8 : Nat) : Int), .int .i64 ((r.v / 4 : Nat) : Int)]) ∧ Grow w w' := by
  have HC := Lib.hid (fun (q : World) (g : Grow w q) => And.intro (h.grow g).c3 (h.grow g).c4)
  have e1 : (r.m : Int) / 8 = ((r.m / 8 : Nat) : Int) := by omega
  have e2 : (r.v : Int) / 4 = ((r.v / 4 : Nat) : Int) := by omega
  have x1 := hr.mb
  have x2 := hr.vb
  have f1 : IntKind.i64.wrap ((r.m / 8 : Nat) : Int) = ((r.m / 8 : Nat) : Int) := IntWalk.i64_in _ (by omega)
  have f2 : IntKind.i64.wrap ((r.v / 4 : Nat) : Int) = ((r.v / 4 : Nat) : Int) := IntWalk.i64_in _ (by omega)
  generalize ((r.m / 8 : Nat) : Int) = X at *
  generalize ((r.v / 4 : Nat) : Int) = Y at *
  generalize r.m = M at *
  generalize r.v = V at *
  have HX := Lib.hid (And.intro e1 (And.intro e2 (And.intro f1 f2)))
  clear h hr x1 x2 e1 e2 f1 f2
  go_enter Try.func14, Try.ntmps14
  go_upto_region 3 with fail
  refine wp_region_loose (A := ?frame3) (inList (isV (.pointer (some ⟨pb, 0, none⟩)) :: isV (.pointer (some ⟨pb, 0, none⟩)) :: isV (.pointer (some ⟨pb, 3, none⟩)) :: isV (.int .i64 (M : Int)) :: isV (.int .i64 X) :: isV (.pointer (some ⟨pb, 0, none⟩)) :: isV (.pointer (some ⟨pb, 0, none⟩)) :: isV (.pointer (some ⟨pb, 4, none⟩)) :: isV (.int .i64 (V : Int)) :: isV (.int .i64 Y) :: isV (.int .i64 X) :: isV (.int .i64 Y) :: [])) (by kernel_rfl) (by kernel_rfl) (inList_stays ?_) (fun x => ?frameEq3) ?_ ?_
  case frameEq3 => go_simp; rfl
  · intro f hf
    simp only [List.mem_cons, List.not_mem_nil, or_false] at hf
    rcases hf with rfl | rfl | rfl | rfl | rfl | rfl | rfl | rfl | rfl | rfl | rfl | rfl <;> first | exact isV_stays _ | exact isB_stays _ | exact isBs_stays _
  · refine ⟨fun x w1 hg hd post hp => ?_, fun x w1 hg hd post hp => ?_, fun x w1 hg hd post hp => ?_, fun x w1 hg hd post hp => ?_, fun x w1 hg hd post hp => ?_, fun x w1 hg hd post hp => ?_, fun x w1 hg hd post hp => ?_, fun x w1 hg hd post hp => ?_, fun x w1 hg hd post hp => ?_, fun x w1 hg hd post hp => ?_, fun x w1 hg hd post hp => ?_, fun x w1 hg hd post hp => ?_, trivial⟩
    · -- 0: slot 6: Op.move t0
      clear hd
      go_simp
      exact hp _ _ (Grow.refl _) rfl
    · -- 1: slot 7: Op.nilCheck t6
      have h6 : x 6 = .pointer (some ⟨pb, 0, none⟩) := hd 0 (by decide) _ rfl
      clear hd
      go_simp
      exact hp _ _ (Grow.refl _) rfl
    · -- 2: slot 8: Op.fieldAddr 43 t7 3
      have h7 : x 7 = .pointer (some ⟨pb, 0, none⟩) := hd 1 (by decide) _ rfl
      clear hd
      go_simp
      exact hp _ _ (Grow.refl _) rfl
    · -- 3: slot 9: Op.load 3 t8
      have h8 : x 8 = .pointer (some ⟨pb, 3, none⟩) := hd 2 (by decide) _ rfl
      clear hd
      obtain ⟨c3, c4⟩ := HC.out _ hg
      go_simp
      exact hp _ _ (Grow.refl _) rfl
    · -- 4: slot 10: Op.binOp BinOp.quo 3 t9 (const (8:i64)) 3
      have h9 : x 9 = .int .i64 (M : Int) := hd 3 (by decide) _ rfl
      clear hd
      have e := HX.out
      obtain ⟨e1, e2, f1, f2⟩ := e
      go_simp
      exact hp _ _ (Grow.refl _) rfl
    · -- 5: slot 11: Op.move t0
      clear hd
      go_simp
      exact hp _ _ (Grow.refl _) rfl
    · -- 6: slot 12: Op.nilCheck t11
      have h11 : x 11 = .pointer (some ⟨pb, 0, none⟩) := hd 5 (by decide) _ rfl
      clear hd
      go_simp
      exact hp _ _ (Grow.refl _) rfl
    · -- 7: slot 13: Op.fieldAddr 43 t12 4
      have h12 : x 12 = .pointer (some ⟨pb, 0, none⟩) := hd 6 (by decide) _ rfl
      clear hd
      go_simp
      exact hp _ _ (Grow.refl _) rfl
    · -- 8: slot 14: Op.load 3 t13
      have h13 : x 13 = .pointer (some ⟨pb, 4, none⟩) := hd 7 (by decide) _ rfl
      clear hd
      obtain ⟨c3, c4⟩ := HC.out _ hg
      go_simp
      exact hp _ _ (Grow.refl _) rfl
    · -- 9: slot 15: Op.binOp BinOp.quo 3 t14 (const (4:i64)) 3
      have h14 : x 14 = .int .i64 (V : Int) := hd 8 (by decide) _ rfl
      clear hd
      have e := HX.out
      obtain ⟨e1, e2, f1, f2⟩ := e
      go_simp
      exact hp _ _ (Grow.refl _) rfl
    · -- 10: slot 2: Op.assign t10
      have h10 : x 10 = .int .i64 X := hd 4 (by decide) _ rfl
      clear hd
      go_simp
      exact hp _ _ (Grow.refl _) rfl
    · -- 11: slot 3: Op.assign t15
      have h15 : x 15 = .int .i64 Y := hd 9 (by decide) _ rfl
      clear hd
      go_simp
      exact hp _ _ (Grow.refl _) rfl
  · intro x w1 hg hd
    have h2 : x 2 = .int .i64 X := hd 10 _ rfl
    have h3 : x 3 = .int .i64 Y := hd 11 _ rfl
    rw [h2, h3]
    have HG := Lib.hid hg
    clear hg hd h2 h3
    go_wp2_with fail
    go_ret2
    exact ⟨rfl, HG.out⟩
end
theorem newP (w : World) (l h f : Nat) (hr : RoRight (l : Int) (h : Int) (f : Int)) : Calls Try.prog 6 #[.int .i64 (l : Int), .int .i64 (h : Int), .int .i64 (f : Int)] w fun e w' => e = .returned (.tuple #[.pointer (some ⟨w.heap.size, 0, none⟩), .int .i64 0]) ∧ w' = w.alloc (.cells (rpA (noneRo l h f)) 43) := by
  unfold RoRight at hr
  obtain ⟨h1, h2, h3, h4⟩ := hr
  have d1 : decide ((l : Int) < 1) = false := decide_eq_false (by omega)
  have d2 : decide ((f : Int) < (l : Int)) = false := decide_eq_false (by omega)
  have d3 : decide ((h : Int) < (f : Int)) = false := decide_eq_false (by omega)
  have d4 : decide (1073741824 < (h : Int)) = false := decide_eq_false (by omega)
  clear h1 h2 h3 h4
  have HW := Lib.hid (show w.alloc (.cells #[.int .i64 (l : Int), .int .i64 (h : Int), .int .i64 (f : Int), .int .i64 0, .int .i64 0, .bool false, .int .i64 0] 43) = w.alloc (.cells (rpA (noneRo l h f)) 43) from rfl)
  generalize (l : Int) = L at *
  generalize (f : Int) = F at *
  generalize (h : Int) = H at *
  go_enter Try.func6, Try.ntmps6
  go_wp2_with fail
  go_ret2
  exact ⟨rfl, HW.out⟩
theorem newNotP (w : World) (l h f : Int) (hr : ¬ RoRight l h f) : Calls Try.prog 6 #[.int .i64 l, .int .i64 h, .int .i64 f] w fun e w' => e = .returned (.tuple #[.pointer none, .int .i64 1]) ∧ Grow w w' := by
  unfold RoRight at hr
  by_cases q1 : l < 1
  · have d1 : decide (l < 1) = true := decide_eq_true q1
    clear hr
    go_enter Try.func6, Try.ntmps6
    go_wp2_with fail
    go_ret2
    exact ⟨rfl, Grow.refl _⟩
  have d1 : decide (l < 1) = false := decide_eq_false q1
  by_cases q2 : f < l
  · have d2 : decide (f < l) = true := decide_eq_true q2
    clear hr
    go_enter Try.func6, Try.ntmps6
    go_wp2_with fail
    go_ret2
    exact ⟨rfl, Grow.refl _⟩
  have d2 : decide (f < l) = false := decide_eq_false q2
  by_cases q3 : h < f
  · have d3 : decide (h < f) = true := decide_eq_true q3
    clear hr
    go_enter Try.func6, Try.ntmps6
    go_wp2_with fail
    go_ret2
    exact ⟨rfl, Grow.refl _⟩
  have d3 : decide (h < f) = false := decide_eq_false q3
  have q4 : 1073741824 < h := by omega
  have d4 : decide (1073741824 < h) = true := decide_eq_true q4
  clear hr
  go_enter Try.func6, Try.ntmps6
  go_wp2_with fail
  go_ret2
  exact ⟨rfl, Grow.refl _⟩
theorem withinP (w : World) (l h : Int) : Calls Try.prog 17 #[.int .i64 l, .int .i64 h] w fun e w' => e = .returned (.func (.func 18) #[] #[.pointer (some ⟨w.heap.size, 0, none⟩), .pointer (some ⟨w.heap.size + 1, 0, none⟩)]) ∧ w' = (w.alloc (.cells #[.int .i64 l] 3)).alloc (.cells #[.int .i64 h] 3) := by
  go_enter Try.func17, Try.ntmps17
  go_wp2_with fail
  go_ret
  exact ⟨rfl, rfl⟩
theorem boundP (w : World) (a b : Nat) (l h n : Int) (h1 : w.cell? ⟨a, 0, none⟩ = some (.int .i64 l)) (h2 : w.cell? ⟨b, 0, none⟩ = some (.int .i64 h)) :
    Calls Try.prog 18 #[.int .i64 n, .pointer (some ⟨a, 0, none⟩), .pointer (some ⟨b, 0, none⟩)] w fun e w' => e = .returned (.int .i64 (clipI l h n)) ∧ w' = w := by
  have HC := Lib.hid (show clipI l h n = (if h < (if n < l then l else n) then h else (if n < l then l else n)) from rfl)
  by_cases q : n < l
  · simp only [if_pos q] at HC
    by_cases q2 : h < l
    · simp only [if_pos q2] at HC
      go_enter Try.func18, Try.ntmps18
      go_wp2_with fail
      go_ret
      exact ⟨congrArg (fun z => Ending.returned (.int .i64 z)) HC.out.symm, rfl⟩
    · simp only [if_neg q2] at HC
      go_enter Try.func18, Try.ntmps18
      go_wp2_with fail
      go_ret
      exact ⟨congrArg (fun z => Ending.returned (.int .i64 z)) HC.out.symm, rfl⟩
  · simp only [if_neg q] at HC
    by_cases q2 : h < n
    · simp only [if_pos q2] at HC
      go_enter Try.func18, Try.ntmps18
      go_wp2_with fail
      go_ret
      exact ⟨congrArg (fun z => Ending.returned (.int .i64 z)) HC.out.symm, rfl⟩
    · simp only [if_neg q2] at HC
      go_enter Try.func18, Try.ntmps18
      go_wp2_with fail
      go_ret
      exact ⟨congrArg (fun z => Ending.returned (.int .i64 z)) HC.out.symm, rfl⟩
theorem sampleN (w : World) (t : Int) : Calls Try.prog 12 #[.pointer none, .int .i64 t] w fun x w' => x = .returned (.tuple #[]) ∧ Grow w w' := by
  go_enter Try.func12, Try.ntmps12
  go_wp2_with fail
  refine bodyPost_ret (results_none rfl _ _ _) rfl ?_
  exact ⟨rfl, Grow.refl _⟩
theorem backN (w : World) : Calls Try.prog 10 #[.pointer none] w fun x w' => x = .returned (.tuple #[]) ∧ Grow w w' := by
  go_enter Try.func10, Try.ntmps10
  go_wp2_with fail
  refine bodyPost_ret (results_none rfl _ _ _) rfl ?_
  exact ⟨rfl, Grow.refl _⟩
theorem nowN (w : World) : Calls Try.prog 9 #[.pointer none] w fun x w' => x = .returned (.int .i64 0) ∧ Grow w w' := by
  go_enter Try.func9, Try.ntmps9
  go_wp2_with fail
  go_ret
  exact ⟨rfl, Grow.refl _⟩
theorem smoothN (w : World) : Calls Try.prog 14 #[.pointer none] w fun x w' => x = .returned (.tuple #[.int .i64 0, .int .i64 0]) ∧ Grow w w' := by
  go_enter Try.func14, Try.ntmps14
  go_wp2_with fail
  go_ret2
  exact ⟨rfl, Grow.refl _⟩
theorem backsN (w : World) : Calls Try.prog 15 #[.pointer none] w fun x w' => x = .returned (.int .i64 0) ∧ Grow w w' := by
  go_enter Try.func15, Try.ntmps15
  go_wp2_with fail
  go_ret
  exact ⟨rfl, Grow.refl _⟩
end Go.Proofs.Ytpbnpkbmefjiaaa
