/- Contracts: Len, Room, Passed, from, New, Drop; the calls of none; the reference's First and Peek; code. -/
import Derived.Test.YteohepgpghmioaaHsCopy
import Derived.BigQuiet
namespace Go.Proofs.Yteohepgpghmioaa
set_option linter.unusedVariables false
set_option linter.unusedSimpArgs false
attribute [local irreducible] wpQuiet
open Go.ChangeShapes Go.WideShapes Go.ChangeAt Go.RowKit

theorem code_any (x : Int) (w : World) : Calls Try.prog 9 #[.int .i64 x] w fun e w' => e = .returned (.int .i64 x) ∧ w' = w := by
  go_enter Try.func9, Try.ntmps9
  go_wp2_with fail
  go_ret
  exact ⟨rfl, rfl⟩
theorem hLen_nil (w : World) : Calls Try.prog 17 #[.pointer none] w fun e w' => e = .returned (.int .i64 0) ∧ w' = w := by
  go_enter Try.func17, Try.ntmps17
  go_wp2_with fail
  go_ret
  exact ⟨rfl, rfl⟩
theorem hRoom_nil (w : World) : Calls Try.prog 18 #[.pointer none] w fun e w' => e = .returned (.int .i64 0) ∧ w' = w := by
  go_enter Try.func18, Try.ntmps18
  go_wp2_with fail
  go_ret
  exact ⟨rfl, rfl⟩
theorem hPassed_nil (w : World) : Calls Try.prog 16 #[.pointer none] w fun e w' => e = .returned (.tuple #[.int .i64 0, .int .i64 0]) ∧ w' = w := by
  go_enter Try.func16, Try.ntmps16
  go_wp2_with fail
  go_ret2
  exact ⟨rfl, rfl⟩
section
variable {w w' : World} {base ab g m i o : Nat} {r : List UInt8}
theorem hLen_any (h : Hs w base ab g m i o r) : Calls Try.prog 17 #[.pointer (some ⟨ab, 0, none⟩)] w fun e w' => e = .returned (.int .i64 (r.length : Int)) ∧ Grow w w' := by
  obtain ⟨c0, c1, c2⟩ := h.cells
  have hl := h.lt.1
  have x1 := fun p : Gw w => Gw.cell (p := p) hl c1
  have x2 := fun p : Gw w => Gw.cell (p := p) hl c2
  have hi := h.big
  have e1 : (i : Int) - (o : Int) = (r.length : Int) := by have := h.len; omega
  have e2 : IntKind.i64.wrap ((i : Int) - (o : Int)) = (r.length : Int) := by rw [e1, IntKind.wrap_i64]; have := h.len; omega
  clear h hi c0 c1 c2 hl e1
  generalize r.length = n at *
  go_enter Try.func17, Try.ntmps17
  go_wp2_with fail
  refine wp_region_gw (by kernel_rfl) (by kernel_rfl) ?_
  repeat (quiet_step ((fail)))
  refine wpQuiet_nil ?_
  intro _ hw'
  obtain ⟨⟨wq, hgq⟩, hw2⟩ := hw'
  subst hw2
  go_wp2_with fail
  go_ret
  exact ⟨rfl, hgq⟩
theorem hPassed_any (h : Hs w base ab g m i o r) : Calls Try.prog 16 #[.pointer (some ⟨ab, 0, none⟩)] w fun e w' => e = .returned (.tuple #[.int .i64 (i : Int), .int .i64 (o : Int)]) ∧ Grow w w' := by
  obtain ⟨c0, c1, c2⟩ := h.cells
  have hl := h.lt.1
  have x1 := fun p : Gw w => Gw.cell (p := p) hl c1
  have x2 := fun p : Gw w => Gw.cell (p := p) hl c2
  clear h c0 c1 c2 hl
  go_enter Try.func16, Try.ntmps16
  go_wp2_with fail
  refine wp_region_gw (by kernel_rfl) (by kernel_rfl) ?_
  repeat (quiet_step ((fail)))
  refine wpQuiet_nil ?_
  intro _ hw'
  obtain ⟨⟨wq, hgq⟩, hw2⟩ := hw'
  subst hw2
  go_wp2_with fail
  go_ret2
  exact ⟨rfl, hgq⟩
theorem hRoom_any (h : Hs w base ab g m i o r) : Calls Try.prog 18 #[.pointer (some ⟨ab, 0, none⟩)] w fun e w' => e = .returned (.int .i64 ((m - r.length : Nat) : Int)) ∧ Grow w w' := by
  obtain ⟨c0, c1, c2⟩ := h.cells
  have hl := h.lt.1
  have x0 := fun p : Gw w => Gw.cell (p := p) hl c0
  have cL : ∀ p : Gw w, _ := fun p => Calls.gw (p := p) (hLen_any (h.grow p.h))
  have hi := h.pos
  have e1 : (m : Int) - (r.length : Int) = ((m - r.length : Nat) : Int) := by have := h.cap; omega
  have e2 : IntKind.i64.wrap ((m : Int) - (r.length : Int)) = ((m - r.length : Nat) : Int) := by rw [e1, IntKind.wrap_i64]; omega
  clear h hi c0 c1 c2 hl e1
  generalize (m - r.length : Nat) = z at *
  generalize r.length = n at *
  go_enter Try.func18, Try.ntmps18
  go_wp2_with fail
  refine wp_region_gw (by kernel_rfl) (by kernel_rfl) ?_
  repeat (quiet_step ((go_at_call 17; exact cL _)))
  refine wpQuiet_nil ?_
  intro _ hw'
  obtain ⟨⟨wq, hgq⟩, hw2⟩ := hw'
  subst hw2
  go_wp2_with fail
  go_ret
  exact ⟨rfl, hgq⟩
/-- Which part of the ring 'from' is. -/
theorem hFrom_any (h : Hs w base ab g m i o r) (n : Nat) : Calls Try.prog 19 #[.pointer (some ⟨ab, 0, none⟩), .int .i64 (n : Int)] w fun e w' => e = .returned (.slice (some ⟨g, n % m, none⟩) (m - n % m) (m - n % m)) ∧ Grow w w' := by
  obtain ⟨c0, c1, c2⟩ := h.cells
  have hl := h.lt.1
  have x0 := fun p : Gw w => Gw.cell (p := p) hl c0
  have hm := h.pos
  have hk := Nat.mod_lt n hm.1
  have e0 : ((n : Int)).tmod (m : Int) = ((n % m : Nat) : Int) := by
    rw [Int.natCast_emod]
    exact Int.tmod_eq_emod_of_nonneg (by omega)
  have e2 : IntKind.i64.wrap ((n : Int).tmod (m : Int)) = ((n % m : Nat) : Int) := by rw [e0, IntKind.wrap_i64]; omega
  have d1 : ¬ (m : Int) = 0 := by omega
  have d2 : ¬ m = 0 := by omega
  clear h c0 c1 c2 hl
  generalize n % m = k at *
  have d3 : ¬ (k : Int) < 0 := by omega
  have d4 : (k : Int) ≤ (m : Int) := by omega
  have d5 : ¬ m = k := by omega
  go_enter Try.func19, Try.ntmps19
  go_wp2_with fail
  refine wp_region_gw (by kernel_rfl) (by kernel_rfl) ?_
  repeat (quiet_step ((fail)))
  refine wpQuiet_nil ?_
  intro _ hw'
  obtain ⟨⟨wq, hgq⟩, hw2⟩ := hw'
  subst hw2
  go_wp2_with fail
  go_ret
  exact ⟨rfl, hgq⟩
end
end Go.Proofs.Yteohepgpghmioaa
