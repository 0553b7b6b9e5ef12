/- Contracts: cmp.Compare, cmp.Or of three. -/
import Derived.Test.YtdgbieapgmjjhaaGen
import Derived.Test.YtdgbieapgmjjhaaGw
import Derived.Test.YtdgbieapgmjjhaaRows
import Derived.Deep.LoopGhost
import Derived.Lib.Hide
namespace Go.Proofs.Ytdgbieapgmjjhaa
set_option linter.unusedVariables false
set_option linter.unusedSimpArgs false
open Go.ChangeShapes Go.WideShapes Go.ChangeAt Go.RowKit

def cmpI (x y : Int) : Int := if x < y then -1 else if y < x then 1 else 0
theorem cmpI_lt {x y : Int} : cmpI x y < 0 ↔ x < y := by
  unfold cmpI
  rcases Int.lt_trichotomy x y with h | h | h
  · rw [if_pos h]; omega
  · rw [if_neg (by omega), if_neg (by omega)]; omega
  · rw [if_neg (by omega), if_pos h]; omega
theorem cmpI_eq {x y : Int} : cmpI x y = 0 ↔ x = y := by
  unfold cmpI
  rcases Int.lt_trichotomy x y with h | h | h
  · rw [if_pos h]; omega
  · rw [if_neg (by omega), if_neg (by omega)]; omega
  · rw [if_neg (by omega), if_pos h]; omega

theorem isNaN_any (x : Int) (w : World) : Calls Try.prog 47 #[.int .i64 x] w fun e w' => e = .returned (.bool false) ∧ w = w' := by
  go_enter Try.func47, Try.ntmps47
  go_wp2_with fail
  go_ret
  exact ⟨by simp, rfl⟩
theorem Compare_any (x y : Int) (w : World) : Calls Try.prog 36 #[.int .i64 x, .int .i64 y] w fun e w' => e = .returned (.int .i64 (cmpI x y)) ∧ w = w' := by
  unfold cmpI
  rcases Int.lt_trichotomy x y with h | h | h
  · have d1 : decide (x < y) = true := decide_eq_true h
    rw [if_pos h]
    go_enter Try.func36, Try.ntmps36
    go_wp2_with (go_at_call 47; refine (isNaN_any _ _).mono ?_; rintro e w' ⟨rfl, rfl⟩)
    go_ret
    exact ⟨rfl, rfl⟩
  · subst h
    rw [if_neg (by omega), if_neg (by omega)]
    have d1 : decide (x < x) = false := decide_eq_false (by omega)
    go_enter Try.func36, Try.ntmps36
    go_wp2_with (go_at_call 47; refine (isNaN_any _ _).mono ?_; rintro e w' ⟨rfl, rfl⟩)
    go_ret
    exact ⟨rfl, rfl⟩
  · rw [if_neg (by omega), if_pos h]
    have d1 : decide (x < y) = false := decide_eq_false (by omega)
    have d2 : decide (y < x) = true := decide_eq_true h
    go_enter Try.func36, Try.ntmps36
    go_wp2_with (go_at_call 47; refine (isNaN_any _ _).mono ?_; rintro e w' ⟨rfl, rfl⟩)
    go_ret
    exact ⟨rfl, rfl⟩

def orI (x y z : Int) : Int := if x ≠ 0 then x else if y ≠ 0 then y else z
theorem Or_any (w : World) (g : Nat) (x y z : Int) (h0 : w.cell? ⟨g, 0, none⟩ = some (.int .i64 x)) (h1 : w.cell? ⟨g, 1, none⟩ = some (.int .i64 y)) (h2 : w.cell? ⟨g, 2, none⟩ = some (.int .i64 z)) :
    Calls Try.prog 35 #[.slice (some ⟨g, 0, none⟩) 3 3] w fun e w' => e = .returned (.int .i64 (orI x y z)) ∧ w' = w := by
  have HC : Hid (∀ i : Nat, i < 3 → ∃ u : Int, u = (if i = 0 then x else if i = 1 then y else z) ∧ w.cell? ⟨g, i, none⟩ = some (.int .i64 u)) := by
    intro i hi
    rcases (show i = 0 ∨ i = 1 ∨ i = 2 by omega) with rfl | rfl | rfl
    · exact ⟨x, rfl, h0⟩
    · exact ⟨y, rfl, h1⟩
    · exact ⟨z, rfl, h2⟩
  clear h0 h1 h2
  go_enter Try.func35, Try.ntmps35
  go_wp2_with fail
  go_loopg [8] 3 (fun gk s8 wr => ∃ i : Nat, gk = 3 - i ∧ s8 = .int .i64 (i : Int) ∧ wr = w ∧ Hid (i ≤ 3 ∧ ∀ j, j < i → (if j = 0 then x else if j = 1 then y else z) = 0))
  case atStart => exact ⟨0, rfl, rfl, rfl, Nat.zero_le _, fun j hj => absurd hj (Nat.not_lt_zero _)⟩
  case round =>
    obtain ⟨i, rfl, rfl, rfl, HR⟩ := hrel
    rcases Nat.lt_or_ge i 3 with hlt | hge
    · obtain ⟨u, hu, k0⟩ := HC.out i hlt
      have t0 : (i : Int) < 3 := by omega
      obtain ⟨j, hj⟩ : ∃ j, j = i + 1 := ⟨_, rfl⟩
      have n1 : (i : Int) + 1 = (j : Int) := by omega
      have n2 : IntKind.i64.wrap (j : Int) = (j : Int) := IntWalk.i64_in _ (by omega)
      have n3 : IntKind.i64.wrap ((i : Int) + 1) = (j : Int) := by rw [n1]; exact n2
      have HJ : Hid (j = i + 1 ∧ i < 3 ∧ u = (if i = 0 then x else if i = 1 then y else z)) := ⟨hj, hlt, hu⟩
      clear hj hlt hu
      by_cases q : u = 0
      · subst q
        go_wp2_with fail
        go_roundg (3 - j)
        case measure => have := HJ.out; omega
        case rel =>
          refine ⟨j, rfl, rfl, rfl, by have := HJ.out; omega, fun k hk => ?_⟩
          rcases Nat.lt_or_ge k i with a | a
          · exact HR.out.2 k a
          · have e : k = i := by have := HJ.out; omega
            rw [e]
            exact HJ.out.2.2.symm
      · have q' : (u == 0) = false := by rw [beq_eq_false_iff_ne]; exact q
        have hq : orI x y z = u := by
          have h1 := HJ.out.2.2
          have h3 := HR.out.2
          have hi := HJ.out.2.1
          unfold orI
          rcases (show i = 0 ∨ i = 1 ∨ i = 2 by omega) with e | e | e
          · rw [if_pos e] at h1
            rw [if_pos (by rw [← h1]; exact q), h1]
          · have e0 : x = 0 := h3 0 (by omega)
            rw [if_neg (by omega), if_pos e] at h1
            rw [if_neg (by omega), if_pos (by rw [← h1]; exact q), h1]
          · have e0 : x = 0 := h3 0 (by omega)
            have e1 : y = 0 := h3 1 (by omega)
            rw [if_neg (by omega), if_neg (by omega)] at h1
            rw [if_neg (by omega), if_neg (by omega), h1]
        have HQ := Lib.hid hq
        clear hq
        go_wp2_with fail
        go_ret
        exact ⟨by rw [HQ.out]; rfl, rfl⟩
    · have t0 : ¬ ((i : Int) < 3) := by omega
      have e : i = 3 := by have := HR.out.1; omega
      have e0 : x = 0 := HR.out.2 0 (by omega)
      have e1 : y = 0 := HR.out.2 1 (by omega)
      have e2 : z = 0 := HR.out.2 2 (by omega)
      have er : orI x y z = 0 := by unfold orI; rw [if_neg (by omega), if_neg (by omega), e2]
      have HE := Lib.hid er
      clear e e0 e1 e2 er hge
      go_wp2_with fail
      go_ret
      exact ⟨by rw [HE.out]; rfl, rfl⟩
end Go.Proofs.Ytdgbieapgmjjhaa
