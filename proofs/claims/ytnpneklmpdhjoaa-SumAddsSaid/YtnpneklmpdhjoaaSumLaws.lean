/- The laws' own walks, layer sum. -/
import Derived.Test.YtnpneklmpdhjoaaSumIter
import Derived.Deep.DeepFit
namespace Go.Proofs.Ytnpneklmpdhjoaa
set_option linter.unusedVariables false
set_option linter.unusedSimpArgs false
open Go.ChangeShapes Go.WideShapes Go.ChangeAt Go.RowKit

theorem Check_any (v : Value) (l : List UInt8) (w : World) (h : Byt w v l) (hl : l.length ≤ 281474976710656) :
    Calls Try.prog 10 #[v] w fun e w' => e = .returned (.int .i64 (65535 - (ones l : Int))) ∧ Grow w w' := by
  have l1 := ones_lt l
  go_enter Try.func10, Try.ntmps10
  go_wp2_with fail
  refine (Sum_any _ _ _ h hl).mono ?_
  rintro e w' ⟨rfl, hg⟩
  go_wp2_with fail
  go_ret
  exact ⟨rfl, hg⟩

theorem Right_any (v : Value) (l : List UInt8) (w : World) (h : Byt w v l) (hl : l.length ≤ 281474976710656) :
    Calls Try.prog 11 #[v] w fun e w' => e = .returned (.bool ((ones l : Int) == 65535)) ∧ Grow w w' := by
  have l1 := ones_lt l
  go_enter Try.func11, Try.ntmps11
  go_wp2_with fail
  refine (Sum_any _ _ _ h hl).mono ?_
  rintro e w' ⟨rfl, hg⟩
  go_wp2_with fail
  go_ret
  exact ⟨rfl, hg⟩

theorem live_any (w : World) : Calls Try.prog 12 #[] w fun e w' => e = .returned (.bool true) ∧ Grow w w' := by
  go_enter Try.func12, Try.ntmps12
  go_wp2_with fail
  have hb : Byt (w.alloc (.cells #[.int .u8 0, .int .u8 1, .int .u8 242, .int .u8 3, .int .u8 244, .int .u8 245, .int .u8 246, .int .u8 247] 5)) (.slice (some ⟨w.heap.size, 0, none⟩) 8 8) [0, 1, 242, 3, 244, 245, 246, 247] :=
    Rd.block (cs := #[.int .u8 0, .int .u8 1, .int .u8 242, .int .u8 3, .int .u8 244, .int .u8 245, .int .u8 246, .int .u8 247]) (heap_alloc_new w _) (by simp) (by omega) (by decide)
  have e0 : ones [0, 1, 242, 3, 244, 245, 246, 247] = 56818 := by decide
  refine (Sum_any _ _ _ hb (by decide)).mono ?_
  rw [e0]
  rintro e w' ⟨rfl, hg⟩
  go_wp2_with fail
  go_ret
  exact ⟨rfl, (Grow.alloc _ _).trans hg⟩

set_option maxHeartbeats 1000000 in
theorem sumTells_walk (w : World) {v : Value} {l : List UInt8} (h : Byt w v l) (hl : l.length ≤ 140737488351232) :
    Calls Try.prog 3 #[v] w fun e w' => e = .returned (.bool true) ∧ Grow w w' := by
  have l1 := ones_lt l
  go_enter Try.func3, Try.ntmps3
  go_wp2_with fail
  refine (RSum_any _ _ _ h (by omega)).mono ?_
  rintro e w' ⟨rfl, rfl⟩
  go_wp2_with fail
  refine (Sum_any _ _ _ h (by omega)).mono ?_
  rintro e w1 ⟨rfl, hg1⟩
  go_wp2_with fail
  refine (Check_any _ _ _ (h.grow hg1) (by omega)).mono ?_
  rintro e w2 ⟨rfl, hg2⟩
  have hg12 := hg1.trans hg2
  go_wp2_with fail
  refine (Right_any _ _ _ (h.grow hg12) (by omega)).mono ?_
  rintro e w3 ⟨rfl, hg3⟩
  have hb : (((ones l : Int) == 65535) == ((ones l : Int) == 65535)) = true := beq_self_eq_true _
  have hg13 := hg12.trans hg3
  go_wp2_with fail
  refine (live_any _).mono ?_
  rintro e w4 ⟨rfl, hg4⟩
  go_wp2_with fail
  go_ret
  exact ⟨rfl, hg13.trans hg4⟩

set_option maxHeartbeats 1000000 in
theorem sumAdds_walk (w : World) (a : Int) (ha : -9223372036854775808 ≤ a ∧ a ≤ 9223372036854775807) (b : Int) (hb : -9223372036854775808 ≤ b ∧ b ≤ 9223372036854775807) (c : Int) (hc : -9223372036854775808 ≤ c ∧ c ≤ 9223372036854775807) :
    Calls Try.prog 4 #[.int .i64 a, .int .i64 b, .int .i64 c] w fun e w' => e = .returned (.bool true) ∧ Grow w w' := by
  go_enter Try.func4, Try.ntmps4
  go_wp2_with fail
  refine (Add_any _ _ _).mono ?_
  rintro e w' ⟨rfl, rfl⟩
  go_wp2_with fail
  refine (RAdd_any _ _ _).mono ?_
  rintro e w' ⟨rfl, rfl⟩
  go_wp2_with fail
  refine (Turn_any _ _ _ _).mono ?_
  rintro e w' ⟨rfl, rfl⟩
  go_wp2_with fail
  refine (RTurn_any _ _ _ _).mono ?_
  rintro e w' ⟨rfl, rfl⟩
  go_wp2_with fail
  refine (live_any _).mono ?_
  rintro e w1 ⟨rfl, hg1⟩
  go_wp2_with fail
  go_ret
  exact ⟨rfl, hg1⟩

end Go.Proofs.Ytnpneklmpdhjoaa
