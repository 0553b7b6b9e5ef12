/- Addresses as texts: the reference's Text. -/
import Derived.Test.YthaheagjelmnpaaDoorAddrText
namespace Go.Proofs.YthaheagjelmnpaaDoor
set_option linter.unusedVariables false
set_option linter.unusedSimpArgs false
open Go.ChangeShapes Go.WideShapes Go.ChangeAt Go.RowKit

theorem RNum_any (n : Nat) (h : n < 1000) (w : World) : Calls Tryd.prog 20 #[.int .i64 (n : Int)] w fun e w' => e = .returned (.string (str (Lib.itoa (n : Int)))) ∧ ∃ m, w' = w.drewN m := Number_any (n : Int) (by omega) (by omega) w

theorem quot_form {a k b : Int} (ha : 0 ≤ a) (h : a / k = b) : a.tdiv k = b := by rw [Int.tdiv_eq_ediv_of_nonneg ha]; exact h
theorem part_form {a k b : Int} (ha : 0 ≤ a) (hk : 0 ≤ k) (h : a / k % 256 = b) : (a.tdiv k).tmod 256 = b := by
  rw [Int.tdiv_eq_ediv_of_nonneg ha, Int.tmod_eq_emod_of_nonneg (Int.ediv_nonneg ha hk)]; exact h
theorem rest_form {a b : Int} (ha : 0 ≤ a) (h : a % 256 = b) : a.tmod 256 = b := by rw [Int.tmod_eq_emod_of_nonneg ha]; exact h

set_option maxHeartbeats 1600000 in
theorem ARText_any (b0 b1 b2 b3 : Nat) (h0 : b0 ≤ 255) (h1 : b1 ≤ 255) (h2 : b2 ≤ 255) (h3 : b3 ≤ 255) (a : Int) (ha : a = (quadV b0 b1 b2 b3 : Int)) (w : World) :
    Calls Tryd.prog 8 #[.int .u32 a] w fun e w' => e = .returned (.string (str (quad b0 b1 b2 b3))) ∧ ∃ m, w' = w.drewN m := by
  obtain ⟨q0, q1, q2, q3, q4, q5⟩ := quad_parts h0 h1 h2 h3 ha
  have z0 := itoa_pos b0 (by omega)
  have z1 := itoa_pos b1 (by omega)
  have z2 := itoa_pos b2 (by omega)
  have z3 := itoa_pos b3 (by omega)
  rw [← str_size] at z0 z1 z2 z3
  have I0 : Hid (∀ w, Calls Tryd.prog 20 #[.int .i64 (b0 : Int)] w fun e w' => e = .returned (.string (str (Lib.itoa (b0 : Int)))) ∧ ∃ m, w' = w.drewN m) := RNum_any b0 (by omega)
  have I1 : Hid (∀ w, Calls Tryd.prog 20 #[.int .i64 (b1 : Int)] w fun e w' => e = .returned (.string (str (Lib.itoa (b1 : Int)))) ∧ ∃ m, w' = w.drewN m) := RNum_any b1 (by omega)
  have I2 : Hid (∀ w, Calls Tryd.prog 20 #[.int .i64 (b2 : Int)] w fun e w' => e = .returned (.string (str (Lib.itoa (b2 : Int)))) ∧ ∃ m, w' = w.drewN m) := RNum_any b2 (by omega)
  have I3 : Hid (∀ w, Calls Tryd.prog 20 #[.int .i64 (b3 : Int)] w fun e w' => e = .returned (.string (str (Lib.itoa (b3 : Int)))) ∧ ∃ m, w' = w.drewN m) := RNum_any b3 (by omega)
  obtain ⟨X1, x1⟩ : ∃ X, str (Lib.itoa (b0 : Int)) ++ ⟨#[46]⟩ = X := ⟨_, rfl⟩
  obtain ⟨X2, x2⟩ : ∃ X, X1 ++ str (Lib.itoa (b1 : Int)) = X := ⟨_, rfl⟩
  obtain ⟨X3, x3⟩ : ∃ X, X2 ++ ⟨#[46]⟩ = X := ⟨_, rfl⟩
  obtain ⟨X4, x4⟩ : ∃ X, X3 ++ str (Lib.itoa (b2 : Int)) = X := ⟨_, rfl⟩
  obtain ⟨X5, x5⟩ : ∃ X, X4 ++ ⟨#[46]⟩ = X := ⟨_, rfl⟩
  have x6 : X5 ++ str (Lib.itoa (b3 : Int)) = str (quad b0 b1 b2 b3) := by
    rw [← x5, ← x4, ← x3, ← x2, ← x1]
    show str (Lib.itoa (b0 : Int)) ++ str [46] ++ str (Lib.itoa (b1 : Int)) ++ str [46] ++ str (Lib.itoa (b2 : Int)) ++ str [46] ++ str (Lib.itoa (b3 : Int)) = _
    simp [str_add, quad]
  have s1 := congrArg ByteArray.size x1
  have s2 := congrArg ByteArray.size x2
  have s3 := congrArg ByteArray.size x3
  have s4 := congrArg ByteArray.size x4
  have s5 := congrArg ByteArray.size x5
  simp only [ByteArray.size_append, show (⟨#[46]⟩ : ByteArray).size = 1 from rfl] at s1 s2 s3 s4 s5
  clear ha
  generalize str (quad b0 b1 b2 b3) = Q at *
  generalize str (Lib.itoa (b0 : Int)) = N0 at *
  generalize str (Lib.itoa (b1 : Int)) = N1 at *
  generalize str (Lib.itoa (b2 : Int)) = N2 at *
  generalize str (Lib.itoa (b3 : Int)) = N3 at *
  have t1 : X1.size ≤ 20 := by omega
  have t2 : X2.size ≤ 20 := by omega
  have t3 : X3.size ≤ 20 := by omega
  have t4 : X4.size ≤ 20 := by omega
  have t5 : X5.size ≤ 20 := by omega
  clear s1 s2 s3 s4 s5
  have sd : (⟨#[46]⟩ : ByteArray).size = 1 := rfl
  have E0 : Hid (a.tdiv 16777216 = (b0 : Int)) := quot_form q4 q0
  obtain ⟨u1, E1, F1, U1⟩ : ∃ u, Hid (a.tdiv 65536 = u) ∧ Hid (u.tmod 256 = (b1 : Int)) ∧ 0 ≤ u ∧ u ≤ 4294967295 := ⟨_, Lib.hid rfl, part_form q4 (by decide) q1, by rw [Int.tdiv_eq_ediv_of_nonneg q4]; omega⟩
  obtain ⟨u2, E2, F2, U2⟩ : ∃ u, Hid (a.tdiv 256 = u) ∧ Hid (u.tmod 256 = (b2 : Int)) ∧ 0 ≤ u ∧ u ≤ 4294967295 := ⟨_, Lib.hid rfl, part_form q4 (by decide) q2, by rw [Int.tdiv_eq_ediv_of_nonneg q4]; omega⟩
  have E3 : Hid (a.tmod 256 = (b3 : Int)) := rest_form q4 q3
  clear q0 q1 q2 q3
  go_enter Tryd.func8, Tryd.ntmps8
  have e0 := E0.out
  go_wp2_with fail
  clear e0
  refine (I0.out _).mono ?_
  rintro e w1 ⟨rfl, n1, rfl⟩
  have e1 := E1.out
  have f1 := F1.out
  go_wp2_with fail
  clear e1 f1
  refine (I1.out _).mono ?_
  rintro e w1 ⟨rfl, n2, rfl⟩
  have e2 := E2.out
  have f2 := F2.out
  go_wp2_with fail
  clear e2 f2
  refine (I2.out _).mono ?_
  rintro e w1 ⟨rfl, n3, rfl⟩
  have e3 := E3.out
  go_wp2_with fail
  clear e3
  refine (I3.out _).mono ?_
  rintro e w1 ⟨rfl, n4, rfl⟩
  go_wp2_with fail
  go_ret
  exact ⟨rfl, _, rfl⟩
end Go.Proofs.YthaheagjelmnpaaDoor
