/- The walks of AddrTexts and AddrHalves. -/
import Derived.Test.YthaheagjelmnpaaDoorAddrParse
import Derived.Test.YthaheagjelmnpaaDoorAddrRText
namespace Go.Proofs.YthaheagjelmnpaaDoor
set_option linter.unusedVariables false
set_option linter.unusedSimpArgs false
open Go.ChangeShapes Go.WideShapes Go.ChangeAt Go.RowKit

set_option maxHeartbeats 1600000 in
theorem addrTexts_walk (w : World) (a : Int) (ha : 0 ≤ a ∧ a ≤ 4294967295) (hg : Pow w) :
    Calls Tryd.prog 3 #[.int .u32 a] w fun e w' => e = .returned (.bool true) ∧ Grow w w' := by
  obtain ⟨b0, b1, b2, b3, h0, h1, h2, h3, hv⟩ := quad_of ha
  have hT : Hid (∀ w, Pow w → Calls Tryd.prog 6 #[.int .u32 a] w fun e w' => e = .returned (.string (str (quad b0 b1 b2 b3))) ∧ Grow w w') := fun w hg => Text_any b0 b1 b2 b3 h0 h1 h2 h3 a hv w hg
  have hR : Hid (∀ w, Calls Tryd.prog 8 #[.int .u32 a] w fun e w' => e = .returned (.string (str (quad b0 b1 b2 b3))) ∧ ∃ m, w' = w.drewN m) := fun w => ARText_any b0 b1 b2 b3 h0 h1 h2 h3 a hv w
  have hP : Hid (∀ w, Calls Tryd.prog 7 #[.string (str (quad b0 b1 b2 b3))] w fun e w' => e = .returned (.tuple #[.int .u32 a, .int .i64 0, .int .i64 (((str (quad b0 b1 b2 b3)).size : Nat) : Int)]) ∧ w = w') := by
    rw [hv]
    exact fun w => Parse_any b0 b1 b2 b3 h0 h1 h2 h3 w
  have hl := quad_small b0 b1 b2 b3 h0 h1 h2 h3
  rw [← str_size] at hl
  clear hv
  generalize str (quad b0 b1 b2 b3) = S at *
  go_enter Tryd.func3, Tryd.ntmps3
  go_wp2_with fail
  refine (hT.out _ hg).mono ?_
  rintro e w1 ⟨rfl, hg1⟩
  have A1 := (show Aside _ from And.intro hg1 (hg.grow hg1))
  clear hg1
  go_wp2_with fail
  refine (hP.out _).mono ?_
  rintro e w' ⟨rfl, rfl⟩
  go_wp2_with fail
  refine (hR.out _).mono ?_
  rintro e w2 ⟨rfl, m, rfl⟩
  have A2 := (show Aside _ from And.intro (A1.out.1.trans (Grow.more _ m)) (A1.out.2.grow (Grow.more _ m)))
  go_wp2_with fail
  refine (Acode_any _ _).mono ?_
  rintro e w' ⟨rfl, rfl⟩
  go_wp2_with fail
  refine (Kind_any a ha _).mono ?_
  rintro e w' ⟨rfl, rfl⟩
  go_wp2_with fail
  refine (RKind_any a ha _).mono ?_
  rintro e w' ⟨rfl, rfl⟩
  go_wp2_with fail
  refine (Alive_any _ A2.out.2).mono ?_
  rintro e w3 ⟨rfl, hg3⟩
  have A3 := (show Aside _ from A2.out.1.trans hg3)
  clear hg3
  go_wp2_with fail
  go_ret
  exact ⟨rfl, A3.out⟩

/-- Two answers that shut one another out. -/
theorem one_of {p q r : Bool} (h : (r = true ↔ (p = true ∨ q = true)) ∧ ¬ (p = true ∧ q = true)) : (p = true ∧ q = false ∧ r = true) ∨ (p = false ∧ q = true ∧ r = true) ∨ (p = false ∧ q = false ∧ r = false) := by
  revert h; cases p <;> cases q <;> cases r <;> simp

set_option maxHeartbeats 1600000 in
theorem addrHalves_walk (w : World) (x : Int) (hx : 0 ≤ x ∧ x ≤ 4294967295) (y : Int) (hy : 0 ≤ y ∧ y ≤ 4294967295) (b : Int) (hb : 0 ≤ b ∧ b ≤ 255) (hg : Pow w) :
    Calls Tryd.prog 5 #[.int .u32 x, .int .u32 y, .int .u8 b] w fun e w' => e = .returned (.bool true) ∧ Grow w w' := by
  obtain ⟨n, hn⟩ : ∃ n, n = b % 32 := ⟨_, rfl⟩
  have rn : 0 ≤ n ∧ n ≤ 31 := by omega
  have em : b.tmod 32 = n := by rw [Int.tmod_eq_emod_of_nonneg hb.1, hn]
  have EM := Lib.hid em
  clear em hn
  obtain ⟨N, hN⟩ : ∃ N, N = netOf x n := ⟨_, rfl⟩
  obtain ⟨L, hL⟩ : ∃ L, L = N + (sz n - 1) := ⟨_, rfl⟩
  obtain ⟨U, hU⟩ : ∃ U, U = netOf L (n + 1) := ⟨_, rfl⟩
  have bN := net_in (k := n) hx
  have bt := net_top (k := n) hx (by omega)
  have bp := sz_pos n
  rw [← hN] at bN bt
  have bL : 0 ≤ L ∧ L ≤ 4294967295 := by omega
  have bU := net_in (k := n + 1) bL
  rw [← hU] at bU
  have hh := net_halves (a := x) (y := y) rn
  rw [← hN, ← hL, ← hU] at hh
  have C1 : Hid (∀ w, Calls Tryd.prog 13 #[.int .u32 x, .int .i64 n] w fun e w' => e = .returned (.tuple #[.int .u32 N, .int .i64 0]) ∧ w = w') := fun w => by rw [hN]; exact Net_any x n hx (by omega) w
  have C2 : Hid (∀ w, Calls Tryd.prog 14 #[.int .u32 N, .int .i64 n] w fun e w' => e = .returned (.tuple #[.int .u32 L, .int .i64 0]) ∧ w = w') := fun w => by
    have h := Last_any N n (by omega) (by omega) w
    rw [show netOf N n = N by rw [hN, net_net], ← hL] at h
    exact h
  have C3 : Hid (∀ w, Calls Tryd.prog 13 #[.int .u32 L, .int .i64 (n + 1)] w fun e w' => e = .returned (.tuple #[.int .u32 U, .int .i64 0]) ∧ w = w') := fun w => by rw [hU]; exact Net_any L (n + 1) bL (by omega) w
  have C4 : Hid (∀ w, Calls Tryd.prog 16 #[.int .u32 y, .int .u32 N, .int .i64 (n + 1)] w fun e w' => e = .returned (.bool (netOf y (n + 1) == netOf N (n + 1))) ∧ w = w') := fun w => In_any y N (n + 1) hy (by omega) (by omega) w
  have C5 : Hid (∀ w, Calls Tryd.prog 16 #[.int .u32 y, .int .u32 U, .int .i64 (n + 1)] w fun e w' => e = .returned (.bool (netOf y (n + 1) == netOf U (n + 1))) ∧ w = w') := fun w => In_any y U (n + 1) hy (by omega) (by omega) w
  have C6 : Hid (∀ w, Calls Tryd.prog 16 #[.int .u32 y, .int .u32 N, .int .i64 n] w fun e w' => e = .returned (.bool (netOf y n == netOf N n)) ∧ w = w') := fun w => In_any y N n hy (by omega) (by omega) w
  have ho := one_of (p := (netOf y (n + 1) == netOf N (n + 1))) (q := (netOf y (n + 1) == netOf U (n + 1))) (r := (netOf y n == netOf N n)) (by simpa using hh)
  clear hh hN hL hU bt bp
  generalize (netOf y (n + 1) == netOf N (n + 1)) = p at *
  generalize (netOf y (n + 1) == netOf U (n + 1)) = q at *
  generalize (netOf y n == netOf N n) = r at *
  go_enter Tryd.func5, Tryd.ntmps5
  have em := EM.out
  go_wp2_with fail
  clear em
  refine (C1.out _).mono ?_
  rintro e w' ⟨rfl, rfl⟩
  go_wp2_with fail
  refine (C2.out _).mono ?_
  rintro e w' ⟨rfl, rfl⟩
  go_wp2_with fail
  refine (C3.out _).mono ?_
  rintro e w' ⟨rfl, rfl⟩
  go_wp2_with fail
  refine (C4.out _).mono ?_
  rintro e w' ⟨rfl, rfl⟩
  go_wp2_with fail
  refine (C5.out _).mono ?_
  rintro e w' ⟨rfl, rfl⟩
  go_wp2_with fail
  refine (Acode_any _ _).mono ?_
  rintro e w' ⟨rfl, rfl⟩
  go_wp2_with fail
  refine (Acode_any _ _).mono ?_
  rintro e w' ⟨rfl, rfl⟩
  go_wp2_with fail
  refine (Acode_any _ _).mono ?_
  rintro e w' ⟨rfl, rfl⟩
  go_wp2_with fail
  refine (C6.out _).mono ?_
  rintro e w' ⟨rfl, rfl⟩
  rcases ho with ⟨rfl, rfl, rfl⟩ | ⟨rfl, rfl, rfl⟩ | ⟨rfl, rfl, rfl⟩
  all_goals
    go_wp2_with fail
    refine (Alive_any _ hg).mono ?_
    rintro e w3 ⟨rfl, hg3⟩
    have A3 := (show Aside _ from hg3)
    clear hg3
    go_wp2_with fail
    go_ret
    exact ⟨rfl, A3.out⟩
end Go.Proofs.YthaheagjelmnpaaDoor
