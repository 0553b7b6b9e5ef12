/- The walk of AddrNets. -/
import Derived.Test.YthaheagjelmnpaaDoorAddrWalks
import Derived.Test.YthaheagjelmnpaaDoorAddrRNet
namespace Go.Proofs.YthaheagjelmnpaaDoor
set_option linter.unusedVariables false
set_option linter.unusedSimpArgs false
open Go.ChangeShapes Go.WideShapes Go.ChangeAt Go.RowKit

set_option maxHeartbeats 1600000 in
set_option maxRecDepth 10000 in
theorem nets_out (w : World) (x : Int) (y : Int) (k : Int) (hk : k < 0 ∨ 32 < k) (hg : Pow w) :
    Calls Tryd.prog 4 #[.int .u32 x, .int .u32 y, .int .i64 k] w fun e w' => e = .returned (.bool true) ∧ Grow w w' := by
  have C1 : Hid (∀ w, Calls Tryd.prog 13 #[.int .u32 x, .int .i64 k] w fun e w' => e = .returned (.tuple #[.int .u32 0, .int .i64 1]) ∧ w = w') := fun w => Net_not x k hk w
  have C2 : Hid (∀ w, Calls Tryd.prog 14 #[.int .u32 x, .int .i64 k] w fun e w' => e = .returned (.tuple #[.int .u32 0, .int .i64 1]) ∧ w = w') := fun w => Last_not x k hk w
  have C3 : Hid (∀ w, Calls Tryd.prog 15 #[.int .u32 x, .int .i64 k] w fun e w' => e = .returned (.tuple #[.string ⟨#[]⟩, .int .i64 1]) ∧ w = w') := fun w => NetText_not x k hk w
  have C4 : Hid (∀ w, Calls Tryd.prog 16 #[.int .u32 y, .int .u32 x, .int .i64 k] w fun e w' => e = .returned (.bool false) ∧ w = w') := fun w => In_not y x k hk w
  have hk2 : k < 0 ∨ (decide (k < 0) = false ∧ 32 < k) := by
    rcases hk with h | h
    · exact .inl h
    · exact .inr ⟨decide_eq_false (by omega), h⟩
  clear hk
  rcases hk2 with hk | ⟨hd, hk⟩
  all_goals
    go_enter Tryd.func4, Tryd.ntmps4
    go_wp2_with fail
    refine (C1.out _).mono ?_
    rintro e w' ⟨rfl, rfl⟩
    go_wp2_with fail
    refine (C2.out _).mono ?_
    rintro e w' ⟨rfl, rfl⟩
    go_wp2_with fail
    refine (C3.out _).mono ?_
    rintro e w' ⟨rfl, rfl⟩
    go_wp2_with fail
    refine (Acode_any _ _).mono ?_
    rintro e w' ⟨rfl, rfl⟩
    go_wp2_with fail
    refine (Acode_any _ _).mono ?_
    rintro e w' ⟨rfl, rfl⟩
    go_wp2_with fail
    refine (Acode_any _ _).mono ?_
    rintro e w' ⟨rfl, rfl⟩
    go_wp2_with fail
    refine (C4.out _).mono ?_
    rintro e w' ⟨rfl, rfl⟩
    go_wp2_with fail
    refine (Alive_any _ hg).mono ?_
    rintro e w3 ⟨rfl, hg3⟩
    have A3 := (show Aside _ from hg3)
    clear hg3
    go_wp2_with fail
    go_ret
    exact ⟨rfl, A3.out⟩

set_option maxHeartbeats 3200000 in
set_option maxRecDepth 10000 in
theorem nets_in (w : World) (x : Int) (hx : 0 ≤ x ∧ x ≤ 4294967295) (y : Int) (hy : 0 ≤ y ∧ y ≤ 4294967295) (k : Nat) (hk : k ≤ 32) (hg : Pow w) :
    Calls Tryd.prog 4 #[.int .u32 x, .int .u32 y, .int .i64 (k : Int)] w fun e w' => e = .returned (.bool true) ∧ Grow w w' := by
  have bN := net_in (k := (k : Int)) hx
  obtain ⟨b0, b1, b2, b3, h0, h1, h2, h3, hv⟩ := quad_of (a := netOf x (k : Int)) (by omega)
  have C1 : Hid (∀ w, Calls Tryd.prog 13 #[.int .u32 x, .int .i64 (k : Int)] w fun e w' => e = .returned (.tuple #[.int .u32 (netOf x (k : Int)), .int .i64 0]) ∧ w = w') := fun w => Net_any x k hx (by omega) w
  have C2 : Hid (∀ w, Calls Tryd.prog 14 #[.int .u32 x, .int .i64 (k : Int)] w fun e w' => e = .returned (.tuple #[.int .u32 (netOf x (k : Int) + sz (k : Int) - 1), .int .i64 0]) ∧ w = w') := fun w => by
    have h := Last_any x k hx (by omega) w
    rw [← Int.add_sub_assoc] at h
    exact h
  have C3 : Hid (∀ w, Pow w → Calls Tryd.prog 15 #[.int .u32 x, .int .i64 (k : Int)] w fun e w' => e = .returned (.tuple #[.string (str (quad b0 b1 b2 b3 ++ 47 :: Lib.itoa (k : Int))), .int .i64 0]) ∧ Grow w w') := fun w hg => NetText_any b0 b1 b2 b3 k h0 h1 h2 h3 x hx hk hv w hg
  have C4 : Hid (∀ w, Calls Tryd.prog 17 #[.int .u32 x, .int .i64 (k : Int)] w fun e w' => e = .returned (.int .u32 (netOf x (k : Int))) ∧ ∃ m, w' = w.drewN m) := fun w => RNet_any x k hx (by omega) w
  have C5 : Hid (∀ w, Calls Tryd.prog 18 #[.int .i64 (k : Int)] w fun e w' => e = .returned (.int .i64 (sz (k : Int))) ∧ w = w') := fun w => Size_any k (by omega) w
  have C6 : Hid (∀ w, Calls Tryd.prog 19 #[.string (str (quad b0 b1 b2 b3 ++ 47 :: Lib.itoa (k : Int)))] w fun e w' => e = .returned (.tuple #[.int .u32 (netOf x (k : Int)), .int .i64 (k : Int), .int .i64 0, .int .i64 (((str (quad b0 b1 b2 b3 ++ 47 :: Lib.itoa (k : Int))).size : Nat) : Int)]) ∧ w = w') := by
    have hm := net_mod x (k : Int)
    rw [hv] at hm ⊢
    exact fun w => ParseNet_any b0 b1 b2 b3 k h0 h1 h2 h3 hk hm _ rfl w
  have C7 : Hid (∀ w, Calls Tryd.prog 16 #[.int .u32 y, .int .u32 x, .int .i64 (k : Int)] w fun e w' => e = .returned (.bool (netOf y (k : Int) == netOf x (k : Int))) ∧ w = w') := fun w => In_any y x k hy hx (by omega) w
  have C8 : Hid (∀ w, Calls Tryd.prog 8 #[.int .u32 (netOf x (k : Int))] w fun e w' => e = .returned (.string (str (quad b0 b1 b2 b3))) ∧ ∃ m, w' = w.drewN m) := fun w => ARText_any b0 b1 b2 b3 h0 h1 h2 h3 _ hv w
  have C9 : Hid (∀ w, Calls Tryd.prog 20 #[.int .i64 (k : Int)] w fun e w' => e = .returned (.string (str (Lib.itoa (k : Int)))) ∧ ∃ m, w' = w.drewN m) := RNum_any k (by omega)
  have hl := quad_small b0 b1 b2 b3 h0 h1 h2 h3
  have z0 := itoa_pos k (by omega)
  rw [← str_size] at hl z0
  obtain ⟨X1, x1⟩ : ∃ X, str (quad b0 b1 b2 b3) ++ ⟨#[47]⟩ = X := ⟨_, rfl⟩
  have x2 : X1 ++ str (Lib.itoa (k : Int)) = str (quad b0 b1 b2 b3 ++ 47 :: Lib.itoa (k : Int)) := by
    rw [← x1]
    show str (quad b0 b1 b2 b3) ++ str [47] ++ str (Lib.itoa (k : Int)) = _
    simp [str_add]
  have s1 := congrArg ByteArray.size x1
  have s2 := congrArg ByteArray.size x2
  simp only [ByteArray.size_append, show (⟨#[47]⟩ : ByteArray).size = 1 from rfl] at s1 s2
  have t1 : X1.size ≤ 20 := by omega
  have t2 : (str (quad b0 b1 b2 b3 ++ 47 :: Lib.itoa (k : Int))).size ≤ 100 := by omega
  have sd : (⟨#[47]⟩ : ByteArray).size = 1 := rfl
  have hs := net_same (a := x) (b := y) (k := (k : Int))
  have bp := sz_pos (k : Int)
  have bt := net_top (k := (k : Int)) hx (by omega)
  clear s1 s2 hv
  generalize str (quad b0 b1 b2 b3 ++ 47 :: Lib.itoa (k : Int)) = Y at *
  generalize str (quad b0 b1 b2 b3) = Q at *
  generalize str (Lib.itoa (k : Int)) = T at *
  generalize sz (k : Int) = S at *
  generalize netOf y (k : Int) = P at *
  generalize netOf x (k : Int) = V at *
  have ho : ∃ p q : Bool, decide (V ≤ y) = p ∧ decide (y ≤ V + S - 1) = q ∧ (P == V) = (p && q) := by
    refine ⟨_, _, rfl, rfl, ?_⟩
    rw [Bool.eq_iff_iff, beq_iff_eq, hs]
    simp
  clear hs
  obtain ⟨p, q, hp, hq, hpq⟩ := ho
  rw [hpq] at C7
  clear hpq
  go_enter Tryd.func4, Tryd.ntmps4
  go_wp2_with fail
  refine (C1.out _).mono ?_
  rintro e w' ⟨rfl, rfl⟩
  go_wp2_with fail
  refine (C2.out _).mono ?_
  rintro e w' ⟨rfl, rfl⟩
  go_wp2_with fail
  refine (C3.out _ hg).mono ?_
  rintro e w1 ⟨rfl, hg1⟩
  have A1 := (show Aside _ from And.intro hg1 (hg.grow hg1))
  clear hg1
  go_wp2_with fail
  refine (C4.out _).mono ?_
  rintro e w2 ⟨rfl, m1, rfl⟩
  go_wp2_with fail
  refine (C5.out _).mono ?_
  rintro e w' ⟨rfl, rfl⟩
  go_wp2_with fail
  refine (C6.out _).mono ?_
  rintro e w' ⟨rfl, rfl⟩
  go_wp2_with fail
  refine (Acode_any _ _).mono ?_
  rintro e w' ⟨rfl, rfl⟩
  go_wp2_with fail
  refine (Acode_any _ _).mono ?_
  rintro e w' ⟨rfl, rfl⟩
  go_wp2_with fail
  refine (Acode_any _ _).mono ?_
  rintro e w' ⟨rfl, rfl⟩
  go_wp2_with fail
  refine (C7.out _).mono ?_
  rintro e w' ⟨rfl, rfl⟩
  cases p <;> cases q
  all_goals
    go_wp2_with fail
    refine (C8.out _).mono ?_
    rintro e w2 ⟨rfl, m2, rfl⟩
    go_wp2_with fail
    refine (C9.out _).mono ?_
    rintro e w2 ⟨rfl, m3, rfl⟩
    go_wp2_with fail
    refine (Acode_any _ _).mono ?_
    rintro e w' ⟨rfl, rfl⟩
    have A2 : Aside (Grow w (w1.drewN (m1 + m2 + m3)) ∧ Pow (w1.drewN (m1 + m2 + m3))) := ⟨A1.out.1.trans (Grow.more _ _), A1.out.2.grow (Grow.more _ _)⟩
    go_wp2_with fail
    refine (Alive_any _ A2.out.2).mono ?_
    rintro e w3 ⟨rfl, hg3⟩
    have A3 := (show Aside _ from A2.out.1.trans hg3)
    clear hg3
    go_wp2_with fail
    go_ret
    exact ⟨rfl, A3.out⟩

theorem addrNets_walk (w : World) (x : Int) (hx : 0 ≤ x ∧ x ≤ 4294967295) (y : Int) (hy : 0 ≤ y ∧ y ≤ 4294967295) (k : Int) (hk : -9223372036854775808 ≤ k ∧ k ≤ 9223372036854775807) (hg : Pow w) :
    Calls Tryd.prog 4 #[.int .u32 x, .int .u32 y, .int .i64 k] w fun e w' => e = .returned (.bool true) ∧ Grow w w' := by
  by_cases h : 0 ≤ k ∧ k ≤ 32
  · obtain ⟨n, rfl⟩ := Int.eq_ofNat_of_zero_le h.1
    exact nets_in w x hx y hy n (by omega) hg
  · exact nets_out w x y k (by omega) hg
end Go.Proofs.YthaheagjelmnpaaDoor
