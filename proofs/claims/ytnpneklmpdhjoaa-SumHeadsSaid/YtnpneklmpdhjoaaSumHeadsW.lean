/- The walk of the law on heads. -/
import Derived.Test.YtnpneklmpdhjoaaSumHead
import Derived.Test.YtnpneklmpdhjoaaOctet
namespace Go.Proofs.Ytnpneklmpdhjoaa
set_option linter.unusedVariables false
set_option linter.unusedSimpArgs false
open Go.ChangeShapes Go.WideShapes Go.ChangeAt Go.RowKit

set_option maxHeartbeats 4000000 in
theorem sumHeads_walk (w : World) (a : Int) (ha : 0 ≤ a ∧ a ≤ 4294967295) (b : Int) (hb : 0 ≤ b ∧ b ≤ 4294967295) (q : Int) (hq0 : 0 ≤ q ∧ q ≤ 255) (n : Int) (hn : -9223372036854775808 ≤ n ∧ n ≤ 9223372036854775807) {v : Value} {l : List UInt8} (h : Byt w v l) (hl : l.length ≤ 140737488351232) :
    Calls Try.prog 5 #[.int .u32 a, .int .u32 b, .int .u8 q, .int .i64 n, v] w fun e w' => e = .returned (.bool true) ∧ Grow w w' := by
  obtain ⟨s, rfl⟩ := Int.eq_ofNat_of_zero_le ha.1
  obtain ⟨d, rfl⟩ := Int.eq_ofNat_of_zero_le hb.1
  obtain ⟨p, rfl⟩ := Int.eq_ofNat_of_zero_le hq0.1
  have hs : s < 4294967296 := by omega
  have hd' : d < 4294967296 := by omega
  have hq : p < 256 := by omega
  obtain ⟨A, c, rfl, hc, hcm⟩ := h.form
  go_enter Try.func5, Try.ntmps5
  go_wp2_with fail
  refine wp_region_loose (A := ?frame) (inList (isV (.int .u32 (s : Int)) :: isV (.int .u32 (d : Int)) :: isV (.int .u8 (p : Int)) :: isV (.int .i64 n) :: isB (headOf s d p n) :: isV (strV (headOf s d p n)) :: isV (.int .u32 (s : Int)) :: isV (.int .u32 (d : Int)) :: isV (.int .u8 (p : Int)) :: isV (.int .i64 n) :: isB (headOf s d p n) :: isV (strV (headOf s d p n)) :: isV (.bool true) :: isV (.bool true) :: isV (.int .u32 (s : Int)) :: isV (.int .u32 (d : Int)) :: isV (.int .u8 (p : Int)) :: isV (.slice A l.length c) :: isV (.int .i64 (65535 - (ones (headOf s d p l.length ++ l) : Int))) :: isV (.int .u32 (s : Int)) :: isV (.int .u32 (d : Int)) :: isV (.int .u8 (p : Int)) :: isV (.slice A l.length c) :: isV (.int .i64 (65535 - (ones (headOf s d p l.length ++ l) : Int))) :: isV (.bool true) :: isV (.bool true) :: isV (.bool true) :: isV (.bool true) :: isV (.bool true) :: isV (.bool true) :: [])) (by kernel_rfl) (by kernel_rfl) (inList_stays ?_) (fun x => ?frameEq) ?_ ?_
  case frameEq => go_simp; rfl
  · intro f hf
    simp only [List.mem_cons, List.not_mem_nil, or_false] at hf
    rcases hf with rfl | rfl | rfl | rfl | rfl | rfl | rfl | rfl | rfl | rfl | rfl | rfl | rfl | rfl | rfl | rfl | rfl | rfl | rfl | rfl | rfl | rfl | rfl | rfl | rfl | rfl | rfl | rfl | rfl | rfl <;> first | exact isV_stays _ | exact isB_stays _ | exact isBs_stays _
  · refine ⟨fun x w1 hg hd post hp => ?_, fun x w1 hg hd post hp => ?_, fun x w1 hg hd post hp => ?_, fun x w1 hg hd post hp => ?_, fun x w1 hg hd post hp => ?_, fun x w1 hg hd post hp => ?_, fun x w1 hg hd post hp => ?_, fun x w1 hg hd post hp => ?_, fun x w1 hg hd post hp => ?_, fun x w1 hg hd post hp => ?_, fun x w1 hg hd post hp => ?_, fun x w1 hg hd post hp => ?_, fun x w1 hg hd post hp => ?_, fun x w1 hg hd post hp => ?_, fun x w1 hg hd post hp => ?_, fun x w1 hg hd post hp => ?_, fun x w1 hg hd post hp => ?_, fun x w1 hg hd post hp => ?_, fun x w1 hg hd post hp => ?_, fun x w1 hg hd post hp => ?_, fun x w1 hg hd post hp => ?_, fun x w1 hg hd post hp => ?_, fun x w1 hg hd post hp => ?_, fun x w1 hg hd post hp => ?_, fun x w1 hg hd post hp => ?_, fun x w1 hg hd post hp => ?_, fun x w1 hg hd post hp => ?_, fun x w1 hg hd post hp => ?_, fun x w1 hg hd post hp => ?_, fun x w1 hg hd post hp => ?_, trivial⟩
    · -- 0: slot 15: Op.move t11
      clear hd
      go_simp
      exact hp _ _ (Grow.refl _) rfl
    · -- 1: slot 16: Op.move t12
      clear hd
      go_simp
      exact hp _ _ (Grow.refl _) rfl
    · -- 2: slot 17: Op.move t2
      clear hd
      go_simp
      exact hp _ _ (Grow.refl _) rfl
    · -- 3: slot 18: Op.move t3
      clear hd
      go_simp
      exact hp _ _ (Grow.refl _) rfl
    · -- 4: slot 19: Op.call { value (Operand.func 17), args := #[t15, t16, t17, t18], argTypes := #[
      have h15 : x 15 = .int .u32 (s : Int) := hd 0 (by decide) _ rfl
      have h16 : x 16 = .int .u32 (d : Int) := hd 1 (by decide) _ rfl
      have h17 : x 17 = .int .u8 (p : Int) := hd 2 (by decide) _ rfl
      have h18 : x 18 = .int .i64 n := hd 3 (by decide) _ rfl
      clear hd
      go_simp
      refine (Head_any s d p n _ hs hd' hq).mono ?_
      rintro e w2 ⟨u, rfl, ho, hg2⟩
      exact ⟨_, rfl, hp _ _ hg2 ho.byt⟩
    · -- 5: slot 20: Op.convert 22 9 t19
      have h19 : Byt w1 (x 19) (headOf s d p n) := hd 4 (by decide) _ rfl
      clear hd
      have c := str1 h19
      go_simp
      exact hp _ _ (Grow.refl _) rfl
    · -- 6: slot 21: Op.move t11
      clear hd
      go_simp
      exact hp _ _ (Grow.refl _) rfl
    · -- 7: slot 22: Op.move t12
      clear hd
      go_simp
      exact hp _ _ (Grow.refl _) rfl
    · -- 8: slot 23: Op.move t2
      clear hd
      go_simp
      exact hp _ _ (Grow.refl _) rfl
    · -- 9: slot 24: Op.move t3
      clear hd
      go_simp
      exact hp _ _ (Grow.refl _) rfl
    · -- 10: slot 25: Op.call { value (Operand.func 18), args := #[t21, t22, t23, t24], argTypes := #[
      have h21 : x 21 = .int .u32 (s : Int) := hd 6 (by decide) _ rfl
      have h22 : x 22 = .int .u32 (d : Int) := hd 7 (by decide) _ rfl
      have h23 : x 23 = .int .u8 (p : Int) := hd 8 (by decide) _ rfl
      have h24 : x 24 = .int .i64 n := hd 9 (by decide) _ rfl
      clear hd
      go_simp
      refine (RHead_any s d p n _ hs hd' hq hn).mono ?_
      rintro e w2 ⟨u, rfl, ho, hg2⟩
      exact ⟨_, rfl, hp _ _ hg2 ho.byt⟩
    · -- 11: slot 26: Op.convert 22 9 t25
      have h25 : Byt w1 (x 25) (headOf s d p n) := hd 10 (by decide) _ rfl
      clear hd
      have c := str1 h25
      go_simp
      exact hp _ _ (Grow.refl _) rfl
    · -- 12: slot 27: Op.binOp BinOp.eql 9 t20 t26 9
      have h20 : x 20 = strV (headOf s d p n) := hd 5 (by decide) _ rfl
      have h26 : x 26 = strV (headOf s d p n) := hd 11 (by decide) _ rfl
      clear hd
      unfold strV at *
      go_simp
      exact hp _ _ (Grow.refl _) (by show Value.bool _ = Value.bool true; simp)
    · -- 13: slot 28: Op.move t27
      have h27 : x 27 = .bool true := hd 12 (by decide) _ rfl
      clear hd
      go_simp
      exact hp _ _ (Grow.refl _) rfl
    · -- 14: slot 29: Op.move t11
      have h28 : x 28 = .bool true := hd 13 (by decide) _ rfl
      clear hd
      go_simp
      exact hp _ _ (Grow.refl _) rfl
    · -- 15: slot 30: Op.move t12
      have h28 : x 28 = .bool true := hd 13 (by decide) _ rfl
      clear hd
      go_simp
      exact hp _ _ (Grow.refl _) rfl
    · -- 16: slot 31: Op.move t2
      have h28 : x 28 = .bool true := hd 13 (by decide) _ rfl
      clear hd
      go_simp
      exact hp _ _ (Grow.refl _) rfl
    · -- 17: slot 32: Op.move t4
      have h28 : x 28 = .bool true := hd 13 (by decide) _ rfl
      clear hd
      go_simp
      exact hp _ _ (Grow.refl _) rfl
    · -- 18: slot 33: Op.call { value (Operand.func 19), args := #[t29, t30, t31, t32], argTypes := #[
      have h29 : x 29 = .int .u32 (s : Int) := hd 14 (by decide) _ rfl
      have h30 : x 30 = .int .u32 (d : Int) := hd 15 (by decide) _ rfl
      have h31 : x 31 = .int .u8 (p : Int) := hd 16 (by decide) _ rfl
      have h32 : x 32 = .slice A l.length c := hd 17 (by decide) _ rfl
      have h28 : x 28 = .bool true := hd 13 (by decide) _ rfl
      clear hd
      go_simp
      refine (Of_any s d p _ l _ hs hd' hq (h.grow hg) hl).mono ?_
      rintro e w2 ⟨rfl, hg2⟩
      exact ⟨_, rfl, hp _ _ hg2 rfl⟩
    · -- 19: slot 34: Op.move t11
      have h28 : x 28 = .bool true := hd 13 (by decide) _ rfl
      clear hd
      go_simp
      exact hp _ _ (Grow.refl _) rfl
    · -- 20: slot 35: Op.move t12
      have h28 : x 28 = .bool true := hd 13 (by decide) _ rfl
      clear hd
      go_simp
      exact hp _ _ (Grow.refl _) rfl
    · -- 21: slot 36: Op.move t2
      have h28 : x 28 = .bool true := hd 13 (by decide) _ rfl
      clear hd
      go_simp
      exact hp _ _ (Grow.refl _) rfl
    · -- 22: slot 37: Op.move t4
      have h28 : x 28 = .bool true := hd 13 (by decide) _ rfl
      clear hd
      go_simp
      exact hp _ _ (Grow.refl _) rfl
    · -- 23: slot 38: Op.call { value (Operand.func 20), args := #[t34, t35, t36, t37], argTypes := #[
      have h34 : x 34 = .int .u32 (s : Int) := hd 19 (by decide) _ rfl
      have h35 : x 35 = .int .u32 (d : Int) := hd 20 (by decide) _ rfl
      have h36 : x 36 = .int .u8 (p : Int) := hd 21 (by decide) _ rfl
      have h37 : x 37 = .slice A l.length c := hd 22 (by decide) _ rfl
      have h28 : x 28 = .bool true := hd 13 (by decide) _ rfl
      clear hd
      go_simp
      refine (ROf_any s d p _ l _ hs hd' hq (h.grow hg) hl).mono ?_
      rintro e w2 ⟨rfl, hg2⟩
      exact ⟨_, rfl, hp _ _ hg2 rfl⟩
    · -- 24: slot 39: Op.binOp BinOp.eql 3 t33 t38 3
      have h33 : x 33 = .int .i64 (65535 - (ones (headOf s d p l.length ++ l) : Int)) := hd 18 (by decide) _ rfl
      have h38 : x 38 = .int .i64 (65535 - (ones (headOf s d p l.length ++ l) : Int)) := hd 23 (by decide) _ rfl
      have h28 : x 28 = .bool true := hd 13 (by decide) _ rfl
      clear hd
      go_simp
      exact hp _ _ (Grow.refl _) rfl
    · -- 25: slot 40: Op.pick t28 t39 (const (Value.bool false))
      have h28 : x 28 = .bool true := hd 13 (by decide) _ rfl
      have h39 : x 39 = .bool true := hd 24 (by decide) _ rfl
      clear hd
      go_simp
      exact hp _ _ (Grow.refl _) rfl
    · -- 26: slot 41: Op.move t40
      have h40 : x 40 = .bool true := hd 25 (by decide) _ rfl
      clear hd
      go_simp
      exact hp _ _ (Grow.refl _) rfl
    · -- 27: slot 42: Op.call { value (Operand.func 12), args := #[], argTypes := #[] }
      have h41 : x 41 = .bool true := hd 26 (by decide) _ rfl
      clear hd
      go_simp
      refine (live_any _).mono ?_
      rintro e w2 ⟨rfl, hg2⟩
      exact ⟨_, rfl, hp _ _ hg2 rfl⟩
    · -- 28: slot 43: Op.pick t41 t42 (const (Value.bool false))
      have h41 : x 41 = .bool true := hd 26 (by decide) _ rfl
      have h42 : x 42 = .bool true := hd 27 (by decide) _ rfl
      clear hd
      go_simp
      exact hp _ _ (Grow.refl _) rfl
    · -- 29: slot 10: Op.assign t43
      have h43 : x 43 = .bool true := hd 28 (by decide) _ rfl
      clear hd
      go_simp
      exact hp _ _ (Grow.refl _) rfl
  · intro x w1 hg hd
    have h10 : x 10 = .bool true := hd 29 _ rfl
    clear hd
    go_wp2
    go_ret
    exact ⟨by go_simp, hg⟩

end Go.Proofs.Ytnpneklmpdhjoaa
