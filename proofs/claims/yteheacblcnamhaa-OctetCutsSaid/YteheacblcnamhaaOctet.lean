/- The laws' own walks. -/
import Derived.Test.YteheacblcnamhaaWit
import Derived.Test.YteheacblcnamhaaJoin
import Derived.Deep.DeepFit
namespace Go.Proofs.Yteheacblcnamhaa
set_option linter.unusedVariables false
open Go.ChangeShapes Go.WideShapes Go.ChangeAt Go.RowKit

set_option maxHeartbeats 400000 in
theorem code_any (n : Int) (w : World) : Calls Try.prog 16 #[.int .i64 n] w fun e w' => e = .returned (.int .i64 n) ∧ w = w' := by
  go_enter Try.func16, Try.ntmps16
  go_wp2
  go_ret
  exact ⟨rfl, rfl⟩

set_option maxHeartbeats 1000000 in
theorem octetGets_walk (w : World) {v : Value} {l : List UInt8} (h : Byt w v l) (_hl : l.length ≤ 140737488351232) (at_ : Int) (ha : -9223372036854775808 ≤ at_ ∧ at_ ≤ 9223372036854775807) :
    Calls Try.prog 4 #[v, .int .i64 at_] w fun e w' => e = .returned (.bool true) ∧ Grow w w' := by
  obtain ⟨ha1, ha2⟩ := ha
  obtain ⟨n1, n2⟩ := numAt_lt l at_ 4 (by omega)
  have q1 : ((numAt l at_ 2).1 == (numAt l at_ 2).1) = true := by simp
  have q2 : ((numAt l at_ 2).2 == (numAt l at_ 2).2) = true := by simp
  have q3 : ((numAt l at_ 4).1 == (numAt l at_ 4).1) = true := by simp
  have q4 : ((numAt l at_ 4).2 == (numAt l at_ 4).2) = true := by simp
  go_enter Try.func4, Try.ntmps4
  go_wp2_with fail
  refine (Get16_any _ _ _ _ h ha1 ha2).mono ?_
  rintro e w' ⟨rfl, rfl⟩
  go_wp2_with fail
  refine (RGet_any _ _ 2 _ _ h ha1 ha2 (by omega) (by omega)).mono ?_
  rintro e w' ⟨rfl, rfl⟩
  go_wp2_with fail
  refine (Get32_any _ _ _ _ h ha1 ha2).mono ?_
  rintro e w' ⟨rfl, rfl⟩
  go_wp2_with fail
  refine (RGet_any _ _ 4 _ _ h ha1 ha2 (by omega) (by omega)).mono ?_
  rintro e w' ⟨rfl, rfl⟩
  go_wp2_with fail
  have hb : Byt (w.alloc (.cells #[.int .u8 1, .int .u8 2] 5)) (.slice (some ⟨w.heap.size, 0, none⟩) 2 2) [1, 2] := Rd.block (cs := #[.int .u8 1, .int .u8 2]) (heap_alloc_new w _) (by simp) (by omega) (by decide)
  refine (Get16_any _ 0 [1, 2] _ hb (by omega) (by omega)).mono ?_
  rintro e w' ⟨rfl, rfl⟩
  rw [show numAt [1, 2] 0 2 = (258, 0) from by decide]
  go_wp2_with ((go_at_call 16); (refine (code_any _ _).mono ?_); (rintro e w' ⟨rfl, rfl⟩))
  go_ret
  exact ⟨rfl, Grow.alloc _ _⟩

theorem str_eq (l m : List UInt8) (h : l = m) : ((⟨l.toArray⟩ : ByteArray).toList == (⟨m.toArray⟩ : ByteArray).toList) = true := by subst h; simp

theorem str1 {w : World} {v : Value} {l : List UInt8} (h : Byt w v l) : (convert 22 9 v).run Try.prog w = .ok (.string ⟨l.toArray⟩) w :=
  h.str 22 9 5 Try.underlying22 Try.underlying5 Try.underlying9

set_option maxHeartbeats 1000000 in
theorem octetCuts_walk (w : World) {v : Value} {l : List UInt8} (h : Byt w v l) (hl : l.length ≤ 140737488351232) (at_ : Int) (ha : -9223372036854775808 ≤ at_ ∧ at_ ≤ 9223372036854775807) (n : Int) (hn : -9223372036854775808 ≤ n ∧ n ≤ 9223372036854775807) :
    Calls Try.prog 5 #[v, .int .i64 at_, .int .i64 n] w fun e w' => e = .returned (.bool true) ∧ Grow w w' := by
  obtain ⟨ha1, ha2⟩ := ha
  obtain ⟨hn1, hn2⟩ := hn
  go_enter Try.func5, Try.ntmps5
  go_wp2_with fail
  refine (Cut_any _ _ _ _ _ h (by omega) ha1 ha2).mono ?_
  rintro e w1 ⟨v1, rfl, ho1, hg1⟩
  go_wp2_with fail
  refine (RCut_any _ _ _ _ _ (h.grow hg1) ha1 ha2 hn1 hn2).mono ?_
  rintro e w2 ⟨v2, rfl, ho2, hg2⟩
  go_wp2_with fail
  have hb : Byt (w2.alloc (.cells #[.int .u8 1, .int .u8 2, .int .u8 3] 5)) (.slice (some ⟨w2.heap.size, 0, none⟩) 3 3) [1, 2, 3] := Rd.block (cs := #[.int .u8 1, .int .u8 2, .int .u8 3]) (heap_alloc_new w2 _) (by simp) (by omega) (by decide)
  refine (Cut_any _ [1, 2, 3] 1 2 _ hb (by simp) (by omega) (by omega)).mono ?_
  rintro e w3 ⟨v3, rfl, ho3, hg3⟩
  rw [show cutAt [1, 2, 3] 1 2 = [2, 3] from by decide] at ho3
  rw [show withinCode ([1, 2, 3] : List UInt8).length 1 2 = 0 from by decide]
  have g3 := (Grow.alloc w2 (.cells #[.int .u8 1, .int .u8 2, .int .u8 3] 5)).trans hg3
  have c1 := str1 ((ho1.grow hg2).grow g3).byt
  have c2 := str1 (ho2.grow g3)
  have c3 := str1 ho3.byt
  go_wp2_with ((go_at_call 16); (refine (code_any _ _).mono ?_); (rintro e w' ⟨rfl, rfl⟩))
  go_ret
  exact ⟨rfl, (hg1.trans hg2).trans g3⟩

def isB (l : List UInt8) (v : Value) (w : World) : Prop := Byt w v l
theorem isB_stays (l : List UInt8) : stays (isB l) := fun _ _ _ hg h => Byt.grow h hg
def strV (l : List UInt8) : Value := .string ⟨l.toArray⟩
theorem add_strV (t : TypeId) (a b : List UInt8) (w : World) (h : a.length + b.length ≤ 9223372036854775807) : (binOp .add t (strV a) (strV b)).run Try.prog w = .ok (strV (a ++ b)) w := by
  unfold strV
  rw [binOp_string_add]
  have hs : ¬ ((((⟨a.toArray⟩ : ByteArray).size + (⟨b.toArray⟩ : ByteArray).size : Nat) : Int) > IntKind.i64.max) := by
    simp only [ByteArray.size, List.size_toArray, IntKind.max, IntKind.signed, IntKind.bits]
    omega
  simp only [Op.stringOp]
  rw [if_neg hs, Sem.run_pure]
  congr 2
theorem eql_strV (t : TypeId) (a : List UInt8) (w : World) : (binOp .eql t (strV a) (strV a)).run Try.prog w = .ok (.bool true) w := by
  unfold strV
  rw [binOp_string_eql, Sem.run_pure]
  simp

set_option maxHeartbeats 1000000 in
theorem octetPuts_walk (w : World) {v : Value} {l : List UInt8} (h : Byt w v l) (hl : l.length ≤ 140737488351232) (n : Int) (hn : -9223372036854775808 ≤ n ∧ n ≤ 9223372036854775807) (m : Int) (hm : 0 ≤ m ∧ m ≤ 4294967295) :
    Calls Try.prog 3 #[v, .int .i64 n, .int .u32 m] w fun e w' => e = .returned (.bool true) ∧ Grow w w' := by
  obtain ⟨m, rfl⟩ := Int.eq_ofNat_of_zero_le hm.1
  obtain ⟨A, c, rfl, hc, hcm⟩ := h.form
  go_enter Try.func3, Try.ntmps3
  go_wp2_with fail
  refine wp_region_loose (A := ?frame) (inList [isV (.slice A l.length c), isV (.int .i64 n), isB (l ++ two n), isV (strV (l ++ two n)), isV (.slice A l.length c), isV (strV (l)), isV (.int .i64 n), isB (two n), isV (strV (two n)), isV (strV (l ++ two n)), isV (.bool true), isV (.bool true), isV (.slice A l.length c), isV (.int .u32 m), isB (l ++ dig m 4), isV (strV (l ++ dig m 4)), isV (.slice A l.length c), isV (strV (l)), isV (.int .u32 m), isB (dig m 4), isV (strV (dig m 4)), isV (strV (l ++ dig m 4)), isV (.bool true), isV (.bool true), isV (.bool true)]) (by kernel_rfl) (by kernel_rfl) (inList_stays ?_) (fun x => ?frameEq) ?_ ?_
  case frameEq => go_simp; rfl
  · intro f hf
    simp only [List.mem_cons, List.not_mem_nil, or_false] at hf
    rcases hf with rfl | rfl | rfl | rfl | rfl | rfl | rfl | rfl | rfl | rfl | rfl | rfl | rfl | rfl | rfl | rfl | rfl | rfl | rfl | rfl | rfl | rfl | rfl | rfl | rfl <;> first | exact isV_stays _ | exact isB_stays _
  · refine ⟨fun x w1 hg hd post hp => ?_, fun x w1 hg hd post hp => ?_, fun x w1 hg hd post hp => ?_, fun x w1 hg hd post hp => ?_, fun x w1 hg hd post hp => ?_, fun x w1 hg hd post hp => ?_, fun x w1 hg hd post hp => ?_, fun x w1 hg hd post hp => ?_, fun x w1 hg hd post hp => ?_, fun x w1 hg hd post hp => ?_, fun x w1 hg hd post hp => ?_, fun x w1 hg hd post hp => ?_, fun x w1 hg hd post hp => ?_, fun x w1 hg hd post hp => ?_, fun x w1 hg hd post hp => ?_, fun x w1 hg hd post hp => ?_, fun x w1 hg hd post hp => ?_, fun x w1 hg hd post hp => ?_, fun x w1 hg hd post hp => ?_, fun x w1 hg hd post hp => ?_, fun x w1 hg hd post hp => ?_, fun x w1 hg hd post hp => ?_, fun x w1 hg hd post hp => ?_, fun x w1 hg hd post hp => ?_, fun x w1 hg hd post hp => ?_, trivial⟩
    · -- 0: slot 7: Op.move t0
      clear hd
      go_simp
      exact hp _ _ (Grow.refl _) rfl
    · -- 1: slot 8: Op.move t1
      clear hd
      go_simp
      exact hp _ _ (Grow.refl _) rfl
    · -- 2: slot 9: Op.call { value (Operand.func 9), args := #[t7, t8], argTypes := #[22, 3] }
      have h7 : x 7 = .slice A l.length c := hd 0 (by decide) _ rfl
      have h8 : x 8 = .int .i64 n := hd 1 (by decide) _ rfl
      clear hd
      go_simp
      refine (Put16_any _ _ _ _ (h.grow hg) (by omega)).mono ?_
      rintro e w2 ⟨u, rfl, ho, hg2⟩
      exact ⟨_, rfl, hp _ _ hg2 ho.byt⟩
    · -- 3: slot 10: Op.convert 22 9 t9
      have h9 : Byt w1 (x 9) (l ++ two n) := hd 2 (by decide) _ rfl
      clear hd
      have c := str1 h9
      go_simp
      exact hp _ _ (Grow.refl _) rfl
    · -- 4: slot 11: Op.move t0
      clear hd
      go_simp
      exact hp _ _ (Grow.refl _) rfl
    · -- 5: slot 12: Op.convert 22 9 t11
      have h11 : x 11 = .slice A l.length c := hd 4 (by decide) _ rfl
      clear hd
      have c := str1 (h.grow hg)
      go_simp
      exact hp _ _ (Grow.refl _) rfl
    · -- 6: slot 13: Op.move t1
      clear hd
      go_simp
      exact hp _ _ (Grow.refl _) rfl
    · -- 7: slot 14: Op.call { value (Operand.func 10), args := #[t13], argTypes := #[3] }
      have h13 : x 13 = .int .i64 n := hd 6 (by decide) _ rfl
      clear hd
      go_simp
      refine (Two_any _ _ hn.1 hn.2).mono ?_
      rintro e w2 ⟨u, rfl, ho, hg2⟩
      exact ⟨_, rfl, hp _ _ hg2 ho.byt⟩
    · -- 8: slot 15: Op.convert 22 9 t14
      have h14 : Byt w1 (x 14) (two n) := hd 7 (by decide) _ rfl
      clear hd
      have c := str1 h14
      go_simp
      exact hp _ _ (Grow.refl _) rfl
    · -- 9: slot 16: Op.binOp BinOp.add 9 t12 t15 9
      have h12 : x 12 = strV (l) := hd 5 (by decide) _ rfl
      have h15 : x 15 = strV (two n) := hd 8 (by decide) _ rfl
      clear hd
      have c := add_strV 9 (l) (two n) w1 (by have q1 := two_length n; have q2 := dig_length m 4; omega)
      go_simp
      exact hp _ _ (Grow.refl _) rfl
    · -- 10: slot 17: Op.binOp BinOp.eql 9 t10 t16 9
      have h10 : x 10 = strV (l ++ two n) := hd 3 (by decide) _ rfl
      have h16 : x 16 = strV (l ++ two n) := hd 9 (by decide) _ rfl
      clear hd
      unfold strV at *
      go_simp
      exact hp _ _ (Grow.refl _) (by show Value.bool _ = Value.bool true; simp)
    · -- 11: slot 18: Op.move t17
      have h17 : x 17 = .bool true := hd 10 (by decide) _ rfl
      clear hd
      go_simp
      exact hp _ _ (Grow.refl _) rfl
    · -- 12: slot 19: Op.move t0
      have h18 : x 18 = .bool true := hd 11 (by decide) _ rfl
      clear hd
      go_simp
      exact hp _ _ (Grow.refl _) rfl
    · -- 13: slot 20: Op.move t2
      have h18 : x 18 = .bool true := hd 11 (by decide) _ rfl
      clear hd
      go_simp
      exact hp _ _ (Grow.refl _) rfl
    · -- 14: slot 21: Op.call { value (Operand.func 11), args := #[t19, t20], argTypes := #[22, 23] }
      have h19 : x 19 = .slice A l.length c := hd 12 (by decide) _ rfl
      have h20 : x 20 = .int .u32 m := hd 13 (by decide) _ rfl
      have h18 : x 18 = .bool true := hd 11 (by decide) _ rfl
      clear hd
      go_simp
      refine (Put32_any _ _ _ _ (h.grow hg) (by omega) (by omega)).mono ?_
      rintro e w2 ⟨u, rfl, ho, hg2⟩
      exact ⟨_, rfl, hp _ _ hg2 ho.byt⟩
    · -- 15: slot 22: Op.convert 22 9 t21
      have h21 : Byt w1 (x 21) (l ++ dig m 4) := hd 14 (by decide) _ rfl
      have h18 : x 18 = .bool true := hd 11 (by decide) _ rfl
      clear hd
      have c := str1 h21
      go_simp
      exact hp _ _ (Grow.refl _) rfl
    · -- 16: slot 23: Op.move t0
      have h18 : x 18 = .bool true := hd 11 (by decide) _ rfl
      clear hd
      go_simp
      exact hp _ _ (Grow.refl _) rfl
    · -- 17: slot 24: Op.convert 22 9 t23
      have h23 : x 23 = .slice A l.length c := hd 16 (by decide) _ rfl
      have h18 : x 18 = .bool true := hd 11 (by decide) _ rfl
      clear hd
      have c := str1 (h.grow hg)
      go_simp
      exact hp _ _ (Grow.refl _) rfl
    · -- 18: slot 25: Op.move t2
      have h18 : x 18 = .bool true := hd 11 (by decide) _ rfl
      clear hd
      go_simp
      exact hp _ _ (Grow.refl _) rfl
    · -- 19: slot 26: Op.call { value (Operand.func 12), args := #[t25], argTypes := #[23] }
      have h25 : x 25 = .int .u32 m := hd 18 (by decide) _ rfl
      have h18 : x 18 = .bool true := hd 11 (by decide) _ rfl
      clear hd
      go_simp
      refine (Four_any _ _ (by omega)).mono ?_
      rintro e w2 ⟨u, rfl, ho, hg2⟩
      exact ⟨_, rfl, hp _ _ hg2 ho.byt⟩
    · -- 20: slot 27: Op.convert 22 9 t26
      have h26 : Byt w1 (x 26) (dig m 4) := hd 19 (by decide) _ rfl
      have h18 : x 18 = .bool true := hd 11 (by decide) _ rfl
      clear hd
      have c := str1 h26
      go_simp
      exact hp _ _ (Grow.refl _) rfl
    · -- 21: slot 28: Op.binOp BinOp.add 9 t24 t27 9
      have h24 : x 24 = strV (l) := hd 17 (by decide) _ rfl
      have h27 : x 27 = strV (dig m 4) := hd 20 (by decide) _ rfl
      have h18 : x 18 = .bool true := hd 11 (by decide) _ rfl
      clear hd
      have c := add_strV 9 (l) (dig m 4) w1 (by have q1 := two_length n; have q2 := dig_length m 4; omega)
      go_simp
      exact hp _ _ (Grow.refl _) rfl
    · -- 22: slot 29: Op.binOp BinOp.eql 9 t22 t28 9
      have h22 : x 22 = strV (l ++ dig m 4) := hd 15 (by decide) _ rfl
      have h28 : x 28 = strV (l ++ dig m 4) := hd 21 (by decide) _ rfl
      have h18 : x 18 = .bool true := hd 11 (by decide) _ rfl
      clear hd
      unfold strV at *
      go_simp
      exact hp _ _ (Grow.refl _) (by show Value.bool _ = Value.bool true; simp)
    · -- 23: slot 30: Op.pick t18 t29 (const (Value.bool false))
      have h18 : x 18 = .bool true := hd 11 (by decide) _ rfl
      have h29 : x 29 = .bool true := hd 22 (by decide) _ rfl
      clear hd
      go_simp
      exact hp _ _ (Grow.refl _) rfl
    · -- 24: slot 6: Op.assign t30
      have h30 : x 30 = .bool true := hd 23 (by decide) _ rfl
      clear hd
      go_simp
      exact hp _ _ (Grow.refl _) rfl
  · intro x w1 hg hd
    have h6 : x 6 = .bool true := hd 24 _ rfl
    clear hd
    go_wp2
    go_ret
    exact ⟨by go_simp, hg⟩
end Go.Proofs.Yteheacblcnamhaa
