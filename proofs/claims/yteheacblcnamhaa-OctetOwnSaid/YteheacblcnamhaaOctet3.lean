/- The laws' own walks, on. -/
import Derived.Test.YteheacblcnamhaaOctet2
import Derived.Deep.DeepCutAuto
import Derived.Deep.DeepCutAuto
import Derived.Deep.DeepCutAuto
namespace Go.Proofs.Yteheacblcnamhaa
set_option linter.unusedVariables false
open Go.ChangeShapes Go.WideShapes Go.ChangeAt Go.RowKit

theorem Cut_good (v : Value) (l : List UInt8) (k m : Nat) (a b : Int) (w : World) (h : Byt w v l) (hl : l.length ≤ 281474976710652) (hk : k + m ≤ l.length) (ha : a = (k : Int)) (hb : b = (m : Int)) :
    Calls Try.prog 17 #[v, .int .i64 a, .int .i64 b] w fun e w' => ∃ u, e = .returned (.tuple #[u, .int .i64 0]) ∧ Own w' w.heap.size u ((l.take (k + m)).drop k) ∧ Grow w w' := by
  subst ha
  subst hb
  have hz : withinCode l.length (k : Int) (m : Int) = 0 := by unfold withinCode; rw [if_neg (by omega), if_neg (by omega), if_neg (by omega)]
  refine (Cut_any v l k m w h hl (by omega) (by omega)).mono ?_
  rintro e w' ⟨u, rfl, ho, hg⟩
  refine ⟨u, by rw [hz], ?_, hg⟩
  unfold cutAt at ho
  rw [if_pos hz] at ho
  exact ho

def isBs (ls : List (List UInt8)) (v : Value) (w : World) : Prop := Byts w v ls
theorem isBs_stays (ls : List (List UInt8)) : stays (isBs ls) := fun _ _ _ hg h => Byts.grow h hg
theorem Join_any (v : Value) (ls : List (List UInt8)) (w : World) (h : isBs ls v w) (h0 : 0 < ls.length) (hl : lens ls ≤ 281474976710656) :
    Calls Try.prog 22 #[v] w fun e w' => ∃ u, e = .returned u ∧ Own w' w.heap.size u ls.flatten ∧ Grow w w' := by
  obtain ⟨A, c, rfl, _, _⟩ := Byts.form h
  obtain ⟨b, off, rfl, _, _⟩ := Byts.at_ h h0
  exact Join_some b off _ c ls w h h0 hl

set_option maxRecDepth 10000 in
set_option maxHeartbeats 4000000 in
theorem octetBack_walk (w : World) {v : Value} {l : List UInt8} (h : Byt w v l) (hl : l.length ≤ 140737488351232) (n : Int) (hn : 0 ≤ n ∧ n ≤ 65535) (m : Int) (hm : 0 ≤ m ∧ m ≤ 4294967295) (at_ : Int) (ha : 0 ≤ at_ ∧ at_ ≤ 65535) :
    Calls Try.prog 7 #[v, .int .u16 n, .int .u32 m, .int .u16 at_] w fun e w' => e = .returned (.bool true) ∧ Grow w w' := by
  obtain ⟨hn1, hn2⟩ := hn
  obtain ⟨hm1, hm2⟩ := hm
  obtain ⟨ha1, ha2⟩ := ha
  obtain ⟨n, rfl⟩ := Int.eq_ofNat_of_zero_le hn1
  obtain ⟨m, rfl⟩ := Int.eq_ofNat_of_zero_le hm1
  obtain ⟨at_, rfl⟩ := Int.eq_ofNat_of_zero_le ha1
  obtain ⟨A, c, rfl, hc, hcm⟩ := h.form
  unfold maxLen at hcm
  have N1 := Lib.hid (numAt_two l n m (by omega))
  have N2 := Lib.hid (numAt_four l n m (by omega))
  have hb0 := h
  go_enter Try.func7, Try.ntmps7
  go_wp2_with fail
  refine (Put16_any _ _ _ _ h (by omega)).mono ?_
  rintro e w1 ⟨v1, rfl, ho1, hg1⟩
  go_wp2_with fail
  refine (Put32_any _ _ m _ ho1.byt (by simp [two_length]; omega) (by omega)).mono ?_
  rintro e w2 ⟨v2, rfl, ho2, hg2⟩
  go_wp2_with fail
  refine (Get16_any _ _ _ _ ho2.byt (by omega) (by omega)).mono ?_
  rintro e w3 ⟨rfl, rfl⟩
  rw [N1.out]
  go_wp2_with fail
  refine (Get32_any _ _ _ _ ho2.byt (by omega) (by omega)).mono ?_
  rintro e w3 ⟨rfl, rfl⟩
  rw [N2.out]
  go_upto_if 42 with fail
  go_cut [14] (fun s14 wx => ∃ k : Nat, k ≤ l.length ∧ s14 = .int .i64 (k : Int) ∧ wx = w2)
  case first =>
    by_cases h0 : 0 < l.length
    · have hk := Nat.mod_lt at_ h0
      go_wp2_with fail
      go_meet
      exact ⟨at_ % l.length, by omega, by simp, rfl⟩
    · go_wp2_with fail
      go_meet
      exact ⟨0, by omega, rfl, rfl⟩
  case rest =>
    obtain ⟨k, hk, rfl, rfl⟩ := hcut
    go_wp2_with fail
    refine (Cut_good _ l 0 k _ _ _ (h.grow (hg1.trans hg2)) (by omega) (by omega) rfl rfl).mono ?_
    rintro e w3 ⟨v3, rfl, ho3, hg3⟩
    rw [Nat.zero_add, List.drop_zero] at ho3
    go_wp2_with fail
    refine (Cut_good _ l k (l.length - k) _ _ _ (h.grow ((hg1.trans hg2).trans hg3)) (by omega) (by omega) rfl (by omega)).mono ?_
    rintro e w4 ⟨v4, rfl, ho4, hg4⟩
    rw [show k + (l.length - k) = l.length from by omega, List.take_length] at ho4
    have hb3 := (ho3.grow hg4).byt
    have hb4 := ho4.byt
    obtain ⟨A3, c3, e3, _, _⟩ := hb3.form
    obtain ⟨A4, c4, e4, _, _⟩ := hb4.form
    rw [List.length_take, Nat.min_eq_left hk] at e3
    rw [List.length_drop] at e4
    subst e3
    subst e4
    have g4 := ((hg1.trans hg2).trans hg3).trans hg4
    have hb0 := hb0.grow g4
    clear ho1 ho2 ho3 ho4
    go_wp2_with fail
    refine wp_region_loose (A := ?frame) (inList (isV (.int .i64 (n : Int)) :: isV (.int .u16 (n : Int)) :: isV (.int .i64 (n : Int)) :: isV (.bool true) :: isV (.bool true) :: isV (.int .u32 (m : Int)) :: isV (.int .u32 (m : Int)) :: isV (.bool true) :: isV (.bool true) :: isV (.bool true) :: isV (.int .i64 0) :: isV (.int .i64 0) :: isV (.int .i64 0) :: isV (.int .i64 0) :: isV (.int .i64 0) :: isV (.int .i64 0) :: isV (.int .i64 0) :: isV (.int .i64 0) :: isV (.int .i64 0) :: isV (.int .i64 0) :: isV (.int .i64 0) :: isV (.bool true) :: isV (.bool true) :: isV (.bool true) :: isV (.slice A3 k c3) :: isV (.slice A4 (l.length - k) c4) :: (isBs [l.take k, [], l.drop k]) :: isB (l) :: isV (strV (l)) :: isV (.slice A l.length c) :: isV (strV (l)) :: isV (.bool true) :: isV (.bool true) :: isV (.bool true) :: isB ([1]) :: isB ([2]) :: (isBs [[1], [2]]) :: isB ([1, 2]) :: isV (strV ([1, 2])) :: isV (.bool true) :: isV (.bool true) :: isV (.bool true) :: [])) (by kernel_rfl) (by kernel_rfl) (inList_stays ?_) (fun x => ?frameEq) ?_ ?_
    case frameEq => go_simp; rfl
    · intro f hf
      simp only [List.mem_cons, List.not_mem_nil, or_false] at hf
      rcases hf with rfl | rfl | rfl | rfl | rfl | rfl | rfl | rfl | rfl | rfl | rfl | rfl | rfl | rfl | rfl | rfl | rfl | rfl | rfl | rfl | rfl | rfl | rfl | rfl | rfl | rfl | rfl | rfl | rfl | rfl | rfl | rfl | rfl | rfl | rfl | rfl | rfl | rfl | rfl | rfl | rfl | rfl <;> first | exact isV_stays _ | exact isB_stays _ | exact isBs_stays _
    · refine ⟨fun x w1 hg hd post hp => ?_, fun x w1 hg hd post hp => ?_, fun x w1 hg hd post hp => ?_, fun x w1 hg hd post hp => ?_, fun x w1 hg hd post hp => ?_, fun x w1 hg hd post hp => ?_, fun x w1 hg hd post hp => ?_, fun x w1 hg hd post hp => ?_, fun x w1 hg hd post hp => ?_, fun x w1 hg hd post hp => ?_, fun x w1 hg hd post hp => ?_, fun x w1 hg hd post hp => ?_, fun x w1 hg hd post hp => ?_, fun x w1 hg hd post hp => ?_, fun x w1 hg hd post hp => ?_, fun x w1 hg hd post hp => ?_, fun x w1 hg hd post hp => ?_, fun x w1 hg hd post hp => ?_, fun x w1 hg hd post hp => ?_, fun x w1 hg hd post hp => ?_, fun x w1 hg hd post hp => ?_, fun x w1 hg hd post hp => ?_, fun x w1 hg hd post hp => ?_, fun x w1 hg hd post hp => ?_, fun x w1 hg hd post hp => ?_, fun x w1 hg hd post hp => ?_, fun x w1 hg hd post hp => ?_, fun x w1 hg hd post hp => ?_, fun x w1 hg hd post hp => ?_, fun x w1 hg hd post hp => ?_, fun x w1 hg hd post hp => ?_, fun x w1 hg hd post hp => ?_, fun x w1 hg hd post hp => ?_, fun x w1 hg hd post hp => ?_, fun x w1 hg hd post hp => ?_, fun x w1 hg hd post hp => ?_, fun x w1 hg hd post hp => ?_, fun x w1 hg hd post hp => ?_, fun x w1 hg hd post hp => ?_, fun x w1 hg hd post hp => ?_, fun x w1 hg hd post hp => ?_, fun x w1 hg hd post hp => ?_, trivial⟩
      · -- 0: slot 64: Op.move t10
        clear hd
        go_simp
        exact hp _ _ (Grow.refl _) rfl
      · -- 1: slot 65: Op.move t1
        clear hd
        go_simp
        exact hp _ _ (Grow.refl _) rfl
      · -- 2: slot 66: Op.convert 46 3 t65
        have h65 : x 65 = .int .u16 (n : Int) := hd 1 (by decide) _ rfl
        clear hd
        go_simp
        exact hp _ _ (Grow.refl _) (congrArg (Value.int .i64) (IntWalk.i64_in _ (by omega)))
      · -- 3: slot 67: Op.binOp BinOp.eql 3 t64 t66 3
        have h64 : x 64 = .int .i64 (n : Int) := hd 0 (by decide) _ rfl
        have h66 : x 66 = .int .i64 (n : Int) := hd 2 (by decide) _ rfl
        clear hd
        go_simp
        exact hp _ _ (Grow.refl _) rfl
      · -- 4: slot 68: Op.move t67
        have h67 : x 67 = .bool true := hd 3 (by decide) _ rfl
        clear hd
        go_simp
        exact hp _ _ (Grow.refl _) rfl
      · -- 5: slot 69: Op.move t12
        have h68 : x 68 = .bool true := hd 4 (by decide) _ rfl
        clear hd
        go_simp
        exact hp _ _ (Grow.refl _) rfl
      · -- 6: slot 70: Op.move t2
        have h68 : x 68 = .bool true := hd 4 (by decide) _ rfl
        clear hd
        go_simp
        exact hp _ _ (Grow.refl _) rfl
      · -- 7: slot 71: Op.binOp BinOp.eql 23 t69 t70 23
        have h69 : x 69 = .int .u32 (m : Int) := hd 5 (by decide) _ rfl
        have h70 : x 70 = .int .u32 (m : Int) := hd 6 (by decide) _ rfl
        have h68 : x 68 = .bool true := hd 4 (by decide) _ rfl
        clear hd
        go_simp
        exact hp _ _ (Grow.refl _) rfl
      · -- 8: slot 72: Op.pick t68 t71 (const (Value.bool false))
        have h68 : x 68 = .bool true := hd 4 (by decide) _ rfl
        have h71 : x 71 = .bool true := hd 7 (by decide) _ rfl
        clear hd
        go_simp
        exact hp _ _ (Grow.refl _) rfl
      · -- 9: slot 73: Op.move t72
        have h72 : x 72 = .bool true := hd 8 (by decide) _ rfl
        clear hd
        go_simp
        exact hp _ _ (Grow.refl _) rfl
      · -- 10: slot 74: Op.move t11
        have h73 : x 73 = .bool true := hd 9 (by decide) _ rfl
        clear hd
        go_simp
        exact hp _ _ (Grow.refl _) rfl
      · -- 11: slot 75: Op.call { value (Operand.func 16), args := #[t74], argTypes := #[29] }
        have h74 : x 74 = .int .i64 0 := hd 10 (by decide) _ rfl
        have h73 : x 73 = .bool true := hd 9 (by decide) _ rfl
        clear hd
        go_simp
        refine (code_any _ _).mono ?_
        rintro e w5 ⟨rfl, rfl⟩
        exact ⟨_, rfl, hp _ _ (Grow.refl _) rfl⟩
      · -- 12: slot 76: Op.move t13
        have h73 : x 73 = .bool true := hd 9 (by decide) _ rfl
        clear hd
        go_simp
        exact hp _ _ (Grow.refl _) rfl
      · -- 13: slot 77: Op.call { value (Operand.func 16), args := #[t76], argTypes := #[29] }
        have h76 : x 76 = .int .i64 0 := hd 12 (by decide) _ rfl
        have h73 : x 73 = .bool true := hd 9 (by decide) _ rfl
        clear hd
        go_simp
        refine (code_any _ _).mono ?_
        rintro e w5 ⟨rfl, rfl⟩
        exact ⟨_, rfl, hp _ _ (Grow.refl _) rfl⟩
      · -- 14: slot 78: Op.binOp BinOp.add 3 t75 t77 3
        have h75 : x 75 = .int .i64 0 := hd 11 (by decide) _ rfl
        have h77 : x 77 = .int .i64 0 := hd 13 (by decide) _ rfl
        have h73 : x 73 = .bool true := hd 9 (by decide) _ rfl
        clear hd
        go_simp
        exact hp _ _ (Grow.refl _) rfl
      · -- 15: slot 79: Op.move t16
        have h73 : x 73 = .bool true := hd 9 (by decide) _ rfl
        clear hd
        go_simp
        exact hp _ _ (Grow.refl _) rfl
      · -- 16: slot 80: Op.call { value (Operand.func 16), args := #[t79], argTypes := #[29] }
        have h79 : x 79 = .int .i64 0 := hd 15 (by decide) _ rfl
        have h73 : x 73 = .bool true := hd 9 (by decide) _ rfl
        clear hd
        go_simp
        refine (code_any _ _).mono ?_
        rintro e w5 ⟨rfl, rfl⟩
        exact ⟨_, rfl, hp _ _ (Grow.refl _) rfl⟩
      · -- 17: slot 81: Op.binOp BinOp.add 3 t78 t80 3
        have h78 : x 78 = .int .i64 0 := hd 14 (by decide) _ rfl
        have h80 : x 80 = .int .i64 0 := hd 16 (by decide) _ rfl
        have h73 : x 73 = .bool true := hd 9 (by decide) _ rfl
        clear hd
        go_simp
        exact hp _ _ (Grow.refl _) rfl
      · -- 18: slot 82: Op.move t18
        have h73 : x 73 = .bool true := hd 9 (by decide) _ rfl
        clear hd
        go_simp
        exact hp _ _ (Grow.refl _) rfl
      · -- 19: slot 83: Op.call { value (Operand.func 16), args := #[t82], argTypes := #[29] }
        have h82 : x 82 = .int .i64 0 := hd 18 (by decide) _ rfl
        have h73 : x 73 = .bool true := hd 9 (by decide) _ rfl
        clear hd
        go_simp
        refine (code_any _ _).mono ?_
        rintro e w5 ⟨rfl, rfl⟩
        exact ⟨_, rfl, hp _ _ (Grow.refl _) rfl⟩
      · -- 20: slot 84: Op.binOp BinOp.add 3 t81 t83 3
        have h81 : x 81 = .int .i64 0 := hd 17 (by decide) _ rfl
        have h83 : x 83 = .int .i64 0 := hd 19 (by decide) _ rfl
        have h73 : x 73 = .bool true := hd 9 (by decide) _ rfl
        clear hd
        go_simp
        exact hp _ _ (Grow.refl _) rfl
      · -- 21: slot 85: Op.binOp BinOp.eql 3 t84 (const (0:i64)) 3
        have h84 : x 84 = .int .i64 0 := hd 20 (by decide) _ rfl
        have h73 : x 73 = .bool true := hd 9 (by decide) _ rfl
        clear hd
        go_simp
        exact hp _ _ (Grow.refl _) rfl
      · -- 22: slot 86: Op.pick t73 t85 (const (Value.bool false))
        have h73 : x 73 = .bool true := hd 9 (by decide) _ rfl
        have h85 : x 85 = .bool true := hd 21 (by decide) _ rfl
        clear hd
        go_simp
        exact hp _ _ (Grow.refl _) rfl
      · -- 23: slot 87: Op.move t86
        have h86 : x 86 = .bool true := hd 22 (by decide) _ rfl
        clear hd
        go_simp
        exact hp _ _ (Grow.refl _) rfl
      · -- 24: slot 88: Op.move t15
        have h87 : x 87 = .bool true := hd 23 (by decide) _ rfl
        clear hd
        go_simp
        exact hp _ _ (Grow.refl _) rfl
      · -- 25: slot 89: Op.move t17
        have h87 : x 87 = .bool true := hd 23 (by decide) _ rfl
        clear hd
        go_simp
        exact hp _ _ (Grow.refl _) rfl
      · -- 26: slot 90: Op.buildSlice 49 3 #[(0, t88), (1, const (Value.slice none 0 0)), (2, t89)]
        have h88 : x 88 = .slice A3 k c3 := hd 24 (by decide) _ rfl
        have h89 : x 89 = .slice A4 (l.length - k) c4 := hd 25 (by decide) _ rfl
        have h87 : x 87 = .bool true := hd 23 (by decide) _ rfl
        clear hd
        go_simp
        exact hp _ _ (Grow.alloc _ _) (Byts.lit w1 _ 22 [l.take k, [], l.drop k] 3 rfl rfl (by simp [maxLen]) (byt_three (hb3.grow hg) (Byt.nil _) (hb4.grow hg)))
      · -- 27: slot 91: Op.call { value (Operand.func 22), args := #[t90], argTypes := #[49] }
        have h90 : (isBs [l.take k, [], l.drop k]) (x 90) w1 := hd 26 (by decide) _ rfl
        have h87 : x 87 = .bool true := hd 23 (by decide) _ rfl
        clear hd
        go_simp
        refine (Join_any _ _ _ h90 (by simp) (by simp [lens]; omega)).mono ?_
        rintro e w5 ⟨u, rfl, ho, hg5⟩
        have hh := ho.byt
        simp at hh
        exact ⟨_, rfl, hp _ _ hg5 hh⟩
      · -- 28: slot 92: Op.convert 22 9 t91
        have h91 : Byt w1 (x 91) (l) := hd 27 (by decide) _ rfl
        have h87 : x 87 = .bool true := hd 23 (by decide) _ rfl
        clear hd
        have c := str1 h91
        go_simp
        exact hp _ _ (Grow.refl _) rfl
      · -- 29: slot 93: Op.move t0
        have h87 : x 87 = .bool true := hd 23 (by decide) _ rfl
        clear hd
        go_simp
        exact hp _ _ (Grow.refl _) rfl
      · -- 30: slot 94: Op.convert 22 9 t93
        have h93 : x 93 = .slice A l.length c := hd 29 (by decide) _ rfl
        have h87 : x 87 = .bool true := hd 23 (by decide) _ rfl
        clear hd
        have c := str1 (hb0.grow hg)
        go_simp
        exact hp _ _ (Grow.refl _) rfl
      · -- 31: slot 95: Op.binOp BinOp.eql 9 t92 t94 9
        have h92 : x 92 = strV (l) := hd 28 (by decide) _ rfl
        have h94 : x 94 = strV (l) := hd 30 (by decide) _ rfl
        have h87 : x 87 = .bool true := hd 23 (by decide) _ rfl
        clear hd
        unfold strV at *
        go_simp
        exact hp _ _ (Grow.refl _) (by show Value.bool _ = Value.bool true; simp)
      · -- 32: slot 96: Op.pick t87 t95 (const (Value.bool false))
        have h87 : x 87 = .bool true := hd 23 (by decide) _ rfl
        have h95 : x 95 = .bool true := hd 31 (by decide) _ rfl
        clear hd
        go_simp
        exact hp _ _ (Grow.refl _) rfl
      · -- 33: slot 97: Op.move t96
        have h96 : x 96 = .bool true := hd 32 (by decide) _ rfl
        clear hd
        go_simp
        exact hp _ _ (Grow.refl _) rfl
      · -- 34: slot 98: Op.buildSlice 22 1 #[(0, const (1:u8))]
        have h97 : x 97 = .bool true := hd 33 (by decide) _ rfl
        clear hd
        go_simp
        exact hp _ _ (Grow.alloc _ _) (Rd.block (cs := #[.int .u8 1]) (heap_alloc_new w1 _) (by simp) (by omega) (by decide))
      · -- 35: slot 99: Op.buildSlice 22 1 #[(0, const (2:u8))]
        have h97 : x 97 = .bool true := hd 33 (by decide) _ rfl
        clear hd
        go_simp
        exact hp _ _ (Grow.alloc _ _) (Rd.block (cs := #[.int .u8 2]) (heap_alloc_new w1 _) (by simp) (by omega) (by decide))
      · -- 36: slot 100: Op.buildSlice 49 2 #[(0, t98), (1, t99)]
        have h98 : Byt w1 (x 98) ([1]) := hd 34 (by decide) _ rfl
        have h99 : Byt w1 (x 99) ([2]) := hd 35 (by decide) _ rfl
        have h97 : x 97 = .bool true := hd 33 (by decide) _ rfl
        clear hd
        obtain ⟨A8, c8, e8, _, _⟩ := h98.form
        obtain ⟨A9, c9, e9, _, _⟩ := h99.form
        rw [e8] at h98
        rw [e9] at h99
        go_simp
        exact hp _ _ (Grow.alloc _ _) (Byts.lit w1 _ 22 [[1], [2]] 2 rfl rfl (by simp [maxLen]) (byt_two h98 h99))
      · -- 37: slot 101: Op.call { value (Operand.func 22), args := #[t100], argTypes := #[49] }
        have h100 : (isBs [[1], [2]]) (x 100) w1 := hd 36 (by decide) _ rfl
        have h97 : x 97 = .bool true := hd 33 (by decide) _ rfl
        clear hd
        go_simp
        refine (Join_any _ _ _ h100 (by simp) (by simp [lens])).mono ?_
        rintro e w5 ⟨u, rfl, ho, hg5⟩
        exact ⟨_, rfl, hp _ _ hg5 ho.byt⟩
      · -- 38: slot 102: Op.convert 22 9 t101
        have h101 : Byt w1 (x 101) ([1, 2]) := hd 37 (by decide) _ rfl
        have h97 : x 97 = .bool true := hd 33 (by decide) _ rfl
        clear hd
        have c := str1 h101
        go_simp
        exact hp _ _ (Grow.refl _) rfl
      · -- 39: slot 103: Op.binOp BinOp.eql 9 t102 (const (Value.string { data := #[1, 2] })) 9
        have h102 : x 102 = strV ([1, 2]) := hd 38 (by decide) _ rfl
        have h97 : x 97 = .bool true := hd 33 (by decide) _ rfl
        clear hd
        unfold strV at *
        go_simp
        exact hp _ _ (Grow.refl _) (by show Value.bool _ = Value.bool true; simp)
      · -- 40: slot 104: Op.pick t97 t103 (const (Value.bool false))
        have h97 : x 97 = .bool true := hd 33 (by decide) _ rfl
        have h103 : x 103 = .bool true := hd 39 (by decide) _ rfl
        clear hd
        go_simp
        exact hp _ _ (Grow.refl _) rfl
      · -- 41: slot 8: Op.assign t104
        have h104 : x 104 = .bool true := hd 40 (by decide) _ rfl
        clear hd
        go_simp
        exact hp _ _ (Grow.refl _) rfl
    · intro x w1 hg hd
      have h8 : x 8 = .bool true := hd 41 _ rfl
      clear hd
      go_wp2
      go_ret
      exact ⟨by go_simp, g4.trans hg⟩
end Go.Proofs.Yteheacblcnamhaa
