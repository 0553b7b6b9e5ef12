/- The walk of the law on options. -/
import Derived.Test.YtbhdpobmooncpaaSegLive
namespace Go.Proofs.Ytbhdpobmooncpaa
set_option linter.unusedVariables false
set_option linter.unusedSimpArgs false
open Go.ChangeShapes Go.WideShapes Go.ChangeAt Go.RowKit

set_option maxRecDepth 10000 in
set_option maxHeartbeats 8000000 in
theorem segOptions_walk (w : World) (ms : Int) (hm : 0 ≤ ms ∧ ms ≤ 65535) (sc : Int) (hsc : 0 ≤ sc ∧ sc ≤ 255) {v : Value} {l : List UInt8} (h : Byt w v l) (hl0 : l.length ≤ 140737488351232) :
    Calls Try.prog 5 #[.int .u16 ms, .int .u8 sc, v] w fun e w' => e = .returned (.bool true) ∧ Grow w w' := by
  obtain ⟨ms, rfl⟩ := Int.eq_ofNat_of_zero_le hm.1
  obtain ⟨sc, rfl⟩ := Int.eq_ofNat_of_zero_le hsc.1
  have hm2 : ms < 65536 := by omega
  have hs2 : sc < 256 := by omega
  obtain ⟨A, c, rfl, hcl, hcm⟩ := h.form
  unfold maxLen at hcm
  clear hm hsc
  by_cases hL : 1000 < l.length
  · clear hs2 hm2
    go_enter Try.func5, Try.ntmps5
    go_wp2_with fail
    refine (segLive_any _).mono ?_
    rintro e wl ⟨rfl, hgl⟩
    go_wp2_with fail
    go_ret
    exact ⟨rfl, hgl⟩
  obtain ⟨kk, hkk⟩ : ∃ kk, kk = sc % 16 := ⟨_, rfl⟩
  have hk15 : kk ≤ 15 := by omega
  have KE : (sc : Int) % 16 = (kk : Int) := by omega
  have KT : ((sc : Int)).tmod 16 = (kk : Int) := by rw [Int.tmod_eq_emod_of_nonneg (by omega), KE]
  clear hkk
  have hlm : l.length ≤ 1000000 := by omega
  obtain ⟨⟨M, S, E⟩, hro⟩ : ∃ r, r = sread l := ⟨_, rfl⟩
  have hrd : sread l = (M, S, E) := hro.symm
  have hbd := sread_le l
  rw [hrd] at hbd
  obtain ⟨hM, hS, hE⟩ := hbd
  simp only at hM hS hE
  have hE2 : 0 ≤ E ∧ E ≤ 3 := by omega
  obtain ⟨hE3, hE4⟩ := hE2
  have hX : ∀ w' : World, isSgm w' (SgmV ⟨0, 0, 0, 0, 0, 0, (ms : Int), (kk : Int), []⟩ (.slice none 0 0)) ⟨0, 0, 0, 0, 0, 0, (ms : Int), (kk : Int), []⟩ := fun w' => ⟨_, rfl, Byt.nil _, ⟨trivial, Nat.succ_pos _, Nat.succ_pos _, Nat.succ_pos _, Nat.succ_pos _, Nat.succ_pos _, Nat.succ_pos _, by show (-9223372036854775808 : Int) ≤ (ms : Int); omega, by show (ms : Int) ≤ 9223372036854775807; omega, by show (-9223372036854775808 : Int) ≤ (kk : Int); omega, by show (kk : Int) ≤ 9223372036854775807; omega⟩⟩
  have hOp := sOptions_any _ ⟨0, 0, 0, 0, 0, 0, (ms : Int), (kk : Int), []⟩ w (hX w) (by show (0 : Int) ≤ (ms : Int); omega) (by show (ms : Int) ≤ 65535; omega) (by show (0 : Int) ≤ (kk : Int); omega) (by show (kk : Int) ≤ 15; omega)
  have eO : Sgm.opts ⟨0, 0, 0, 0, 0, 0, (ms : Int), (kk : Int), []⟩ = sopts (ms : Int) (kk : Int) := rfl
  rw [eO] at hOp
  have hrO := sread_sopts ms kk hm2 hk15
  have hlO := sopts_length (ms : Int) (kk : Int)
  obtain ⟨O, hO⟩ : ∃ O, O = sopts (ms : Int) (kk : Int) := ⟨_, rfl⟩
  rw [← hO] at hOp hrO hlO
  have HO := Lib.hid hO
  have hOl : O.length ≤ 1000000 := by omega
  have HRD := Lib.hid hrd
  have HRO := Lib.hid hrO
  clear eO hO hro hrd hX hlO hE hrO
  go_enter Try.func5, Try.ntmps5
  go_wp2_with fail
  refine hOp.mono ?_
  rintro e w2 ⟨u, rfl, hou, hg2⟩
  have hbo2 := hou.byt
  obtain ⟨Ao, no, co, rfl, _⟩ := hbo2.form2
  clear hOp hou
  go_wp2_with fail
  refine (sRead_any _ O _ hbo2 hOl ms kk 0 HRO.out).mono ?_
  rintro e w3 ⟨rfl, hg3⟩
  go_wp2_with fail
  refine (sRead_any _ l _ (h.grow (hg2.trans hg3)) hlm M S E HRD.out).mono ?_
  rintro e w4 ⟨rfl, hg4⟩
  go_wp2_with fail
  refine (RRead_any _ l _ (h.grow ((hg2.trans hg3).trans hg4)) hlm M S E HRD.out).mono ?_
  rintro e w5 ⟨rfl, hg5⟩
  have hgg := ((hg2.trans hg3).trans hg4).trans hg5
  have hbo := hbo2.grow ((hg3.trans hg4).trans hg5)
  clear hbo2 HRD HRO KE KT
  go_wp2_with fail
  refine wp_region_loose (A := ?frame8) (inList (isV (.slice Ao no co) :: isV (strV O) :: isV (.int .u16 (ms : Int)) :: isV (.int .i64 (ms : Int)) :: isV (.int .i64 (kk : Int)) :: isB (O) :: isV (strV O) :: isV (.bool true) :: isV (.bool true) :: isV (.int .i64 (ms : Int)) :: isV (.int .u16 (ms : Int)) :: isV (.int .i64 (ms : Int)) :: isV (.bool true) :: isV (.bool true) :: isV (.bool true) :: isV (.int .i64 (kk : Int)) :: isV (.int .i64 (kk : Int)) :: isV (.bool true) :: isV (.bool true) :: isV (.bool true) :: isV (.int .i64 0) :: isV (.int .i64 0) :: isV (.bool true) :: isV (.bool true) :: isV (.bool true) :: isV (.int .i64 (M : Int)) :: isV (.int .i64 (M : Int)) :: isV (.bool true) :: isV (.bool true) :: isV (.bool true) :: isV (.int .i64 (S : Int)) :: isV (.int .i64 (S : Int)) :: isV (.bool true) :: isV (.bool true) :: isV (.bool true) :: isV (.int .i64 E) :: isV (.int .i64 E) :: isV (.int .i64 E) :: isV (.bool true) :: isV (.bool true) :: isV (.bool true) :: isV (.bool true) :: isV (.bool true) :: isV (.bool true) :: [])) (by kernel_rfl) (by kernel_rfl) (inList_stays ?_) (fun x => ?frameEq8) ?_ ?_
  case frameEq8 => go_simp; rfl
  · intro f hf
    simp only [List.mem_cons, List.not_mem_nil, or_false] at hf
    rcases hf with rfl | rfl | rfl | rfl | rfl | rfl | rfl | rfl | rfl | rfl | rfl | rfl | rfl | rfl | rfl | rfl | rfl | rfl | rfl | rfl | rfl | rfl | rfl | rfl | rfl | rfl | rfl | rfl | rfl | rfl | rfl | rfl | rfl | rfl | rfl | rfl | rfl | rfl | rfl | rfl | rfl | rfl | rfl | rfl <;> first | exact isV_stays _ | exact isB_stays _ | exact isBs_stays _
  · refine ⟨fun x w1 hg hd post hp => ?_, fun x w1 hg hd post hp => ?_, fun x w1 hg hd post hp => ?_, fun x w1 hg hd post hp => ?_, fun x w1 hg hd post hp => ?_, fun x w1 hg hd post hp => ?_, fun x w1 hg hd post hp => ?_, fun x w1 hg hd post hp => ?_, fun x w1 hg hd post hp => ?_, fun x w1 hg hd post hp => ?_, fun x w1 hg hd post hp => ?_, fun x w1 hg hd post hp => ?_, fun x w1 hg hd post hp => ?_, fun x w1 hg hd post hp => ?_, fun x w1 hg hd post hp => ?_, fun x w1 hg hd post hp => ?_, fun x w1 hg hd post hp => ?_, fun x w1 hg hd post hp => ?_, fun x w1 hg hd post hp => ?_, fun x w1 hg hd post hp => ?_, fun x w1 hg hd post hp => ?_, fun x w1 hg hd post hp => ?_, fun x w1 hg hd post hp => ?_, fun x w1 hg hd post hp => ?_, fun x w1 hg hd post hp => ?_, fun x w1 hg hd post hp => ?_, fun x w1 hg hd post hp => ?_, fun x w1 hg hd post hp => ?_, fun x w1 hg hd post hp => ?_, fun x w1 hg hd post hp => ?_, fun x w1 hg hd post hp => ?_, fun x w1 hg hd post hp => ?_, fun x w1 hg hd post hp => ?_, fun x w1 hg hd post hp => ?_, fun x w1 hg hd post hp => ?_, fun x w1 hg hd post hp => ?_, fun x w1 hg hd post hp => ?_, fun x w1 hg hd post hp => ?_, fun x w1 hg hd post hp => ?_, fun x w1 hg hd post hp => ?_, fun x w1 hg hd post hp => ?_, fun x w1 hg hd post hp => ?_, fun x w1 hg hd post hp => ?_, fun x w1 hg hd post hp => ?_, trivial⟩
    · -- 0: slot 48: Op.move t8
      clear hd
      go_simp
      exact hp _ _ (Grow.refl _) rfl
    · -- 1: slot 49: Op.convert 24 9 t48
      have h48 : x 48 = .slice Ao no co := hd 0 (by decide) _ rfl
      clear hd
      have c1 := str1 (hbo.grow hg)
      go_simp
      exact hp _ _ (Grow.refl _) rfl
    · -- 2: slot 50: Op.move t0
      clear hd
      go_simp
      exact hp _ _ (Grow.refl _) rfl
    · -- 3: slot 51: Op.convert 23 3 t50
      have h50 : x 50 = .int .u16 (ms : Int) := hd 2 (by decide) _ rfl
      clear hd
      have e1 : IntKind.i64.wrap (ms : Int) = (ms : Int) := IntWalk.i64_in _ (by omega)
      go_simp
      exact hp _ _ (Grow.refl _) rfl
    · -- 4: slot 52: Op.move t7
      clear hd
      go_simp
      exact hp _ _ (Grow.refl _) rfl
    · -- 5: slot 53: Op.call { value (Operand.func 23), args := #[t51, t52], argTypes := #[3, 3] }
      have h51 : x 51 = .int .i64 (ms : Int) := hd 3 (by decide) _ rfl
      have h52 : x 52 = .int .i64 (kk : Int) := hd 4 (by decide) _ rfl
      clear hd
      go_simp
      refine (ROptions_any (ms : Int) (kk : Int) _ (by omega) (by omega) (by omega) (by omega)).mono ?_
      rw [← HO.out]
      rintro e w2 ⟨u, rfl, ho, hg2⟩
      exact ⟨_, rfl, hp _ _ hg2 ho.byt⟩
    · -- 6: slot 54: Op.convert 24 9 t53
      have h53 : Byt w1 (x 53) (O) := hd 5 (by decide) _ rfl
      clear hd
      have c := str1 h53
      go_simp
      exact hp _ _ (Grow.refl _) rfl
    · -- 7: slot 55: Op.binOp BinOp.eql 9 t49 t54 9
      have h49 : x 49 = strV O := hd 1 (by decide) _ rfl
      have h54 : x 54 = strV O := hd 6 (by decide) _ rfl
      clear hd
      unfold strV at *
      go_simp
      exact hp _ _ (Grow.refl _) (by show Value.bool _ = Value.bool true; simp)
    · -- 8: slot 56: Op.move t55
      have h55 : x 55 = .bool true := hd 7 (by decide) _ rfl
      clear hd
      go_simp
      exact hp _ _ (Grow.refl _) rfl
    · -- 9: slot 57: Op.move t9
      have h56 : x 56 = .bool true := hd 8 (by decide) _ rfl
      clear hd
      have e1 : IntKind.i64.wrap (ms : Int) = (ms : Int) := IntWalk.i64_in _ (by omega)
      go_simp
      exact hp _ _ (Grow.refl _) rfl
    · -- 10: slot 58: Op.move t0
      have h56 : x 56 = .bool true := hd 8 (by decide) _ rfl
      clear hd
      go_simp
      exact hp _ _ (Grow.refl _) rfl
    · -- 11: slot 59: Op.convert 23 3 t58
      have h58 : x 58 = .int .u16 (ms : Int) := hd 10 (by decide) _ rfl
      have h56 : x 56 = .bool true := hd 8 (by decide) _ rfl
      clear hd
      have e1 : IntKind.i64.wrap (ms : Int) = (ms : Int) := IntWalk.i64_in _ (by omega)
      go_simp
      exact hp _ _ (Grow.refl _) rfl
    · -- 12: slot 60: Op.binOp BinOp.eql 3 t57 t59 3
      have h57 : x 57 = .int .i64 (ms : Int) := hd 9 (by decide) _ rfl
      have h59 : x 59 = .int .i64 (ms : Int) := hd 11 (by decide) _ rfl
      have h56 : x 56 = .bool true := hd 8 (by decide) _ rfl
      clear hd
      go_simp
      exact hp _ _ (Grow.refl _) (show Value.bool _ = Value.bool true from by simp)
    · -- 13: slot 61: Op.pick t56 t60 (const (Value.bool false))
      have h56 : x 56 = .bool true := hd 8 (by decide) _ rfl
      have h60 : x 60 = .bool true := hd 12 (by decide) _ rfl
      clear hd
      go_simp
      exact hp _ _ (Grow.refl _) rfl
    · -- 14: slot 62: Op.move t61
      have h61 : x 61 = .bool true := hd 13 (by decide) _ rfl
      clear hd
      go_simp
      exact hp _ _ (Grow.refl _) rfl
    · -- 15: slot 63: Op.move t10
      have h62 : x 62 = .bool true := hd 14 (by decide) _ rfl
      clear hd
      go_simp
      exact hp _ _ (Grow.refl _) rfl
    · -- 16: slot 64: Op.move t7
      have h62 : x 62 = .bool true := hd 14 (by decide) _ rfl
      clear hd
      go_simp
      exact hp _ _ (Grow.refl _) rfl
    · -- 17: slot 65: Op.binOp BinOp.eql 3 t63 t64 3
      have h63 : x 63 = .int .i64 (kk : Int) := hd 15 (by decide) _ rfl
      have h64 : x 64 = .int .i64 (kk : Int) := hd 16 (by decide) _ rfl
      have h62 : x 62 = .bool true := hd 14 (by decide) _ rfl
      clear hd
      go_simp
      exact hp _ _ (Grow.refl _) (show Value.bool _ = Value.bool true from by simp)
    · -- 18: slot 66: Op.pick t62 t65 (const (Value.bool false))
      have h62 : x 62 = .bool true := hd 14 (by decide) _ rfl
      have h65 : x 65 = .bool true := hd 17 (by decide) _ rfl
      clear hd
      go_simp
      exact hp _ _ (Grow.refl _) rfl
    · -- 19: slot 67: Op.move t66
      have h66 : x 66 = .bool true := hd 18 (by decide) _ rfl
      clear hd
      go_simp
      exact hp _ _ (Grow.refl _) rfl
    · -- 20: slot 68: Op.move t11
      have h67 : x 67 = .bool true := hd 19 (by decide) _ rfl
      clear hd
      go_simp
      exact hp _ _ (Grow.refl _) rfl
    · -- 21: slot 69: Op.call { value (Operand.func 11), args := #[t68], argTypes := #[29] }
      have h68 : x 68 = .int .i64 0 := hd 20 (by decide) _ rfl
      have h67 : x 67 = .bool true := hd 19 (by decide) _ rfl
      clear hd
      go_simp
      refine (segCode_any _ _ (by omega) (by omega)).mono ?_
      rintro e w' ⟨rfl, rfl⟩
      exact ⟨_, rfl, hp _ _ (Grow.refl _) rfl⟩
    · -- 22: slot 70: Op.binOp BinOp.eql 3 t69 (const (0:i64)) 3
      have h69 : x 69 = .int .i64 0 := hd 21 (by decide) _ rfl
      have h67 : x 67 = .bool true := hd 19 (by decide) _ rfl
      clear hd
      go_simp
      exact hp _ _ (Grow.refl _) (show Value.bool _ = Value.bool true from by simp)
    · -- 23: slot 71: Op.pick t67 t70 (const (Value.bool false))
      have h67 : x 67 = .bool true := hd 19 (by decide) _ rfl
      have h70 : x 70 = .bool true := hd 22 (by decide) _ rfl
      clear hd
      go_simp
      exact hp _ _ (Grow.refl _) rfl
    · -- 24: slot 72: Op.move t71
      have h71 : x 71 = .bool true := hd 23 (by decide) _ rfl
      clear hd
      go_simp
      exact hp _ _ (Grow.refl _) rfl
    · -- 25: slot 73: Op.move t12
      have h72 : x 72 = .bool true := hd 24 (by decide) _ rfl
      clear hd
      go_simp
      exact hp _ _ (Grow.refl _) rfl
    · -- 26: slot 74: Op.move t15
      have h72 : x 72 = .bool true := hd 24 (by decide) _ rfl
      clear hd
      go_simp
      exact hp _ _ (Grow.refl _) rfl
    · -- 27: slot 75: Op.binOp BinOp.eql 3 t73 t74 3
      have h73 : x 73 = .int .i64 (M : Int) := hd 25 (by decide) _ rfl
      have h74 : x 74 = .int .i64 (M : Int) := hd 26 (by decide) _ rfl
      have h72 : x 72 = .bool true := hd 24 (by decide) _ rfl
      clear hd
      go_simp
      exact hp _ _ (Grow.refl _) (show Value.bool _ = Value.bool true from by simp)
    · -- 28: slot 76: Op.pick t72 t75 (const (Value.bool false))
      have h72 : x 72 = .bool true := hd 24 (by decide) _ rfl
      have h75 : x 75 = .bool true := hd 27 (by decide) _ rfl
      clear hd
      go_simp
      exact hp _ _ (Grow.refl _) rfl
    · -- 29: slot 77: Op.move t76
      have h76 : x 76 = .bool true := hd 28 (by decide) _ rfl
      clear hd
      go_simp
      exact hp _ _ (Grow.refl _) rfl
    · -- 30: slot 78: Op.move t13
      have h77 : x 77 = .bool true := hd 29 (by decide) _ rfl
      clear hd
      go_simp
      exact hp _ _ (Grow.refl _) rfl
    · -- 31: slot 79: Op.move t16
      have h77 : x 77 = .bool true := hd 29 (by decide) _ rfl
      clear hd
      go_simp
      exact hp _ _ (Grow.refl _) rfl
    · -- 32: slot 80: Op.binOp BinOp.eql 3 t78 t79 3
      have h78 : x 78 = .int .i64 (S : Int) := hd 30 (by decide) _ rfl
      have h79 : x 79 = .int .i64 (S : Int) := hd 31 (by decide) _ rfl
      have h77 : x 77 = .bool true := hd 29 (by decide) _ rfl
      clear hd
      go_simp
      exact hp _ _ (Grow.refl _) (show Value.bool _ = Value.bool true from by simp)
    · -- 33: slot 81: Op.pick t77 t80 (const (Value.bool false))
      have h77 : x 77 = .bool true := hd 29 (by decide) _ rfl
      have h80 : x 80 = .bool true := hd 32 (by decide) _ rfl
      clear hd
      go_simp
      exact hp _ _ (Grow.refl _) rfl
    · -- 34: slot 82: Op.move t81
      have h81 : x 81 = .bool true := hd 33 (by decide) _ rfl
      clear hd
      go_simp
      exact hp _ _ (Grow.refl _) rfl
    · -- 35: slot 83: Op.move t14
      have h82 : x 82 = .bool true := hd 34 (by decide) _ rfl
      clear hd
      go_simp
      exact hp _ _ (Grow.refl _) rfl
    · -- 36: slot 84: Op.call { value (Operand.func 11), args := #[t83], argTypes := #[29] }
      have h83 : x 83 = .int .i64 E := hd 35 (by decide) _ rfl
      have h82 : x 82 = .bool true := hd 34 (by decide) _ rfl
      clear hd
      go_simp
      refine (segCode_any E _ (by omega) (by omega)).mono ?_
      rintro e w' ⟨rfl, rfl⟩
      exact ⟨_, rfl, hp _ _ (Grow.refl _) rfl⟩
    · -- 37: slot 85: Op.move t17
      have h82 : x 82 = .bool true := hd 34 (by decide) _ rfl
      clear hd
      go_simp
      exact hp _ _ (Grow.refl _) rfl
    · -- 38: slot 86: Op.binOp BinOp.eql 3 t84 t85 3
      have h84 : x 84 = .int .i64 E := hd 36 (by decide) _ rfl
      have h85 : x 85 = .int .i64 E := hd 37 (by decide) _ rfl
      have h82 : x 82 = .bool true := hd 34 (by decide) _ rfl
      clear hd
      go_simp
      exact hp _ _ (Grow.refl _) (show Value.bool _ = Value.bool true from by simp)
    · -- 39: slot 87: Op.pick t82 t86 (const (Value.bool false))
      have h82 : x 82 = .bool true := hd 34 (by decide) _ rfl
      have h86 : x 86 = .bool true := hd 38 (by decide) _ rfl
      clear hd
      go_simp
      exact hp _ _ (Grow.refl _) rfl
    · -- 40: slot 88: Op.move t87
      have h87 : x 87 = .bool true := hd 39 (by decide) _ rfl
      clear hd
      go_simp
      exact hp _ _ (Grow.refl _) rfl
    · -- 41: slot 89: Op.call { value (Operand.func 8), args := #[], argTypes := #[] }
      have h88 : x 88 = .bool true := hd 40 (by decide) _ rfl
      clear hd
      go_simp
      refine (segLive_any _).mono ?_
      rintro e w2 ⟨rfl, hg2⟩
      exact ⟨_, rfl, hp _ _ hg2 rfl⟩
    · -- 42: slot 90: Op.pick t88 t89 (const (Value.bool false))
      have h88 : x 88 = .bool true := hd 40 (by decide) _ rfl
      have h89 : x 89 = .bool true := hd 41 (by decide) _ rfl
      clear hd
      go_simp
      exact hp _ _ (Grow.refl _) rfl
    · -- 43: slot 6: Op.assign t90
      have h90 : x 90 = .bool true := hd 42 (by decide) _ rfl
      clear hd
      go_simp
      exact hp _ _ (Grow.refl _) rfl
  · intro x w1 hg hd
    have h6 : x 6 = .bool true := hd 43 _ rfl
    clear hd
    go_wp2
    go_ret
    exact ⟨by go_simp, hgg.trans hg⟩
end Go.Proofs.Ytbhdpobmooncpaa
