/- The walk of the law on messages as bytes. -/
import Derived.Test.YtbnnacohkemnhaaIcmLive
import Derived.Test.YtbnnacohkemnhaaIcmRef
import Derived.Test.YtbnnacohkemnhaaIcmRBytes
namespace Go.Proofs.Ytbnnacohkemnhaa
set_option linter.unusedVariables false
set_option linter.unusedSimpArgs false
open Go.ChangeShapes Go.WideShapes Go.ChangeAt Go.RowKit

set_option maxRecDepth 10000 in
set_option maxHeartbeats 8000000 in
theorem icmpPuts_walk (w : World) {v : Value} {k : Icm} (h : isIcm w v k) :
    Calls Try.prog 3 #[v] w fun e w' => e = .returned (.bool true) ∧ Grow w w' := by
  obtain ⟨A, c, rfl, hd, hk⟩ := h.form
  obtain ⟨hcl, hcm⟩ := hd.len.2
  unfold maxLen at hcm
  obtain ⟨W1, hW1⟩ : ∃ W1, W1 = w.alloc (.cells #[.int .u8 (k.kind : Int), .int .u8 (k.code : Int), .int .u32 (k.rest : Int), .slice A k.data.length c] 25) := ⟨_, rfl⟩
  have hg1 : Grow w W1 := by rw [hW1]; exact Grow.alloc w _
  have hB1 : Icmbox W1 w.heap.size k (.slice A k.data.length c) := by rw [hW1]; exact Icmbox.new _ _ _
  have hip := h.grow hg1
  obtain ⟨b0, b1, b2, b3⟩ := id hB1
  by_cases hL : 70000 < k.data.length
  · go_enter Try.func3, Try.ntmps3
    go_wp2_with fail
    rw [← hW1]
    refine (icmLive_any _).mono ?_
    rintro e wl ⟨rfl, hgl⟩
    go_wp2_with fail
    go_ret
    exact ⟨rfl, hg1.trans hgl⟩
  have hsm : k.data.length ≤ 1000000 := by omega
  by_cases hM : 65507 < k.data.length
  · go_enter Try.func3, Try.ntmps3
    go_wp2_with fail
    rw [← hW1]
    refine (icmPut_long _ k _ hip hsm hM).mono ?_
    rintro e w2 ⟨rfl, hg2⟩
    clear b0 b1 b2 b3
    obtain ⟨b0, b1, b2, b3⟩ := hB1.grow hg2
    go_wp2_with fail
    refine (icmCode_any 9 _ (by omega) (by omega)).mono ?_
    rintro e w' ⟨rfl, rfl⟩
    go_wp2_with fail
    refine (icmLive_any _).mono ?_
    rintro e wl ⟨rfl, hgl⟩
    go_wp2_with fail
    go_ret
    exact ⟨rfl, (hg1.trans hg2).trans hgl⟩
  have hM' : k.data.length ≤ 65507 := by omega
  obtain ⟨e1, e2⟩ := iput_got k hk
  have e3 := iput_res k hk
  have hbl := ibytes_length k
  have hb6 : k.bytes.length ≤ 1000000 := by omega
  clear hbl
  go_enter Try.func3, Try.ntmps3
  go_wp2_with fail
  rw [← hW1]
  clear hW1
  refine (icmPut_good _ k _ hip hM').mono ?_
  rintro e w2 ⟨u, rfl, ho, hg2⟩
  have hub := ho.byt
  obtain ⟨Au, nu, cu, rfl, _⟩ := hub.form2
  clear b0 b1 b2 b3
  obtain ⟨b0, b1, b2, b3⟩ := hB1.grow hg2
  go_wp2_with fail
  refine (icmGet_any _ _ _ hub hb6).mono ?_
  rw [e1, e3]
  rintro e w6 ⟨vd, rfl, hvd, hg6⟩
  have bd := hvd.byt
  obtain ⟨B6, m6, d6, rfl, _⟩ := bd.form2
  clear e1 e2 e3
  go_wp2_with (refine wpList_store_Icm w6 _ rfl _ _ rfl rfl w6.heap.size rfl k zeroM (.slice B6 m6 d6) (.slice none 0 0) (by rfl) rfl (Icmblk.new w6 zeroM (.slice none 0 0)) (Grow.alloc _ _) (Nat.le_refl _) ?_; intro w9 hk9 _ hg9)
  have hg29 : Grow w2 w9 := hg6.trans hg9
  have hg09 := (hg1.trans hg2).trans hg29
  have hB9 := (hB1.grow hg2).grow hg29
  have hip9 := (hip.grow hg2).grow hg29
  have hQ9 := hk9.boxd
  have hiq9 : isIcm w9 (IcmV k (.slice B6 m6 d6)) k := ⟨_, rfl, bd.grow hg9, hk⟩
  have hub := hub.grow hg29
  clear b0 b1 b2 b3
  try go_wp2_with fail
  refine wp_region_loose (A := ?frame7) (inList (isV (.int .i64 0) :: isV (.int .i64 0) :: isV (.int .i64 0) :: isV (.int .i64 0) :: isV (.int .i64 0) :: isV (.bool true) :: isV (.bool true) :: isV (.slice Au nu cu) :: isV (strV k.bytes) :: isV (IcmV k (.slice A k.data.length c)) :: isB (k.bytes) :: isV (strV k.bytes) :: isV (.bool true) :: isV (.bool true) :: isV (.bool true) :: isV (IcmV k (.slice A k.data.length c)) :: isV (IcmV k (.slice B6 m6 d6)) :: isV (.bool true) :: isV (.bool true) :: isV (.bool true) :: isV (IcmV k (.slice A k.data.length c)) :: isV (IcmV k (.slice B6 m6 d6)) :: isV (.bool true) :: isV (.bool true) :: isV (.bool true) :: isV (.bool true) :: isV (.bool true) :: isV (.bool true) :: [])) (by kernel_rfl) (by kernel_rfl) (inList_stays ?_) (fun x => ?frameEq7) ?_ ?_
  case frameEq7 => go_simp; rfl
  · intro f hf
    simp only [List.mem_cons, List.not_mem_nil, or_false] at hf
    rcases hf with rfl | rfl | rfl | rfl | rfl | rfl | rfl | rfl | rfl | rfl | rfl | rfl | rfl | rfl | rfl | rfl | rfl | rfl | rfl | rfl | rfl | rfl | rfl | rfl | rfl | rfl | rfl | rfl <;> first | exact isV_stays _ | exact isB_stays _ | exact isBs_stays _
  · refine ⟨fun x w1 hg hd post hp => ?_, fun x w1 hg hd post hp => ?_, fun x w1 hg hd post hp => ?_, fun x w1 hg hd post hp => ?_, fun x w1 hg hd post hp => ?_, fun x w1 hg hd post hp => ?_, fun x w1 hg hd post hp => ?_, fun x w1 hg hd post hp => ?_, fun x w1 hg hd post hp => ?_, fun x w1 hg hd post hp => ?_, fun x w1 hg hd post hp => ?_, fun x w1 hg hd post hp => ?_, fun x w1 hg hd post hp => ?_, fun x w1 hg hd post hp => ?_, fun x w1 hg hd post hp => ?_, fun x w1 hg hd post hp => ?_, fun x w1 hg hd post hp => ?_, fun x w1 hg hd post hp => ?_, fun x w1 hg hd post hp => ?_, fun x w1 hg hd post hp => ?_, fun x w1 hg hd post hp => ?_, fun x w1 hg hd post hp => ?_, fun x w1 hg hd post hp => ?_, fun x w1 hg hd post hp => ?_, fun x w1 hg hd post hp => ?_, fun x w1 hg hd post hp => ?_, fun x w1 hg hd post hp => ?_, fun x w1 hg hd post hp => ?_, trivial⟩
    · -- 0: slot 37: Op.move t4
      clear hd
      go_simp
      exact hp _ _ (Grow.refl _) rfl
    · -- 1: slot 38: Op.call { value (Operand.func 11), args := #[t37], argTypes := #[27] }
      have h37 : x 37 = .int .i64 0 := hd 0 (by decide) _ rfl
      clear hd
      go_simp
      refine (icmCode_any _ _ (by omega) (by omega)).mono ?_
      rintro e w' ⟨rfl, rfl⟩
      exact ⟨_, rfl, hp _ _ (Grow.refl _) rfl⟩
    · -- 2: slot 39: Op.move t6
      clear hd
      go_simp
      exact hp _ _ (Grow.refl _) rfl
    · -- 3: slot 40: Op.call { value (Operand.func 11), args := #[t39], argTypes := #[27] }
      have h39 : x 39 = .int .i64 0 := hd 2 (by decide) _ rfl
      clear hd
      go_simp
      refine (icmCode_any _ _ (by omega) (by omega)).mono ?_
      rintro e w' ⟨rfl, rfl⟩
      exact ⟨_, rfl, hp _ _ (Grow.refl _) rfl⟩
    · -- 4: slot 41: Op.binOp BinOp.add 3 t38 t40 3
      have h38 : x 38 = .int .i64 0 := hd 1 (by decide) _ rfl
      have h40 : x 40 = .int .i64 0 := hd 3 (by decide) _ rfl
      clear hd
      go_simp
      exact hp _ _ (Grow.refl _) rfl
    · -- 5: slot 42: Op.binOp BinOp.eql 3 t41 (const (0:i64)) 3
      have h41 : x 41 = .int .i64 0 := hd 4 (by decide) _ rfl
      clear hd
      go_simp
      exact hp _ _ (Grow.refl _) rfl
    · -- 6: slot 43: Op.move t42
      have h42 : x 42 = .bool true := hd 5 (by decide) _ rfl
      clear hd
      go_simp
      exact hp _ _ (Grow.refl _) rfl
    · -- 7: slot 44: Op.move t3
      have h43 : x 43 = .bool true := hd 6 (by decide) _ rfl
      clear hd
      go_simp
      exact hp _ _ (Grow.refl _) rfl
    · -- 8: slot 45: Op.convert 23 9 t44
      have h44 : x 44 = .slice Au nu cu := hd 7 (by decide) _ rfl
      have h43 : x 43 = .bool true := hd 6 (by decide) _ rfl
      clear hd
      have c1 := str1 (hub.grow hg)
      go_simp
      exact hp _ _ (Grow.refl _) rfl
    · -- 9: slot 46: Op.load 25 t1
      have h43 : x 43 = .bool true := hd 6 (by decide) _ rfl
      clear hd
      obtain ⟨d0, d1, d2, d3⟩ := hB9.grow hg
      go_simp
      exact hp _ _ (Grow.refl _) rfl
    · -- 10: slot 47: Op.call { value (Operand.func 13), args := #[t46], argTypes := #[25] }
      have h46 : x 46 = IcmV k (.slice A k.data.length c) := hd 9 (by decide) _ rfl
      have h43 : x 43 = .bool true := hd 6 (by decide) _ rfl
      clear hd
      go_simp
      refine (RBytes7_any _ k _ (hip9.grow hg) hsm).mono ?_
      rintro e w2 ⟨u, rfl, ho, hg2⟩
      exact ⟨_, rfl, hp _ _ hg2 ho⟩
    · -- 11: slot 48: Op.convert 23 9 t47
      have h47 : Byt w1 (x 47) (k.bytes) := hd 10 (by decide) _ rfl
      have h43 : x 43 = .bool true := hd 6 (by decide) _ rfl
      clear hd
      have c := str1 h47
      go_simp
      exact hp _ _ (Grow.refl _) rfl
    · -- 12: slot 49: Op.binOp BinOp.eql 9 t45 t48 9
      have h45 : x 45 = strV k.bytes := hd 8 (by decide) _ rfl
      have h48 : x 48 = strV k.bytes := hd 11 (by decide) _ rfl
      have h43 : x 43 = .bool true := hd 6 (by decide) _ rfl
      clear hd
      unfold strV at *
      go_simp
      exact hp _ _ (Grow.refl _) (by show Value.bool _ = Value.bool true; simp)
    · -- 13: slot 50: Op.pick t43 t49 (const (Value.bool false))
      have h43 : x 43 = .bool true := hd 6 (by decide) _ rfl
      have h49 : x 49 = .bool true := hd 12 (by decide) _ rfl
      clear hd
      go_simp
      exact hp _ _ (Grow.refl _) rfl
    · -- 14: slot 51: Op.move t50
      have h50 : x 50 = .bool true := hd 13 (by decide) _ rfl
      clear hd
      go_simp
      exact hp _ _ (Grow.refl _) rfl
    · -- 15: slot 52: Op.load 25 t1
      have h51 : x 51 = .bool true := hd 14 (by decide) _ rfl
      clear hd
      obtain ⟨d0, d1, d2, d3⟩ := hB9.grow hg
      go_simp
      exact hp _ _ (Grow.refl _) rfl
    · -- 16: slot 53: Op.load 25 t5
      have h51 : x 51 = .bool true := hd 14 (by decide) _ rfl
      clear hd
      obtain ⟨d0, d1, d2, d3⟩ := hQ9.grow hg
      go_simp
      exact hp _ _ (Grow.refl _) rfl
    · -- 17: slot 54: Op.call { value (Operand.func 14), args := #[t52, t53], argTypes := #[25, 25] }
      have h52 : x 52 = IcmV k (.slice A k.data.length c) := hd 15 (by decide) _ rfl
      have h53 : x 53 = IcmV k (.slice B6 m6 d6) := hd 16 (by decide) _ rfl
      have h51 : x 51 = .bool true := hd 14 (by decide) _ rfl
      clear hd
      go_simp
      refine (RSame7_yes _ _ k k _ (hip9.grow hg) (hiq9.grow hg) rfl).mono ?_
      rintro e w2 ⟨rfl, hg2⟩
      exact ⟨_, rfl, hp _ _ hg2 rfl⟩
    · -- 18: slot 55: Op.pick t51 t54 (const (Value.bool false))
      have h51 : x 51 = .bool true := hd 14 (by decide) _ rfl
      have h54 : x 54 = .bool true := hd 17 (by decide) _ rfl
      clear hd
      go_simp
      exact hp _ _ (Grow.refl _) rfl
    · -- 19: slot 56: Op.move t55
      have h55 : x 55 = .bool true := hd 18 (by decide) _ rfl
      clear hd
      go_simp
      exact hp _ _ (Grow.refl _) rfl
    · -- 20: slot 57: Op.load 25 t1
      have h56 : x 56 = .bool true := hd 19 (by decide) _ rfl
      clear hd
      obtain ⟨d0, d1, d2, d3⟩ := hB9.grow hg
      go_simp
      exact hp _ _ (Grow.refl _) rfl
    · -- 21: slot 58: Op.load 25 t5
      have h56 : x 56 = .bool true := hd 19 (by decide) _ rfl
      clear hd
      obtain ⟨d0, d1, d2, d3⟩ := hQ9.grow hg
      go_simp
      exact hp _ _ (Grow.refl _) rfl
    · -- 22: slot 59: Op.call { value (Operand.func 15), args := #[t57, t58], argTypes := #[25, 25] }
      have h57 : x 57 = IcmV k (.slice A k.data.length c) := hd 20 (by decide) _ rfl
      have h58 : x 58 = IcmV k (.slice B6 m6 d6) := hd 21 (by decide) _ rfl
      have h56 : x 56 = .bool true := hd 19 (by decide) _ rfl
      clear hd
      go_simp
      refine (icmSame_yes _ _ k k _ (hip9.grow hg) (hiq9.grow hg) rfl).mono ?_
      rintro e w2 ⟨rfl, hg2⟩
      exact ⟨_, rfl, hp _ _ hg2 rfl⟩
    · -- 23: slot 60: Op.pick t56 t59 (const (Value.bool false))
      have h56 : x 56 = .bool true := hd 19 (by decide) _ rfl
      have h59 : x 59 = .bool true := hd 22 (by decide) _ rfl
      clear hd
      go_simp
      exact hp _ _ (Grow.refl _) rfl
    · -- 24: slot 61: Op.move t60
      have h60 : x 60 = .bool true := hd 23 (by decide) _ rfl
      clear hd
      go_simp
      exact hp _ _ (Grow.refl _) rfl
    · -- 25: slot 62: Op.call { value (Operand.func 9), args := #[], argTypes := #[] }
      have h61 : x 61 = .bool true := hd 24 (by decide) _ rfl
      clear hd
      go_simp
      refine (icmLive_any _).mono ?_
      rintro e w2 ⟨rfl, hg2⟩
      exact ⟨_, rfl, hp _ _ hg2 rfl⟩
    · -- 26: slot 63: Op.pick t61 t62 (const (Value.bool false))
      have h61 : x 61 = .bool true := hd 24 (by decide) _ rfl
      have h62 : x 62 = .bool true := hd 25 (by decide) _ rfl
      clear hd
      go_simp
      exact hp _ _ (Grow.refl _) rfl
    · -- 27: slot 2: Op.assign t63
      have h63 : x 63 = .bool true := hd 26 (by decide) _ rfl
      clear hd
      go_simp
      exact hp _ _ (Grow.refl _) rfl
  · intro x w1 hg hd
    have h2 : x 2 = .bool true := hd 27 _ rfl
    clear hd
    go_wp2
    go_ret
    exact ⟨by go_simp, hg09.trans hg⟩
end Go.Proofs.Ytbnnacohkemnhaa
