/- The walk of the law on segments as bytes. -/
import Derived.Test.YtbhdpobmooncpaaSegLive
import Derived.Test.YtbhdpobmooncpaaSegRBytes
import Derived.Test.YtbhdpobmooncpaaSegSameZ
namespace Go.Proofs.Ytbhdpobmooncpaa
set_option linter.unusedVariables false
set_option linter.unusedSimpArgs false
open Go.ChangeShapes Go.WideShapes Go.ChangeAt Go.RowKit

set_option maxHeartbeats 2000000 in
theorem segPuts_much (w : World) (s d : Nat) (hs : s < 4294967296) (hd4 : d < 4294967296) {v : Value} {k : Sgm} (h : isSgm w v k) (hL : 70000 < k.data.length) :
    Calls Try.prog 3 #[.int .u32 (s : Int), .int .u32 (d : Int), v] w fun e w' => e = .returned (.bool true) ∧ Grow w w' := by
  obtain ⟨A, c, rfl, hd, hk⟩ := h.form
  obtain ⟨hcl0, hcm0⟩ := hd.len.2
  unfold maxLen at hcm0
  obtain ⟨W1, hW1⟩ : ∃ W1, W1 = w.alloc (.cells (Sgmcells k (.slice A k.data.length c)) 26) := ⟨_, rfl⟩
  have hg1 : Grow w W1 := by rw [hW1]; exact Grow.alloc w _
  have hB1 : Sgmbox W1 w.heap.size k (.slice A k.data.length c) := by rw [hW1]; exact Sgmbox.new _ _ _
  unfold Sgmcells at hW1
  have hip := h.grow hg1
  obtain ⟨b0, b1, b2, b3, b4, b5, b6, b7, b8⟩ := id hB1
  go_enter Try.func3, Try.ntmps3
  go_wp2_with fail
  rw [← hW1]
  refine (segLive_any _).mono ?_
  rintro e wl ⟨rfl, hgl⟩
  go_wp2_with fail
  go_ret
  exact ⟨rfl, hg1.trans hgl⟩

set_option maxRecDepth 10000 in
set_option maxHeartbeats 4000000 in
theorem segPuts_bad (w : World) (s d : Nat) (hs : s < 4294967296) (hd4 : d < 4294967296) {v : Value} {k : Sgm} (h : isSgm w v k) (hL : k.data.length ≤ 70000) (hc : k.check ≠ 0) :
    Calls Try.prog 3 #[.int .u32 (s : Int), .int .u32 (d : Int), v] w fun e w' => e = .returned (.bool true) ∧ Grow w w' := by
  obtain ⟨A, c, rfl, hd, hk⟩ := h.form
  obtain ⟨hcl0, hcm0⟩ := hd.len.2
  unfold maxLen at hcm0
  obtain ⟨W1, hW1⟩ : ∃ W1, W1 = w.alloc (.cells (Sgmcells k (.slice A k.data.length c)) 26) := ⟨_, rfl⟩
  have hg1 : Grow w W1 := by rw [hW1]; exact Grow.alloc w _
  have hB1 : Sgmbox W1 w.heap.size k (.slice A k.data.length c) := by rw [hW1]; exact Sgmbox.new _ _ _
  unfold Sgmcells at hW1
  have hip := h.grow hg1
  obtain ⟨b0, b1, b2, b3, b4, b5, b6, b7, b8⟩ := id hB1
  have hsm : k.data.length ≤ 1000000 := by omega
  have hPut := sPut_bad s d _ k _ hip hc
  have hChk : ∀ w', isSgm w' (SgmV k (.slice A k.data.length c)) k → _ := fun w' g => RCheck9_any _ k w' g
  obtain ⟨q1, q2⟩ := check_le k
  obtain ⟨f, hf⟩ : ∃ f, f = k.check := ⟨_, rfl⟩
  rw [← hf] at hPut hChk hc q1 q2
  have HF := Lib.hid hf
  have bf : ((f : Int) != 0) = true := bne_iff_ne.2 hc
  clear hf
  go_enter Try.func3, Try.ntmps3
  go_wp2_with fail
  rw [← hW1]
  clear hW1
  refine hPut.mono ?_
  rintro e w2 ⟨rfl, hg2⟩
  clear hPut
  clear b0 b1 b2 b3 b4 b5 b6 b7 b8
  obtain ⟨b0, b1, b2, b3, b4, b5, b6, b7, b8⟩ := hB1.grow hg2
  go_wp2_with fail
  refine (hChk _ (hip.grow hg2)).mono ?_
  rintro e w3 ⟨rfl, hg3⟩
  clear hChk
  have hB3 := (hB1.grow hg2).grow hg3
  have hip3 := (hip.grow hg2).grow hg3
  clear b0 b1 b2 b3 b4 b5 b6 b7 b8
  go_wp2_with fail
  refine wp_region_loose (A := ?frame6) (inList (isV (.int .i64 f) :: isV (.int .i64 f) :: isV (.int .i64 f) :: isV (.bool false) :: isV (.bool false) :: isV (SgmV k (.slice A k.data.length c)) :: isV (.int .i64 f) :: isV (.int .i64 f) :: isV (.int .i64 f) :: isV (.bool false) :: isV (.bool false) :: isV (.bool false) :: isV (SgmV k (.slice A k.data.length c)) :: isV (.int .i64 k.len) :: isV (SgmV k (.slice A k.data.length c)) :: isV (.int .i64 k.len) :: isV (.bool false) :: isV (.bool false) :: [])) (by kernel_rfl) (by kernel_rfl) (inList_stays ?_) (fun x => ?frameEq6) ?_ ?_
  case frameEq6 => go_simp; rfl
  · intro f hf
    simp only [List.mem_cons, List.not_mem_nil, or_false] at hf
    rcases hf with rfl | rfl | rfl | rfl | rfl | rfl | rfl | rfl | rfl | rfl | rfl | rfl | rfl | rfl | rfl | rfl | rfl | rfl <;> first | exact isV_stays _ | exact isB_stays _ | exact isBs_stays _
  · refine ⟨fun x w1 hg hd post hp => ?_, fun x w1 hg hd post hp => ?_, fun x w1 hg hd post hp => ?_, fun x w1 hg hd post hp => ?_, fun x w1 hg hd post hp => ?_, fun x w1 hg hd post hp => ?_, fun x w1 hg hd post hp => ?_, fun x w1 hg hd post hp => ?_, fun x w1 hg hd post hp => ?_, fun x w1 hg hd post hp => ?_, fun x w1 hg hd post hp => ?_, fun x w1 hg hd post hp => ?_, fun x w1 hg hd post hp => ?_, fun x w1 hg hd post hp => ?_, fun x w1 hg hd post hp => ?_, fun x w1 hg hd post hp => ?_, fun x w1 hg hd post hp => ?_, fun x w1 hg hd post hp => ?_, trivial⟩
    · -- 0: slot 30: Op.move t10
      clear hd
      go_simp
      exact hp _ _ (Grow.refl _) rfl
    · -- 1: slot 31: Op.call { value (Operand.func 11), args := #[t30], argTypes := #[29] }
      have h30 : x 30 = .int .i64 f := hd 0 (by decide) _ rfl
      clear hd
      go_simp
      refine (segCode_any f _ (by omega) (by omega)).mono ?_
      rintro e w' ⟨rfl, rfl⟩
      exact ⟨_, rfl, hp _ _ (Grow.refl _) rfl⟩
    · -- 2: slot 32: Op.move t11
      clear hd
      go_simp
      exact hp _ _ (Grow.refl _) rfl
    · -- 3: slot 33: Op.binOp BinOp.neq 3 t31 t32 3
      have h31 : x 31 = .int .i64 f := hd 1 (by decide) _ rfl
      have h32 : x 32 = .int .i64 f := hd 2 (by decide) _ rfl
      clear hd
      go_simp
      exact hp _ _ (Grow.refl _) (show Value.bool _ = Value.bool false from by simp)
    · -- 4: slot 34: Op.move t33
      have h33 : x 33 = .bool false := hd 3 (by decide) _ rfl
      clear hd
      go_simp
      exact hp _ _ (Grow.refl _) rfl
    · -- 5: slot 35: Op.load 26 t5
      have h34 : x 34 = .bool false := hd 4 (by decide) _ rfl
      clear hd
      obtain ⟨d0, d1, d2, d3, d4, d5, d6, d7, d8⟩ := hB3.grow hg
      go_simp
      exact hp _ _ (Grow.refl _) rfl
    · -- 6: slot 36: Op.call { value (Operand.func 12), args := #[t35], argTypes := #[26] }
      have h35 : x 35 = SgmV k (.slice A k.data.length c) := hd 5 (by decide) _ rfl
      have h34 : x 34 = .bool false := hd 4 (by decide) _ rfl
      clear hd
      go_simp
      refine (sCheck_any _ k _ (hip3.grow hg)).mono ?_
      rw [← HF.out]
      rintro e w2 ⟨rfl, hg2⟩
      exact ⟨_, rfl, hp _ _ hg2 rfl⟩
    · -- 7: slot 37: Op.call { value (Operand.func 11), args := #[t36], argTypes := #[29] }
      have h36 : x 36 = .int .i64 f := hd 6 (by decide) _ rfl
      have h34 : x 34 = .bool false := hd 4 (by decide) _ rfl
      clear hd
      go_simp
      refine (segCode_any f _ (by omega) (by omega)).mono ?_
      rintro e w' ⟨rfl, rfl⟩
      exact ⟨_, rfl, hp _ _ (Grow.refl _) rfl⟩
    · -- 8: slot 38: Op.move t11
      have h34 : x 34 = .bool false := hd 4 (by decide) _ rfl
      clear hd
      go_simp
      exact hp _ _ (Grow.refl _) rfl
    · -- 9: slot 39: Op.binOp BinOp.neq 3 t37 t38 3
      have h37 : x 37 = .int .i64 f := hd 7 (by decide) _ rfl
      have h38 : x 38 = .int .i64 f := hd 8 (by decide) _ rfl
      have h34 : x 34 = .bool false := hd 4 (by decide) _ rfl
      clear hd
      go_simp
      exact hp _ _ (Grow.refl _) (show Value.bool _ = Value.bool false from by simp)
    · -- 10: slot 40: Op.pick t34 (const (Value.bool true)) t39
      have h34 : x 34 = .bool false := hd 4 (by decide) _ rfl
      have h39 : x 39 = .bool false := hd 9 (by decide) _ rfl
      clear hd
      go_simp
      exact hp _ _ (Grow.refl _) rfl
    · -- 11: slot 41: Op.move t40
      have h40 : x 40 = .bool false := hd 10 (by decide) _ rfl
      clear hd
      go_simp
      exact hp _ _ (Grow.refl _) rfl
    · -- 12: slot 42: Op.load 26 t5
      have h41 : x 41 = .bool false := hd 11 (by decide) _ rfl
      clear hd
      obtain ⟨d0, d1, d2, d3, d4, d5, d6, d7, d8⟩ := hB3.grow hg
      go_simp
      exact hp _ _ (Grow.refl _) rfl
    · -- 13: slot 43: Op.call { value (Operand.func 13), args := #[t42], argTypes := #[26] }
      have h42 : x 42 = SgmV k (.slice A k.data.length c) := hd 12 (by decide) _ rfl
      have h41 : x 41 = .bool false := hd 11 (by decide) _ rfl
      clear hd
      go_simp
      refine (sLen_any _ k _ (hip3.grow hg) hsm).mono ?_
      rintro e w2 ⟨rfl, hg2⟩
      exact ⟨_, rfl, hp _ _ hg2 rfl⟩
    · -- 14: slot 44: Op.load 26 t5
      have h41 : x 41 = .bool false := hd 11 (by decide) _ rfl
      clear hd
      obtain ⟨d0, d1, d2, d3, d4, d5, d6, d7, d8⟩ := hB3.grow hg
      go_simp
      exact hp _ _ (Grow.refl _) rfl
    · -- 15: slot 45: Op.call { value (Operand.func 14), args := #[t44], argTypes := #[26] }
      have h44 : x 44 = SgmV k (.slice A k.data.length c) := hd 14 (by decide) _ rfl
      have h41 : x 41 = .bool false := hd 11 (by decide) _ rfl
      clear hd
      go_simp
      refine (RLen9_any _ k _ (hip3.grow hg) hsm).mono ?_
      rintro e w2 ⟨rfl, hg2⟩
      exact ⟨_, rfl, hp _ _ hg2 rfl⟩
    · -- 16: slot 46: Op.binOp BinOp.neq 3 t43 t45 3
      have h43 : x 43 = .int .i64 k.len := hd 13 (by decide) _ rfl
      have h45 : x 45 = .int .i64 k.len := hd 15 (by decide) _ rfl
      have h41 : x 41 = .bool false := hd 11 (by decide) _ rfl
      clear hd
      go_simp
      exact hp _ _ (Grow.refl _) (show Value.bool _ = Value.bool false from by simp)
    · -- 17: slot 47: Op.pick t41 (const (Value.bool true)) t46
      have h41 : x 41 = .bool false := hd 11 (by decide) _ rfl
      have h46 : x 46 = .bool false := hd 16 (by decide) _ rfl
      clear hd
      go_simp
      exact hp _ _ (Grow.refl _) rfl
  · intro x w1 hg hd
    have h47 : x 47 = .bool false := hd 17 _ rfl
    clear hd
    rw [h47]
    go_wp2_with fail
    refine (segLive_any _).mono ?_
    rintro e wl ⟨rfl, hgl⟩
    go_wp2_with fail
    go_ret
    exact ⟨rfl, (((hg1.trans hg2).trans hg3).trans hg).trans hgl⟩

set_option maxRecDepth 10000 in
set_option maxHeartbeats 8000000 in
theorem segPuts_good (w : World) (s d : Nat) (hs : s < 4294967296) (hd4 : d < 4294967296) {v : Value} {k : Sgm} (h : isSgm w v k) (hf : k.Fine) :
    Calls Try.prog 3 #[.int .u32 (s : Int), .int .u32 (d : Int), v] w fun e w' => e = .returned (.bool true) ∧ Grow w w' := by
  obtain ⟨A, c, rfl, hd, hk⟩ := h.form
  obtain ⟨hcl0, hcm0⟩ := hd.len.2
  unfold maxLen at hcm0
  obtain ⟨W1, hW1⟩ : ∃ W1, W1 = w.alloc (.cells (Sgmcells k (.slice A k.data.length c)) 26) := ⟨_, rfl⟩
  have hg1 : Grow w W1 := by rw [hW1]; exact Grow.alloc w _
  have hB1 : Sgmbox W1 w.heap.size k (.slice A k.data.length c) := by rw [hW1]; exact Sgmbox.new _ _ _
  unfold Sgmcells at hW1
  have hip := h.grow hg1
  obtain ⟨b0, b1, b2, b3, b4, b5, b6, b7, b8⟩ := id hB1
  have hdl := hf.data
  have hsm : k.data.length ≤ 1000000 := by omega
  have hPut := sPut_good s d _ k _ hs hd4 hip hf
  have hChk : ∀ w', isSgm w' (SgmV k (.slice A k.data.length c)) k → _ := fun w' g => RCheck9_any _ k w' g
  have hck0 := (fine_iff k).2 hf
  obtain ⟨f, hff⟩ : ∃ f : Int, f = 0 := ⟨_, rfl⟩
  have HF : Hid (f = k.check) := Lib.hid (by rw [hck0, hff])
  have X1 := tput_code s d k hf
  have X2 := tput_res s d k hk hf
  have hbl := sbytes_length k (tcheck s d k)
  have hol := sopt_length k
  obtain ⟨L, hL⟩ : ∃ L, L = k.bytes (tcheck s d k) := ⟨_, rfl⟩
  rw [← hL] at hPut X1 X2 hbl
  have HL := Lib.hid hL
  have E1 := Lib.hid X1
  have E2 := Lib.hid X2
  have hLl : L.length ≤ 1000000 := by omega
  rw [hck0] at hChk
  clear hL X1 X2 hbl hol hck0
  go_enter Try.func3, Try.ntmps3
  go_wp2_with fail
  rw [← hW1]
  clear hW1
  refine hPut.mono ?_
  rintro e w2 ⟨ux, rfl, hox, hg2⟩
  clear hPut
  have hbx2 := hox.byt
  obtain ⟨Ax, nx, cx, rfl, _⟩ := hbx2.form2
  clear b0 b1 b2 b3 b4 b5 b6 b7 b8
  obtain ⟨b0, b1, b2, b3, b4, b5, b6, b7, b8⟩ := hB1.grow hg2
  go_wp2_with fail
  refine (hChk _ (hip.grow hg2)).mono ?_
  rintro e w3 ⟨rfl, hg3⟩
  clear hChk hox
  have hB3 := (hB1.grow hg2).grow hg3
  have hip3 := (hip.grow hg2).grow hg3
  clear b0 b1 b2 b3 b4 b5 b6 b7 b8
  go_wp2_with fail
  refine wp_region_loose (A := ?frame6) (inList (isV (.int .i64 0) :: isV (.int .i64 0) :: isV (.int .i64 0) :: isV (.bool false) :: isV (.bool false) :: isV (SgmV k (.slice A k.data.length c)) :: isV (.int .i64 0) :: isV (.int .i64 0) :: isV (.int .i64 0) :: isV (.bool false) :: isV (.bool false) :: isV (.bool false) :: isV (SgmV k (.slice A k.data.length c)) :: isV (.int .i64 k.len) :: isV (SgmV k (.slice A k.data.length c)) :: isV (.int .i64 k.len) :: isV (.bool false) :: isV (.bool false) :: [])) (by kernel_rfl) (by kernel_rfl) (inList_stays ?_) (fun x => ?frameEq6) ?_ ?_
  case frameEq6 => go_simp; rfl
  · intro f hf
    simp only [List.mem_cons, List.not_mem_nil, or_false] at hf
    rcases hf with rfl | rfl | rfl | rfl | rfl | rfl | rfl | rfl | rfl | rfl | rfl | rfl | rfl | rfl | rfl | rfl | rfl | rfl <;> first | exact isV_stays _ | exact isB_stays _ | exact isBs_stays _
  · refine ⟨fun x w1 hg hd post hp => ?_, fun x w1 hg hd post hp => ?_, fun x w1 hg hd post hp => ?_, fun x w1 hg hd post hp => ?_, fun x w1 hg hd post hp => ?_, fun x w1 hg hd post hp => ?_, fun x w1 hg hd post hp => ?_, fun x w1 hg hd post hp => ?_, fun x w1 hg hd post hp => ?_, fun x w1 hg hd post hp => ?_, fun x w1 hg hd post hp => ?_, fun x w1 hg hd post hp => ?_, fun x w1 hg hd post hp => ?_, fun x w1 hg hd post hp => ?_, fun x w1 hg hd post hp => ?_, fun x w1 hg hd post hp => ?_, fun x w1 hg hd post hp => ?_, fun x w1 hg hd post hp => ?_, trivial⟩
    · -- 0: slot 30: Op.move t10
      clear hd
      go_simp
      exact hp _ _ (Grow.refl _) rfl
    · -- 1: slot 31: Op.call { value (Operand.func 11), args := #[t30], argTypes := #[29] }
      have h30 : x 30 = .int .i64 0 := hd 0 (by decide) _ rfl
      clear hd
      go_simp
      refine (segCode_any 0 _ (by omega) (by omega)).mono ?_
      rintro e w' ⟨rfl, rfl⟩
      exact ⟨_, rfl, hp _ _ (Grow.refl _) rfl⟩
    · -- 2: slot 32: Op.move t11
      clear hd
      go_simp
      exact hp _ _ (Grow.refl _) rfl
    · -- 3: slot 33: Op.binOp BinOp.neq 3 t31 t32 3
      have h31 : x 31 = .int .i64 0 := hd 1 (by decide) _ rfl
      have h32 : x 32 = .int .i64 0 := hd 2 (by decide) _ rfl
      clear hd
      go_simp
      exact hp _ _ (Grow.refl _) (show Value.bool _ = Value.bool false from by simp)
    · -- 4: slot 34: Op.move t33
      have h33 : x 33 = .bool false := hd 3 (by decide) _ rfl
      clear hd
      go_simp
      exact hp _ _ (Grow.refl _) rfl
    · -- 5: slot 35: Op.load 26 t5
      have h34 : x 34 = .bool false := hd 4 (by decide) _ rfl
      clear hd
      obtain ⟨d0, d1, d2, d3, d4, d5, d6, d7, d8⟩ := hB3.grow hg
      go_simp
      exact hp _ _ (Grow.refl _) rfl
    · -- 6: slot 36: Op.call { value (Operand.func 12), args := #[t35], argTypes := #[26] }
      have h35 : x 35 = SgmV k (.slice A k.data.length c) := hd 5 (by decide) _ rfl
      have h34 : x 34 = .bool false := hd 4 (by decide) _ rfl
      clear hd
      go_simp
      refine (sCheck_any _ k _ (hip3.grow hg)).mono ?_
      rw [← HF.out, hff]
      rintro e w2 ⟨rfl, hg2⟩
      exact ⟨_, rfl, hp _ _ hg2 rfl⟩
    · -- 7: slot 37: Op.call { value (Operand.func 11), args := #[t36], argTypes := #[29] }
      have h36 : x 36 = .int .i64 0 := hd 6 (by decide) _ rfl
      have h34 : x 34 = .bool false := hd 4 (by decide) _ rfl
      clear hd
      go_simp
      refine (segCode_any 0 _ (by omega) (by omega)).mono ?_
      rintro e w' ⟨rfl, rfl⟩
      exact ⟨_, rfl, hp _ _ (Grow.refl _) rfl⟩
    · -- 8: slot 38: Op.move t11
      have h34 : x 34 = .bool false := hd 4 (by decide) _ rfl
      clear hd
      go_simp
      exact hp _ _ (Grow.refl _) rfl
    · -- 9: slot 39: Op.binOp BinOp.neq 3 t37 t38 3
      have h37 : x 37 = .int .i64 0 := hd 7 (by decide) _ rfl
      have h38 : x 38 = .int .i64 0 := hd 8 (by decide) _ rfl
      have h34 : x 34 = .bool false := hd 4 (by decide) _ rfl
      clear hd
      go_simp
      exact hp _ _ (Grow.refl _) (show Value.bool _ = Value.bool false from by simp)
    · -- 10: slot 40: Op.pick t34 (const (Value.bool true)) t39
      have h34 : x 34 = .bool false := hd 4 (by decide) _ rfl
      have h39 : x 39 = .bool false := hd 9 (by decide) _ rfl
      clear hd
      go_simp
      exact hp _ _ (Grow.refl _) rfl
    · -- 11: slot 41: Op.move t40
      have h40 : x 40 = .bool false := hd 10 (by decide) _ rfl
      clear hd
      go_simp
      exact hp _ _ (Grow.refl _) rfl
    · -- 12: slot 42: Op.load 26 t5
      have h41 : x 41 = .bool false := hd 11 (by decide) _ rfl
      clear hd
      obtain ⟨d0, d1, d2, d3, d4, d5, d6, d7, d8⟩ := hB3.grow hg
      go_simp
      exact hp _ _ (Grow.refl _) rfl
    · -- 13: slot 43: Op.call { value (Operand.func 13), args := #[t42], argTypes := #[26] }
      have h42 : x 42 = SgmV k (.slice A k.data.length c) := hd 12 (by decide) _ rfl
      have h41 : x 41 = .bool false := hd 11 (by decide) _ rfl
      clear hd
      go_simp
      refine (sLen_any _ k _ (hip3.grow hg) hsm).mono ?_
      rintro e w2 ⟨rfl, hg2⟩
      exact ⟨_, rfl, hp _ _ hg2 rfl⟩
    · -- 14: slot 44: Op.load 26 t5
      have h41 : x 41 = .bool false := hd 11 (by decide) _ rfl
      clear hd
      obtain ⟨d0, d1, d2, d3, d4, d5, d6, d7, d8⟩ := hB3.grow hg
      go_simp
      exact hp _ _ (Grow.refl _) rfl
    · -- 15: slot 45: Op.call { value (Operand.func 14), args := #[t44], argTypes := #[26] }
      have h44 : x 44 = SgmV k (.slice A k.data.length c) := hd 14 (by decide) _ rfl
      have h41 : x 41 = .bool false := hd 11 (by decide) _ rfl
      clear hd
      go_simp
      refine (RLen9_any _ k _ (hip3.grow hg) hsm).mono ?_
      rintro e w2 ⟨rfl, hg2⟩
      exact ⟨_, rfl, hp _ _ hg2 rfl⟩
    · -- 16: slot 46: Op.binOp BinOp.neq 3 t43 t45 3
      have h43 : x 43 = .int .i64 k.len := hd 13 (by decide) _ rfl
      have h45 : x 45 = .int .i64 k.len := hd 15 (by decide) _ rfl
      have h41 : x 41 = .bool false := hd 11 (by decide) _ rfl
      clear hd
      go_simp
      exact hp _ _ (Grow.refl _) (show Value.bool _ = Value.bool false from by simp)
    · -- 17: slot 47: Op.pick t41 (const (Value.bool true)) t46
      have h41 : x 41 = .bool false := hd 11 (by decide) _ rfl
      have h46 : x 46 = .bool false := hd 16 (by decide) _ rfl
      clear hd
      go_simp
      exact hp _ _ (Grow.refl _) rfl
  · intro x w1 hg hd
    have h47 : x 47 = .bool false := hd 17 _ rfl
    clear hd
    rw [h47]
    have hg03 := ((hg1.trans hg2).trans hg3).trans hg
    have hbx4 := (hbx2.grow hg3).grow hg
    have hB4 := hB3.grow hg
    have hip4 := hip3.grow hg
    clear hff HF h47
    go_wp2_with fail
    refine (sGet_any s d _ L _ hs hd4 hbx4 hLl).mono ?_
    rw [E1.out, E2.out]
    rintro e w4 ⟨vd, rfl, hvd, hg4⟩
    have bd := hvd.byt
    obtain ⟨B6, m6, d6, rfl, _⟩ := bd.form2
    clear E1 E2 hvd
    go_wp2_with (refine wpList_store_Sgm w4 _ rfl _ _ rfl rfl w4.heap.size rfl k zeroT (.slice B6 m6 d6) (.slice none 0 0) (by rfl) rfl (Sgmblk.new w4 zeroT (.slice none 0 0)) (Grow.alloc _ _) (Nat.le_refl _) ?_; intro w5 hk5 _ hg5)
    have hg45 := hg4.trans hg5
    have hbx := hbx4.grow hg45
    have hB5 := hB4.grow hg45
    have hip5 := hip4.grow hg45
    have hK5 := hk5.boxd
    have hit5 : isSgm w5 (SgmV k (.slice B6 m6 d6)) k := ⟨_, rfl, bd.grow hg5, hk⟩
    refine wp_region_loose (A := ?frame11) (inList (isV (.slice Ax nx cx) :: isV (strV L) :: isV (.int .u32 (s : Int)) :: isV (.int .u32 (d : Int)) :: isV (SgmV k (.slice A k.data.length c)) :: isB (L) :: isV (strV L) :: isV (.bool true) :: isV (.bool true) :: isV (.int .i64 0) :: isV (.int .i64 0) :: isV (.bool true) :: isV (.bool true) :: isV (.bool true) :: isV (SgmV k (.slice A k.data.length c)) :: isV (SgmV k (.slice B6 m6 d6)) :: isV (.bool true) :: isV (.bool true) :: isV (.bool true) :: isV (SgmV k (.slice A k.data.length c)) :: isV (SgmV k (.slice B6 m6 d6)) :: isV (.bool true) :: isV (.bool true) :: isV (.bool true) :: isV (.bool true) :: isV (.bool true) :: isV (.bool true) :: [])) (by kernel_rfl) (by kernel_rfl) (inList_stays ?_) (fun x => ?frameEq11) ?_ ?_
    case frameEq11 => go_simp; rfl
    · intro f hf
      simp only [List.mem_cons, List.not_mem_nil, or_false] at hf
      rcases hf with rfl | rfl | rfl | rfl | rfl | rfl | rfl | rfl | rfl | rfl | rfl | rfl | rfl | rfl | rfl | rfl | rfl | rfl | rfl | rfl | rfl | rfl | rfl | rfl | rfl | rfl | rfl <;> first | exact isV_stays _ | exact isB_stays _ | exact isBs_stays _
    · refine ⟨fun z z1 hg hd post hp => ?_, fun z z1 hg hd post hp => ?_, fun z z1 hg hd post hp => ?_, fun z z1 hg hd post hp => ?_, fun z z1 hg hd post hp => ?_, fun z z1 hg hd post hp => ?_, fun z z1 hg hd post hp => ?_, fun z z1 hg hd post hp => ?_, fun z z1 hg hd post hp => ?_, fun z z1 hg hd post hp => ?_, fun z z1 hg hd post hp => ?_, fun z z1 hg hd post hp => ?_, fun z z1 hg hd post hp => ?_, fun z z1 hg hd post hp => ?_, fun z z1 hg hd post hp => ?_, fun z z1 hg hd post hp => ?_, fun z z1 hg hd post hp => ?_, fun z z1 hg hd post hp => ?_, fun z z1 hg hd post hp => ?_, fun z z1 hg hd post hp => ?_, fun z z1 hg hd post hp => ?_, fun z z1 hg hd post hp => ?_, fun z z1 hg hd post hp => ?_, fun z z1 hg hd post hp => ?_, fun z z1 hg hd post hp => ?_, fun z z1 hg hd post hp => ?_, fun z z1 hg hd post hp => ?_, trivial⟩
      · -- 0: slot 63: Op.move t9
        clear hd
        go_simp
        exact hp _ _ (Grow.refl _) rfl
      · -- 1: slot 64: Op.convert 24 9 t63
        have h63 : z 63 = .slice Ax nx cx := hd 0 (by decide) _ rfl
        clear hd
        have c1 := str1 (hbx.grow hg)
        go_simp
        exact hp _ _ (Grow.refl _) rfl
      · -- 2: slot 65: Op.move t7
        clear hd
        go_simp
        exact hp _ _ (Grow.refl _) rfl
      · -- 3: slot 66: Op.move t8
        clear hd
        go_simp
        exact hp _ _ (Grow.refl _) rfl
      · -- 4: slot 67: Op.load 26 t5
        clear hd
        obtain ⟨d0, d1, d2, d3, d4, d5, d6, d7, d8⟩ := hB5.grow hg
        go_simp
        exact hp _ _ (Grow.refl _) rfl
      · -- 5: slot 68: Op.call { value (Operand.func 16), args := #[t65, t66, t67], argTypes := #[28, 2
        have h65 : z 65 = .int .u32 (s : Int) := hd 2 (by decide) _ rfl
        have h66 : z 66 = .int .u32 (d : Int) := hd 3 (by decide) _ rfl
        have h67 : z 67 = SgmV k (.slice A k.data.length c) := hd 4 (by decide) _ rfl
        clear hd
        go_simp
        refine (RBytes9_any s d _ k _ hs hd4 (hip5.grow hg) hf).mono ?_
        rw [← HL.out]
        rintro e w2 ⟨u, rfl, ho, hg2⟩
        exact ⟨_, rfl, hp _ _ hg2 ho⟩
      · -- 6: slot 69: Op.convert 24 9 t68
        have h68 : Byt z1 (z 68) (L) := hd 5 (by decide) _ rfl
        clear hd
        have c := str1 h68
        go_simp
        exact hp _ _ (Grow.refl _) rfl
      · -- 7: slot 70: Op.binOp BinOp.eql 9 t64 t69 9
        have h64 : z 64 = strV L := hd 1 (by decide) _ rfl
        have h69 : z 69 = strV L := hd 6 (by decide) _ rfl
        clear hd
        unfold strV at *
        go_simp
        exact hp _ _ (Grow.refl _) (by show Value.bool _ = Value.bool true; simp)
      · -- 8: slot 71: Op.move t70
        have h70 : z 70 = .bool true := hd 7 (by decide) _ rfl
        clear hd
        go_simp
        exact hp _ _ (Grow.refl _) rfl
      · -- 9: slot 72: Op.move t13
        have h71 : z 71 = .bool true := hd 8 (by decide) _ rfl
        clear hd
        go_simp
        exact hp _ _ (Grow.refl _) rfl
      · -- 10: slot 73: Op.call { value (Operand.func 11), args := #[t72], argTypes := #[29] }
        have h72 : z 72 = .int .i64 0 := hd 9 (by decide) _ rfl
        have h71 : z 71 = .bool true := hd 8 (by decide) _ rfl
        clear hd
        go_simp
        refine (segCode_any 0 _ (by omega) (by omega)).mono ?_
        rintro e w' ⟨rfl, rfl⟩
        exact ⟨_, rfl, hp _ _ (Grow.refl _) rfl⟩
      · -- 11: slot 74: Op.binOp BinOp.eql 3 t73 (const (0:i64)) 3
        have h73 : z 73 = .int .i64 0 := hd 10 (by decide) _ rfl
        have h71 : z 71 = .bool true := hd 8 (by decide) _ rfl
        clear hd
        go_simp
        exact hp _ _ (Grow.refl _) rfl
      · -- 12: slot 75: Op.pick t71 t74 (const (Value.bool false))
        have h71 : z 71 = .bool true := hd 8 (by decide) _ rfl
        have h74 : z 74 = .bool true := hd 11 (by decide) _ rfl
        clear hd
        go_simp
        exact hp _ _ (Grow.refl _) rfl
      · -- 13: slot 76: Op.move t75
        have h75 : z 75 = .bool true := hd 12 (by decide) _ rfl
        clear hd
        go_simp
        exact hp _ _ (Grow.refl _) rfl
      · -- 14: slot 77: Op.load 26 t5
        have h76 : z 76 = .bool true := hd 13 (by decide) _ rfl
        clear hd
        obtain ⟨d0, d1, d2, d3, d4, d5, d6, d7, d8⟩ := hB5.grow hg
        go_simp
        exact hp _ _ (Grow.refl _) rfl
      · -- 15: slot 78: Op.load 26 t12
        have h76 : z 76 = .bool true := hd 13 (by decide) _ rfl
        clear hd
        obtain ⟨d0, d1, d2, d3, d4, d5, d6', d7, d8⟩ := hK5.grow hg
        go_simp
        exact hp _ _ (Grow.refl _) rfl
      · -- 16: slot 79: Op.call { value (Operand.func 17), args := #[t77, t78], argTypes := #[26, 26] }
        have h77 : z 77 = SgmV k (.slice A k.data.length c) := hd 14 (by decide) _ rfl
        have h78 : z 78 = SgmV k (.slice B6 m6 d6) := hd 15 (by decide) _ rfl
        have h76 : z 76 = .bool true := hd 13 (by decide) _ rfl
        clear hd
        go_simp
        refine (RSame9_yes _ _ k k _ (hip5.grow hg) (hit5.grow hg) rfl).mono ?_
        rintro e w2 ⟨rfl, hg2⟩
        exact ⟨_, rfl, hp _ _ hg2 rfl⟩
      · -- 17: slot 80: Op.pick t76 t79 (const (Value.bool false))
        have h76 : z 76 = .bool true := hd 13 (by decide) _ rfl
        have h79 : z 79 = .bool true := hd 16 (by decide) _ rfl
        clear hd
        go_simp
        exact hp _ _ (Grow.refl _) rfl
      · -- 18: slot 81: Op.move t80
        have h80 : z 80 = .bool true := hd 17 (by decide) _ rfl
        clear hd
        go_simp
        exact hp _ _ (Grow.refl _) rfl
      · -- 19: slot 82: Op.load 26 t5
        have h81 : z 81 = .bool true := hd 18 (by decide) _ rfl
        clear hd
        obtain ⟨d0, d1, d2, d3, d4, d5, d6, d7, d8⟩ := hB5.grow hg
        go_simp
        exact hp _ _ (Grow.refl _) rfl
      · -- 20: slot 83: Op.load 26 t12
        have h81 : z 81 = .bool true := hd 18 (by decide) _ rfl
        clear hd
        obtain ⟨d0, d1, d2, d3, d4, d5, d6', d7, d8⟩ := hK5.grow hg
        go_simp
        exact hp _ _ (Grow.refl _) rfl
      · -- 21: slot 84: Op.call { value (Operand.func 18), args := #[t82, t83], argTypes := #[26, 26] }
        have h82 : z 82 = SgmV k (.slice A k.data.length c) := hd 19 (by decide) _ rfl
        have h83 : z 83 = SgmV k (.slice B6 m6 d6) := hd 20 (by decide) _ rfl
        have h81 : z 81 = .bool true := hd 18 (by decide) _ rfl
        clear hd
        go_simp
        refine (SSame_yes _ _ k k _ (hip5.grow hg) (hit5.grow hg) rfl).mono ?_
        rintro e w2 ⟨rfl, hg2⟩
        exact ⟨_, rfl, hp _ _ hg2 rfl⟩
      · -- 22: slot 85: Op.pick t81 t84 (const (Value.bool false))
        have h81 : z 81 = .bool true := hd 18 (by decide) _ rfl
        have h84 : z 84 = .bool true := hd 21 (by decide) _ rfl
        clear hd
        go_simp
        exact hp _ _ (Grow.refl _) rfl
      · -- 23: slot 86: Op.move t85
        have h85 : z 85 = .bool true := hd 22 (by decide) _ rfl
        clear hd
        go_simp
        exact hp _ _ (Grow.refl _) rfl
      · -- 24: slot 87: Op.call { value (Operand.func 8), args := #[], argTypes := #[] }
        have h86 : z 86 = .bool true := hd 23 (by decide) _ rfl
        clear hd
        go_simp
        refine (segLive_any _).mono ?_
        rintro e w2 ⟨rfl, hg2⟩
        exact ⟨_, rfl, hp _ _ hg2 rfl⟩
      · -- 25: slot 88: Op.pick t86 t87 (const (Value.bool false))
        have h86 : z 86 = .bool true := hd 23 (by decide) _ rfl
        have h87 : z 87 = .bool true := hd 24 (by decide) _ rfl
        clear hd
        go_simp
        exact hp _ _ (Grow.refl _) rfl
      · -- 26: slot 6: Op.assign t88
        have h88 : z 88 = .bool true := hd 25 (by decide) _ rfl
        clear hd
        go_simp
        exact hp _ _ (Grow.refl _) rfl
    · intro z z1 hg6 hd
      have h6 : z 6 = .bool true := hd 26 _ rfl
      clear hd
      go_wp2
      go_ret
      exact ⟨by go_simp, (hg03.trans hg45).trans hg6⟩

set_option maxHeartbeats 1000000 in
theorem segPuts_walk (w : World) (s : Int) (hs : 0 ≤ s ∧ s ≤ 4294967295) (d : Int) (hd : 0 ≤ d ∧ d ≤ 4294967295) {v : Value} {k : Sgm} (h : isSgm w v k) :
    Calls Try.prog 3 #[.int .u32 s, .int .u32 d, v] w fun e w' => e = .returned (.bool true) ∧ Grow w w' := by
  obtain ⟨s, rfl⟩ := Int.eq_ofNat_of_zero_le hs.1
  obtain ⟨d, rfl⟩ := Int.eq_ofNat_of_zero_le hd.1
  by_cases hL : 70000 < k.data.length
  · exact segPuts_much w s d (by omega) (by omega) h hL
  by_cases hc : k.check = 0
  · exact segPuts_good w s d (by omega) (by omega) h ((fine_iff k).1 hc)
  · exact segPuts_bad w s d (by omega) (by omega) h (by omega) hc
end Go.Proofs.Ytbhdpobmooncpaa
