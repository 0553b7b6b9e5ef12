/- What a message is about: Cause. -/
import Derived.Test.YtbnnacohkemnhaaIcmGet
namespace Go.Proofs.Ytbnnacohkemnhaa
set_option linter.unusedVariables false
set_option linter.unusedSimpArgs false
open Go.ChangeShapes Go.WideShapes Go.ChangeAt Go.RowKit

set_option maxHeartbeats 2000000 in
theorem icmCause_bad (v : Value) (k : Icm) (w : World) (h : isIcm w v k) (hs : k.data.length ≤ 1000000) (hc : ccode k ≠ 0) :
    Calls Try.prog 22 #[v] w fun e w' => e = .returned (.tuple #[ipV zeroP (.slice none 0 0) (.slice none 0 0), .int .i64 (ccode k)]) ∧ Grow w w' := by
  obtain ⟨A, c, rfl, hd, hk⟩ := h.form
  obtain ⟨W1, hW1⟩ : ∃ W1, W1 = (w.alloc (.cells #[.int .u8 (k.kind : Int), .int .u8 (k.code : Int), .int .u32 (k.rest : Int), .slice A k.data.length c] 25)).alloc (.cells #[.int .u8 0, .int .u16 0, .bool false, .bool false, .int .i64 0, .int .u8 0, .int .u8 0, .int .u32 0, .int .u32 0, .slice none 0 0, .slice none 0 0] 47) := ⟨_, rfl⟩
  have hs0 : W1.heap.size = w.heap.size + 2 := by rw [hW1]; simp
  have hg1 : Grow w W1 := by rw [hW1]; exact (Grow.alloc w _).trans (Grow.alloc _ _)
  have hB1 : Icmbox W1 w.heap.size k (.slice A k.data.length c) := by rw [hW1]; exact (Icmbox.new _ _ _).grow (Grow.alloc _ _)
  have hk1 : Blk W1 (w.heap.size + 1) zeroP (.slice none 0 0) (.slice none 0 0) := by
    have := Blk.new (w.alloc (.cells #[.int .u8 (k.kind : Int), .int .u8 (k.code : Int), .int .u32 (k.rest : Int), .slice A k.data.length c] 25)) zeroP (.slice none 0 0) (.slice none 0 0)
    rw [World.size_alloc] at this
    rw [hW1]
    exact this
  have hsz : w.heap.size ≤ w.heap.size + 1 := by omega
  have hip := h.grow hg1
  obtain ⟨b0, b1, b2, b3⟩ := id hB1
  have hm : (ccode k != 0) = true := by simpa using hc
  go_enter Try.func22, Try.ntmps22
  go_wp2_with fail
  rw [← hW1]
  refine (imeasure_any _ k _ hip hs).mono ?_
  rintro e w2 ⟨rfl, hg2⟩
  go_wp2_with (refine wpList_store_ip w w2 rfl _ _ rfl rfl (w.heap.size + 1) rfl zeroP zeroP (.slice none 0 0) (.slice none 0 0) (.slice none 0 0) (.slice none 0 0) rfl rfl rfl (hk1.grow hg2) (hg1.trans hg2) hsz ?_; intro w3 hk3 hbut hg3)
  refine bodyPost_ret (results_ip rfl _ w3 (w.heap.size + 1) _ _ _ rfl hk3) rfl ?_
  exact ⟨rfl, hg3⟩

set_option maxRecDepth 10000 in
set_option maxHeartbeats 8000000 in
theorem icmCause_good (v : Value) (k : Icm) (w : World) (h : isIcm w v k) (hs : k.data.length ≤ 1000000) (hc : ccode k = 0) :
    Calls Try.prog 22 #[v] w fun e w' => ∃ vo vd, e = .returned (.tuple #[ipV (cgot k.data) vo vd, .int .i64 0]) ∧ Own w' (w.heap.size + 2) vo (cgot k.data).opts ∧ Own w' (w.heap.size + 2) vd (cgot k.data).data ∧ Grow w w' := by
  obtain ⟨g1, g2, g3, g4, g5⟩ := (told_iff k).1 hc
  obtain ⟨A, c, rfl, hd, hk⟩ := h.form
  obtain ⟨hcl, hcm⟩ := hd.len.2
  obtain ⟨W1, hW1⟩ : ∃ W1, W1 = (w.alloc (.cells #[.int .u8 (k.kind : Int), .int .u8 (k.code : Int), .int .u32 (k.rest : Int), .slice A k.data.length c] 25)).alloc (.cells #[.int .u8 0, .int .u16 0, .bool false, .bool false, .int .i64 0, .int .u8 0, .int .u8 0, .int .u32 0, .int .u32 0, .slice none 0 0, .slice none 0 0] 47) := ⟨_, rfl⟩
  have hs0 : W1.heap.size = w.heap.size + 2 := by rw [hW1]; simp
  have hg1 : Grow w W1 := by rw [hW1]; exact (Grow.alloc w _).trans (Grow.alloc _ _)
  have hB1 : Icmbox W1 w.heap.size k (.slice A k.data.length c) := by rw [hW1]; exact (Icmbox.new _ _ _).grow (Grow.alloc _ _)
  have hk1 : Blk W1 (w.heap.size + 1) zeroP (.slice none 0 0) (.slice none 0 0) := by
    have := Blk.new (w.alloc (.cells #[.int .u8 (k.kind : Int), .int .u8 (k.code : Int), .int .u32 (k.rest : Int), .slice A k.data.length c] 25)) zeroP (.slice none 0 0) (.slice none 0 0)
    rw [World.size_alloc] at this
    rw [hW1]
    exact this
  have hsz : w.heap.size ≤ w.heap.size + 1 := by omega
  have hip := h.grow hg1
  have em1 : chead k = hdr k.data := by unfold chead; rw [if_pos hc]
  have gH1 : 20 ≤ hdr k.data := by unfold hdr; omega
  have gH2 : hdr k.data ≤ k.data.length := by omega
  have gH3 : hdr k.data ≤ hdr k.data + 8 := by omega
  have gH4 : hdr k.data + 8 ≤ k.data.length := g5
  have gH5 : hdr k.data ≤ 60 := by unfold hdr; omega
  have n4 := num_lt k.data 4
  have n6 := num_lt k.data 6
  have n12 := num_lt k.data 12
  have n14 := num_lt k.data 14
  have n16 := num_lt k.data 16
  have n18 := num_lt k.data 18
  have y1 := byt_lt k.data 1
  have y6 := byt_lt k.data 6
  have y7 := byt_lt k.data 7
  have y8 := byt_lt k.data 8
  have y9 := byt_lt k.data 9
  have K14 : bits .and .i64 (num k.data 6 : Int) 16384 = ((num k.data 6 / 16384 % 2 * 16384 : Nat) : Int) := and_pow _ 14 n6 (by omega)
  have K13 : bits .and .i64 (num k.data 6 : Int) 8192 = ((num k.data 6 / 8192 % 2 * 8192 : Nat) : Int) := and_pow _ 13 n6 (by omega)
  have K12 : bits .and .i64 (num k.data 6 : Int) 8191 = ((num k.data 6 % 8192 : Nat) : Int) := and_off _ n6
  have f14 : ((num k.data 6 : Int) / 16384 % 2 * 16384 != 0) = decide (byt k.data 6 / 64 % 2 = 1) := by
    have e6 : num k.data 6 = 256 * byt k.data 6 + byt k.data 7 := rfl
    rw [Bool.eq_iff_iff]
    simp only [bne_iff_ne, ne_eq, decide_eq_true_eq]
    omega
  have f13 : ((num k.data 6 : Int) / 8192 % 2 * 8192 != 0) = decide (byt k.data 6 / 32 % 2 = 1) := by
    have e6 : num k.data 6 = 256 * byt k.data 6 + byt k.data 7 := rfl
    rw [Bool.eq_iff_iff]
    simp only [bne_iff_ne, ne_eq, decide_eq_true_eq]
    omega
  have w25 : IntKind.u16.wrap (num k.data 4 : Int) = (num k.data 4 : Int) := by
    simp only [IntKind.wrap, IntKind.signed, IntKind.bits]
    simp
    omega
  have w53 : IntKind.i64.wrap ((hdr k.data : Int) + 8) = (hdr k.data : Int) + 8 := IntWalk.i64_in _ (by omega)
  have i2 : hdr k.data ≤ c := by omega
  have i3 : (20 : Int) ≤ (hdr k.data : Int) := by omega
  have i4 : hdr k.data + 8 ≤ c := by omega
  have i5 : (hdr k.data : Int) ≤ (hdr k.data : Int) + 8 := by omega
  have j1 : (0 : Int) ≤ (hdr k.data : Int) + 8 := by omega
  have j2 : (hdr k.data : Int) + 8 ≤ (c : Int) := by omega
  have j3 : ((hdr k.data : Int) + 8).toNat = hdr k.data + 8 := by omega
  have i1 : (1 : Int) < (k.data.length : Int) := by omega
  have i8 : (8 : Int) < (k.data.length : Int) := by omega
  have i9 : (9 : Int) < (k.data.length : Int) := by omega
  have g48 : lens [(k.data.take (hdr k.data)).drop 20] ≤ 281474976710656 := by simp [lens]; omega
  have g54 : lens [(k.data.take (hdr k.data + 8)).drop (hdr k.data)] ≤ 281474976710656 := by simp [lens]; omega
  obtain ⟨b, off, rfl, hb, hcell⟩ := hd.at_ (by omega)
  obtain ⟨b0, b1, b2, b3⟩ := id hB1
  go_enter Try.func22, Try.ntmps22
  go_wp2_with fail
  rw [← hW1]
  clear hW1
  refine (imeasure_any _ k _ hip hs).mono ?_
  rw [hc, em1]
  rintro e w2 ⟨rfl, hg2⟩
  have hB := hd.grow (hg1.trans hg2)
  clear b0 b1 b2 b3
  obtain ⟨b0, b1, b2, b3⟩ := hB1.grow hg2
  go_wp2_with fail
  refine (iget16_any _ 6 k.data _ hB (by omega) (by omega)).mono ?_
  rintro e w' ⟨rfl, rfl⟩
  have hlt : b < w2.heap.size := by have := (hg1.trans hg2).size; omega
  have cel : ∀ i, i < k.data.length → w2.cell? ⟨b, off + i, none⟩ = some (.int .u8 (byt k.data i : Int)) := fun i hi => by
    rw [(hg1.trans hg2).cell (p := ⟨b, off + i, none⟩) hb, hcell i hi, byt_at hi]
  have c1 := cel 1 (by omega)
  have c8 := cel 8 (by omega)
  have c9 := cel 9 (by omega)
  have hs2 := hg2.size
  clear b0 b1 b2 b3
  go_wp2_with fail
  refine wp_region_phase (A := ?frame6) (inList (isV (.slice (some ⟨b, off, none⟩) k.data.length c) :: isV (.pointer (some ⟨b, off + 1, none⟩)) :: isV (.int .u8 (byt k.data 1 : Int)) :: isV (.slice (some ⟨b, off, none⟩) k.data.length c) :: isV (.int .i64 (num k.data 4 : Nat)) :: isV (.int .u16 (num k.data 4 : Nat)) :: isV (.int .i64 (num k.data 6 : Nat)) :: isV (.int .i64 (num k.data 6 / 16384 % 2 * 16384 : Nat)) :: isV (.bool (decide (byt k.data 6 / 64 % 2 = 1))) :: isV (.int .i64 (num k.data 6 : Nat)) :: isV (.int .i64 (num k.data 6 / 8192 % 2 * 8192 : Nat)) :: isV (.bool (decide (byt k.data 6 / 32 % 2 = 1))) :: isV (.int .i64 (num k.data 6 : Nat)) :: isV (.int .i64 (num k.data 6 % 8192 : Nat)) :: isV (.slice (some ⟨b, off, none⟩) k.data.length c) :: isV (.pointer (some ⟨b, off + 8, none⟩)) :: isV (.int .u8 (byt k.data 8 : Int)) :: isV (.slice (some ⟨b, off, none⟩) k.data.length c) :: isV (.pointer (some ⟨b, off + 9, none⟩)) :: isV (.int .u8 (byt k.data 9 : Int)) :: isV (.slice (some ⟨b, off, none⟩) k.data.length c) :: isV (.int .u32 (65536 * num k.data 12 + num k.data 14 : Nat)) :: isV (.slice (some ⟨b, off, none⟩) k.data.length c) :: isV (.int .u32 (65536 * num k.data 16 + num k.data 18 : Nat)) :: isV (.slice (some ⟨b, off, none⟩) k.data.length c) :: isV (.int .i64 (hdr k.data : Nat)) :: isB ((k.data.take (hdr k.data)).drop 20) :: (isBs [(k.data.take (hdr k.data)).drop 20]) :: (isO (w.heap.size + 2) (cgot k.data).opts) :: isV (.slice (some ⟨b, off, none⟩) k.data.length c) :: isV (.int .i64 (hdr k.data : Nat)) :: isV (.int .i64 (hdr k.data : Nat)) :: isV (.int .i64 (hdr k.data + 8 : Nat)) :: isB ((k.data.take (hdr k.data + 8)).drop (hdr k.data)) :: (isBs [(k.data.take (hdr k.data + 8)).drop (hdr k.data)]) :: (isO (w.heap.size + 2) (cgot k.data).data) :: (isIp (w.heap.size + 2) (cgot k.data)) :: [])) 37 (by kernel_rfl) (by kernel_rfl) (by kernel_rfl) (inList_stays ?_) (fun x => ?frameEq6) ?_ ?_
  case frameEq6 => go_simp; rfl
  · intro f hf
    simp only [List.mem_cons, List.not_mem_nil, or_false] at hf
    rcases hf with rfl | rfl | rfl | rfl | rfl | rfl | rfl | rfl | rfl | rfl | rfl | rfl | rfl | rfl | rfl | rfl | rfl | rfl | rfl | rfl | rfl | rfl | rfl | rfl | rfl | rfl | rfl | rfl | rfl | rfl | rfl | rfl | rfl | rfl | rfl | rfl | rfl <;> first | exact isV_stays _ | exact isB_stays _ | exact isBs_stays _ | exact isO_stays _ | exact isIp_stays _
  · refine ⟨fun x w1 hg hd post hp => ?_, fun x w1 hg hd post hp => ?_, fun x w1 hg hd post hp => ?_, fun x w1 hg hd post hp => ?_, fun x w1 hg hd post hp => ?_, fun x w1 hg hd post hp => ?_, fun x w1 hg hd post hp => ?_, fun x w1 hg hd post hp => ?_, fun x w1 hg hd post hp => ?_, fun x w1 hg hd post hp => ?_, fun x w1 hg hd post hp => ?_, fun x w1 hg hd post hp => ?_, fun x w1 hg hd post hp => ?_, fun x w1 hg hd post hp => ?_, fun x w1 hg hd post hp => ?_, fun x w1 hg hd post hp => ?_, fun x w1 hg hd post hp => ?_, fun x w1 hg hd post hp => ?_, fun x w1 hg hd post hp => ?_, fun x w1 hg hd post hp => ?_, fun x w1 hg hd post hp => ?_, fun x w1 hg hd post hp => ?_, fun x w1 hg hd post hp => ?_, fun x w1 hg hd post hp => ?_, fun x w1 hg hd post hp => ?_, fun x w1 hg hd post hp => ?_, fun x w1 hg hd post hp => ?_, fun x w1 hg hd post hp => ?_, fun x w1 hg hd post hp => ?_, fun x w1 hg hd post hp => ?_, fun x w1 hg hd post hp => ?_, fun x w1 hg hd post hp => ?_, fun x w1 hg hd post hp => ?_, fun x w1 hg hd post hp => ?_, fun x w1 hg hd post hp => ?_, fun x w1 hg hd post hp => ?_, fun x w1 hg hd post hp => ?_, trivial⟩
    · -- 0: slot 21: Op.move t6
      clear hd
      go_simp
      exact hp _ _ (Grow.refl _) rfl
    · -- 1: slot 22: Op.indexAddr 23 t21 (const (1:i64))
      have h21 : x 21 = .slice (some ⟨b, off, none⟩) k.data.length c := hd 0 (by decide) _ rfl
      clear hd
      go_simp
      exact hp _ _ (Grow.refl _) rfl
    · -- 2: slot 23: Op.load 5 t22
      have h22 : x 22 = .pointer (some ⟨b, off + 1, none⟩) := hd 1 (by decide) _ rfl
      clear hd
      have q1 := (hg.cell (p := ⟨b, off + 1, none⟩) hlt).trans c1
      go_simp
      exact hp _ _ (Grow.refl _) rfl
    · -- 3: slot 24: Op.move t6
      clear hd
      go_simp
      exact hp _ _ (Grow.refl _) rfl
    · -- 4: slot 25: Op.call { value (Operand.func 41), args := #[t24, const (4:i64)], argTypes := #[
      have h24 : x 24 = .slice (some ⟨b, off, none⟩) k.data.length c := hd 3 (by decide) _ rfl
      clear hd
      go_simp
      refine (iget16_any _ 4 k.data _ (hB.grow hg) (by omega) (by omega)).mono ?_
      rintro e w2 ⟨rfl, rfl⟩
      exact ⟨_, rfl, hp _ _ (Grow.refl _) rfl⟩
    · -- 5: slot 26: Op.convert 3 39 t25
      have h25 : x 25 = .int .i64 (num k.data 4 : Nat) := hd 4 (by decide) _ rfl
      clear hd
      go_simp
      exact hp _ _ (Grow.refl _) rfl
    · -- 6: slot 27: Op.move t7
      clear hd
      go_simp
      exact hp _ _ (Grow.refl _) rfl
    · -- 7: slot 28: Op.binOp BinOp.and 3 t27 (const (16384:i64)) 3
      have h27 : x 27 = .int .i64 (num k.data 6 : Nat) := hd 6 (by decide) _ rfl
      clear hd
      go_simp
      exact hp _ _ (Grow.refl _) rfl
    · -- 8: slot 29: Op.binOp BinOp.neq 3 t28 (const (0:i64)) 3
      have h28 : x 28 = .int .i64 (num k.data 6 / 16384 % 2 * 16384 : Nat) := hd 7 (by decide) _ rfl
      clear hd
      go_simp
      exact hp _ _ (Grow.refl _) rfl
    · -- 9: slot 30: Op.move t7
      clear hd
      go_simp
      exact hp _ _ (Grow.refl _) rfl
    · -- 10: slot 31: Op.binOp BinOp.and 3 t30 (const (8192:i64)) 3
      have h30 : x 30 = .int .i64 (num k.data 6 : Nat) := hd 9 (by decide) _ rfl
      clear hd
      go_simp
      exact hp _ _ (Grow.refl _) rfl
    · -- 11: slot 32: Op.binOp BinOp.neq 3 t31 (const (0:i64)) 3
      have h31 : x 31 = .int .i64 (num k.data 6 / 8192 % 2 * 8192 : Nat) := hd 10 (by decide) _ rfl
      clear hd
      go_simp
      exact hp _ _ (Grow.refl _) rfl
    · -- 12: slot 33: Op.move t7
      clear hd
      go_simp
      exact hp _ _ (Grow.refl _) rfl
    · -- 13: slot 34: Op.binOp BinOp.and 3 t33 (const (8191:i64)) 3
      have h33 : x 33 = .int .i64 (num k.data 6 : Nat) := hd 12 (by decide) _ rfl
      clear hd
      go_simp
      exact hp _ _ (Grow.refl _) rfl
    · -- 14: slot 35: Op.move t6
      clear hd
      go_simp
      exact hp _ _ (Grow.refl _) rfl
    · -- 15: slot 36: Op.indexAddr 23 t35 (const (8:i64))
      have h35 : x 35 = .slice (some ⟨b, off, none⟩) k.data.length c := hd 14 (by decide) _ rfl
      clear hd
      go_simp
      exact hp _ _ (Grow.refl _) rfl
    · -- 16: slot 37: Op.load 5 t36
      have h36 : x 36 = .pointer (some ⟨b, off + 8, none⟩) := hd 15 (by decide) _ rfl
      clear hd
      have q1 := (hg.cell (p := ⟨b, off + 8, none⟩) hlt).trans c8
      go_simp
      exact hp _ _ (Grow.refl _) rfl
    · -- 17: slot 38: Op.move t6
      clear hd
      go_simp
      exact hp _ _ (Grow.refl _) rfl
    · -- 18: slot 39: Op.indexAddr 23 t38 (const (9:i64))
      have h38 : x 38 = .slice (some ⟨b, off, none⟩) k.data.length c := hd 17 (by decide) _ rfl
      clear hd
      go_simp
      exact hp _ _ (Grow.refl _) rfl
    · -- 19: slot 40: Op.load 5 t39
      have h39 : x 39 = .pointer (some ⟨b, off + 9, none⟩) := hd 18 (by decide) _ rfl
      clear hd
      have q1 := (hg.cell (p := ⟨b, off + 9, none⟩) hlt).trans c9
      go_simp
      exact hp _ _ (Grow.refl _) rfl
    · -- 20: slot 41: Op.move t6
      clear hd
      go_simp
      exact hp _ _ (Grow.refl _) rfl
    · -- 21: slot 42: Op.call { value (Operand.func 33), args := #[t41, const (12:i64)], argTypes := #
      have h41 : x 41 = .slice (some ⟨b, off, none⟩) k.data.length c := hd 20 (by decide) _ rfl
      clear hd
      go_simp
      refine (iget32_any _ 12 k.data _ (hB.grow hg) (by omega) (by omega)).mono ?_
      rintro e w2 ⟨rfl, rfl⟩
      exact ⟨_, rfl, hp _ _ (Grow.refl _) rfl⟩
    · -- 22: slot 43: Op.move t6
      clear hd
      go_simp
      exact hp _ _ (Grow.refl _) rfl
    · -- 23: slot 44: Op.call { value (Operand.func 33), args := #[t43, const (16:i64)], argTypes := #
      have h43 : x 43 = .slice (some ⟨b, off, none⟩) k.data.length c := hd 22 (by decide) _ rfl
      clear hd
      go_simp
      refine (iget32_any _ 16 k.data _ (hB.grow hg) (by omega) (by omega)).mono ?_
      rintro e w2 ⟨rfl, rfl⟩
      exact ⟨_, rfl, hp _ _ (Grow.refl _) rfl⟩
    · -- 24: slot 45: Op.move t6
      clear hd
      go_simp
      exact hp _ _ (Grow.refl _) rfl
    · -- 25: slot 46: Op.move t4
      clear hd
      go_simp
      exact hp _ _ (Grow.refl _) rfl
    · -- 26: slot 47: Op.slice 23 t45 (some (const (20:i64))) (some t46) none
      have h45 : x 45 = .slice (some ⟨b, off, none⟩) k.data.length c := hd 24 (by decide) _ rfl
      have h46 : x 46 = .int .i64 (hdr k.data : Nat) := hd 25 (by decide) _ rfl
      clear hd
      have q1 := cutAt2 (hB.grow hg) (lo := 20) (hi := hdr k.data) gH1 gH2
      go_simp
      exact hp _ _ (Grow.refl _) q1
    · -- 27: slot 48: Op.buildSlice 72 1 #[(0, t47)]
      have h47 : Byt w1 (x 47) ((k.data.take (hdr k.data)).drop 20) := hd 26 (by decide) _ rfl
      clear hd
      obtain ⟨A4, n4, c4, e4, _⟩ := h47.form2
      rw [e4] at h47
      go_simp
      exact hp _ _ (Grow.alloc _ _) (Byts.lit w1 #[.slice A4 n4 c4] _ [(k.data.take (hdr k.data)).drop 20] 1 rfl rfl (by simp [maxLen]) (byt_one h47))
    · -- 28: slot 49: Op.call { value (Operand.func 29), args := #[t48], argTypes := #[72] }
      have h48 : (isBs [(k.data.take (hdr k.data)).drop 20]) (x 48) w1 := hd 27 (by decide) _ rfl
      clear hd
      go_simp
      refine (Join_any _ _ _ h48 (by simp) g48).mono ?_
      rintro e w2 ⟨u, rfl, ho, hg2⟩
      have hz := hg.size
      have ho1 : Own w2 (w.heap.size + 2) u (cgot k.data).opts := Own.base (b := w1.heap.size) (by simpa [cgot] using ho) (by omega)
      exact ⟨_, rfl, hp _ _ hg2 ho1⟩
    · -- 29: slot 50: Op.move t6
      clear hd
      go_simp
      exact hp _ _ (Grow.refl _) rfl
    · -- 30: slot 51: Op.move t4
      clear hd
      go_simp
      exact hp _ _ (Grow.refl _) rfl
    · -- 31: slot 52: Op.move t4
      clear hd
      go_simp
      exact hp _ _ (Grow.refl _) rfl
    · -- 32: slot 53: Op.binOp BinOp.add 3 t52 (const (8:i64)) 3
      have h52 : x 52 = .int .i64 (hdr k.data : Nat) := hd 31 (by decide) _ rfl
      clear hd
      go_simp
      exact hp _ _ (Grow.refl _) rfl
    · -- 33: slot 54: Op.slice 23 t50 (some t51) (some t53) none
      have h50 : x 50 = .slice (some ⟨b, off, none⟩) k.data.length c := hd 29 (by decide) _ rfl
      have h51 : x 51 = .int .i64 (hdr k.data : Nat) := hd 30 (by decide) _ rfl
      have h53 : x 53 = .int .i64 (hdr k.data + 8 : Nat) := hd 32 (by decide) _ rfl
      clear hd
      have q1 := cutAt2 (hB.grow hg) (lo := hdr k.data) (hi := hdr k.data + 8) gH3 gH4
      rw [Nat.add_sub_cancel_left] at q1
      go_simp
      exact hp _ _ (Grow.refl _) q1
    · -- 34: slot 55: Op.buildSlice 72 1 #[(0, t54)]
      have h54 : Byt w1 (x 54) ((k.data.take (hdr k.data + 8)).drop (hdr k.data)) := hd 33 (by decide) _ rfl
      clear hd
      obtain ⟨A4, n4, c4, e4, _⟩ := h54.form2
      rw [e4] at h54
      go_simp
      exact hp _ _ (Grow.alloc _ _) (Byts.lit w1 #[.slice A4 n4 c4] _ [(k.data.take (hdr k.data + 8)).drop (hdr k.data)] 1 rfl rfl (by simp [maxLen]) (byt_one h54))
    · -- 35: slot 56: Op.call { value (Operand.func 29), args := #[t55], argTypes := #[72] }
      have h55 : (isBs [(k.data.take (hdr k.data + 8)).drop (hdr k.data)]) (x 55) w1 := hd 34 (by decide) _ rfl
      clear hd
      go_simp
      refine (Join_any _ _ _ h55 (by simp) g54).mono ?_
      rintro e w2 ⟨u, rfl, ho, hg2⟩
      have hz := hg.size
      have ho1 : Own w2 (w.heap.size + 2) u (cgot k.data).data := Own.base (b := w1.heap.size) (by simpa [cgot] using ho) (by omega)
      exact ⟨_, rfl, hp _ _ hg2 ho1⟩
    · -- 36: slot 57: Op.build 47 #[(0, t23), (1, t26), (2, t29), (3, t32), (4, t34), (5, t37), (6, t4
      have h23 : x 23 = .int .u8 (byt k.data 1 : Int) := hd 2 (by decide) _ rfl
      have h26 : x 26 = .int .u16 (num k.data 4 : Nat) := hd 5 (by decide) _ rfl
      have h29 : x 29 = .bool (decide (byt k.data 6 / 64 % 2 = 1)) := hd 8 (by decide) _ rfl
      have h32 : x 32 = .bool (decide (byt k.data 6 / 32 % 2 = 1)) := hd 11 (by decide) _ rfl
      have h34 : x 34 = .int .i64 (num k.data 6 % 8192 : Nat) := hd 13 (by decide) _ rfl
      have h37 : x 37 = .int .u8 (byt k.data 8 : Int) := hd 16 (by decide) _ rfl
      have h40 : x 40 = .int .u8 (byt k.data 9 : Int) := hd 19 (by decide) _ rfl
      have h42 : x 42 = .int .u32 (65536 * num k.data 12 + num k.data 14 : Nat) := hd 21 (by decide) _ rfl
      have h44 : x 44 = .int .u32 (65536 * num k.data 16 + num k.data 18 : Nat) := hd 23 (by decide) _ rfl
      have h49 : (isO (w.heap.size + 2) (cgot k.data).opts) (x 49) w1 := hd 28 (by decide) _ rfl
      have h56 : (isO (w.heap.size + 2) (cgot k.data).data) (x 56) w1 := hd 35 (by decide) _ rfl
      clear hd
      have p49 : Own w1 _ (x 49) _ := h49
      have p56 : Own w1 _ (x 56) _ := h56
      obtain ⟨A4, n4, d4, e4, _⟩ := p49.byt.form2
      obtain ⟨A5, n5, d5, e5, _⟩ := p56.byt.form2
      rw [e4] at p49
      rw [e5] at p56
      go_simp
      exact hp _ _ (Grow.refl _) ⟨_, _, rfl, p49, p56⟩
  · intro x w1 hg hd
    have h57 : (isIp (w.heap.size + 2) (cgot k.data)) (x 57) w1 := hd 36 _ (by decide) rfl
    clear hd
    obtain ⟨vo, vd, e57, hvo, hvd⟩ := h57
    simp only [List.drop_succ_cons, List.drop_zero]
    go_wp2_with (refine wpList_store_ip w w1 rfl _ _ rfl rfl (w.heap.size + 1) rfl (cgot k.data) zeroP vo vd (.slice none 0 0) (.slice none 0 0) e57 hvo.one hvd.one ((hk1.grow hg2).grow hg) ((hg1.trans hg2).trans hg) hsz ?_; intro w4 hk4 hbut hg4)
    refine bodyPost_ret (results_ip rfl _ w4 (w.heap.size + 1) _ _ _ rfl hk4) rfl ?_
    exact ⟨_, _, rfl, Own.but hvo hbut (by omega), Own.but hvd hbut (by omega), hg4⟩

theorem icmCause_any (v : Value) (k : Icm) (w : World) (h : isIcm w v k) (hs : k.data.length ≤ 1000000) :
    Calls Try.prog 22 #[v] w fun e w' => ∃ vo vd, e = .returned (.tuple #[ipV (cres k) vo vd, .int .i64 (ccode k)]) ∧ Own w' (w.heap.size + 2) vo (cres k).opts ∧ Own w' (w.heap.size + 2) vd (cres k).data ∧ Grow w w' := by
  unfold cres
  by_cases hc : ccode k = 0
  · rw [if_pos hc, hc]
    exact icmCause_good v k w h hs hc
  · rw [if_neg hc]
    refine (icmCause_bad v k w h hs hc).mono ?_
    rintro e w' ⟨rfl, hg⟩
    exact ⟨_, _, rfl, World.ownsRow_nil _ _ _ _, World.ownsRow_nil _ _ _ _, hg⟩
end Go.Proofs.Ytbnnacohkemnhaa
