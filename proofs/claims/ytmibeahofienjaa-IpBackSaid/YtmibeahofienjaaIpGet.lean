/- Bytes as a packet: Get. -/
import Derived.Test.YtmibeahofienjaaIpMeas
import Derived.Test.YtmibeahofienjaaIpBlk
namespace Go.Proofs.Ytmibeahofienjaa
set_option linter.unusedVariables false
set_option linter.unusedSimpArgs false
open Go.ChangeShapes Go.WideShapes Go.ChangeAt Go.RowKit

set_option maxHeartbeats 2000000 in
theorem Get_bad (v : Value) (l : List UInt8) (w : World) (h : Byt w v l) (hl : l.length ≤ 1000000) (hc : mcode l ≠ 0) :
    Calls Try.prog 17 #[v] w fun e w' => e = .returned (.tuple #[ipV zeroP (.slice none 0 0) (.slice none 0 0), .int .i64 (mcode l)]) ∧ Grow w w' := by
  obtain ⟨A, c, rfl, hcl, hcm⟩ := h.form
  obtain ⟨W1, hW1⟩ : ∃ W1, W1 = w.alloc (.cells #[.int .u8 0, .int .u16 0, .bool false, .bool false, .int .i64 0, .int .u8 0, .int .u8 0, .int .u32 0, .int .u32 0, .slice none 0 0, .slice none 0 0] 27) := ⟨_, rfl⟩
  have hs0 : W1.heap.size = w.heap.size + 1 := by rw [hW1]; simp
  have hg1 : Grow w W1 := by rw [hW1]; exact Grow.alloc w _
  have hh1 : W1.heap[w.heap.size]? = some (.cells #[.int .u8 0, .int .u16 0, .bool false, .bool false, .int .i64 0, .int .u8 0, .int .u8 0, .int .u32 0, .int .u32 0, .slice none 0 0, .slice none 0 0] 27 (0, 0)) := by rw [hW1]; exact heap_alloc_new _ _
  go_enter Try.func17, Try.ntmps17
  go_wp2_with fail
  rw [← hW1]
  refine (measure_any _ l _ (h.grow hg1) hl).mono ?_
  rintro e w2 ⟨rfl, hg2⟩
  have hm : (mcode l != 0) = true := by simpa using hc
  have hk1 : Blk W1 w.heap.size zeroP (.slice none 0 0) (.slice none 0 0) := hh1
  go_wp2_with (refine wpList_store_ip w w2 rfl _ _ rfl rfl w.heap.size rfl zeroP zeroP (.slice none 0 0) (.slice none 0 0) (.slice none 0 0) (.slice none 0 0) rfl rfl rfl (hk1.grow hg2) (hg1.trans hg2) (Nat.le_refl _) ?_; intro w3 hk3 hbut hg3)
  refine bodyPost_ret (results_ip rfl _ w3 w.heap.size _ _ _ rfl hk3) rfl ?_
  exact ⟨rfl, hg3⟩

theorem cutAt2 {w : World} {b off n c lo hi : Nat} {l : List UInt8} (h : Byt w (.slice (some ⟨b, off, none⟩) n c) l) (h1 : lo ≤ hi) (h2 : hi ≤ n) :
    Byt w (.slice (if c = lo then some ⟨b, off, none⟩ else some ⟨b, off + lo, none⟩) (hi - lo) (c - lo)) ((l.take hi).drop lo) := by
  have := h.cut h1 h2
  rwa [Option.map_some, add_at] at this
def isIp (b : Nat) (k : Pkt) (v : Value) (w : World) : Prop := ∃ vo vd, v = ipV k vo vd ∧ Own w b vo k.opts ∧ Own w b vd k.data
theorem isIp_stays {b : Nat} (k : Pkt) : stays (isIp b k) := fun _ _ _ hg h => by
  obtain ⟨vo, vd, e, h1, h2⟩ := h
  exact ⟨vo, vd, e, h1.grow hg, h2.grow hg⟩

set_option maxRecDepth 10000 in
set_option maxHeartbeats 8000000 in
theorem Get_good (v : Value) (l : List UInt8) (w : World) (h : Byt w v l) (hl : l.length ≤ 1000000) (hc : mcode l = 0) :
    Calls Try.prog 17 #[v] w fun e w' => ∃ vo vd, e = .returned (.tuple #[ipV (got l) vo vd, .int .i64 0]) ∧ Own w' (w.heap.size + 1) vo (got l).opts ∧ Own w' (w.heap.size + 1) vd (got l).data ∧ Grow w w' := by
  obtain ⟨g1, g2, g3, g4, g5, g6, g7, g8⟩ := (good_iff l).1 hc
  obtain ⟨A, c, rfl, hcl, hcm⟩ := h.form
  obtain ⟨b, off, rfl, hb, hcell⟩ := h.at_ (by omega)
  obtain ⟨W1, hW1⟩ : ∃ W1, W1 = w.alloc (.cells #[.int .u8 0, .int .u16 0, .bool false, .bool false, .int .i64 0, .int .u8 0, .int .u8 0, .int .u32 0, .int .u32 0, .slice none 0 0, .slice none 0 0] 27) := ⟨_, rfl⟩
  have hs0 : W1.heap.size = w.heap.size + 1 := by rw [hW1]; simp
  have hg1 : Grow w W1 := by rw [hW1]; exact Grow.alloc w _
  have hh1 : W1.heap[w.heap.size]? = some (.cells #[.int .u8 0, .int .u16 0, .bool false, .bool false, .int .i64 0, .int .u8 0, .int .u8 0, .int .u32 0, .int .u32 0, .slice none 0 0, .slice none 0 0] 27 (0, 0)) := by rw [hW1]; exact heap_alloc_new _ _
  have hk1 : Blk W1 w.heap.size zeroP (.slice none 0 0) (.slice none 0 0) := hh1
  have em1 : mhead l = hdr l := by unfold mhead; rw [if_pos hc]
  have em2 : mall l = num l 2 := by unfold mall; rw [if_pos hc]
  have gH1 : 20 ≤ hdr l := by unfold hdr; omega
  have gH2 : hdr l ≤ l.length := g4
  have gH3 : hdr l ≤ num l 2 := g6
  have gH4 : num l 2 ≤ l.length := g8
  have gH5 : hdr l ≤ 60 := by unfold hdr; omega
  have n2 := num_lt l 2
  have n4 := num_lt l 4
  have n6 := num_lt l 6
  have n12 := num_lt l 12
  have n14 := num_lt l 14
  have n16 := num_lt l 16
  have n18 := num_lt l 18
  have y1 := byt_lt l 1
  have y6 := byt_lt l 6
  have y7 := byt_lt l 7
  have y8 := byt_lt l 8
  have y9 := byt_lt l 9
  have K14 : bits .and .i64 (num l 6 : Int) 16384 = ((num l 6 / 16384 % 2 * 16384 : Nat) : Int) := and_pow _ 14 n6 (by omega)
  have K13 : bits .and .i64 (num l 6 : Int) 8192 = ((num l 6 / 8192 % 2 * 8192 : Nat) : Int) := and_pow _ 13 n6 (by omega)
  have K12 : bits .and .i64 (num l 6 : Int) 8191 = ((num l 6 % 8192 : Nat) : Int) := and_off _ n6
  have f14 : ((num l 6 : Int) / 16384 % 2 * 16384 != 0) = decide (byt l 6 / 64 % 2 = 1) := by
    have e6 : num l 6 = 256 * byt l 6 + byt l 7 := rfl
    rw [Bool.eq_iff_iff]
    simp only [bne_iff_ne, ne_eq, decide_eq_true_eq]
    omega
  have f13 : ((num l 6 : Int) / 8192 % 2 * 8192 != 0) = decide (byt l 6 / 32 % 2 = 1) := by
    have e6 : num l 6 = 256 * byt l 6 + byt l 7 := rfl
    rw [Bool.eq_iff_iff]
    simp only [bne_iff_ne, ne_eq, decide_eq_true_eq]
    omega
  have w25 : IntKind.u16.wrap (num l 4 : Int) = (num l 4 : Int) := by
    simp only [IntKind.wrap, IntKind.signed, IntKind.bits]
    simp
    omega
  have i2 : hdr l ≤ c := by omega
  have i3 : (20 : Int) ≤ (hdr l : Int) := by omega
  have i4 : num l 2 ≤ c := by omega
  have i5 : (hdr l : Int) ≤ (num l 2 : Int) := by omega
  have i1 : (1 : Int) < (l.length : Int) := by omega
  have i8 : (8 : Int) < (l.length : Int) := by omega
  have i9 : (9 : Int) < (l.length : Int) := by omega
  have g48 : lens [(l.take (hdr l)).drop 20] ≤ 281474976710656 := by simp [lens]; omega
  have g54 : lens [(l.take (num l 2)).drop (hdr l)] ≤ 281474976710656 := by simp [lens]; omega
  go_enter Try.func17, Try.ntmps17
  go_wp2_with fail
  rw [← hW1]
  refine (measure_any _ l _ (h.grow hg1) hl).mono ?_
  rw [hc, em1, em2]
  rintro e w2 ⟨rfl, hg2⟩
  have hB := h.grow (hg1.trans hg2)
  go_wp2_with fail
  refine (get16_any _ 6 l _ hB (by omega) (by omega)).mono ?_
  rintro e w' ⟨rfl, rfl⟩
  have hlt : b < w2.heap.size := by have := (hg1.trans hg2).size; omega
  have cel : ∀ i, i < l.length → w2.cell? ⟨b, off + i, none⟩ = some (.int .u8 (byt l i : Int)) := fun i hi => by
    rw [(hg1.trans hg2).cell (p := ⟨b, off + i, none⟩) hb, hcell i hi, byt_at hi]
  have c1 := cel 1 (by omega)
  have c8 := cel 8 (by omega)
  have c9 := cel 9 (by omega)
  have hs2 := hg2.size
  go_wp2_with fail
  refine wp_region_phase (A := ?frame) (inList (isV (.slice (some ⟨b, off, none⟩) l.length c) :: isV (.pointer (some ⟨b, off + 1, none⟩)) :: isV (.int .u8 (byt l 1 : Int)) :: isV (.slice (some ⟨b, off, none⟩) l.length c) :: isV (.int .i64 (num l 4 : Nat)) :: isV (.int .u16 (num l 4 : Nat)) :: isV (.int .i64 (num l 6 : Nat)) :: isV (.int .i64 (num l 6 / 16384 % 2 * 16384 : Nat)) :: isV (.bool (decide (byt l 6 / 64 % 2 = 1))) :: isV (.int .i64 (num l 6 : Nat)) :: isV (.int .i64 (num l 6 / 8192 % 2 * 8192 : Nat)) :: isV (.bool (decide (byt l 6 / 32 % 2 = 1))) :: isV (.int .i64 (num l 6 : Nat)) :: isV (.int .i64 (num l 6 % 8192 : Nat)) :: isV (.slice (some ⟨b, off, none⟩) l.length c) :: isV (.pointer (some ⟨b, off + 8, none⟩)) :: isV (.int .u8 (byt l 8 : Int)) :: isV (.slice (some ⟨b, off, none⟩) l.length c) :: isV (.pointer (some ⟨b, off + 9, none⟩)) :: isV (.int .u8 (byt l 9 : Int)) :: isV (.slice (some ⟨b, off, none⟩) l.length c) :: isV (.int .u32 (65536 * num l 12 + num l 14 : Nat)) :: isV (.slice (some ⟨b, off, none⟩) l.length c) :: isV (.int .u32 (65536 * num l 16 + num l 18 : Nat)) :: isV (.slice (some ⟨b, off, none⟩) l.length c) :: isV (.int .i64 (hdr l : Nat)) :: isB ((l.take (hdr l)).drop 20) :: (isBs [(l.take (hdr l)).drop 20]) :: (isO (w.heap.size + 1) (got l).opts) :: isV (.slice (some ⟨b, off, none⟩) l.length c) :: isV (.int .i64 (hdr l : Nat)) :: isV (.int .i64 (num l 2 : Nat)) :: isB ((l.take (num l 2)).drop (hdr l)) :: (isBs [(l.take (num l 2)).drop (hdr l)]) :: (isO (w.heap.size + 1) (got l).data) :: (isIp (w.heap.size + 1) (got l)) :: [])) 36 (by kernel_rfl) (by kernel_rfl) (by kernel_rfl) (inList_stays ?_) (fun x => ?frameEq) ?_ ?_
  case frameEq => go_simp; rfl
  · intro f hf
    simp only [List.mem_cons, List.not_mem_nil, or_false] at hf
    rcases hf with rfl | rfl | rfl | rfl | rfl | rfl | rfl | rfl | rfl | rfl | rfl | rfl | rfl | rfl | rfl | rfl | rfl | rfl | rfl | rfl | rfl | rfl | rfl | rfl | rfl | rfl | rfl | rfl | rfl | rfl | rfl | rfl | rfl | rfl | rfl | rfl <;> first | exact isV_stays _ | exact isB_stays _ | exact isBs_stays _ | exact isO_stays _ | exact isIp_stays _
  · refine ⟨fun x w1 hg hd post hp => ?_, fun x w1 hg hd post hp => ?_, fun x w1 hg hd post hp => ?_, fun x w1 hg hd post hp => ?_, fun x w1 hg hd post hp => ?_, fun x w1 hg hd post hp => ?_, fun x w1 hg hd post hp => ?_, fun x w1 hg hd post hp => ?_, fun x w1 hg hd post hp => ?_, fun x w1 hg hd post hp => ?_, fun x w1 hg hd post hp => ?_, fun x w1 hg hd post hp => ?_, fun x w1 hg hd post hp => ?_, fun x w1 hg hd post hp => ?_, fun x w1 hg hd post hp => ?_, fun x w1 hg hd post hp => ?_, fun x w1 hg hd post hp => ?_, fun x w1 hg hd post hp => ?_, fun x w1 hg hd post hp => ?_, fun x w1 hg hd post hp => ?_, fun x w1 hg hd post hp => ?_, fun x w1 hg hd post hp => ?_, fun x w1 hg hd post hp => ?_, fun x w1 hg hd post hp => ?_, fun x w1 hg hd post hp => ?_, fun x w1 hg hd post hp => ?_, fun x w1 hg hd post hp => ?_, fun x w1 hg hd post hp => ?_, fun x w1 hg hd post hp => ?_, fun x w1 hg hd post hp => ?_, fun x w1 hg hd post hp => ?_, fun x w1 hg hd post hp => ?_, fun x w1 hg hd post hp => ?_, fun x w1 hg hd post hp => ?_, fun x w1 hg hd post hp => ?_, fun x w1 hg hd post hp => ?_, trivial⟩
    · -- 0: slot 20: Op.move t0
      clear hd
      go_simp
      exact hp _ _ (Grow.refl _) rfl
    · -- 1: slot 21: Op.indexAddr 25 t20 (const (1:i64))
      have h20 : x 20 = .slice (some ⟨b, off, none⟩) l.length c := hd 0 (by decide) _ rfl
      clear hd
      go_simp
      exact hp _ _ (Grow.refl _) rfl
    · -- 2: slot 22: Op.load 5 t21
      have h21 : x 21 = .pointer (some ⟨b, off + 1, none⟩) := hd 1 (by decide) _ rfl
      clear hd
      have q1 := (hg.cell (p := ⟨b, off + 1, none⟩) hlt).trans c1
      go_simp
      exact hp _ _ (Grow.refl _) rfl
    · -- 3: slot 23: Op.move t0
      clear hd
      go_simp
      exact hp _ _ (Grow.refl _) rfl
    · -- 4: slot 24: Op.call { value (Operand.func 29), args := #[t23, const (4:i64)], argTypes := #[
      have h23 : x 23 = .slice (some ⟨b, off, none⟩) l.length c := hd 3 (by decide) _ rfl
      clear hd
      go_simp
      refine (get16_any _ 4 l _ (hB.grow hg) (by omega) (by omega)).mono ?_
      rintro e w2 ⟨rfl, rfl⟩
      exact ⟨_, rfl, hp _ _ (Grow.refl _) rfl⟩
    · -- 5: slot 25: Op.convert 3 22 t24
      have h24 : x 24 = .int .i64 (num l 4 : Nat) := hd 4 (by decide) _ rfl
      clear hd
      go_simp
      exact hp _ _ (Grow.refl _) rfl
    · -- 6: slot 26: Op.move t7
      clear hd
      go_simp
      exact hp _ _ (Grow.refl _) rfl
    · -- 7: slot 27: Op.binOp BinOp.and 3 t26 (const (16384:i64)) 3
      have h26 : x 26 = .int .i64 (num l 6 : Nat) := hd 6 (by decide) _ rfl
      clear hd
      go_simp
      exact hp _ _ (Grow.refl _) rfl
    · -- 8: slot 28: Op.binOp BinOp.neq 3 t27 (const (0:i64)) 3
      have h27 : x 27 = .int .i64 (num l 6 / 16384 % 2 * 16384 : Nat) := hd 7 (by decide) _ rfl
      clear hd
      go_simp
      exact hp _ _ (Grow.refl _) rfl
    · -- 9: slot 29: Op.move t7
      clear hd
      go_simp
      exact hp _ _ (Grow.refl _) rfl
    · -- 10: slot 30: Op.binOp BinOp.and 3 t29 (const (8192:i64)) 3
      have h29 : x 29 = .int .i64 (num l 6 : Nat) := hd 9 (by decide) _ rfl
      clear hd
      go_simp
      exact hp _ _ (Grow.refl _) rfl
    · -- 11: slot 31: Op.binOp BinOp.neq 3 t30 (const (0:i64)) 3
      have h30 : x 30 = .int .i64 (num l 6 / 8192 % 2 * 8192 : Nat) := hd 10 (by decide) _ rfl
      clear hd
      go_simp
      exact hp _ _ (Grow.refl _) rfl
    · -- 12: slot 32: Op.move t7
      clear hd
      go_simp
      exact hp _ _ (Grow.refl _) rfl
    · -- 13: slot 33: Op.binOp BinOp.and 3 t32 (const (8191:i64)) 3
      have h32 : x 32 = .int .i64 (num l 6 : Nat) := hd 12 (by decide) _ rfl
      clear hd
      go_simp
      exact hp _ _ (Grow.refl _) rfl
    · -- 14: slot 34: Op.move t0
      clear hd
      go_simp
      exact hp _ _ (Grow.refl _) rfl
    · -- 15: slot 35: Op.indexAddr 25 t34 (const (8:i64))
      have h34 : x 34 = .slice (some ⟨b, off, none⟩) l.length c := hd 14 (by decide) _ rfl
      clear hd
      go_simp
      exact hp _ _ (Grow.refl _) rfl
    · -- 16: slot 36: Op.load 5 t35
      have h35 : x 35 = .pointer (some ⟨b, off + 8, none⟩) := hd 15 (by decide) _ rfl
      clear hd
      have q1 := (hg.cell (p := ⟨b, off + 8, none⟩) hlt).trans c8
      go_simp
      exact hp _ _ (Grow.refl _) rfl
    · -- 17: slot 37: Op.move t0
      clear hd
      go_simp
      exact hp _ _ (Grow.refl _) rfl
    · -- 18: slot 38: Op.indexAddr 25 t37 (const (9:i64))
      have h37 : x 37 = .slice (some ⟨b, off, none⟩) l.length c := hd 17 (by decide) _ rfl
      clear hd
      go_simp
      exact hp _ _ (Grow.refl _) rfl
    · -- 19: slot 39: Op.load 5 t38
      have h38 : x 38 = .pointer (some ⟨b, off + 9, none⟩) := hd 18 (by decide) _ rfl
      clear hd
      have q1 := (hg.cell (p := ⟨b, off + 9, none⟩) hlt).trans c9
      go_simp
      exact hp _ _ (Grow.refl _) rfl
    · -- 20: slot 40: Op.move t0
      clear hd
      go_simp
      exact hp _ _ (Grow.refl _) rfl
    · -- 21: slot 41: Op.call { value (Operand.func 30), args := #[t40, const (12:i64)], argTypes := #
      have h40 : x 40 = .slice (some ⟨b, off, none⟩) l.length c := hd 20 (by decide) _ rfl
      clear hd
      go_simp
      refine (getAddr_any _ 12 l _ (hB.grow hg) (by omega) (by omega)).mono ?_
      rintro e w2 ⟨rfl, rfl⟩
      exact ⟨_, rfl, hp _ _ (Grow.refl _) rfl⟩
    · -- 22: slot 42: Op.move t0
      clear hd
      go_simp
      exact hp _ _ (Grow.refl _) rfl
    · -- 23: slot 43: Op.call { value (Operand.func 30), args := #[t42, const (16:i64)], argTypes := #
      have h42 : x 42 = .slice (some ⟨b, off, none⟩) l.length c := hd 22 (by decide) _ rfl
      clear hd
      go_simp
      refine (getAddr_any _ 16 l _ (hB.grow hg) (by omega) (by omega)).mono ?_
      rintro e w2 ⟨rfl, rfl⟩
      exact ⟨_, rfl, hp _ _ (Grow.refl _) rfl⟩
    · -- 24: slot 44: Op.move t0
      clear hd
      go_simp
      exact hp _ _ (Grow.refl _) rfl
    · -- 25: slot 45: Op.move t4
      clear hd
      go_simp
      exact hp _ _ (Grow.refl _) rfl
    · -- 26: slot 46: Op.slice 25 t44 (some (const (20:i64))) (some t45) none
      have h44 : x 44 = .slice (some ⟨b, off, none⟩) l.length c := hd 24 (by decide) _ rfl
      have h45 : x 45 = .int .i64 (hdr l : Nat) := hd 25 (by decide) _ rfl
      clear hd
      have q1 := cutAt2 (hB.grow hg) (lo := 20) (hi := hdr l) gH1 gH2
      go_simp
      exact hp _ _ (Grow.refl _) q1
    · -- 27: slot 47: Op.buildSlice 61 1 #[(0, t46)]
      have h46 : Byt w1 (x 46) ((l.take (hdr l)).drop 20) := hd 26 (by decide) _ rfl
      clear hd
      obtain ⟨A4, n4, c4, e4, _⟩ := h46.form2
      rw [e4] at h46
      go_simp
      exact hp _ _ (Grow.alloc _ _) (Byts.lit w1 #[.slice A4 n4 c4] _ [(l.take (hdr l)).drop 20] 1 rfl rfl (by simp [maxLen]) (byt_one h46))
    · -- 28: slot 48: Op.call { value (Operand.func 27), args := #[t47], argTypes := #[61] }
      have h47 : (isBs [(l.take (hdr l)).drop 20]) (x 47) w1 := hd 27 (by decide) _ rfl
      clear hd
      go_simp
      refine (Join_any _ _ _ h47 (by simp) g48).mono ?_
      rintro e w2 ⟨u, rfl, ho, hg2⟩
      have hz := hg.size
      have ho1 : Own w2 (w.heap.size + 1) u (got l).opts := Own.base (b := w1.heap.size) (by simpa [got] using ho) (by omega)
      exact ⟨_, rfl, hp _ _ hg2 ho1⟩
    · -- 29: slot 49: Op.move t0
      clear hd
      go_simp
      exact hp _ _ (Grow.refl _) rfl
    · -- 30: slot 50: Op.move t4
      clear hd
      go_simp
      exact hp _ _ (Grow.refl _) rfl
    · -- 31: slot 51: Op.move t5
      clear hd
      go_simp
      exact hp _ _ (Grow.refl _) rfl
    · -- 32: slot 52: Op.slice 25 t49 (some t50) (some t51) none
      have h49 : x 49 = .slice (some ⟨b, off, none⟩) l.length c := hd 29 (by decide) _ rfl
      have h50 : x 50 = .int .i64 (hdr l : Nat) := hd 30 (by decide) _ rfl
      have h51 : x 51 = .int .i64 (num l 2 : Nat) := hd 31 (by decide) _ rfl
      clear hd
      have q1 := cutAt2 (hB.grow hg) (lo := hdr l) (hi := num l 2) gH3 gH4
      go_simp
      exact hp _ _ (Grow.refl _) q1
    · -- 33: slot 53: Op.buildSlice 61 1 #[(0, t52)]
      have h52 : Byt w1 (x 52) ((l.take (num l 2)).drop (hdr l)) := hd 32 (by decide) _ rfl
      clear hd
      obtain ⟨A4, n4, c4, e4, _⟩ := h52.form2
      rw [e4] at h52
      go_simp
      exact hp _ _ (Grow.alloc _ _) (Byts.lit w1 #[.slice A4 n4 c4] _ [(l.take (num l 2)).drop (hdr l)] 1 rfl rfl (by simp [maxLen]) (byt_one h52))
    · -- 34: slot 54: Op.call { value (Operand.func 27), args := #[t53], argTypes := #[61] }
      have h53 : (isBs [(l.take (num l 2)).drop (hdr l)]) (x 53) w1 := hd 33 (by decide) _ rfl
      clear hd
      go_simp
      refine (Join_any _ _ _ h53 (by simp) g54).mono ?_
      rintro e w2 ⟨u, rfl, ho, hg2⟩
      have hz := hg.size
      have ho1 : Own w2 (w.heap.size + 1) u (got l).data := Own.base (b := w1.heap.size) (by simpa [got] using ho) (by omega)
      exact ⟨_, rfl, hp _ _ hg2 ho1⟩
    · -- 35: slot 55: Op.build 27 #[(0, t22), (1, t25), (2, t28), (3, t31), (4, t33), (5, t36), (6, t3
      have h22 : x 22 = .int .u8 (byt l 1 : Int) := hd 2 (by decide) _ rfl
      have h25 : x 25 = .int .u16 (num l 4 : Nat) := hd 5 (by decide) _ rfl
      have h28 : x 28 = .bool (decide (byt l 6 / 64 % 2 = 1)) := hd 8 (by decide) _ rfl
      have h31 : x 31 = .bool (decide (byt l 6 / 32 % 2 = 1)) := hd 11 (by decide) _ rfl
      have h33 : x 33 = .int .i64 (num l 6 % 8192 : Nat) := hd 13 (by decide) _ rfl
      have h36 : x 36 = .int .u8 (byt l 8 : Int) := hd 16 (by decide) _ rfl
      have h39 : x 39 = .int .u8 (byt l 9 : Int) := hd 19 (by decide) _ rfl
      have h41 : x 41 = .int .u32 (65536 * num l 12 + num l 14 : Nat) := hd 21 (by decide) _ rfl
      have h43 : x 43 = .int .u32 (65536 * num l 16 + num l 18 : Nat) := hd 23 (by decide) _ rfl
      have h48 : (isO (w.heap.size + 1) (got l).opts) (x 48) w1 := hd 28 (by decide) _ rfl
      have h54 : (isO (w.heap.size + 1) (got l).data) (x 54) w1 := hd 34 (by decide) _ rfl
      clear hd
      have p48 : Own w1 _ (x 48) _ := h48
      have p54 : Own w1 _ (x 54) _ := h54
      obtain ⟨A4, n4, d4, e4, _⟩ := p48.byt.form2
      obtain ⟨A5, n5, d5, e5, _⟩ := p54.byt.form2
      rw [e4] at p48
      rw [e5] at p54
      go_simp
      exact hp _ _ (Grow.refl _) ⟨_, _, rfl, p48, p54⟩
  · intro x w1 hg hd
    have h55 : (isIp (w.heap.size + 1) (got l)) (x 55) w1 := hd 35 _ (by decide) rfl
    clear hd
    obtain ⟨vo, vd, e55, hvo, hvd⟩ := h55
    simp only [List.drop_succ_cons, List.drop_zero]
    go_wp2_with (refine wpList_store_ip w w1 rfl _ _ rfl rfl w.heap.size rfl (got l) zeroP vo vd (.slice none 0 0) (.slice none 0 0) e55 hvo.one hvd.one ((hk1.grow hg2).grow hg) ((hg1.trans hg2).trans hg) (Nat.le_refl _) ?_; intro w4 hk4 hbut hg4)
    refine bodyPost_ret (results_ip rfl _ w4 w.heap.size _ _ _ rfl hk4) rfl ?_
    exact ⟨_, _, rfl, Own.but hvo hbut (by omega), Own.but hvd hbut (by omega), hg4⟩

theorem Get_any (v : Value) (l : List UInt8) (w : World) (h : Byt w v l) (hl : l.length ≤ 1000000) :
    Calls Try.prog 17 #[v] w fun e w' => ∃ vo vd, e = .returned (.tuple #[ipV (res l) vo vd, .int .i64 (mcode l)]) ∧ Own w' (w.heap.size + 1) vo (res l).opts ∧ Own w' (w.heap.size + 1) vd (res l).data ∧ Grow w w' := by
  unfold res
  by_cases hc : mcode l = 0
  · rw [if_pos hc, hc]
    exact Get_good v l w h hl hc
  · rw [if_neg hc]
    refine (Get_bad v l w h hl hc).mono ?_
    rintro e w' ⟨rfl, hg⟩
    exact ⟨_, _, rfl, World.ownsRow_nil _ _ _ _, World.ownsRow_nil _ _ _ _, hg⟩
end Go.Proofs.Ytmibeahofienjaa
