/- Bytes as a message: Get. -/
import Derived.Test.YtbnnacohkemnhaaIcm
namespace Go.Proofs.Ytbnnacohkemnhaa
set_option linter.unusedVariables false
set_option linter.unusedSimpArgs false
open Go.ChangeShapes Go.WideShapes Go.ChangeAt Go.RowKit

theorem dropAt {w : World} {b off n c lo : Nat} {l : List UInt8} (h : Byt w (.slice (some ⟨b, off, none⟩) n c) l) (h1 : lo ≤ n) :
    Byt w (.slice (if c = lo then some ⟨b, off, none⟩ else some ⟨b, off + lo, none⟩) (n - lo) (c - lo)) (l.drop lo) := by
  have := cutAt2 h h1 (Nat.le_refl _)
  rwa [h.len.1, List.take_length, ← h.len.1] at this
def isIcmO (b : Nat) (k : Icm) (v : Value) (w : World) : Prop := ∃ vd, v = IcmV k vd ∧ Own w b vd k.data
theorem isIcmO_stays {b : Nat} (k : Icm) : stays (isIcmO b k) := fun _ _ _ hg h => by
  obtain ⟨vd, e, h1⟩ := h
  exact ⟨vd, e, h1.grow hg⟩

set_option maxHeartbeats 2000000 in
theorem icmGet_bad (v : Value) (l : List UInt8) (w : World) (h : Byt w v l) (hl : l.length ≤ 1000000) (hc : icode l ≠ 0) :
    Calls Try.prog 12 #[v] w fun e w' => e = .returned (.tuple #[IcmV zeroM (.slice none 0 0), .int .i64 (icode l)]) ∧ Grow w w' := by
  obtain ⟨A, c, rfl, hcl, hcm⟩ := h.form
  obtain ⟨W1, hW1⟩ : ∃ W1, W1 = w.alloc (.cells #[.int .u8 0, .int .u8 0, .int .u32 0, .slice none 0 0] 25) := ⟨_, rfl⟩
  have hg1 : Grow w W1 := by rw [hW1]; exact Grow.alloc w _
  have hk1 : Icmblk W1 w.heap.size zeroM (.slice none 0 0) := by rw [hW1]; exact Icmblk.new w zeroM _
  go_enter Try.func12, Try.ntmps12
  go_upto_if 6 with fail
  rw [← hW1]
  clear hW1
  by_cases h1 : l.length < 8
  · have e1 : icode l = 2 := by unfold icode; rw [if_pos h1]
    go_wp2_with (refine wpList_store_Icm w W1 rfl _ _ rfl rfl w.heap.size rfl zeroM zeroM (.slice none 0 0) (.slice none 0 0) rfl rfl hk1 hg1 (Nat.le_refl _) ?_; intro w3 hk3 hbut hg3)
    refine bodyPost_ret (results_Icm rfl _ w3 w.heap.size _ _ rfl hk3) rfl ?_
    exact ⟨by first | rfl | (rw [e1]; rfl), hg3⟩
  have h2 : ones l ≠ 65535 := by
    intro h2
    unfold icode at hc
    rw [if_neg h1, if_neg (by omega)] at hc
    exact hc rfl
  have e1 : icode l = 4 := by unfold icode; rw [if_neg h1, if_pos h2]
  have h3 : ((ones l : Int) == 65535) = false := beq_eq_false_iff_ne.2 (by omega)
  go_wp2_with fail
  refine (Right_any _ l _ (h.grow hg1) (by omega)).mono ?_
  rintro e w2 ⟨rfl, hg2⟩
  go_wp2_with (refine wpList_store_Icm w w2 rfl _ _ rfl rfl w.heap.size rfl zeroM zeroM (.slice none 0 0) (.slice none 0 0) rfl rfl (hk1.grow hg2) (hg1.trans hg2) (Nat.le_refl _) ?_; intro w3 hk3 hbut hg3)
  refine bodyPost_ret (results_Icm rfl _ w3 w.heap.size _ _ rfl hk3) rfl ?_
  exact ⟨by first | rfl | (rw [e1]; rfl), hg3⟩

theorem icode_zero {l : List UInt8} (hc : icode l = 0) : 8 ≤ l.length ∧ ones l = 65535 := by
  unfold icode at hc
  split at hc
  · cases hc
  · split at hc
    · cases hc
    · omega

set_option maxRecDepth 10000 in
set_option maxHeartbeats 4000000 in
theorem icmGet_good (v : Value) (l : List UInt8) (w : World) (h : Byt w v l) (hl : l.length ≤ 1000000) (hc : icode l = 0) :
    Calls Try.prog 12 #[v] w fun e w' => ∃ vd, e = .returned (.tuple #[IcmV (igot l) vd, .int .i64 0]) ∧ Own w' (w.heap.size + 1) vd (l.drop 8) ∧ Grow w w' := by
  obtain ⟨g1, g2⟩ := icode_zero hc
  obtain ⟨A, c, rfl, hcl, hcm⟩ := h.form
  obtain ⟨b, off, rfl, hb, hcell⟩ := h.at_ (by omega)
  obtain ⟨W1, hW1⟩ : ∃ W1, W1 = w.alloc (.cells #[.int .u8 0, .int .u8 0, .int .u32 0, .slice none 0 0] 25) := ⟨_, rfl⟩
  have hs0 : W1.heap.size = w.heap.size + 1 := by rw [hW1]; simp
  have hg1 : Grow w W1 := by rw [hW1]; exact Grow.alloc w _
  have hk1 : Icmblk W1 w.heap.size zeroM (.slice none 0 0) := by rw [hW1]; exact Icmblk.new w zeroM _
  have n4 := num_lt l 4
  have n6 := num_lt l 6
  have y0 := byt_lt l 0
  have y1 := byt_lt l 1
  have i0 : 0 < l.length := by omega
  have i1 : (1 : Int) < (l.length : Int) := by omega
  have i8 : (8 : Int) ≤ (l.length : Int) := by omega
  have i9 : 8 ≤ c := by omega
  have g23 : lens [l.drop 8] ≤ 281474976710656 := by simp [lens]; omega
  have h3 : ((ones l : Int) == 65535) = true := by rw [g2]; rfl
  go_enter Try.func12, Try.ntmps12
  go_upto_if 6 with fail
  rw [← hW1]
  clear hW1
  go_wp2_with fail
  refine (Right_any _ l _ (h.grow hg1) (by omega)).mono ?_
  rintro e w2 ⟨rfl, hg2⟩
  have hB := h.grow (hg1.trans hg2)
  have hlt : b < w2.heap.size := by have := (hg1.trans hg2).size; omega
  have cel : ∀ i, i < l.length → w2.cell? ⟨b, off + i, none⟩ = some (.int .u8 (byt l i : Int)) := fun i hi => by
    rw [(hg1.trans hg2).cell (p := ⟨b, off + i, none⟩) hb, hcell i hi, byt_at hi]
  have c0 : w2.cell? ⟨b, off, none⟩ = some (.int .u8 (byt l 0 : Int)) := cel 0 (by omega)
  have c1 := cel 1 (by omega)
  have hs2 := hg2.size
  clear h3
  go_wp2_with fail
  refine wp_region_phase (A := ?frame5) (inList (isV (.slice (some ⟨b, off, none⟩) l.length c) :: isV (.pointer (some ⟨b, off, none⟩)) :: isV (.int .u8 (byt l 0 : Int)) :: isV (.slice (some ⟨b, off, none⟩) l.length c) :: isV (.pointer (some ⟨b, off + 1, none⟩)) :: isV (.int .u8 (byt l 1 : Int)) :: isV (.slice (some ⟨b, off, none⟩) l.length c) :: isV (.int .u32 (65536 * num l 4 + num l 6 : Nat)) :: isV (.slice (some ⟨b, off, none⟩) l.length c) :: isB (l.drop 8) :: (isBs [l.drop 8]) :: (isO (w.heap.size + 1) (l.drop 8)) :: (isIcmO (w.heap.size + 1) (igot l)) :: [])) 13 (by kernel_rfl) (by kernel_rfl) (by kernel_rfl) (inList_stays ?_) (fun x => ?frameEq5) ?_ ?_
  case frameEq5 => go_simp; rfl
  · intro f hf
    simp only [List.mem_cons, List.not_mem_nil, or_false] at hf
    rcases hf with rfl | rfl | rfl | rfl | rfl | rfl | rfl | rfl | rfl | rfl | rfl | rfl | rfl <;> first | exact isV_stays _ | exact isB_stays _ | exact isBs_stays _ | exact isO_stays _ | exact isIcmO_stays _
  · refine ⟨fun x w1 hg hd post hp => ?_, fun x w1 hg hd post hp => ?_, fun x w1 hg hd post hp => ?_, fun x w1 hg hd post hp => ?_, fun x w1 hg hd post hp => ?_, fun x w1 hg hd post hp => ?_, fun x w1 hg hd post hp => ?_, fun x w1 hg hd post hp => ?_, fun x w1 hg hd post hp => ?_, fun x w1 hg hd post hp => ?_, fun x w1 hg hd post hp => ?_, fun x w1 hg hd post hp => ?_, fun x w1 hg hd post hp => ?_, trivial⟩
    · -- 0: slot 12: Op.move t0
      clear hd
      go_simp
      exact hp _ _ (Grow.refl _) rfl
    · -- 1: slot 13: Op.indexAddr 23 t12 (const (0:i64))
      have h12 : x 12 = .slice (some ⟨b, off, none⟩) l.length c := hd 0 (by decide) _ rfl
      clear hd
      go_simp
      exact hp _ _ (Grow.refl _) rfl
    · -- 2: slot 14: Op.load 5 t13
      have h13 : x 13 = .pointer (some ⟨b, off, none⟩) := hd 1 (by decide) _ rfl
      clear hd
      have q1 := (hg.cell (p := ⟨b, off, none⟩) hlt).trans c0
      go_simp
      exact hp _ _ (Grow.refl _) rfl
    · -- 3: slot 15: Op.move t0
      clear hd
      go_simp
      exact hp _ _ (Grow.refl _) rfl
    · -- 4: slot 16: Op.indexAddr 23 t15 (const (1:i64))
      have h15 : x 15 = .slice (some ⟨b, off, none⟩) l.length c := hd 3 (by decide) _ rfl
      clear hd
      go_simp
      exact hp _ _ (Grow.refl _) rfl
    · -- 5: slot 17: Op.load 5 t16
      have h16 : x 16 = .pointer (some ⟨b, off + 1, none⟩) := hd 4 (by decide) _ rfl
      clear hd
      have q1 := (hg.cell (p := ⟨b, off + 1, none⟩) hlt).trans c1
      go_simp
      exact hp _ _ (Grow.refl _) rfl
    · -- 6: slot 18: Op.move t0
      clear hd
      go_simp
      exact hp _ _ (Grow.refl _) rfl
    · -- 7: slot 19: Op.call { value (Operand.func 33), args := #[t18, const (4:i64)], argTypes := #[
      have h18 : x 18 = .slice (some ⟨b, off, none⟩) l.length c := hd 6 (by decide) _ rfl
      clear hd
      go_simp
      refine (iget32_any _ 4 l _ (hB.grow hg) (by omega) (by omega)).mono ?_
      rintro e w2 ⟨rfl, rfl⟩
      exact ⟨_, rfl, hp _ _ (Grow.refl _) rfl⟩
    · -- 8: slot 20: Op.move t0
      clear hd
      go_simp
      exact hp _ _ (Grow.refl _) rfl
    · -- 9: slot 21: Op.slice 23 t20 (some (const (8:i64))) none none
      have h20 : x 20 = .slice (some ⟨b, off, none⟩) l.length c := hd 8 (by decide) _ rfl
      clear hd
      have q1 := dropAt (hB.grow hg) (lo := 8) (by omega)
      go_simp
      exact hp _ _ (Grow.refl _) q1
    · -- 10: slot 22: Op.buildSlice 72 1 #[(0, t21)]
      have h21 : Byt w1 (x 21) (l.drop 8) := hd 9 (by decide) _ rfl
      clear hd
      obtain ⟨A4, n4, c4, e4, _⟩ := h21.form2
      rw [e4] at h21
      go_simp
      exact hp _ _ (Grow.alloc _ _) (Byts.lit w1 #[.slice A4 n4 c4] _ [l.drop 8] 1 rfl rfl (by simp [maxLen]) (byt_one h21))
    · -- 11: slot 23: Op.call { value (Operand.func 29), args := #[t22], argTypes := #[72] }
      have h22 : (isBs [l.drop 8]) (x 22) w1 := hd 10 (by decide) _ rfl
      clear hd
      go_simp
      refine (Join_any _ _ _ h22 (by simp) g23).mono ?_
      rintro e w2 ⟨u, rfl, ho, hg2⟩
      have hz := hg.size
      have ho1 : Own w2 (w.heap.size + 1) u (l.drop 8) := Own.base (b := w1.heap.size) (by simpa using ho) (by omega)
      exact ⟨_, rfl, hp _ _ hg2 ho1⟩
    · -- 12: slot 24: Op.build 25 #[(0, t14), (1, t17), (2, t19), (3, t23)]
      have h14 : x 14 = .int .u8 (byt l 0 : Int) := hd 2 (by decide) _ rfl
      have h17 : x 17 = .int .u8 (byt l 1 : Int) := hd 5 (by decide) _ rfl
      have h19 : x 19 = .int .u32 (65536 * num l 4 + num l 6 : Nat) := hd 7 (by decide) _ rfl
      have h23 : (isO (w.heap.size + 1) (l.drop 8)) (x 23) w1 := hd 11 (by decide) _ rfl
      clear hd
      have p23 : Own w1 _ (x 23) _ := h23
      obtain ⟨A4, n4, d4, e4, _⟩ := p23.byt.form2
      rw [e4] at p23
      go_simp
      exact hp _ _ (Grow.refl _) ⟨_, rfl, p23⟩
  · intro x w1 hg hd
    have h24 : (isIcmO (w.heap.size + 1) (igot l)) (x 24) w1 := hd 12 _ (by decide) rfl
    clear hd
    obtain ⟨vd, e24, hvd⟩ := h24
    simp only [List.drop_succ_cons, List.drop_zero]
    go_wp2_with (refine wpList_store_Icm w w1 rfl _ _ rfl rfl w.heap.size rfl (igot l) zeroM vd (.slice none 0 0) e24 hvd.one ((hk1.grow hg2).grow hg) ((hg1.trans hg2).trans hg) (Nat.le_refl _) ?_; intro w4 hk4 hbut hg4)
    refine bodyPost_ret (results_Icm rfl _ w4 w.heap.size _ _ rfl hk4) rfl ?_
    exact ⟨_, rfl, Own.but hvd hbut (by omega), hg4⟩

theorem icmGet_any (v : Value) (l : List UInt8) (w : World) (h : Byt w v l) (hl : l.length ≤ 1000000) :
    Calls Try.prog 12 #[v] w fun e w' => ∃ vd, e = .returned (.tuple #[IcmV (ires l) vd, .int .i64 (icode l)]) ∧ Own w' (w.heap.size + 1) vd (ires l).data ∧ Grow w w' := by
  unfold ires
  by_cases hc : icode l = 0
  · rw [if_pos hc, hc]
    exact icmGet_good v l w h hl hc
  · rw [if_neg hc]
    refine (icmGet_bad v l w h hl hc).mono ?_
    rintro e w' ⟨rfl, hg⟩
    exact ⟨_, rfl, World.ownsRow_nil _ _ _ _, hg⟩
end Go.Proofs.Ytbnnacohkemnhaa
