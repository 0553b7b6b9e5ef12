/- The document's own answers: numbers in bytes, bytes as a message; messages that are the same. -/
import Derived.Test.YtbnnacohkemnhaaIcmGet
import Derived.Lib.Hide
namespace Go.Proofs.Ytbnnacohkemnhaa
set_option linter.unusedVariables false
set_option linter.unusedSimpArgs false
open Go.ChangeShapes Go.WideShapes Go.ChangeAt Go.RowKit

set_option maxHeartbeats 1000000 in
theorem rnum7_any (v : Value) (k m : Nat) (l : List UInt8) (w : World) (h : Byt w v l) (hm : m ≤ 4) (hm0 : 0 < m) (hk : k + m ≤ l.length) (hs : k ≤ 1000) :
    Calls Try.prog 38 #[v, .int .i64 (k : Int), .int .i64 (m : Int)] w fun e w' => e = .returned (.int .i64 (numOf ((l.drop k).take m) : Nat)) ∧ w = w' := by
  obtain ⟨A, c, rfl, hc, hcm⟩ := h.form
  obtain ⟨b, off, rfl, hb, hcell⟩ := h.at_ (by omega)
  unfold maxLen at hcm
  clear h
  go_enter Try.func38, Try.ntmps38
  go_wp2
  go_loop [7, 8] (fun t i => ∃ j : Nat, j ≤ m ∧ i = .int .i64 (j : Int) ∧ t = .int .i64 ((numOf ((l.drop k).take j) : Nat) : Int)) (fun _ i => m - (intOf i).toNat)
  case atStart => exact ⟨0, Nat.zero_le _, rfl, rfl⟩
  case round =>
    obtain ⟨j, hj, rfl, rfl⟩ := hrel
    by_cases hlt : j < m
    · have hc1 : w.cell? ⟨b, off + (k + j), none⟩ = some (.int .u8 ((l[k + j]'(by omega)).toNat : Int)) := hcell (k + j) (by omega)
      have h6 := numOf_lt3 ((l.drop k).take j) (by simp; omega)
      have hu := (l[k + j]'(by omega)).toNat_lt
      go_wp2
      go_round
      case rel =>
        refine ⟨j + 1, by omega, by go_num, ?_⟩
        rw [take_snoc l k j (by omega), numOf_snoc]
        go_num
      case measure => simp [intOf]; omega
    · go_wp2
      have : j = m := by omega
      subst this
      go_ret
      exact ⟨rfl, rfl⟩

set_option maxHeartbeats 2000000 in
theorem RGet7_bad (v : Value) (l : List UInt8) (w : World) (h : Byt w v l) (hl : l.length ≤ 1000000) (hc : icode l ≠ 0) :
    Calls Try.prog 16 #[v] w fun e w' => e = .returned (.tuple #[IcmV zeroM (.slice none 0 0), .int .i64 (icode l)]) ∧ Grow w w' := by
  obtain ⟨A, c, rfl, hcl, hcm⟩ := h.form
  obtain ⟨W1, hW1⟩ : ∃ W1, W1 = w.alloc (.cells #[.int .u8 0, .int .u8 0, .int .u32 0, .slice none 0 0] 25) := ⟨_, rfl⟩
  have hg1 : Grow w W1 := by rw [hW1]; exact Grow.alloc w _
  have hk1 : Icmblk W1 w.heap.size zeroM (.slice none 0 0) := by rw [hW1]; exact Icmblk.new w zeroM _
  go_enter Try.func16, Try.ntmps16
  go_upto_if 6 with fail
  rw [← hW1]
  clear hW1
  by_cases h1 : l.length < 8
  · have e1 : icode l = 2 := by unfold icode; rw [if_pos h1]
    go_wp2_with (refine wpList_store_Icm w W1 rfl _ _ rfl rfl w.heap.size rfl zeroM zeroM (.slice none 0 0) (.slice none 0 0) rfl rfl hk1 hg1 (Nat.le_refl _) ?_; intro w3 hk3 hbut hg3)
    refine bodyPost_ret (results_Icm rfl _ w3 w.heap.size _ _ rfl hk3) rfl ?_
    exact ⟨by first | rfl | (rw [e1]; rfl), hg3⟩
  have h2 : ones l ≠ 65535 := by
    intro h2
    unfold icode at hc
    rw [if_neg h1, if_neg (by omega)] at hc
    exact hc rfl
  have e1 : icode l = 4 := by unfold icode; rw [if_neg h1, if_pos h2]
  have h3 : ((ones l : Int) != 65535) = true := bne_iff_ne.2 (by omega)
  go_wp2_with fail
  refine (RSum_any _ l _ (h.grow hg1) (by omega)).mono ?_
  rintro e w2 ⟨rfl, rfl⟩
  go_wp2_with (refine wpList_store_Icm w W1 rfl _ _ rfl rfl w.heap.size rfl zeroM zeroM (.slice none 0 0) (.slice none 0 0) rfl rfl hk1 hg1 (Nat.le_refl _) ?_; intro w3 hk3 hbut hg3)
  refine bodyPost_ret (results_Icm rfl _ w3 w.heap.size _ _ rfl hk3) rfl ?_
  exact ⟨by first | rfl | (rw [e1]; rfl), hg3⟩

set_option maxRecDepth 10000 in
set_option maxHeartbeats 4000000 in
theorem RGet7_good (v : Value) (l : List UInt8) (w : World) (h : Byt w v l) (hl : l.length ≤ 1000000) (hc : icode l = 0) :
    Calls Try.prog 16 #[v] w fun e w' => ∃ vd, e = .returned (.tuple #[IcmV (igot l) vd, .int .i64 0]) ∧ Byt w' vd (l.drop 8) ∧ Grow w w' := by
  obtain ⟨g1, g2⟩ := icode_zero hc
  obtain ⟨A, c, rfl, hcl, hcm⟩ := h.form
  obtain ⟨b, off, rfl, hb, hcell⟩ := h.at_ (by omega)
  obtain ⟨W1, hW1⟩ : ∃ W1, W1 = w.alloc (.cells #[.int .u8 0, .int .u8 0, .int .u32 0, .slice none 0 0] 25) := ⟨_, rfl⟩
  have hs0 : W1.heap.size = w.heap.size + 1 := by rw [hW1]; simp
  have hg1 : Grow w W1 := by rw [hW1]; exact Grow.alloc w _
  have hk1 : Icmblk W1 w.heap.size zeroM (.slice none 0 0) := by rw [hW1]; exact Icmblk.new w zeroM _
  have n4 := num_lt l 4
  have n6 := num_lt l 6
  have y0 := byt_lt l 0
  have y1 := byt_lt l 1
  have i0 : 0 < l.length := by omega
  have i1 : (1 : Int) < (l.length : Int) := by omega
  have i8 : (8 : Int) ≤ (l.length : Int) := by omega
  have i9 : 8 ≤ c := by omega
  have E4 : numOf ((l.drop 4).take 4) = 65536 * num l 4 + num l 6 := numOf_4 (by omega)
  have W4 : IntKind.u32.wrap (65536 * (num l 4 : Int) + (num l 6 : Int)) = 65536 * (num l 4 : Int) + (num l 6 : Int) := by
    simp only [IntKind.wrap, IntKind.signed, IntKind.bits]
    simp
    omega
  have h3 : ((ones l : Int) != 65535) = false := by rw [g2]; rfl
  have bd0 := dropAt h (lo := 8) (by omega)
  obtain ⟨Ad, hAd⟩ : ∃ Ad, Ad = (if c = 8 then some (⟨b, off, none⟩ : Addr) else some ⟨b, off + 8, none⟩) := ⟨_, rfl⟩
  rw [← hAd] at bd0
  have EAD := Lib.hid hAd
  clear hAd
  go_enter Try.func16, Try.ntmps16
  go_upto_if 6 with fail
  rw [← hW1]
  clear hW1
  go_wp2_with fail
  refine (RSum_any _ l _ (h.grow hg1) (by omega)).mono ?_
  rintro e w2 ⟨rfl, rfl⟩
  have hB := h.grow hg1
  have hlt : b < W1.heap.size := by omega
  have cel : ∀ i, i < l.length → W1.cell? ⟨b, off + i, none⟩ = some (.int .u8 (byt l i : Int)) := fun i hi => by
    rw [hg1.cell (p := ⟨b, off + i, none⟩) hb, hcell i hi, byt_at hi]
  have c0 : W1.cell? ⟨b, off, none⟩ = some (.int .u8 (byt l 0 : Int)) := cel 0 (by omega)
  have c1 := cel 1 (by omega)
  clear h3
  go_wp2_with fail
  refine wp_region_phase (A := ?frame5) (inList (isV (.slice (some ⟨b, off, none⟩) l.length c) :: isV (.pointer (some ⟨b, off, none⟩)) :: isV (.int .u8 (byt l 0 : Int)) :: isV (.slice (some ⟨b, off, none⟩) l.length c) :: isV (.pointer (some ⟨b, off + 1, none⟩)) :: isV (.int .u8 (byt l 1 : Int)) :: isV (.slice (some ⟨b, off, none⟩) l.length c) :: isV (.int .i64 (65536 * num l 4 + num l 6 : Nat)) :: isV (.int .u32 (65536 * num l 4 + num l 6 : Nat)) :: isV (.slice (some ⟨b, off, none⟩) l.length c) :: isV (.slice Ad (l.length - 8) (c - 8)) :: isV (IcmV (igot l) (.slice Ad (l.length - 8) (c - 8))) :: [])) 12 (by kernel_rfl) (by kernel_rfl) (by kernel_rfl) (inList_stays ?_) (fun x => ?frameEq5) ?_ ?_
  case frameEq5 => go_simp; rfl
  · intro f hf
    simp only [List.mem_cons, List.not_mem_nil, or_false] at hf
    rcases hf with rfl | rfl | rfl | rfl | rfl | rfl | rfl | rfl | rfl | rfl | rfl | rfl <;> first | exact isV_stays _ | exact isB_stays _ | exact isBs_stays _
  · refine ⟨fun x w1 hg hd post hp => ?_, fun x w1 hg hd post hp => ?_, fun x w1 hg hd post hp => ?_, fun x w1 hg hd post hp => ?_, fun x w1 hg hd post hp => ?_, fun x w1 hg hd post hp => ?_, fun x w1 hg hd post hp => ?_, fun x w1 hg hd post hp => ?_, fun x w1 hg hd post hp => ?_, fun x w1 hg hd post hp => ?_, fun x w1 hg hd post hp => ?_, fun x w1 hg hd post hp => ?_, trivial⟩
    · -- 0: slot 12: Op.move t0
      clear hd
      go_simp
      exact hp _ _ (Grow.refl _) rfl
    · -- 1: slot 13: Op.indexAddr 23 t12 (const (0:i64))
      have h12 : x 12 = .slice (some ⟨b, off, none⟩) l.length c := hd 0 (by decide) _ rfl
      clear hd
      go_simp
      exact hp _ _ (Grow.refl _) rfl
    · -- 2: slot 14: Op.load 5 t13
      have h13 : x 13 = .pointer (some ⟨b, off, none⟩) := hd 1 (by decide) _ rfl
      clear hd
      have q1 := (hg.cell (p := ⟨b, off, none⟩) hlt).trans c0
      go_simp
      exact hp _ _ (Grow.refl _) rfl
    · -- 3: slot 15: Op.move t0
      clear hd
      go_simp
      exact hp _ _ (Grow.refl _) rfl
    · -- 4: slot 16: Op.indexAddr 23 t15 (const (1:i64))
      have h15 : x 15 = .slice (some ⟨b, off, none⟩) l.length c := hd 3 (by decide) _ rfl
      clear hd
      go_simp
      exact hp _ _ (Grow.refl _) rfl
    · -- 5: slot 17: Op.load 5 t16
      have h16 : x 16 = .pointer (some ⟨b, off + 1, none⟩) := hd 4 (by decide) _ rfl
      clear hd
      have q1 := (hg.cell (p := ⟨b, off + 1, none⟩) hlt).trans c1
      go_simp
      exact hp _ _ (Grow.refl _) rfl
    · -- 6: slot 18: Op.move t0
      clear hd
      go_simp
      exact hp _ _ (Grow.refl _) rfl
    · -- 7: slot 19: Op.call { value (Operand.func 38), args := #[t18, const (4:i64), const (4:i64)],
      have h18 : x 18 = .slice (some ⟨b, off, none⟩) l.length c := hd 6 (by decide) _ rfl
      clear hd
      go_simp
      refine (rnum7_any _ 4 4 l _ (hB.grow hg) (by omega) (by omega) (by omega) (by omega)).mono ?_
      rw [E4]
      rintro e w2 ⟨rfl, rfl⟩
      exact ⟨_, rfl, hp _ _ (Grow.refl _) rfl⟩
    · -- 8: slot 20: Op.convert 3 22 t19
      have h19 : x 19 = .int .i64 (65536 * num l 4 + num l 6 : Nat) := hd 7 (by decide) _ rfl
      clear hd
      go_simp
      exact hp _ _ (Grow.refl _) rfl
    · -- 9: slot 21: Op.move t0
      clear hd
      go_simp
      exact hp _ _ (Grow.refl _) rfl
    · -- 10: slot 22: Op.slice 23 t21 (some (const (8:i64))) none none
      have h21 : x 21 = .slice (some ⟨b, off, none⟩) l.length c := hd 9 (by decide) _ rfl
      clear hd
      go_simp
      exact hp _ _ (Grow.refl _) (show Value.slice _ _ _ = Value.slice _ _ _ from by rw [EAD.out])
    · -- 11: slot 23: Op.build 25 #[(0, t14), (1, t17), (2, t20), (3, t22)]
      have h14 : x 14 = .int .u8 (byt l 0 : Int) := hd 2 (by decide) _ rfl
      have h17 : x 17 = .int .u8 (byt l 1 : Int) := hd 5 (by decide) _ rfl
      have h20 : x 20 = .int .u32 (65536 * num l 4 + num l 6 : Nat) := hd 8 (by decide) _ rfl
      have h22 : x 22 = .slice Ad (l.length - 8) (c - 8) := hd 10 (by decide) _ rfl
      clear hd
      go_simp
      exact hp _ _ (Grow.refl _) rfl
  · intro x w1 hg hd
    have h23 : x 23 = IcmV (igot l) (.slice Ad (l.length - 8) (c - 8)) := hd 11 _ (by decide) rfl
    clear hd
    simp only [List.drop_succ_cons, List.drop_zero]
    go_wp2_with (refine wpList_store_Icm w w1 rfl _ _ rfl rfl w.heap.size rfl (igot l) zeroM (.slice Ad (l.length - 8) (c - 8)) (.slice none 0 0) h23 rfl (hk1.grow hg) (hg1.trans hg) (Nat.le_refl _) ?_; intro w4 hk4 hbut hg4)
    refine bodyPost_ret (results_Icm rfl _ w4 w.heap.size _ _ rfl hk4) rfl ?_
    exact ⟨_, rfl, bd0.grow hg4, hg4⟩

theorem RGet7_any (v : Value) (l : List UInt8) (w : World) (h : Byt w v l) (hl : l.length ≤ 1000000) :
    Calls Try.prog 16 #[v] w fun e w' => ∃ vd, e = .returned (.tuple #[IcmV (ires l) vd, .int .i64 (icode l)]) ∧ Byt w' vd (ires l).data ∧ Grow w w' := by
  unfold ires
  by_cases hc : icode l = 0
  · rw [if_pos hc, hc]
    exact RGet7_good v l w h hl hc
  · rw [if_neg hc]
    refine (RGet7_bad v l w h hl hc).mono ?_
    rintro e w' ⟨rfl, hg⟩
    exact ⟨_, rfl, Byt.nil _, hg⟩

set_option maxHeartbeats 2000000 in
theorem icmSame_yes (u v : Value) (k q : Icm) (w : World) (hu : isIcm w u k) (hv : isIcm w v q) (he : k = q) :
    Calls Try.prog 15 #[u, v] w fun e w' => e = .returned (.bool true) ∧ Grow w w' := by
  subst he
  obtain ⟨A, ca, rfl, hd1, hk⟩ := hu.form
  obtain ⟨B, cb, rfl, hd2, _⟩ := hv.form
  have hg2 := (Grow.alloc w (.cells #[.int .u8 (k.kind : Int), .int .u8 (k.code : Int), .int .u32 (k.rest : Int), .slice A k.data.length ca] 25)).trans (Grow.alloc _ (.cells #[.int .u8 (k.kind : Int), .int .u8 (k.code : Int), .int .u32 (k.rest : Int), .slice B k.data.length cb] 25))
  go_enter Try.func15, Try.ntmps15
  go_wp2_with fail
  refine (Equal_any _ _ _ _ _ (hd1.grow hg2) (hd2.grow hg2)).mono ?_
  rw [beq_self_eq_true]
  rintro e w' ⟨rfl, rfl⟩
  go_wp2_with fail
  go_ret
  exact ⟨rfl, hg2⟩

set_option maxHeartbeats 2000000 in
theorem RSame7_yes (u v : Value) (k q : Icm) (w : World) (hu : isIcm w u k) (hv : isIcm w v q) (he : k = q) :
    Calls Try.prog 14 #[u, v] w fun e w' => e = .returned (.bool true) ∧ Grow w w' := by
  subst he
  obtain ⟨A, ca, rfl, hd1, hk⟩ := hu.form
  obtain ⟨B, cb, rfl, hd2, _⟩ := hv.form
  have hg2 := (Grow.alloc w (.cells #[.int .u8 (k.kind : Int), .int .u8 (k.code : Int), .int .u32 (k.rest : Int), .slice A k.data.length ca] 25)).trans (Grow.alloc _ (.cells #[.int .u8 (k.kind : Int), .int .u8 (k.code : Int), .int .u32 (k.rest : Int), .slice B k.data.length cb] 25))
  have c1 := str1 (hd1.grow hg2)
  have c2 := str1 (hd2.grow hg2)
  unfold strV at *
  go_enter Try.func14, Try.ntmps14
  go_wp2_with fail
  go_ret
  exact ⟨rfl, hg2⟩
end Go.Proofs.Ytbnnacohkemnhaa
