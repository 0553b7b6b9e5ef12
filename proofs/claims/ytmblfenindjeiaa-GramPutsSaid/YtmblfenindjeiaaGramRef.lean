/- The document's own answers: numbers in bytes, bytes as a datagram; datagrams that are the same. -/
import Derived.Test.YtmblfenindjeiaaGramGet
import Derived.Test.YtmblfenindjeiaaGramPut
import Derived.Test.YtmblfenindjeiaaIpSame
import Derived.Lib.Hide
namespace Go.Proofs.Ytmblfenindjeiaa
set_option linter.unusedVariables false
set_option linter.unusedSimpArgs false
open Go.ChangeShapes Go.WideShapes Go.ChangeAt Go.RowKit

set_option maxHeartbeats 400000 in
theorem rnum8_any (v : Value) (k : Nat) (l : List UInt8) (w : World) (h : Byt w v l) (hk : k + 2 ≤ l.length) (hs : k ≤ 1000) :
    Calls Try.prog 28 #[v, .int .i64 (k : Int)] w fun e w' => e = .returned (.int .i64 (num l k : Nat)) ∧ Grow w w' := by
  obtain ⟨A, c, rfl, hc, hcm⟩ := h.form
  obtain ⟨b, off, rfl, hb, hcell⟩ := h.at_ (by omega)
  have l1 := byt_lt l k
  have l2 := byt_lt l (k + 1)
  have c1 : w.cell? ⟨b, off + k, none⟩ = some (.int .u8 (byt l k : Int)) := by rw [hcell k (by omega), byt_at]
  have c2 : w.cell? ⟨b, off + (k + 1), none⟩ = some (.int .u8 (byt l (k + 1) : Int)) := by rw [hcell (k + 1) (by omega), byt_at]
  unfold maxLen at hcm
  go_enter Try.func28, Try.ntmps28
  go_wp2_with fail
  go_quiet (fail)
  go_wp2_with fail
  go_ret
  exact ⟨ret_int (by unfold num; omega), below_drewN (Grow.refl w) _⟩

set_option maxHeartbeats 2000000 in
theorem RGet8_few (s d : Nat) (v : Value) (l : List UInt8) (w : World) (h : Byt w v l) (hl : l.length ≤ 1000000) (h1 : l.length < 8) :
    Calls Try.prog 15 #[.int .u32 (s : Int), .int .u32 (d : Int), v] w fun e w' => e = .returned (.tuple #[GramV zeroG (.slice none 0 0), .int .i64 2]) ∧ Grow w w' := by
  obtain ⟨A, c, rfl, hcl, hcm⟩ := h.form
  obtain ⟨W1, hW1⟩ : ∃ W1, W1 = w.alloc (.cells #[.int .u16 0, .int .u16 0, .slice none 0 0] 26) := ⟨_, rfl⟩
  have hg1 : Grow w W1 := by rw [hW1]; exact Grow.alloc w _
  have hk1 : Gramblk W1 w.heap.size zeroG (.slice none 0 0) := by rw [hW1]; exact Gramblk.new w zeroG _
  have hB1 := h.grow hg1
  go_enter Try.func15, Try.ntmps15
  go_upto_if 11 with fail
  rw [← hW1]
  clear hW1
  go_wp2_with (refine wpList_store_Gram w W1 rfl _ _ rfl rfl w.heap.size rfl zeroG zeroG (.slice none 0 0) (.slice none 0 0) rfl rfl hk1 hg1 (Nat.le_refl _) ?_; intro w3 hk3 hbut hg3)
  refine bodyPost_ret (results2_Gram 6 7 rfl _ w3 w.heap.size _ _ rfl hk3) rfl ?_
  exact ⟨rfl, hg3⟩

set_option maxHeartbeats 2000000 in
theorem RGet8_form (s d : Nat) (v : Value) (l : List UInt8) (w : World) (h : Byt w v l) (hl : l.length ≤ 1000000) (h1 : 8 ≤ l.length) (h2 : num l 4 < 8) :
    Calls Try.prog 15 #[.int .u32 (s : Int), .int .u32 (d : Int), v] w fun e w' => e = .returned (.tuple #[GramV zeroG (.slice none 0 0), .int .i64 3]) ∧ Grow w w' := by
  obtain ⟨A, c, rfl, hcl, hcm⟩ := h.form
  obtain ⟨W1, hW1⟩ : ∃ W1, W1 = w.alloc (.cells #[.int .u16 0, .int .u16 0, .slice none 0 0] 26) := ⟨_, rfl⟩
  have hg1 : Grow w W1 := by rw [hW1]; exact Grow.alloc w _
  have hk1 : Gramblk W1 w.heap.size zeroG (.slice none 0 0) := by rw [hW1]; exact Gramblk.new w zeroG _
  have hB1 := h.grow hg1
  have G4 := rnum8_any _ 4 l W1 hB1 (by omega) (by omega)
  have n4 := num_lt l 4
  generalize num l 4 = m at *
  go_enter Try.func15, Try.ntmps15
  go_upto_if 11 with fail
  rw [← hW1]
  clear hW1
  go_wp2_with fail
  refine G4.mono ?_
  rintro e w2 ⟨rfl, hg2⟩
  go_wp2_with (refine wpList_store_Gram w w2 rfl _ _ rfl rfl w.heap.size rfl zeroG zeroG (.slice none 0 0) (.slice none 0 0) rfl rfl (hk1.grow hg2) (hg1.trans hg2) (Nat.le_refl _) ?_; intro w3 hk3 hbut hg3)
  refine bodyPost_ret (results2_Gram 6 7 rfl _ w3 w.heap.size _ _ rfl hk3) rfl ?_
  exact ⟨rfl, hg3⟩

set_option maxHeartbeats 2000000 in
theorem RGet8_short (s d : Nat) (v : Value) (l : List UInt8) (w : World) (h : Byt w v l) (hl : l.length ≤ 1000000) (h1 : 8 ≤ l.length) (h2 : 8 ≤ num l 4) (h3 : l.length < num l 4) :
    Calls Try.prog 15 #[.int .u32 (s : Int), .int .u32 (d : Int), v] w fun e w' => e = .returned (.tuple #[GramV zeroG (.slice none 0 0), .int .i64 2]) ∧ Grow w w' := by
  obtain ⟨A, c, rfl, hcl, hcm⟩ := h.form
  obtain ⟨W1, hW1⟩ : ∃ W1, W1 = w.alloc (.cells #[.int .u16 0, .int .u16 0, .slice none 0 0] 26) := ⟨_, rfl⟩
  have hg1 : Grow w W1 := by rw [hW1]; exact Grow.alloc w _
  have hk1 : Gramblk W1 w.heap.size zeroG (.slice none 0 0) := by rw [hW1]; exact Gramblk.new w zeroG _
  have hB1 := h.grow hg1
  have G4 := rnum8_any _ 4 l W1 hB1 (by omega) (by omega)
  have n4 := num_lt l 4
  generalize num l 4 = m at *
  go_enter Try.func15, Try.ntmps15
  go_upto_if 11 with fail
  rw [← hW1]
  clear hW1
  go_wp2_with fail
  refine G4.mono ?_
  rintro e w2 ⟨rfl, hg2⟩
  go_wp2_with (refine wpList_store_Gram w w2 rfl _ _ rfl rfl w.heap.size rfl zeroG zeroG (.slice none 0 0) (.slice none 0 0) rfl rfl (hk1.grow hg2) (hg1.trans hg2) (Nat.le_refl _) ?_; intro w3 hk3 hbut hg3)
  refine bodyPost_ret (results2_Gram 6 7 rfl _ w3 w.heap.size _ _ rfl hk3) rfl ?_
  exact ⟨rfl, hg3⟩

set_option maxHeartbeats 2000000 in
theorem RGet8_sum (s d : Nat) (v : Value) (l : List UInt8) (w : World) (h : Byt w v l) (hl : l.length ≤ 1000000) (hs : s < 4294967296) (hd4 : d < 4294967296) (h1 : 8 ≤ l.length) (h2 : 8 ≤ num l 4) (h3 : num l 4 ≤ l.length) (h6 : num l 6 ≠ 0) (h7 : psum s d (l.take (num l 4)) ≠ 65535) :
    Calls Try.prog 15 #[.int .u32 (s : Int), .int .u32 (d : Int), v] w fun e w' => e = .returned (.tuple #[GramV zeroG (.slice none 0 0), .int .i64 4]) ∧ Grow w w' := by
  obtain ⟨A, c, rfl, hcl, hcm⟩ := h.form
  obtain ⟨W1, hW1⟩ : ∃ W1, W1 = w.alloc (.cells #[.int .u16 0, .int .u16 0, .slice none 0 0] 26) := ⟨_, rfl⟩
  have hg1 : Grow w W1 := by rw [hW1]; exact Grow.alloc w _
  have hk1 : Gramblk W1 w.heap.size zeroG (.slice none 0 0) := by rw [hW1]; exact Gramblk.new w zeroG _
  have hB1 := h.grow hg1
  have G4 := rnum8_any _ 4 l W1 hB1 (by omega) (by omega)
  have n4 := num_lt l 4
  have n6 := num_lt l 6
  have h6' : ((num l 6 : Int) != 0) = true := bne_iff_ne.2 (by omega)
  have G6 : ∀ w', Grow W1 w' → _ := fun w' g => rnum8_any _ 6 l w' (hB1.grow g) (by omega) (by omega)
  generalize num l 6 = n at *
  generalize num l 4 = m at *
  have EC := Lib.hid (of_psum s d (l.take m))
  obtain ⟨cs, hcs⟩ : ∃ cs, cs = 65535 - psum s d (l.take m) := ⟨_, rfl⟩
  rw [← hcs] at EC
  have hc5 : cs ≤ 65535 := by rw [hcs]; exact Nat.sub_le _ _
  have hc0 : ((cs : Int) != 0) = true := bne_iff_ne.2 (by have := psum_lt s d (l.take m); omega)
  have hlt : (l.take m).length ≤ 140737488351232 := by simp; omega
  have i1 : (m : Int) ≤ (l.length : Int) := by omega
  have i2 : m ≤ c := by omega
  clear hcs h6 h7
  go_enter Try.func15, Try.ntmps15
  go_upto_if 11 with fail
  rw [← hW1]
  clear hW1
  go_wp2_with fail
  refine G4.mono ?_
  rintro e w2 ⟨rfl, hg2⟩
  have hbf := (hB1.grow hg2).front h3
  clear G4
  go_wp2_with fail
  refine (G6 _ hg2).mono ?_
  rintro e w4 ⟨rfl, hg4⟩
  clear G6
  go_wp2_with fail
  refine (ROf_any s d 17 _ (l.take m) _ hs hd4 (by decide) (hbf.grow hg4) hlt).mono ?_
  rw [EC.out]
  rintro e w5 ⟨rfl, hg5⟩
  clear EC
  have hg25 := (hg2.trans hg4).trans hg5
  go_wp2_with (refine wpList_store_Gram w w5 rfl _ _ rfl rfl w.heap.size rfl zeroG zeroG (.slice none 0 0) (.slice none 0 0) rfl rfl (hk1.grow hg25) (hg1.trans hg25) (Nat.le_refl _) ?_; intro w3 hk3 hbut hg3)
  refine bodyPost_ret (results2_Gram 6 7 rfl _ w3 w.heap.size _ _ rfl hk3) rfl ?_
  exact ⟨rfl, hg3⟩

set_option maxRecDepth 10000 in
set_option maxHeartbeats 4000000 in
theorem RGet8_good (s d : Nat) (v : Value) (l : List UInt8) (w : World) (hs : s < 4294967296) (hd4 : d < 4294967296) (h : Byt w v l) (hl : l.length ≤ 1000000) (hc : gcode s d l = 0) :
    Calls Try.prog 15 #[.int .u32 (s : Int), .int .u32 (d : Int), v] w fun e w' => ∃ vd, e = .returned (.tuple #[GramV (ggot l) vd, .int .i64 0]) ∧ Byt w' vd (ggot l).data ∧ Grow w w' := by
  obtain ⟨g1, g2, g3, g5⟩ := gcode_zero hc
  obtain ⟨A, c, rfl, hcl, hcm⟩ := h.form
  obtain ⟨W1, hW1⟩ : ∃ W1, W1 = w.alloc (.cells #[.int .u16 0, .int .u16 0, .slice none 0 0] 26) := ⟨_, rfl⟩
  have hg1 : Grow w W1 := by rw [hW1]; exact Grow.alloc w _
  have hk1 : Gramblk W1 w.heap.size zeroG (.slice none 0 0) := by rw [hW1]; exact Gramblk.new w zeroG _
  obtain ⟨b, off, rfl, hb, hcell⟩ := h.at_ (by omega)
  have hB1 := h.grow hg1
  have G4 := rnum8_any _ 4 l W1 hB1 (by omega) (by omega)
  have n0 := num_lt l 0
  have n2 := num_lt l 2
  have n4 := num_lt l 4
  have n6 := num_lt l 6
  have eg : ggot l = ⟨num l 0, num l 2, (l.take (num l 4)).drop 8⟩ := rfl
  obtain ⟨m, hm⟩ : ∃ m, m = num l 4 := ⟨_, rfl⟩
  rw [← hm] at G4 g2 g3 g5 n4 eg
  rw [eg]
  clear hm eg hc
  have i1 : (m : Int) ≤ (l.length : Int) := by omega
  have i2 : m ≤ c := by omega
  have i3 : (8 : Int) ≤ (m : Int) := by omega
  have bd0 := cutAt2 h (lo := 8) (hi := m) g2 g3
  obtain ⟨Ad, hAd⟩ : ∃ Ad, Ad = (if c = 8 then some (⟨b, off, none⟩ : Addr) else some ⟨b, off + 8, none⟩) := ⟨_, rfl⟩
  rw [← hAd] at bd0
  have EAD := Lib.hid hAd
  clear hAd
  have W0 : IntKind.u16.wrap (num l 0 : Int) = (num l 0 : Int) := by
    simp only [IntKind.wrap, IntKind.signed, IntKind.bits]
    simp
    omega
  have W2 : IntKind.u16.wrap (num l 2 : Int) = (num l 2 : Int) := by
    simp only [IntKind.wrap, IntKind.signed, IntKind.bits]
    simp
    omega
  go_enter Try.func15, Try.ntmps15
  go_upto_if 11 with fail
  rw [← hW1]
  clear hW1
  go_wp2_with fail
  refine G4.mono ?_
  rintro e w2 ⟨rfl, hg2⟩
  clear G4
  have hbf := (hB1.grow hg2).front g3
  have G6 := rnum8_any _ 6 l w2 (hB1.grow hg2) (by omega) (by omega)
  go_upto_region 8 with fail
  go_cut [34] (fun s34 wx => s34 = .bool false ∧ Grow W1 wx)
  case first =>
    by_cases h6 : num l 6 = 0
    · have h6' : ((num l 6 : Int) != 0) = false := by rw [h6]; rfl
      generalize num l 6 = n at *
      clear h6
      go_wp2_with fail
      refine G6.mono ?_
      rintro e w4 ⟨rfl, hg4⟩
      go_wp2_with fail
      go_meet
      exact ⟨rfl, hg2.trans hg4⟩
    · have h6' : ((num l 6 : Int) != 0) = true := bne_iff_ne.2 (by omega)
      have h7 : psum s d (l.take m) = 65535 := by
        rcases g5 with g5 | g5
        · exact absurd g5 h6
        · exact g5
      have EC := Lib.hid (of_psum s d (l.take m))
      rw [h7] at EC
      have hlt : (l.take m).length ≤ 140737488351232 := by simp; omega
      generalize num l 6 = n at *
      clear h6 h7 g5
      go_wp2_with fail
      refine G6.mono ?_
      rintro e w4 ⟨rfl, hg4⟩
      clear G6
      go_wp2_with fail
      refine (ROf_any s d 17 _ (l.take m) _ hs hd4 (by decide) (hbf.grow hg4) hlt).mono ?_
      rw [EC.out]
      rintro e w5 ⟨rfl, hg5⟩
      clear EC
      go_wp2_with fail
      go_meet
      exact ⟨rfl, (hg2.trans hg4).trans hg5⟩
  case rest =>
    obtain ⟨rfl, hgc⟩ := hcut
    clear G6 g5 hbf
    have hB := hB1.grow hgc
    have hs2 := hgc.size
    go_wp2_with fail
    refine wp_region_phase (A := ?frame10) (inList (isV (.slice (some ⟨b, off, none⟩) l.length c) :: isV (.int .i64 (num l 0 : Nat)) :: isV (.int .u16 (num l 0 : Nat)) :: isV (.slice (some ⟨b, off, none⟩) l.length c) :: isV (.int .i64 (num l 2 : Nat)) :: isV (.int .u16 (num l 2 : Nat)) :: isV (.slice (some ⟨b, off, none⟩) l.length c) :: isV (.int .i64 (m : Int)) :: isV (.slice Ad (m - 8) (c - 8)) :: isV (GramV ⟨num l 0, num l 2, (l.take m).drop 8⟩ (.slice Ad (m - 8) (c - 8))) :: [])) 10 (by kernel_rfl) (by kernel_rfl) (by kernel_rfl) (inList_stays ?_) (fun x => ?frameEq10) ?_ ?_
    case frameEq10 => go_simp; rfl
    · intro f hf
      simp only [List.mem_cons, List.not_mem_nil, or_false] at hf
      rcases hf with rfl | rfl | rfl | rfl | rfl | rfl | rfl | rfl | rfl | rfl <;> first | exact isV_stays _ | exact isB_stays _ | exact isBs_stays _
    · refine ⟨fun x w1 hg hd post hp => ?_, fun x w1 hg hd post hp => ?_, fun x w1 hg hd post hp => ?_, fun x w1 hg hd post hp => ?_, fun x w1 hg hd post hp => ?_, fun x w1 hg hd post hp => ?_, fun x w1 hg hd post hp => ?_, fun x w1 hg hd post hp => ?_, fun x w1 hg hd post hp => ?_, fun x w1 hg hd post hp => ?_, trivial⟩
      · -- 0: slot 36: Op.move t2
        clear hd
        go_simp
        exact hp _ _ (Grow.refl _) rfl
      · -- 1: slot 37: Op.call { value (Operand.func 28), args := #[t36, const (0:i64)], argTypes := #[
        have h36 : x 36 = .slice (some ⟨b, off, none⟩) l.length c := hd 0 (by decide) _ rfl
        clear hd
        go_simp
        refine (rnum8_any _ 0 l _ (hB.grow hg) (by omega) (by omega)).mono ?_
        rintro e w2 ⟨rfl, hg2⟩
        exact ⟨_, rfl, hp _ _ hg2 rfl⟩
      · -- 2: slot 38: Op.convert 3 23 t37
        have h37 : x 37 = .int .i64 (num l 0 : Nat) := hd 1 (by decide) _ rfl
        clear hd
        go_simp
        exact hp _ _ (Grow.refl _) rfl
      · -- 3: slot 39: Op.move t2
        clear hd
        go_simp
        exact hp _ _ (Grow.refl _) rfl
      · -- 4: slot 40: Op.call { value (Operand.func 28), args := #[t39, const (2:i64)], argTypes := #[
        have h39 : x 39 = .slice (some ⟨b, off, none⟩) l.length c := hd 3 (by decide) _ rfl
        clear hd
        go_simp
        refine (rnum8_any _ 2 l _ (hB.grow hg) (by omega) (by omega)).mono ?_
        rintro e w2 ⟨rfl, hg2⟩
        exact ⟨_, rfl, hp _ _ hg2 rfl⟩
      · -- 5: slot 41: Op.convert 3 23 t40
        have h40 : x 40 = .int .i64 (num l 2 : Nat) := hd 4 (by decide) _ rfl
        clear hd
        go_simp
        exact hp _ _ (Grow.refl _) rfl
      · -- 6: slot 42: Op.move t2
        clear hd
        go_simp
        exact hp _ _ (Grow.refl _) rfl
      · -- 7: slot 43: Op.move t8
        clear hd
        go_simp
        exact hp _ _ (Grow.refl _) rfl
      · -- 8: slot 44: Op.slice 24 t42 (some (const (8:i64))) (some t43) none
        have h42 : x 42 = .slice (some ⟨b, off, none⟩) l.length c := hd 6 (by decide) _ rfl
        have h43 : x 43 = .int .i64 (m : Int) := hd 7 (by decide) _ rfl
        clear hd
        go_simp
        exact hp _ _ (Grow.refl _) (show Value.slice _ _ _ = Value.slice _ _ _ from by rw [EAD.out])
      · -- 9: slot 45: Op.build 26 #[(0, t38), (1, t41), (2, t44)]
        have h38 : x 38 = .int .u16 (num l 0 : Nat) := hd 2 (by decide) _ rfl
        have h41 : x 41 = .int .u16 (num l 2 : Nat) := hd 5 (by decide) _ rfl
        have h44 : x 44 = .slice Ad (m - 8) (c - 8) := hd 8 (by decide) _ rfl
        clear hd
        go_simp
        exact hp _ _ (Grow.refl _) rfl
    · intro x w1 hg hd
      have h45 : x 45 = GramV ⟨num l 0, num l 2, (l.take m).drop 8⟩ (.slice Ad (m - 8) (c - 8)) := hd 9 _ (by decide) rfl
      clear hd
      simp only [List.drop_succ_cons, List.drop_zero]
      go_wp2_with (refine wpList_store_Gram w w1 rfl _ _ rfl rfl w.heap.size rfl ⟨num l 0, num l 2, (l.take m).drop 8⟩ zeroG (.slice Ad (m - 8) (c - 8)) (.slice none 0 0) h45 rfl ((hk1.grow hgc).grow hg) ((hg1.trans hgc).trans hg) (Nat.le_refl _) ?_; intro w4 hk4 hbut hg4)
      refine bodyPost_ret (results2_Gram 6 7 rfl _ w4 w.heap.size _ _ rfl hk4) rfl ?_
      exact ⟨_, rfl, bd0.grow hg4, hg4⟩

theorem RGet8_any (s d : Nat) (v : Value) (l : List UInt8) (w : World) (hs : s < 4294967296) (hd4 : d < 4294967296) (h : Byt w v l) (hl : l.length ≤ 1000000) :
    Calls Try.prog 15 #[.int .u32 (s : Int), .int .u32 (d : Int), v] w fun e w' => ∃ vd, e = .returned (.tuple #[GramV (gres s d l) vd, .int .i64 (gcode s d l)]) ∧ Byt w' vd (gres s d l).data ∧ Grow w w' := by
  unfold gres
  by_cases hc : gcode s d l = 0
  · rw [if_pos hc, hc]
    exact RGet8_good s d v l w hs hd4 h hl hc
  · rw [if_neg hc]
    have fin : ∀ n : Int, gcode s d l = n → Calls Try.prog 15 #[.int .u32 (s : Int), .int .u32 (d : Int), v] w (fun e w' => e = .returned (.tuple #[GramV zeroG (.slice none 0 0), .int .i64 n]) ∧ Grow w w') → Calls Try.prog 15 #[.int .u32 (s : Int), .int .u32 (d : Int), v] w fun e w' => ∃ vd, e = .returned (.tuple #[GramV zeroG vd, .int .i64 (gcode s d l)]) ∧ Byt w' vd zeroG.data ∧ Grow w w' := by
      intro n hn hC
      refine hC.mono ?_
      rintro e w' ⟨rfl, hg⟩
      exact ⟨_, by rw [hn], Byt.nil _, hg⟩
    by_cases h1 : l.length < 8
    · exact fin 2 (by unfold gcode; rw [if_pos h1]) (RGet8_few s d v l w h hl h1)
    by_cases h2 : num l 4 < 8
    · exact fin 3 (by unfold gcode; rw [if_neg h1, if_pos h2]) (RGet8_form s d v l w h hl (by omega) h2)
    by_cases h3 : l.length < num l 4
    · exact fin 2 (by unfold gcode; rw [if_neg h1, if_neg h2, if_pos h3]) (RGet8_short s d v l w h hl (by omega) (by omega) h3)
    by_cases h4 : num l 6 ≠ 0 ∧ psum s d (l.take (num l 4)) ≠ 65535
    · exact fin 4 (by unfold gcode; rw [if_neg h1, if_neg h2, if_neg h3, if_pos h4]) (RGet8_sum s d v l w h hl hs hd4 (by omega) (by omega) (by omega) h4.1 h4.2)
    · exact absurd (by unfold gcode; rw [if_neg h1, if_neg h2, if_neg h3, if_neg h4]) hc

set_option maxHeartbeats 2000000 in
theorem gSame_yes (u v : Value) (k q : Gram) (w : World) (hu : isGram w u k) (hv : isGram w v q) (he : k = q) :
    Calls Try.prog 14 #[u, v] w fun e w' => e = .returned (.bool true) ∧ Grow w w' := by
  subst he
  obtain ⟨A, ca, rfl, hd1, hk⟩ := hu.form
  obtain ⟨B, cb, rfl, hd2, _⟩ := hv.form
  have hg2 := (Grow.alloc w (.cells #[.int .u16 (k.src : Int), .int .u16 (k.dst : Int), .slice A k.data.length ca] 26)).trans (Grow.alloc _ (.cells #[.int .u16 (k.src : Int), .int .u16 (k.dst : Int), .slice B k.data.length cb] 26))
  go_enter Try.func14, Try.ntmps14
  go_wp2_with fail
  refine (Equal_any _ _ _ _ _ (hd1.grow hg2) (hd2.grow hg2)).mono ?_
  rw [beq_self_eq_true]
  rintro e w' ⟨rfl, rfl⟩
  go_wp2_with fail
  go_ret
  exact ⟨rfl, hg2⟩

set_option maxHeartbeats 2000000 in
theorem RSame8_yes (u v : Value) (k q : Gram) (w : World) (hu : isGram w u k) (hv : isGram w v q) (he : k = q) :
    Calls Try.prog 13 #[u, v] w fun e w' => e = .returned (.bool true) ∧ Grow w w' := by
  subst he
  obtain ⟨A, ca, rfl, hd1, hk⟩ := hu.form
  obtain ⟨B, cb, rfl, hd2, _⟩ := hv.form
  have hg2 := (Grow.alloc w (.cells #[.int .u16 (k.src : Int), .int .u16 (k.dst : Int), .slice A k.data.length ca] 26)).trans (Grow.alloc _ (.cells #[.int .u16 (k.src : Int), .int .u16 (k.dst : Int), .slice B k.data.length cb] 26))
  have c1 := str1 (hd1.grow hg2)
  have c2 := str1 (hd2.grow hg2)
  unfold strV at *
  go_enter Try.func13, Try.ntmps13
  go_wp2_with fail
  go_ret
  exact ⟨rfl, hg2⟩
end Go.Proofs.Ytmblfenindjeiaa
