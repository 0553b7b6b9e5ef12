/- Bytes as a datagram: Get. -/
import Derived.Test.YtmblfenindjeiaaGram
import Derived.Deep.DeepCutAuto
import Derived.Lib.Hide
namespace Go.Proofs.Ytmblfenindjeiaa
set_option linter.unusedVariables false
set_option linter.unusedSimpArgs false
open Go.ChangeShapes Go.WideShapes Go.ChangeAt Go.RowKit

def isGramO (b : Nat) (k : Gram) (v : Value) (w : World) : Prop := ∃ vd, v = GramV k vd ∧ Own w b vd k.data
theorem isGramO_stays {b : Nat} (k : Gram) : stays (isGramO b k) := fun _ _ _ hg h => by
  obtain ⟨vd, e, h1⟩ := h
  exact ⟨vd, e, h1.grow hg⟩
set_option maxHeartbeats 400000 in
/-- A datagram and a number, handed back out of its block. -/
theorem results2_Gram {fn : Func} (i j : Nat) (h : fn.results = #[.cell i 26, .tmp j]) (tmps : Array Value) (w : World) (g : Nat) (k : Gram) (v_data : Value) (ht : tmps.getD i undef = .pointer (some ⟨g, 0, none⟩)) (hb : Gramblk w g k v_data) :
    (results fn tmps).run Try.prog w = .ok (.tuple #[GramV k v_data, tmps.getD j undef]) w := by
  obtain ⟨c0, c1, c2⟩ := hb.boxd
  have ht' : tmps[i]?.getD undef = .pointer (some ⟨g, 0, none⟩) := by simpa using ht
  simp only [results, h, go_sem]
  simp [ht', c0, c1, c2, go_sem]
theorem gcode_meas (s d : Nat) (l : List UInt8) : gcode s d l = if gmcode l = 0 then (if num l 6 ≠ 0 ∧ psum s d (l.take (num l 4)) ≠ 65535 then 4 else 0) else gmcode l := by
  unfold gcode gmcode
  by_cases h1 : l.length < 8
  · rw [if_pos h1, if_pos h1]; rfl
  rw [if_neg h1, if_neg h1]
  by_cases h2 : num l 4 < 8
  · rw [if_pos h2, if_pos h2]; rfl
  rw [if_neg h2, if_neg h2]
  by_cases h3 : l.length < num l 4
  · rw [if_pos h3, if_pos h3]; rfl
  rw [if_neg h3, if_neg h3, if_pos rfl]
theorem gmcode_le (l : List UInt8) : 0 ≤ gmcode l ∧ gmcode l ≤ 3 := by
  unfold gmcode
  split
  · omega
  · split
    · omega
    · split <;> omega
theorem gmcode_zero {l : List UInt8} (h : gmcode l = 0) : 8 ≤ l.length ∧ 8 ≤ num l 4 ∧ num l 4 ≤ l.length ∧ gall l = num l 4 := by
  have h' := h
  unfold gmcode at h
  by_cases h1 : l.length < 8
  · rw [if_pos h1] at h; cases h
  rw [if_neg h1] at h
  by_cases h2 : num l 4 < 8
  · rw [if_pos h2] at h; cases h
  rw [if_neg h2] at h
  by_cases h3 : l.length < num l 4
  · rw [if_pos h3] at h; cases h
  exact ⟨by omega, by omega, by omega, by unfold gall; rw [if_pos h']⟩

set_option maxHeartbeats 2000000 in
theorem gGet_bad (s d : Nat) (v : Value) (l : List UInt8) (w : World) (hs : s < 4294967296) (hd4 : d < 4294967296) (h : Byt w v l) (hl : l.length ≤ 1000000) (hc : gcode s d l ≠ 0) :
    Calls Try.prog 12 #[.int .u32 (s : Int), .int .u32 (d : Int), v] w fun e w' => e = .returned (.tuple #[GramV zeroG (.slice none 0 0), .int .i64 (gcode s d l)]) ∧ Grow w w' := by
  obtain ⟨A, c, rfl, hcl, hcm⟩ := h.form
  obtain ⟨W1, hW1⟩ : ∃ W1, W1 = w.alloc (.cells #[.int .u16 0, .int .u16 0, .slice none 0 0] 26) := ⟨_, rfl⟩
  have hg1 : Grow w W1 := by rw [hW1]; exact Grow.alloc w _
  have hk1 : Gramblk W1 w.heap.size zeroG (.slice none 0 0) := by rw [hW1]; exact Gramblk.new w zeroG _
  have hB := h.grow hg1
  have M := gmeasure_any _ l W1 hB hl
  obtain ⟨q1, q2⟩ := gmcode_le l
  rw [gcode_meas] at hc ⊢
  by_cases h1 : gmcode l = 0
  · rw [if_pos h1] at hc ⊢
    obtain ⟨g1, g2, g3, g4⟩ := gmcode_zero h1
    have h5 : num l 6 ≠ 0 ∧ psum s d (l.take (num l 4)) ≠ 65535 := Classical.byContradiction fun h5 => hc (if_neg h5)
    rw [if_pos h5]
    rw [h1, g4] at M
    clear hc
    obtain ⟨h6, h7⟩ := h5
    have G6 := gget16_any _ 6 l W1 hB (by omega) (by omega)
    have n4 := num_lt l 4
    have n6 := num_lt l 6
    obtain ⟨m, hm⟩ : ∃ m, m = num l 4 := ⟨_, rfl⟩
    rw [← hm] at M g2 g3 h7 n4
    clear hm g4 h1 q1 q2
    have hbf := hB.front g3
    have hR := gright_any s d _ (l.take m) W1 hs hd4 hbf (by simp; omega)
    have h7' : ((psum s d (l.take m) : Int) == 65535) = false := beq_eq_false_iff_ne.2 (by omega)
    rw [h7'] at hR
    have h6' : ((num l 6 : Int) != 0) = true := bne_iff_ne.2 (by omega)
    have i1 : (m : Int) ≤ (l.length : Int) := by omega
    have i2 : m ≤ c := by omega
    generalize num l 6 = n at *
    clear h7 h7' h6
    go_enter Try.func12, Try.ntmps12
    go_wp2_with fail
    rw [← hW1]
    clear hW1
    refine M.mono ?_
    rintro e w' ⟨rfl, rfl⟩
    go_wp2_with fail
    refine G6.mono ?_
    rintro e w' ⟨rfl, rfl⟩
    go_wp2_with fail
    refine hR.mono ?_
    rintro e w2 ⟨rfl, hg2⟩
    go_wp2_with (refine wpList_store_Gram w w2 rfl _ _ rfl rfl w.heap.size rfl zeroG zeroG (.slice none 0 0) (.slice none 0 0) rfl rfl (hk1.grow hg2) (hg1.trans hg2) (Nat.le_refl _) ?_; intro w3 hk3 hbut hg3)
    refine bodyPost_ret (results2_Gram 6 7 rfl _ w3 w.heap.size _ _ rfl hk3) rfl ?_
    exact ⟨rfl, hg3⟩
  · rw [if_neg h1] at hc ⊢
    have g4 : gall l = 0 := by unfold gall; rw [if_neg h1]
    rw [g4] at M
    have h1' : ((gmcode l : Int) != 0) = true := bne_iff_ne.2 h1
    generalize gmcode l = n at *
    clear g4 hc h1
    go_enter Try.func12, Try.ntmps12
    go_wp2_with fail
    rw [← hW1]
    clear hW1
    refine M.mono ?_
    rintro e w' ⟨rfl, rfl⟩
    go_wp2_with (refine wpList_store_Gram w W1 rfl _ _ rfl rfl w.heap.size rfl zeroG zeroG (.slice none 0 0) (.slice none 0 0) rfl rfl hk1 hg1 (Nat.le_refl _) ?_; intro w3 hk3 hbut hg3)
    refine bodyPost_ret (results2_Gram 6 7 rfl _ w3 w.heap.size _ _ rfl hk3) rfl ?_
    exact ⟨rfl, hg3⟩

set_option maxRecDepth 10000 in
set_option maxHeartbeats 4000000 in
theorem gGet_good (s d : Nat) (v : Value) (l : List UInt8) (w : World) (hs : s < 4294967296) (hd4 : d < 4294967296) (h : Byt w v l) (hl : l.length ≤ 1000000) (hc : gcode s d l = 0) :
    Calls Try.prog 12 #[.int .u32 (s : Int), .int .u32 (d : Int), v] w fun e w' => ∃ vd, e = .returned (.tuple #[GramV (ggot l) vd, .int .i64 0]) ∧ Own w' (w.heap.size + 1) vd (ggot l).data ∧ Grow w w' := by
  obtain ⟨g1, g2, g3, g5⟩ := gcode_zero hc
  have h1 : gmcode l = 0 := by unfold gmcode; rw [if_neg (by omega), if_neg (by omega), if_neg (by omega)]
  have g4 := (gmcode_zero h1).2.2.2
  obtain ⟨A, c, rfl, hcl, hcm⟩ := h.form
  obtain ⟨b, off, rfl, hb, hcell⟩ := h.at_ (by omega)
  obtain ⟨W1, hW1⟩ : ∃ W1, W1 = w.alloc (.cells #[.int .u16 0, .int .u16 0, .slice none 0 0] 26) := ⟨_, rfl⟩
  have hs0 : W1.heap.size = w.heap.size + 1 := by rw [hW1]; simp
  have hg1 : Grow w W1 := by rw [hW1]; exact Grow.alloc w _
  have hk1 : Gramblk W1 w.heap.size zeroG (.slice none 0 0) := by rw [hW1]; exact Gramblk.new w zeroG _
  have hB1 := h.grow hg1
  have M := gmeasure_any _ l W1 hB1 hl
  rw [h1, g4] at M
  have G6 := gget16_any _ 6 l W1 hB1 (by omega) (by omega)
  have n0 := num_lt l 0
  have n2 := num_lt l 2
  have n4 := num_lt l 4
  have n6 := num_lt l 6
  have eg : ggot l = ⟨num l 0, num l 2, (l.take (num l 4)).drop 8⟩ := rfl
  obtain ⟨m, hm⟩ : ∃ m, m = num l 4 := ⟨_, rfl⟩
  rw [← hm] at M g2 g3 g5 n4 eg
  rw [eg]
  clear hm g4 h1 eg hc
  have hbf := hB1.front g3
  have hR := gright_any s d _ (l.take m) W1 hs hd4 hbf (by simp; omega)
  have i1 : (m : Int) ≤ (l.length : Int) := by omega
  have i2 : m ≤ c := by omega
  have i3 : (8 : Int) ≤ (m : Int) := by omega
  have g23 : lens [(l.take m).drop 8] ≤ 281474976710656 := by simp [lens]; omega
  have W0 : IntKind.u16.wrap (num l 0 : Int) = (num l 0 : Int) := by
    simp only [IntKind.wrap, IntKind.signed, IntKind.bits]
    simp
    omega
  have W2 : IntKind.u16.wrap (num l 2 : Int) = (num l 2 : Int) := by
    simp only [IntKind.wrap, IntKind.signed, IntKind.bits]
    simp
    omega
  go_enter Try.func12, Try.ntmps12
  go_wp2_with fail
  rw [← hW1]
  clear hW1
  refine M.mono ?_
  rintro e w' ⟨rfl, rfl⟩
  clear M
  go_upto_region 4 with fail
  go_cut [30] (fun s30 wx => s30 = .bool false ∧ Grow W1 wx)
  case first =>
    by_cases h6 : num l 6 = 0
    · have h6' : ((num l 6 : Int) != 0) = false := by rw [h6]; rfl
      generalize num l 6 = n at *
      clear h6 hR
      go_wp2_with fail
      refine G6.mono ?_
      rintro e w' ⟨rfl, rfl⟩
      go_wp2_with fail
      go_meet
      exact ⟨rfl, Grow.refl _⟩
    · have h6' : ((num l 6 : Int) != 0) = true := bne_iff_ne.2 (by omega)
      have h7' : ((psum s d (l.take m) : Int) == 65535) = true := by
        rcases g5 with g5 | g5
        · exact absurd g5 h6
        · rw [g5]; rfl
      rw [h7'] at hR
      generalize num l 6 = n at *
      clear h6 h7' g5
      go_wp2_with fail
      refine G6.mono ?_
      rintro e w' ⟨rfl, rfl⟩
      go_wp2_with fail
      refine hR.mono ?_
      rintro e w2 ⟨rfl, hg2⟩
      go_wp2_with fail
      go_meet
      exact ⟨rfl, hg2⟩
  case rest =>
    obtain ⟨rfl, hgc⟩ := hcut
    clear hR G6 g5
    have hB := hB1.grow hgc
    have hs2 := hgc.size
    go_wp2_with fail
    refine wp_region_phase (A := ?frame6) (inList (isV (.slice (some ⟨b, off, none⟩) l.length c) :: isV (.int .i64 (num l 0 : Nat)) :: isV (.int .u16 (num l 0 : Nat)) :: isV (.slice (some ⟨b, off, none⟩) l.length c) :: isV (.int .i64 (num l 2 : Nat)) :: isV (.int .u16 (num l 2 : Nat)) :: isV (.slice (some ⟨b, off, none⟩) l.length c) :: isV (.int .i64 (m : Int)) :: isB ((l.take m).drop 8) :: (isBs [(l.take m).drop 8]) :: (isO (w.heap.size + 1) ((l.take m).drop 8)) :: (isGramO (w.heap.size + 1) ⟨num l 0, num l 2, (l.take m).drop 8⟩) :: [])) 12 (by kernel_rfl) (by kernel_rfl) (by kernel_rfl) (inList_stays ?_) (fun x => ?frameEq6) ?_ ?_
    case frameEq6 => go_simp; rfl
    · intro f hf
      simp only [List.mem_cons, List.not_mem_nil, or_false] at hf
      rcases hf with rfl | rfl | rfl | rfl | rfl | rfl | rfl | rfl | rfl | rfl | rfl | rfl <;> first | exact isV_stays _ | exact isB_stays _ | exact isBs_stays _ | exact isO_stays _ | exact isGramO_stays _
    · refine ⟨fun x w1 hg hd post hp => ?_, fun x w1 hg hd post hp => ?_, fun x w1 hg hd post hp => ?_, fun x w1 hg hd post hp => ?_, fun x w1 hg hd post hp => ?_, fun x w1 hg hd post hp => ?_, fun x w1 hg hd post hp => ?_, fun x w1 hg hd post hp => ?_, fun x w1 hg hd post hp => ?_, fun x w1 hg hd post hp => ?_, fun x w1 hg hd post hp => ?_, fun x w1 hg hd post hp => ?_, trivial⟩
      · -- 0: slot 32: Op.move t2
        clear hd
        go_simp
        exact hp _ _ (Grow.refl _) rfl
      · -- 1: slot 33: Op.call { value (Operand.func 25), args := #[t32, const (0:i64)], argTypes := #[
        have h32 : x 32 = .slice (some ⟨b, off, none⟩) l.length c := hd 0 (by decide) _ rfl
        clear hd
        go_simp
        refine (gget16_any _ 0 l _ (hB.grow hg) (by omega) (by omega)).mono ?_
        rintro e w2 ⟨rfl, rfl⟩
        exact ⟨_, rfl, hp _ _ (Grow.refl _) rfl⟩
      · -- 2: slot 34: Op.convert 3 23 t33
        have h33 : x 33 = .int .i64 (num l 0 : Nat) := hd 1 (by decide) _ rfl
        clear hd
        go_simp
        exact hp _ _ (Grow.refl _) rfl
      · -- 3: slot 35: Op.move t2
        clear hd
        go_simp
        exact hp _ _ (Grow.refl _) rfl
      · -- 4: slot 36: Op.call { value (Operand.func 25), args := #[t35, const (2:i64)], argTypes := #[
        have h35 : x 35 = .slice (some ⟨b, off, none⟩) l.length c := hd 3 (by decide) _ rfl
        clear hd
        go_simp
        refine (gget16_any _ 2 l _ (hB.grow hg) (by omega) (by omega)).mono ?_
        rintro e w2 ⟨rfl, rfl⟩
        exact ⟨_, rfl, hp _ _ (Grow.refl _) rfl⟩
      · -- 5: slot 37: Op.convert 3 23 t36
        have h36 : x 36 = .int .i64 (num l 2 : Nat) := hd 4 (by decide) _ rfl
        clear hd
        go_simp
        exact hp _ _ (Grow.refl _) rfl
      · -- 6: slot 38: Op.move t2
        clear hd
        go_simp
        exact hp _ _ (Grow.refl _) rfl
      · -- 7: slot 39: Op.move t8
        clear hd
        go_simp
        exact hp _ _ (Grow.refl _) rfl
      · -- 8: slot 40: Op.slice 24 t38 (some (const (8:i64))) (some t39) none
        have h38 : x 38 = .slice (some ⟨b, off, none⟩) l.length c := hd 6 (by decide) _ rfl
        have h39 : x 39 = .int .i64 (m : Int) := hd 7 (by decide) _ rfl
        clear hd
        have q1 := cutAt2 (hB.grow hg) (lo := 8) (hi := m) g2 g3
        go_simp
        exact hp _ _ (Grow.refl _) q1
      · -- 9: slot 41: Op.buildSlice 63 1 #[(0, t40)]
        have h40 : Byt w1 (x 40) ((l.take m).drop 8) := hd 8 (by decide) _ rfl
        clear hd
        obtain ⟨A4, n4, c4, e4, _⟩ := h40.form2
        rw [e4] at h40
        go_simp
        exact hp _ _ (Grow.alloc _ _) (Byts.lit w1 #[.slice A4 n4 c4] _ [(l.take m).drop 8] 1 rfl rfl (by simp [maxLen]) (byt_one h40))
      · -- 10: slot 42: Op.call { value (Operand.func 21), args := #[t41], argTypes := #[63] }
        have h41 : (isBs [(l.take m).drop 8]) (x 41) w1 := hd 9 (by decide) _ rfl
        clear hd
        go_simp
        refine (Join_any _ _ _ h41 (by simp) g23).mono ?_
        rintro e w2 ⟨u, rfl, ho, hg2⟩
        have hz := hg.size
        have ho1 : Own w2 (w.heap.size + 1) u ((l.take m).drop 8) := Own.base (b := w1.heap.size) (by simpa using ho) (by omega)
        exact ⟨_, rfl, hp _ _ hg2 ho1⟩
      · -- 11: slot 43: Op.build 26 #[(0, t34), (1, t37), (2, t42)]
        have h34 : x 34 = .int .u16 (num l 0 : Nat) := hd 2 (by decide) _ rfl
        have h37 : x 37 = .int .u16 (num l 2 : Nat) := hd 5 (by decide) _ rfl
        have h42 : (isO (w.heap.size + 1) ((l.take m).drop 8)) (x 42) w1 := hd 10 (by decide) _ rfl
        clear hd
        have p42 : Own w1 _ (x 42) _ := h42
        obtain ⟨A4, n4, d4, e4, _⟩ := p42.byt.form2
        rw [e4] at p42
        go_simp
        exact hp _ _ (Grow.refl _) ⟨_, rfl, p42⟩
    · intro x w1 hg hd
      have h43 : (isGramO (w.heap.size + 1) ⟨num l 0, num l 2, (l.take m).drop 8⟩) (x 43) w1 := hd 11 _ (by decide) rfl
      clear hd
      obtain ⟨vd, e43, hvd⟩ := h43
      simp only [List.drop_succ_cons, List.drop_zero]
      go_wp2_with (refine wpList_store_Gram w w1 rfl _ _ rfl rfl w.heap.size rfl ⟨num l 0, num l 2, (l.take m).drop 8⟩ zeroG vd (.slice none 0 0) e43 hvd.one ((hk1.grow hgc).grow hg) ((hg1.trans hgc).trans hg) (Nat.le_refl _) ?_; intro w4 hk4 hbut hg4)
      refine bodyPost_ret (results2_Gram 6 7 rfl _ w4 w.heap.size _ _ rfl hk4) rfl ?_
      exact ⟨_, rfl, Own.but hvd hbut (by omega), hg4⟩

theorem gGet_any (s d : Nat) (v : Value) (l : List UInt8) (w : World) (hs : s < 4294967296) (hd4 : d < 4294967296) (h : Byt w v l) (hl : l.length ≤ 1000000) :
    Calls Try.prog 12 #[.int .u32 (s : Int), .int .u32 (d : Int), v] w fun e w' => ∃ vd, e = .returned (.tuple #[GramV (gres s d l) vd, .int .i64 (gcode s d l)]) ∧ Own w' (w.heap.size + 1) vd (gres s d l).data ∧ Grow w w' := by
  unfold gres
  by_cases hc : gcode s d l = 0
  · rw [if_pos hc, hc]
    exact gGet_good s d v l w hs hd4 h hl hc
  · rw [if_neg hc]
    refine (gGet_bad s d v l w hs hd4 h hl hc).mono ?_
    rintro e w' ⟨rfl, hg⟩
    exact ⟨_, rfl, World.ownsRow_nil _ _ _ _, hg⟩
end Go.Proofs.Ytmblfenindjeiaa
