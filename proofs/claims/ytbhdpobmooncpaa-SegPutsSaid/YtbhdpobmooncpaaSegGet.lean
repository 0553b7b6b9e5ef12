/- Bytes as a segment: Get. -/
import Derived.Test.YtbhdpobmooncpaaSegRead
import Derived.Test.YtbhdpobmooncpaaSegPut
import Derived.Test.YtbhdpobmooncpaaIpFacts
import Derived.Test.YtbhdpobmooncpaaIpBlk
import Derived.Deep.DeepCutAuto
import Derived.Lib.Hide
namespace Go.Proofs.Ytbhdpobmooncpaa
set_option linter.unusedVariables false
set_option linter.unusedSimpArgs false
open Go.ChangeShapes Go.WideShapes Go.ChangeAt Go.RowKit

def isSgmO (b : Nat) (k : Sgm) (v : Value) (w : World) : Prop := ∃ vd, v = SgmV k vd ∧ Own w b vd k.data
theorem isSgmO_stays {b : Nat} (k : Sgm) : stays (isSgmO b k) := fun _ _ _ hg h => by
  obtain ⟨vd, e, h1⟩ := h
  exact ⟨vd, e, h1.grow hg⟩
set_option maxHeartbeats 400000 in
/-- A segment and a number, handed back out of its block. -/
theorem results2_Sgm {fn : Func} (i j : Nat) (h : fn.results = #[.cell i 26, .tmp j]) (tmps : Array Value) (w : World) (g : Nat) (k : Sgm) (v_data : Value) (ht : tmps.getD i undef = .pointer (some ⟨g, 0, none⟩)) (hb : Sgmblk w g k v_data) :
    (results fn tmps).run Try.prog w = .ok (.tuple #[SgmV k v_data, tmps.getD j undef]) w := by
  obtain ⟨c0, c1, c2, c3, c4, c5, c6, c7, c8⟩ := hb.boxd
  have ht' : tmps[i]?.getD undef = .pointer (some ⟨g, 0, none⟩) := by simpa using ht
  simp only [results, h, go_sem]
  simp [ht', c0, c1, c2, c3, c4, c5, c6, c7, c8, go_sem]

set_option maxHeartbeats 4000000 in
theorem sGet_bad (s d : Nat) (v : Value) (l : List UInt8) (w : World) (hs : s < 4294967296) (hd4 : d < 4294967296) (h : Byt w v l) (hl : l.length ≤ 1000000) (hc : tcode s d l ≠ 0) :
    Calls Try.prog 15 #[.int .u32 (s : Int), .int .u32 (d : Int), v] w fun e w' => e = .returned (.tuple #[SgmV zeroT (.slice none 0 0), .int .i64 (tcode s d l)]) ∧ Grow w w' := by
  obtain ⟨A, c, rfl, hcl, hcm⟩ := h.form
  obtain ⟨W1, hW1⟩ : ∃ W1, W1 = w.alloc (.cells #[.int .u16 0, .int .u16 0, .int .u32 0, .int .u32 0, .int .u8 0, .int .u16 0, .int .i64 0, .int .i64 0, .slice none 0 0] 26) := ⟨_, rfl⟩
  have hg1 : Grow w W1 := by rw [hW1]; exact Grow.alloc w _
  have hk1 : Sgmblk W1 w.heap.size zeroT (.slice none 0 0) := by rw [hW1]; exact Sgmblk.new w zeroT _
  have hB := h.grow hg1
  have M := smeasure_any _ l W1 hB hl
  obtain ⟨q1, q2⟩ := smcode_le l
  unfold tcode at hc ⊢
  by_cases h1 : smcode l = 0
  · rw [if_neg (by simp [h1])] at hc ⊢
    obtain ⟨g1, g2, g3⟩ := smcode_zero h1
    rw [h1, stop_good h1] at M
    have hlt : l.length ≤ 140737488351232 := by omega
    by_cases h5 : tsum s d l = 65535
    · rw [if_neg (by simp [h5])] at hc ⊢
      have EC := Lib.hid (of_tsum s d l)
      rw [h5] at EC
      obtain ⟨⟨X, Y, E⟩, hro⟩ : ∃ r, r = sro l := ⟨_, rfl⟩
      have hE := (sread_le ((l.take (shead l)).drop 20)).2.2
      have hrd : sread ((l.take (shead l)).drop 20) = (X, Y, E) := hro.symm
      rw [hrd] at hE
      rw [← hro] at hc ⊢
      simp only at hc hE ⊢
      obtain ⟨m, hm⟩ : ∃ m, m = shead l := ⟨_, rfl⟩
      rw [← hm] at M g2 g3 hrd
      obtain ⟨b, off, rfl, hb, hcell⟩ := h.at_ (by omega)
      have hcut := cutAt2 hB (lo := 20) (hi := m) g2 g3
      have hRd : ∀ w', Grow W1 w' → _ := fun w' g => sRead_any _ _ w' (hcut.grow g) (by simp; omega) X Y E hrd
      have HCut := Lib.hid hcut
      have i1 : (m : Int) ≤ (l.length : Int) := by omega
      have i2 : m ≤ c := by omega
      have i3 : (20 : Int) ≤ (m : Int) := by omega
      have bE : (E != 0) = true := bne_iff_ne.2 hc
      clear hm h1 q1 q2 h5 hro hrd hcell hcut
      go_enter Try.func15, Try.ntmps15
      go_wp2_with fail
      rw [← hW1]
      clear hW1
      refine M.mono ?_
      rintro e w' ⟨rfl, rfl⟩
      clear M
      go_wp2_with fail
      refine (Of_any s d 6 _ l _ hs hd4 (by decide) hB hlt).mono ?_
      rw [EC.out]
      rintro e w2 ⟨rfl, hg2⟩
      clear EC
      by_cases hc20 : c = 20
      · subst hc20
        obtain rfl : m = 20 := by omega
        rw [if_pos rfl] at hRd
        simp only [Nat.sub_self] at hRd
        go_wp2_with fail
        refine (hRd _ hg2).mono ?_
        rintro e w4 ⟨rfl, hg4⟩
        have hg24 := hg2.trans hg4
        clear hRd
        go_wp2_with (refine wpList_store_Sgm w w4 rfl _ _ rfl rfl w.heap.size rfl zeroT zeroT (.slice none 0 0) (.slice none 0 0) rfl rfl (hk1.grow hg24) (hg1.trans hg24) (Nat.le_refl _) ?_; intro w3 hk3 hbut hg3)
        refine bodyPost_ret (results2_Sgm 6 7 rfl _ w3 w.heap.size _ _ rfl hk3) rfl ?_
        exact ⟨rfl, hg3⟩
      · rw [if_neg hc20] at hRd
        go_wp2_with fail
        refine (hRd _ hg2).mono ?_
        rintro e w4 ⟨rfl, hg4⟩
        have hg24 := hg2.trans hg4
        clear hRd
        go_wp2_with (refine wpList_store_Sgm w w4 rfl _ _ rfl rfl w.heap.size rfl zeroT zeroT (.slice none 0 0) (.slice none 0 0) rfl rfl (hk1.grow hg24) (hg1.trans hg24) (Nat.le_refl _) ?_; intro w3 hk3 hbut hg3)
        refine bodyPost_ret (results2_Sgm 6 7 rfl _ w3 w.heap.size _ _ rfl hk3) rfl ?_
        exact ⟨rfl, hg3⟩
    · rw [if_pos h5]
      have EC := Lib.hid (of_tsum s d l)
      have hlt5 := tsum_lt s d l
      obtain ⟨cs, hcs⟩ : ∃ cs, cs = 65535 - tsum s d l := ⟨_, rfl⟩
      rw [← hcs] at EC
      have hc5 : cs ≤ 65535 := by omega
      have hc0 : ((cs : Int) != 0) = true := bne_iff_ne.2 (by omega)
      generalize shead l = m at *
      clear hcs h5 hc h1 q1 q2 hlt5
      go_enter Try.func15, Try.ntmps15
      go_wp2_with fail
      rw [← hW1]
      clear hW1
      refine M.mono ?_
      rintro e w' ⟨rfl, rfl⟩
      go_wp2_with fail
      refine (Of_any s d 6 _ l _ hs hd4 (by decide) hB hlt).mono ?_
      rw [EC.out]
      rintro e w2 ⟨rfl, hg2⟩
      clear EC
      go_wp2_with (refine wpList_store_Sgm w w2 rfl _ _ rfl rfl w.heap.size rfl zeroT zeroT (.slice none 0 0) (.slice none 0 0) rfl rfl (hk1.grow hg2) (hg1.trans hg2) (Nat.le_refl _) ?_; intro w3 hk3 hbut hg3)
      refine bodyPost_ret (results2_Sgm 6 7 rfl _ w3 w.heap.size _ _ rfl hk3) rfl ?_
      exact ⟨rfl, hg3⟩
  · rw [if_pos h1]
    rw [stop_bad rfl h1] at M
    have h1' : ((smcode l : Int) != 0) = true := bne_iff_ne.2 h1
    generalize smcode l = n at *
    clear hc h1
    go_enter Try.func15, Try.ntmps15
    go_wp2_with fail
    rw [← hW1]
    clear hW1
    refine M.mono ?_
    rintro e w' ⟨rfl, rfl⟩
    go_wp2_with (refine wpList_store_Sgm w W1 rfl _ _ rfl rfl w.heap.size rfl zeroT zeroT (.slice none 0 0) (.slice none 0 0) rfl rfl hk1 hg1 (Nat.le_refl _) ?_; intro w3 hk3 hbut hg3)
    refine bodyPost_ret (results2_Sgm 6 7 rfl _ w3 w.heap.size _ _ rfl hk3) rfl ?_
    exact ⟨rfl, hg3⟩

set_option maxRecDepth 10000 in
set_option maxHeartbeats 4000000 in
theorem sGet_good (s d : Nat) (v : Value) (l : List UInt8) (w : World) (hs : s < 4294967296) (hd4 : d < 4294967296) (h : Byt w v l) (hl : l.length ≤ 1000000) (hc : tcode s d l = 0) :
    Calls Try.prog 15 #[.int .u32 (s : Int), .int .u32 (d : Int), v] w fun e w' => ∃ vd, e = .returned (.tuple #[SgmV (tgot l) vd, .int .i64 0]) ∧ Own w' (w.heap.size + 1) vd (tgot l).data ∧ Grow w w' := by
  obtain ⟨h1, h5, h6⟩ := tcode_zero hc
  obtain ⟨g1, g2, g3⟩ := smcode_zero h1
  obtain ⟨A, c, rfl, hcl, hcm⟩ := h.form
  obtain ⟨b, off, rfl, hb, hcell⟩ := h.at_ (by omega)
  obtain ⟨W1, hW1⟩ : ∃ W1, W1 = w.alloc (.cells #[.int .u16 0, .int .u16 0, .int .u32 0, .int .u32 0, .int .u8 0, .int .u16 0, .int .i64 0, .int .i64 0, .slice none 0 0] 26) := ⟨_, rfl⟩
  have hs0 : W1.heap.size = w.heap.size + 1 := by rw [hW1]; simp
  have hg1 : Grow w W1 := by rw [hW1]; exact Grow.alloc w _
  have hk1 : Sgmblk W1 w.heap.size zeroT (.slice none 0 0) := by rw [hW1]; exact Sgmblk.new w zeroT _
  have hB1 := h.grow hg1
  have Ms := smeasure_any _ l W1 hB1 hl
  rw [h1, stop_good h1] at Ms
  have EC := Lib.hid (of_tsum s d l)
  rw [h5] at EC
  obtain ⟨⟨M, S, E⟩, hro⟩ : ∃ r, r = sro l := ⟨_, rfl⟩
  have eg : tgot l = ⟨num l 0, num l 2, 65536 * num l 4 + num l 6, 65536 * num l 8 + num l 10, byt l 13 % 64, num l 14, ((sro l).1 : Int), ((sro l).2.1 : Int), l.drop (shead l)⟩ := rfl
  have hrd : sread ((l.take (shead l)).drop 20) = (M, S, E) := hro.symm
  rw [← hro] at h6 eg
  simp only at h6 eg
  subst h6
  obtain ⟨hM, hS, _⟩ := sread_le ((l.take (shead l)).drop 20)
  rw [hrd] at hM hS
  simp only at hM hS
  have hlt : l.length ≤ 140737488351232 := by omega
  obtain ⟨m, hm⟩ : ∃ m, m = shead l := ⟨_, rfl⟩
  rw [← hm] at Ms g2 g3 eg hrd
  have n0 := num_lt l 0
  have n2 := num_lt l 2
  have n14 := num_lt l 14
  have x4 := num_lt l 4
  have x6 := num_lt l 6
  have x8 := num_lt l 8
  have x10 := num_lt l 10
  have G4 : ∀ w', Byt w' (.slice (some ⟨b, off, none⟩) l.length c) l → _ := fun w' g => sget32_any _ 4 l w' g (by omega) (by omega)
  have G8 : ∀ w', Byt w' (.slice (some ⟨b, off, none⟩) l.length c) l → _ := fun w' g => sget32_any _ 8 l w' g (by omega) (by omega)
  obtain ⟨n4, hn4⟩ : ∃ n4, n4 = 65536 * num l 4 + num l 6 := ⟨_, rfl⟩
  obtain ⟨n8, hn8⟩ : ∃ n8, n8 = 65536 * num l 8 + num l 10 := ⟨_, rfl⟩
  rw [← hn4] at G4 eg
  rw [← hn8] at G8 eg
  have hn4' : n4 < 4294967296 := by omega
  have hn8' : n8 < 4294967296 := by omega
  have c13 : W1.cell? ⟨b, off + 13, none⟩ = some (.int .u8 (byt l 13 : Int)) := by
    rw [hg1.cell (p := ⟨b, off + 13, none⟩) hb, ← byt_at (show 13 < l.length by omega)]
    exact hcell 13 (by omega)
  have hbw1 : b < W1.heap.size := by omega
  have y13 := byt_lt l 13
  have K63 := and8_63 ⟨byt l 13, y13⟩
  simp only at K63
  have i13 : (13 : Int) < (l.length : Int) := by omega
  rw [eg]
  clear eg hc hn4 hn8 x4 x6 x8 x10 hm h5 hro hcell
  have hcut := cutAt2 hB1 (lo := 20) (hi := m) g2 g3
  have hRd : ∀ w', Grow W1 w' → _ := fun w' g => sRead_any _ _ w' (hcut.grow g) (by simp; omega) M S 0 hrd
  have i1 : (m : Int) ≤ (l.length : Int) := by omega
  have i2 : m ≤ c := by omega
  have i3 : (20 : Int) ≤ (m : Int) := by omega
  have g23 : lens [l.drop m] ≤ 281474976710656 := by simp [lens]; omega
  have W0 : IntKind.u16.wrap (num l 0 : Int) = (num l 0 : Int) := by
    simp only [IntKind.wrap, IntKind.signed, IntKind.bits]
    simp
    omega
  have W2 : IntKind.u16.wrap (num l 2 : Int) = (num l 2 : Int) := by
    simp only [IntKind.wrap, IntKind.signed, IntKind.bits]
    simp
    omega
  have W14 : IntKind.u16.wrap (num l 14 : Int) = (num l 14 : Int) := by
    simp only [IntKind.wrap, IntKind.signed, IntKind.bits]
    simp
    omega
  clear hrd hcut h
  go_enter Try.func15, Try.ntmps15
  go_wp2_with fail
  rw [← hW1]
  clear hW1
  refine Ms.mono ?_
  rintro e w' ⟨rfl, rfl⟩
  clear Ms
  go_wp2_with fail
  refine (Of_any s d 6 _ l _ hs hd4 (by decide) hB1 hlt).mono ?_
  rw [EC.out]
  rintro e w2 ⟨rfl, hg2⟩
  clear EC
  go_upto_region 6 with fail
  go_cut [9, 10, 11] (fun s9 s10 s11 wx => s9 = .int .i64 0 ∧ s10 = .int .i64 (M : Int) ∧ s11 = .int .i64 (S : Int) ∧ Grow W1 wx)
  case first =>
    by_cases hc20 : c = 20
    · subst hc20
      obtain rfl : m = 20 := by omega
      rw [if_pos rfl] at hRd
      simp only [Nat.sub_self] at hRd
      go_wp2_with fail
      refine (hRd _ hg2).mono ?_
      rintro e w4 ⟨rfl, hg4⟩
      clear hRd
      go_wp2_with fail
      go_meet
      exact ⟨rfl, rfl, rfl, hg2.trans hg4⟩
    · rw [if_neg hc20] at hRd
      go_wp2_with fail
      refine (hRd _ hg2).mono ?_
      rintro e w4 ⟨rfl, hg4⟩
      clear hRd
      go_wp2_with fail
      go_meet
      exact ⟨rfl, rfl, rfl, hg2.trans hg4⟩
  case rest =>
    obtain ⟨rfl, rfl, rfl, hgc⟩ := hcut
    clear hRd
    have hB := hB1.grow hgc
    have hs2 := hgc.size
    have hbw : b < wc.heap.size := by omega
    have c13 := (hgc.cell (p := ⟨b, off + 13, none⟩) hbw1).trans c13
    go_wp2_with fail
    refine wp_region_phase (A := ?frame9) (inList (isV (.slice (some ⟨b, off, none⟩) l.length c) :: isV (.int .i64 (num l 0 : Nat)) :: isV (.int .u16 (num l 0 : Nat)) :: isV (.slice (some ⟨b, off, none⟩) l.length c) :: isV (.int .i64 (num l 2 : Nat)) :: isV (.int .u16 (num l 2 : Nat)) :: isV (.slice (some ⟨b, off, none⟩) l.length c) :: isV (.int .u32 (n4 : Nat)) :: isV (.slice (some ⟨b, off, none⟩) l.length c) :: isV (.int .u32 (n8 : Nat)) :: isV (.slice (some ⟨b, off, none⟩) l.length c) :: isV (.pointer (some ⟨b, off + 13, none⟩)) :: isV (.int .u8 (byt l 13 : Int)) :: isV (.int .u8 (byt l 13 % 64 : Nat)) :: isV (.slice (some ⟨b, off, none⟩) l.length c) :: isV (.int .i64 (num l 14 : Nat)) :: isV (.int .u16 (num l 14 : Nat)) :: isV (.int .i64 (M : Int)) :: isV (.int .i64 (S : Int)) :: isV (.slice (some ⟨b, off, none⟩) l.length c) :: isV (.int .i64 (m : Int)) :: isB (l.drop m) :: (isBs [l.drop m]) :: (isO (w.heap.size + 1) (l.drop m)) :: (isSgmO (w.heap.size + 1) ⟨num l 0, num l 2, n4, n8, byt l 13 % 64, num l 14, (M : Int), (S : Int), l.drop m⟩) :: [])) 25 (by kernel_rfl) (by kernel_rfl) (by kernel_rfl) (inList_stays ?_) (fun x => ?frameEq9) ?_ ?_
    case frameEq9 => go_simp; rfl
    · intro f hf
      simp only [List.mem_cons, List.not_mem_nil, or_false] at hf
      rcases hf with rfl | rfl | rfl | rfl | rfl | rfl | rfl | rfl | rfl | rfl | rfl | rfl | rfl | rfl | rfl | rfl | rfl | rfl | rfl | rfl | rfl | rfl | rfl | rfl | rfl <;> first | exact isV_stays _ | exact isB_stays _ | exact isBs_stays _ | exact isO_stays _ | exact isSgmO_stays _
    · refine ⟨fun x w1 hg hd post hp => ?_, fun x w1 hg hd post hp => ?_, fun x w1 hg hd post hp => ?_, fun x w1 hg hd post hp => ?_, fun x w1 hg hd post hp => ?_, fun x w1 hg hd post hp => ?_, fun x w1 hg hd post hp => ?_, fun x w1 hg hd post hp => ?_, fun x w1 hg hd post hp => ?_, fun x w1 hg hd post hp => ?_, fun x w1 hg hd post hp => ?_, fun x w1 hg hd post hp => ?_, fun x w1 hg hd post hp => ?_, fun x w1 hg hd post hp => ?_, fun x w1 hg hd post hp => ?_, fun x w1 hg hd post hp => ?_, fun x w1 hg hd post hp => ?_, fun x w1 hg hd post hp => ?_, fun x w1 hg hd post hp => ?_, fun x w1 hg hd post hp => ?_, fun x w1 hg hd post hp => ?_, fun x w1 hg hd post hp => ?_, fun x w1 hg hd post hp => ?_, fun x w1 hg hd post hp => ?_, fun x w1 hg hd post hp => ?_, trivial⟩
      · -- 0: slot 39: Op.move t2
        clear hd
        go_simp
        exact hp _ _ (Grow.refl _) rfl
      · -- 1: slot 40: Op.call { value (Operand.func 29), args := #[t39, const (0:i64)], argTypes := #[
        have h39 : x 39 = .slice (some ⟨b, off, none⟩) l.length c := hd 0 (by decide) _ rfl
        clear hd
        go_simp
        refine (sget16_any _ 0 l _ (hB.grow hg) (by omega) (by omega)).mono ?_
        rintro e w2 ⟨rfl, rfl⟩
        exact ⟨_, rfl, hp _ _ (Grow.refl _) rfl⟩
      · -- 2: slot 41: Op.convert 3 23 t40
        have h40 : x 40 = .int .i64 (num l 0 : Nat) := hd 1 (by decide) _ rfl
        clear hd
        go_simp
        exact hp _ _ (Grow.refl _) rfl
      · -- 3: slot 42: Op.move t2
        clear hd
        go_simp
        exact hp _ _ (Grow.refl _) rfl
      · -- 4: slot 43: Op.call { value (Operand.func 29), args := #[t42, const (2:i64)], argTypes := #[
        have h42 : x 42 = .slice (some ⟨b, off, none⟩) l.length c := hd 3 (by decide) _ rfl
        clear hd
        go_simp
        refine (sget16_any _ 2 l _ (hB.grow hg) (by omega) (by omega)).mono ?_
        rintro e w2 ⟨rfl, rfl⟩
        exact ⟨_, rfl, hp _ _ (Grow.refl _) rfl⟩
      · -- 5: slot 44: Op.convert 3 23 t43
        have h43 : x 43 = .int .i64 (num l 2 : Nat) := hd 4 (by decide) _ rfl
        clear hd
        go_simp
        exact hp _ _ (Grow.refl _) rfl
      · -- 6: slot 45: Op.move t2
        clear hd
        go_simp
        exact hp _ _ (Grow.refl _) rfl
      · -- 7: slot 46: Op.call { value (Operand.func 30), args := #[t45, const (4:i64)], argTypes := #[
        have h45 : x 45 = .slice (some ⟨b, off, none⟩) l.length c := hd 6 (by decide) _ rfl
        clear hd
        go_simp
        refine (G4 _ (hB.grow hg)).mono ?_
        rintro e w2 ⟨rfl, rfl⟩
        exact ⟨_, rfl, hp _ _ (Grow.refl _) rfl⟩
      · -- 8: slot 47: Op.move t2
        clear hd
        go_simp
        exact hp _ _ (Grow.refl _) rfl
      · -- 9: slot 48: Op.call { value (Operand.func 30), args := #[t47, const (8:i64)], argTypes := #[
        have h47 : x 47 = .slice (some ⟨b, off, none⟩) l.length c := hd 8 (by decide) _ rfl
        clear hd
        go_simp
        refine (G8 _ (hB.grow hg)).mono ?_
        rintro e w2 ⟨rfl, rfl⟩
        exact ⟨_, rfl, hp _ _ (Grow.refl _) rfl⟩
      · -- 10: slot 49: Op.move t2
        clear hd
        go_simp
        exact hp _ _ (Grow.refl _) rfl
      · -- 11: slot 50: Op.indexAddr 24 t49 (const (13:i64))
        have h49 : x 49 = .slice (some ⟨b, off, none⟩) l.length c := hd 10 (by decide) _ rfl
        clear hd
        go_simp
        exact hp _ _ (Grow.refl _) rfl
      · -- 12: slot 51: Op.load 5 t50
        have h50 : x 50 = .pointer (some ⟨b, off + 13, none⟩) := hd 11 (by decide) _ rfl
        clear hd
        have q1 := (hg.cell (p := ⟨b, off + 13, none⟩) hbw).trans c13
        go_simp
        exact hp _ _ (Grow.refl _) rfl
      · -- 13: slot 52: Op.binOp BinOp.and 5 t51 (const (63:u8)) 5
        have h51 : x 51 = .int .u8 (byt l 13 : Int) := hd 12 (by decide) _ rfl
        clear hd
        go_simp
        exact hp _ _ (Grow.refl _) (show Value.int _ _ = Value.int _ _ from by simp)
      · -- 14: slot 53: Op.move t2
        clear hd
        go_simp
        exact hp _ _ (Grow.refl _) rfl
      · -- 15: slot 54: Op.call { value (Operand.func 29), args := #[t53, const (14:i64)], argTypes := #
        have h53 : x 53 = .slice (some ⟨b, off, none⟩) l.length c := hd 14 (by decide) _ rfl
        clear hd
        go_simp
        refine (sget16_any _ 14 l _ (hB.grow hg) (by omega) (by omega)).mono ?_
        rintro e w2 ⟨rfl, rfl⟩
        exact ⟨_, rfl, hp _ _ (Grow.refl _) rfl⟩
      · -- 16: slot 55: Op.convert 3 23 t54
        have h54 : x 54 = .int .i64 (num l 14 : Nat) := hd 15 (by decide) _ rfl
        clear hd
        go_simp
        exact hp _ _ (Grow.refl _) rfl
      · -- 17: slot 56: Op.move t10
        clear hd
        go_simp
        exact hp _ _ (Grow.refl _) rfl
      · -- 18: slot 57: Op.move t11
        clear hd
        go_simp
        exact hp _ _ (Grow.refl _) rfl
      · -- 19: slot 58: Op.move t2
        clear hd
        go_simp
        exact hp _ _ (Grow.refl _) rfl
      · -- 20: slot 59: Op.move t8
        clear hd
        go_simp
        exact hp _ _ (Grow.refl _) rfl
      · -- 21: slot 60: Op.slice 24 t58 (some t59) none none
        have h58 : x 58 = .slice (some ⟨b, off, none⟩) l.length c := hd 19 (by decide) _ rfl
        have h59 : x 59 = .int .i64 (m : Int) := hd 20 (by decide) _ rfl
        clear hd
        have q1 := dropAt (hB.grow hg) (lo := m) g3
        go_simp
        exact hp _ _ (Grow.refl _) q1
      · -- 22: slot 61: Op.buildSlice 64 1 #[(0, t60)]
        have h60 : Byt w1 (x 60) (l.drop m) := hd 21 (by decide) _ rfl
        clear hd
        obtain ⟨A4, n4', c4, e4, _⟩ := h60.form2
        rw [e4] at h60
        go_simp
        exact hp _ _ (Grow.alloc _ _) (Byts.lit w1 #[.slice A4 n4' c4] _ [l.drop m] 1 rfl rfl (by simp [maxLen]) (byt_one h60))
      · -- 23: slot 62: Op.call { value (Operand.func 24), args := #[t61], argTypes := #[64] }
        have h61 : (isBs [l.drop m]) (x 61) w1 := hd 22 (by decide) _ rfl
        clear hd
        go_simp
        refine (Join_any _ _ _ h61 (by simp) g23).mono ?_
        rintro e w2 ⟨u, rfl, ho, hg2⟩
        have hz := hg.size
        have ho1 : Own w2 (w.heap.size + 1) u (l.drop m) := Own.base (b := w1.heap.size) (by simpa using ho) (by omega)
        exact ⟨_, rfl, hp _ _ hg2 ho1⟩
      · -- 24: slot 63: Op.build 26 #[(0, t41), (1, t44), (2, t46), (3, t48), (4, t52), (5, t55), (6, t5
        have h41 : x 41 = .int .u16 (num l 0 : Nat) := hd 2 (by decide) _ rfl
        have h44 : x 44 = .int .u16 (num l 2 : Nat) := hd 5 (by decide) _ rfl
        have h46 : x 46 = .int .u32 (n4 : Nat) := hd 7 (by decide) _ rfl
        have h48 : x 48 = .int .u32 (n8 : Nat) := hd 9 (by decide) _ rfl
        have h52 : x 52 = .int .u8 (byt l 13 % 64 : Nat) := hd 13 (by decide) _ rfl
        have h55 : x 55 = .int .u16 (num l 14 : Nat) := hd 16 (by decide) _ rfl
        have h56 : x 56 = .int .i64 (M : Int) := hd 17 (by decide) _ rfl
        have h57 : x 57 = .int .i64 (S : Int) := hd 18 (by decide) _ rfl
        have h62 : (isO (w.heap.size + 1) (l.drop m)) (x 62) w1 := hd 23 (by decide) _ rfl
        clear hd
        have p62 : Own w1 _ (x 62) _ := h62
        obtain ⟨A4, n4', d4, e4, _⟩ := p62.byt.form2
        rw [e4] at p62
        go_simp
        exact hp _ _ (Grow.refl _) ⟨_, rfl, p62⟩
    · intro x w1 hg hd
      have h63 : (isSgmO (w.heap.size + 1) ⟨num l 0, num l 2, n4, n8, byt l 13 % 64, num l 14, (M : Int), (S : Int), l.drop m⟩) (x 63) w1 := hd 24 _ (by decide) rfl
      clear hd
      obtain ⟨vd, e63, hvd⟩ := h63
      simp only [List.drop_succ_cons, List.drop_zero]
      go_wp2_with (refine wpList_store_Sgm w w1 rfl _ _ rfl rfl w.heap.size rfl ⟨num l 0, num l 2, n4, n8, byt l 13 % 64, num l 14, (M : Int), (S : Int), l.drop m⟩ zeroT vd (.slice none 0 0) e63 hvd.one ((hk1.grow hgc).grow hg) ((hg1.trans hgc).trans hg) (Nat.le_refl _) ?_; intro w4 hk4 hbut hg4)
      refine bodyPost_ret (results2_Sgm 6 7 rfl _ w4 w.heap.size _ _ rfl hk4) rfl ?_
      exact ⟨_, rfl, Own.but hvd hbut (by omega), hg4⟩

theorem sGet_any (s d : Nat) (v : Value) (l : List UInt8) (w : World) (hs : s < 4294967296) (hd4 : d < 4294967296) (h : Byt w v l) (hl : l.length ≤ 1000000) :
    Calls Try.prog 15 #[.int .u32 (s : Int), .int .u32 (d : Int), v] w fun e w' => ∃ vd, e = .returned (.tuple #[SgmV (tres s d l) vd, .int .i64 (tcode s d l)]) ∧ Own w' (w.heap.size + 1) vd (tres s d l).data ∧ Grow w w' := by
  unfold tres
  by_cases hc : tcode s d l = 0
  · rw [if_pos hc, hc]
    exact sGet_good s d v l w hs hd4 h hl hc
  · rw [if_neg hc]
    refine (sGet_bad s d v l w hs hd4 h hl hc).mono ?_
    rintro e w' ⟨rfl, hg⟩
    exact ⟨_, rfl, World.ownsRow_nil _ _ _ _, hg⟩
end Go.Proofs.Ytbhdpobmooncpaa
