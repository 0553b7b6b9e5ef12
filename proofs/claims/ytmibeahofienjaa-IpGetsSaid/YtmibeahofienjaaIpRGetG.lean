/- The document's own answer: bytes as a packet, where they are one. -/
import Derived.Test.YtmibeahofienjaaIpRGet
import Derived.Test.YtmibeahofienjaaOpen
namespace Go.Proofs.Ytmibeahofienjaa
set_option linter.unusedVariables false
set_option linter.unusedSimpArgs false
open Go.ChangeShapes Go.WideShapes Go.ChangeAt Go.RowKit

/-- The packet, as it is filled field by field. -/
def pA (l : List UInt8) : Pkt := ⟨byt l 1, num l 4, false, false, 0, byt l 8, byt l 9, 0, 0, [], []⟩
def pB (l : List UInt8) : Pkt := ⟨byt l 1, num l 4, decide (byt l 6 / 64 % 2 = 1), false, 0, byt l 8, byt l 9, 0, 0, [], []⟩
def pC (l : List UInt8) : Pkt := ⟨byt l 1, num l 4, decide (byt l 6 / 64 % 2 = 1), decide (byt l 6 / 32 % 2 = 1), 0, byt l 8, byt l 9, 0, 0, [], []⟩
def pD (l : List UInt8) : Pkt := ⟨byt l 1, num l 4, decide (byt l 6 / 64 % 2 = 1), decide (byt l 6 / 32 % 2 = 1), ((num l 6 % 8192 : Nat) : Int), byt l 8, byt l 9, 0, 0, [], []⟩
def pF (l : List UInt8) : Pkt := ⟨byt l 1, num l 4, decide (byt l 6 / 64 % 2 = 1), decide (byt l 6 / 32 % 2 = 1), ((num l 6 % 8192 : Nat) : Int), byt l 8, byt l 9, 65536 * num l 12 + num l 14, 0, [], []⟩
def pE (l : List UInt8) : Pkt := ⟨byt l 1, num l 4, decide (byt l 6 / 64 % 2 = 1), decide (byt l 6 / 32 % 2 = 1), ((num l 6 % 8192 : Nat) : Int), byt l 8, byt l 9, 65536 * num l 12 + num l 14, 65536 * num l 16 + num l 18, [], []⟩
def isNew (n : Nat) (v : Value) (w : World) : Prop := ∃ b, v = .pointer (some ⟨b, 0, none⟩) ∧ n ≤ b ∧ Blk w b zeroP (.slice none 0 0) (.slice none 0 0)
theorem isNew_stays (n : Nat) : stays (isNew n) := fun _ _ _ hg h => by
  obtain ⟨b, e, h1, h2⟩ := h
  exact ⟨b, e, h1, h2.grow hg⟩

theorem cutAt3 {w : World} {b off n c lo hi : Nat} {l : List UInt8} (h : Byt w (.slice (some ⟨b, off, none⟩) n c) l) (h1 : lo ≤ hi) (h2 : hi ≤ n) :
    Byt w (.slice (if c = lo then some ⟨b, off, none⟩ else some ⟨b, off + lo, none⟩) (hi - lo) (c - lo)) ((l.take hi).drop lo) := by
  have := h.cut h1 h2
  rwa [Option.map_some, add_at] at this

set_option maxRecDepth 10000 in
set_option maxHeartbeats 8000000 in
theorem RGet_good (v : Value) (l : List UInt8) (w : World) (h : Byt w v l) (hl : l.length ≤ 1000000) (hc : mcode l = 0) :
    Calls Try.prog 21 #[v] w fun e w' => ∃ vo vd, e = .returned (.tuple #[ipV (got l) vo vd, .int .i64 0]) ∧ Byt w' vo (got l).opts ∧ Byt w' vd (got l).data ∧ Grow w w' := by
  obtain ⟨A, c, rfl, hcl, hcm⟩ := h.form
  obtain ⟨g1, g2, g3, g4, g5, g6, g7, g8⟩ := (good_iff l).1 hc
  obtain ⟨W1, hW1⟩ : ∃ W1, W1 = w.alloc (.cells #[.int .u8 0, .int .u16 0, .bool false, .bool false, .int .i64 0, .int .u8 0, .int .u8 0, .int .u32 0, .int .u32 0, .slice none 0 0, .slice none 0 0] 27) := ⟨_, rfl⟩
  have hg1 : Grow w W1 := by rw [hW1]; exact Grow.alloc w _
  have hk1 : Blk W1 w.heap.size zeroP (.slice none 0 0) (.slice none 0 0) := by rw [hW1]; exact Blk.new w zeroP _ _
  go_enter Try.func21, Try.ntmps21
  go_upto_if 9 with fail
  rw [← hW1]
  clear hW1
  obtain ⟨b, off, rfl, hb, hcell⟩ := h.at_ (by omega)
  have celg : ∀ w', Grow w w' → ∀ i, i < l.length → w'.cell? ⟨b, off + i, none⟩ = some (.int .u8 (byt l i : Int)) := fun w' g i hi => by
    rw [g.cell (p := ⟨b, off + i, none⟩) hb, hcell i hi, byt_at hi]
  have l0 := byt_lt l 0
  have c0 : W1.cell? ⟨b, off, none⟩ = some (.int .u8 (byt l 0 : Int)) := celg W1 hg1 0 (by omega)
  obtain ⟨n0, hn0⟩ : ∃ n0, byt l 0 = n0 + 64 := ⟨byt l 0 - 64, by omega⟩
  have eh : hdr l = 4 * n0 := by unfold hdr; omega
  rw [hn0] at c0
  have c0' : W1.cell? ⟨b, off, none⟩ = some (.int .u8 ((n0 : Int) + 64)) := by rw [c0]; rfl
  clear c0
  rw [eh] at g4 g5 g6
  have hbf := (h.grow hg1).front (show 4 * n0 ≤ l.length by omega)
  have hbl : (l.take (4 * n0)).length ≤ 281474976710656 := by simp; omega
  have h4' : ((ones (l.take (4 * n0)) : Int) != 65535) = false := by rw [g5]; rfl
  have l2 := num_lt l 2
  have l4 := num_lt l 4
  have n6 := num_lt l 6
  have n12 := num_lt l 12
  have n14 := num_lt l 14
  have n16 := num_lt l 16
  have n18 := num_lt l 18
  have y1 := byt_lt l 1
  have y6 := byt_lt l 6
  have y8 := byt_lt l 8
  have y9 := byt_lt l 9
  have i1 : (1 : Int) < (l.length : Int) := by omega
  have i8 : (8 : Int) < (l.length : Int) := by omega
  have i9 : (9 : Int) < (l.length : Int) := by omega
  have w25 : IntKind.u16.wrap (num l 4 : Int) = (num l 4 : Int) := by
    simp only [IntKind.wrap, IntKind.signed, IntKind.bits]
    simp
    omega
  go_wp2_with fail
  refine (RSum_any _ _ _ hbf hbl).mono ?_
  rintro e w' ⟨rfl, rfl⟩
  go_wp2_with fail
  refine (number_two _ 2 _ _ (h.grow hg1) (by omega) (by omega)).mono ?_
  rintro e w2 ⟨rfl, hg2⟩
  have gw := hg1.trans hg2
  have c6 := celg w2 gw 6 (by omega)
  go_wp2_with fail
  refine wp_region_phase (A := ?frame15) (inList (isV (.slice (some ⟨b, off, none⟩) l.length c) :: isV (.pointer (some ⟨b, off + 1, none⟩)) :: isV (.int .u8 (byt l 1 : Int)) :: isV (.slice (some ⟨b, off, none⟩) l.length c) :: isV (.int .i64 (num l 4 : Nat)) :: isV (.int .u16 (num l 4 : Nat)) :: isV (.slice (some ⟨b, off, none⟩) l.length c) :: isV (.pointer (some ⟨b, off + 8, none⟩)) :: isV (.int .u8 (byt l 8 : Int)) :: isV (.slice (some ⟨b, off, none⟩) l.length c) :: isV (.pointer (some ⟨b, off + 9, none⟩)) :: isV (.int .u8 (byt l 9 : Int)) :: isV (ipV (pA l) (.slice none 0 0) (.slice none 0 0)) :: (isNew W1.heap.size) :: [])) 14 (by kernel_rfl) (by kernel_rfl) (by kernel_rfl) (inList_stays ?_) (fun x => ?frameEq15) ?_ ?_
  case frameEq15 => go_simp; rfl
  · intro f hf
    simp only [List.mem_cons, List.not_mem_nil, or_false] at hf
    rcases hf with rfl | rfl | rfl | rfl | rfl | rfl | rfl | rfl | rfl | rfl | rfl | rfl | rfl | rfl <;> first | exact isV_stays _ | exact isB_stays _ | exact isBs_stays _ | exact isNew_stays _
  · refine ⟨fun x w1 hg hd post hp => ?_, fun x w1 hg hd post hp => ?_, fun x w1 hg hd post hp => ?_, fun x w1 hg hd post hp => ?_, fun x w1 hg hd post hp => ?_, fun x w1 hg hd post hp => ?_, fun x w1 hg hd post hp => ?_, fun x w1 hg hd post hp => ?_, fun x w1 hg hd post hp => ?_, fun x w1 hg hd post hp => ?_, fun x w1 hg hd post hp => ?_, fun x w1 hg hd post hp => ?_, fun x w1 hg hd post hp => ?_, fun x w1 hg hd post hp => ?_, trivial⟩
    · -- 0: slot 56: Op.move t0
      clear hd
      go_simp
      exact hp _ _ (Grow.refl _) rfl
    · -- 1: slot 57: Op.indexAddr 25 t56 (const (1:i64))
      have h56 : x 56 = .slice (some ⟨b, off, none⟩) l.length c := hd 0 (by decide) _ rfl
      clear hd
      go_simp
      exact hp _ _ (Grow.refl _) rfl
    · -- 2: slot 58: Op.load 5 t57
      have h57 : x 57 = .pointer (some ⟨b, off + 1, none⟩) := hd 1 (by decide) _ rfl
      clear hd
      have q1 := celg w1 (gw.trans hg) 1 (by omega)
      go_simp
      exact hp _ _ (Grow.refl _) rfl
    · -- 3: slot 59: Op.move t0
      clear hd
      go_simp
      exact hp _ _ (Grow.refl _) rfl
    · -- 4: slot 60: Op.call { value (Operand.func 35), args := #[t59, const (4:i64)], argTypes := #[
      have h59 : x 59 = .slice (some ⟨b, off, none⟩) l.length c := hd 3 (by decide) _ rfl
      clear hd
      go_simp
      refine (number_two _ 4 l _ (h.grow (gw.trans hg)) (by omega) (by omega)).mono ?_
      rintro e w2 ⟨rfl, hg2⟩
      exact ⟨_, rfl, hp _ _ hg2 rfl⟩
    · -- 5: slot 61: Op.convert 3 22 t60
      have h60 : x 60 = .int .i64 (num l 4 : Nat) := hd 4 (by decide) _ rfl
      clear hd
      go_simp
      exact hp _ _ (Grow.refl _) rfl
    · -- 6: slot 62: Op.move t0
      clear hd
      go_simp
      exact hp _ _ (Grow.refl _) rfl
    · -- 7: slot 63: Op.indexAddr 25 t62 (const (8:i64))
      have h62 : x 62 = .slice (some ⟨b, off, none⟩) l.length c := hd 6 (by decide) _ rfl
      clear hd
      go_simp
      exact hp _ _ (Grow.refl _) rfl
    · -- 8: slot 64: Op.load 5 t63
      have h63 : x 63 = .pointer (some ⟨b, off + 8, none⟩) := hd 7 (by decide) _ rfl
      clear hd
      have q1 := celg w1 (gw.trans hg) 8 (by omega)
      go_simp
      exact hp _ _ (Grow.refl _) rfl
    · -- 9: slot 65: Op.move t0
      clear hd
      go_simp
      exact hp _ _ (Grow.refl _) rfl
    · -- 10: slot 66: Op.indexAddr 25 t65 (const (9:i64))
      have h65 : x 65 = .slice (some ⟨b, off, none⟩) l.length c := hd 9 (by decide) _ rfl
      clear hd
      go_simp
      exact hp _ _ (Grow.refl _) rfl
    · -- 11: slot 67: Op.load 5 t66
      have h66 : x 66 = .pointer (some ⟨b, off + 9, none⟩) := hd 10 (by decide) _ rfl
      clear hd
      have q1 := celg w1 (gw.trans hg) 9 (by omega)
      go_simp
      exact hp _ _ (Grow.refl _) rfl
    · -- 12: slot 68: Op.build 27 #[(0, t58), (1, t61), (5, t64), (6, t67)]
      have h58 : x 58 = .int .u8 (byt l 1 : Int) := hd 2 (by decide) _ rfl
      have h61 : x 61 = .int .u16 (num l 4 : Nat) := hd 5 (by decide) _ rfl
      have h64 : x 64 = .int .u8 (byt l 8 : Int) := hd 8 (by decide) _ rfl
      have h67 : x 67 = .int .u8 (byt l 9 : Int) := hd 11 (by decide) _ rfl
      clear hd
      go_simp
      exact hp _ _ (Grow.refl _) rfl
    · -- 13: slot 6: Op.alloc 27
      clear hd
      have hz := (hg2.trans hg).size
      go_simp
      exact hp _ _ (Grow.alloc _ _) ⟨w1.heap.size, rfl, by omega, Blk.new w1 zeroP _ _⟩
  · intro x w1 hg hd
    have h68 : x 68 = ipV (pA l) (.slice none 0 0) (.slice none 0 0) := hd 12 _ (by decide) rfl
    have h6 : (isNew W1.heap.size) (x 6) w1 := hd 13 _ (by decide) rfl
    clear hd
    obtain ⟨g, e6, hgg, hk6⟩ := h6
    simp only [List.drop_succ_cons, List.drop_zero]
    have F64 : (((byt l 6 : Nat) : Int) / 64 % 2 == 1) = decide (byt l 6 / 64 % 2 = 1) := by
      rw [Bool.eq_iff_iff]
      simp only [beq_iff_eq, decide_eq_true_eq]
      omega
    have F32 : (((byt l 6 : Nat) : Int) / 32 % 2 == 1) = decide (byt l 6 / 32 % 2 = 1) := by
      rw [Bool.eq_iff_iff]
      simp only [beq_iff_eq, decide_eq_true_eq]
      omega
    go_wp2_with (first | (refine wpList_store_ip W1 w1 rfl _ _ rfl rfl g e6 (pA l) zeroP (.slice none 0 0) (.slice none 0 0) (.slice none 0 0) (.slice none 0 0) h68 rfl rfl hk6 (hg2.trans hg) hgg ?_; intro wA hkA _ gA; have cc := celg wA (hg1.trans gA) 6 (by omega)) | (refine wpList_store_fld W1 wA rfl _ _ _ rfl rfl g 2 (.bool (decide (byt l 6 / 64 % 2 = 1))) rfl rfl (pA l) (pB l) (.slice none 0 0) (.slice none 0 0) (.slice none 0 0) (.slice none 0 0) (hkA) (by kernel_rfl) rfl (by omega) rfl (gA) hgg ?_; intro wB hkB _ gB; have cc := celg wB (hg1.trans gB) 6 (by omega)) | (refine wpList_store_fld W1 wB rfl _ _ _ rfl rfl g 3 (.bool (decide (byt l 6 / 32 % 2 = 1))) rfl rfl (pB l) (pC l) (.slice none 0 0) (.slice none 0 0) (.slice none 0 0) (.slice none 0 0) (hkB) (by kernel_rfl) rfl (by omega) rfl (gB) hgg ?_; intro wC hkC _ gC; have cc := celg wC (hg1.trans gC) 6 (by omega)))
    refine (number_two _ 6 _ _ (h.grow (hg1.trans gC)) (by omega) (by omega)).mono ?_
    rintro e wC1 ⟨rfl, hgn6⟩
    have gC1 := gC.trans hgn6
    have hkC1 := hkC.grow hgn6
    go_wp2_with (refine wpList_store_fld W1 wC1 rfl _ _ _ rfl rfl g 4 (.int .i64 ((num l 6 % 8192 : Nat) : Int)) rfl (show Value.int .i64 ((num l 6 : Int) % 8192) = _ from by simp) (pC l) (pD l) (.slice none 0 0) (.slice none 0 0) (.slice none 0 0) (.slice none 0 0) (hkC1) (by kernel_rfl) rfl (by omega) rfl (gC1) hgg ?_; intro wD hkD _ gD; have cc := celg wD (hg1.trans gD) 6 (by omega))
    refine (number_two _ 12 _ _ (h.grow (hg1.trans gD)) (by omega) (by omega)).mono ?_
    rintro e wD1 ⟨rfl, hgn12⟩
    have gD1 := gD.trans hgn12
    have hkD1 := hkD.grow hgn12
    go_wp2_with fail
    refine (number_two _ 14 _ _ (h.grow (hg1.trans gD1)) (by omega) (by omega)).mono ?_
    rintro e wD2 ⟨rfl, hgn14⟩
    have gD2 := gD1.trans hgn14
    have hkD2 := hkD1.grow hgn14
    go_wp2_with (refine wpList_store_fld W1 wD2 rfl _ _ _ rfl rfl g 7 (.int .u32 ((65536 * num l 12 + num l 14 : Nat) : Int)) rfl (show Value.int .u32 (65536 * (num l 12 : Int) + (num l 14 : Int)) = _ from by simp) (pD l) (pF l) (.slice none 0 0) (.slice none 0 0) (.slice none 0 0) (.slice none 0 0) (hkD2) (by kernel_rfl) rfl (by omega) rfl (gD2) hgg ?_; intro wF hkF _ gF; have cc := celg wF (hg1.trans gF) 6 (by omega))
    refine (number_two _ 16 _ _ (h.grow (hg1.trans gF)) (by omega) (by omega)).mono ?_
    rintro e wF1 ⟨rfl, hgn16⟩
    have gF1 := gF.trans hgn16
    have hkF1 := hkF.grow hgn16
    go_wp2_with fail
    refine (number_two _ 18 _ _ (h.grow (hg1.trans gF1)) (by omega) (by omega)).mono ?_
    rintro e wF2 ⟨rfl, hgn18⟩
    have gF2 := gF1.trans hgn18
    have hkF2 := hkF1.grow hgn18
    go_wp2_with (refine wpList_store_fld W1 wF2 rfl _ _ _ rfl rfl g 8 (.int .u32 ((65536 * num l 16 + num l 18 : Nat) : Int)) rfl (show Value.int .u32 (65536 * (num l 16 : Int) + (num l 18 : Int)) = _ from by simp) (pF l) (pE l) (.slice none 0 0) (.slice none 0 0) (.slice none 0 0) (.slice none 0 0) (hkF2) (by kernel_rfl) rfl (by omega) rfl (gF2) hgg ?_; intro wE hkE _ gE; have cc := celg wE (hg1.trans gE) 6 (by omega))
    obtain ⟨H, hH⟩ : ∃ H : Nat, H = 4 * n0 := ⟨_, rfl⟩
    have i2 : H ≤ c := by omega
    have i3 : (20 : Int) ≤ (H : Int) := by omega
    have i4 : num l 2 ≤ c := by omega
    have i5 : (H : Int) ≤ (num l 2 : Int) := by omega
    have i6 : hdr l = H := by omega
    have i7 : 20 ≤ H ∧ H ≤ num l 2 ∧ H ≤ l.length := by omega
    have HH := Lib.hid hH
    clear hH
    obtain ⟨vo, evo⟩ : ∃ vo, vo = Value.slice (if c = 20 then some ⟨b, off, none⟩ else some ⟨b, off + 20, none⟩) (H - 20) (c - 20) := ⟨_, rfl⟩
    obtain ⟨vd, evd⟩ : ∃ vd, vd = Value.slice (if c = H then some ⟨b, off, none⟩ else some ⟨b, off + H, none⟩) (num l 2 - H) (c - H) := ⟨_, rfl⟩
    have one1 : vo.oneCell' = true := by rw [evo]; rfl
    have one2 : vd.oneCell' = true := by rw [evd]; rfl
    have bo : Byt w vo (got l).opts := by
      have q := cutAt3 h (lo := 20) (hi := H) i7.1 i7.2.2
      rw [← evo, ← i6] at q
      exact q
    have bd : Byt w vd (got l).data := by
      have q := cutAt3 h (lo := H) (hi := num l 2) i7.2.1 (by omega)
      rw [← evd, ← i6] at q
      exact q
    have egot : (cellsP (pE l) vo (.slice none 0 0)).toList.set 10 vd = (cellsP (got l) vo vd).toList := rfl
    have EVO := Lib.hid evo
    have EVD := Lib.hid evd
    clear i6 evo evd
    refine wp_region_weave (A := ?frame21) [8, 10] (fun q => Grow W1 q) (inVals (isW (.slice (some ⟨b, off, none⟩) l.length c) :: isW (.int .i64 (H : Int)) :: isW (vo) :: isW (.slice (some ⟨b, off, none⟩) l.length c) :: isW (.int .i64 (H : Int)) :: isW (.int .i64 (num l 2 : Nat)) :: isW (vd) :: isW (.pointer (some ⟨g, 9, none⟩)) :: isAll :: isW (.pointer (some ⟨g, 10, none⟩)) :: isAll :: [])) (fun j vs q => match j, vs with | 0, [] => Blk q g (pE l) (.slice none 0 0) (.slice none 0 0) | 1, [_] => Blk q g (pE l) vo (.slice none 0 0) | 2, [_, _] => Blk q g (got l) vo vd | _, _ => False) (by kernel_rfl) (by kernel_rfl) (by kernel_rfl) (by kernel_rfl) (fun z => ?frameEq21) (gE.trans (Grow.drew wE)) (hkE.grow (Grow.drew wE)) ?_ ?_ ?_
    case frameEq21 => go_simp; rfl
    · refine ⟨fun _ z wz hI hd post hp => ?_, fun _ z wz hI hd post hp => ?_, fun _ z wz hI hd post hp => ?_, fun _ z wz hI hd post hp => ?_, fun _ z wz hI hd post hp => ?_, fun _ z wz hI hd post hp => ?_, fun _ z wz hI hd post hp => ?_, fun _ z wz hI hd post hp => ?_, fun hn => absurd hn (by decide), fun _ z wz hI hd post hp => ?_, fun hn => absurd hn (by decide), trivial⟩
      · -- 0: slot 103: Op.move t0
        clear hd
        go_simp
        exact hp _ rfl
      · -- 1: slot 104: Op.move t4
        clear hd
        go_simp
        exact hp _ (show Value.int .i64 (4 * (n0 : Int)) = Value.int .i64 (H : Int) from by rw [HH.out]; simp)
      · -- 2: slot 105: Op.slice 25 t103 (some (const (20:i64))) (some t104) none
        have h103 : z 103 = .slice (some ⟨b, off, none⟩) l.length c := hd 0 (by decide) (by decide) _ rfl
        have h104 : z 104 = .int .i64 (H : Int) := hd 1 (by decide) (by decide) _ rfl
        clear hd
        go_simp
        exact hp _ EVO.out.symm
      · -- 3: slot 106: Op.move t0
        clear hd
        go_simp
        exact hp _ rfl
      · -- 4: slot 107: Op.move t4
        clear hd
        go_simp
        exact hp _ (show Value.int .i64 (4 * (n0 : Int)) = Value.int .i64 (H : Int) from by rw [HH.out]; simp)
      · -- 5: slot 108: Op.move t5
        clear hd
        go_simp
        exact hp _ rfl
      · -- 6: slot 109: Op.slice 25 t106 (some t107) (some t108) none
        have h106 : z 106 = .slice (some ⟨b, off, none⟩) l.length c := hd 3 (by decide) (by decide) _ rfl
        have h107 : z 107 = .int .i64 (H : Int) := hd 4 (by decide) (by decide) _ rfl
        have h108 : z 108 = .int .i64 (num l 2 : Nat) := hd 5 (by decide) (by decide) _ rfl
        clear hd
        go_simp
        exact hp _ EVD.out.symm
      · -- 7: slot 110: Op.fieldAddr 27 t6 9
        clear hd
        go_simp
        exact hp _ rfl
      · -- 9: slot 111: Op.fieldAddr 27 t6 10
        clear hd
        go_simp
        exact hp _ rfl
    · refine ⟨fun z wz hI hd hs post hp => ?_, fun z wz hI hd hs post hp => ?_, trivial⟩
      · -- 8: slot none:0: Op.store 25 t110 t105
        have h110 : z 110 = .pointer (some ⟨g, 9, none⟩) := hd 7 (by decide) (by decide) _ rfl
        have h105 : z 105 = vo := hd 2 (by decide) (by decide) _ rfl
        clear hd
        have s0 : Blk wz g (pE l) (.slice none 0 0) (.slice none 0 0) := hs
        exact upon_fld W1 wz rfl _ (.tmp 110) (.tmp 105) rfl g 9 vo h110 h105 (pE l) (pE l) _ _ vo _ s0 (by kernel_rfl) one1 (by omega) rfl hI hgg fun w' h1 h2 h3 => hp _ w' h3 h1
      · -- 10: slot none:1: Op.store 25 t111 t109
        have h111 : z 111 = .pointer (some ⟨g, 10, none⟩) := hd 9 (by decide) (by decide) _ rfl
        have h109 : z 109 = vd := hd 6 (by decide) (by decide) _ rfl
        clear hd
        have s1 : Blk wz g (pE l) vo (.slice none 0 0) := hs
        exact upon_fld W1 wz rfl _ (.tmp 111) (.tmp 109) rfl g 10 vd h111 h109 (pE l) (got l) vo _ vo vd s1 (by kernel_rfl) one2 (by omega) egot hI hgg fun w' h1 h2 h3 => hp _ w' h3 h1
    · intro z wz hI hd hs
      have hk9 : Blk wz g (got l) vo vd := hs
      clear hd hs
      obtain ⟨d0, d1, d2, d3, d4, d5, d6, d7, d8, d9, d10⟩ := hk9.boxd
      go_wp2_with (refine wpList_store_ip w wz rfl _ _ rfl rfl w.heap.size rfl (got l) zeroP vo vd (.slice none 0 0) (.slice none 0 0) (by rfl) one1 one2 (hk1.grow hI) (hg1.trans hI) (Nat.le_refl _) ?_; intro wr hkr _ gr)
      refine bodyPost_ret (results_ip rfl _ wr w.heap.size _ _ _ rfl hkr) rfl ?_
      exact ⟨_, _, rfl, bo.grow gr, bd.grow gr, gr⟩

end Go.Proofs.Ytmibeahofienjaa
