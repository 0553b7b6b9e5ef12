/- The document's own answer: what a message is about: of the other kind. -/
import Derived.Test.YtbnnacohkemnhaaIcmRef
import Derived.Test.YtbnnacohkemnhaaIpRGetG
namespace Go.Proofs.Ytbnnacohkemnhaa
set_option linter.unusedVariables false
set_option linter.unusedSimpArgs false
open Go.ChangeShapes Go.WideShapes Go.ChangeAt Go.RowKit

set_option maxRecDepth 10000 in
set_option maxHeartbeats 8000000 in
theorem RCause7_goodB (v : Value) (k : Icm) (w : World) (h : isIcm w v k) (hs : k.data.length ≤ 1000000) (hc : ccode k = 0) (e3 : ((k.kind : Int) != 3) = true) (e11 : ((k.kind : Int) != 11) = false) :
    Calls Try.prog 23 #[v] w fun e w' => ∃ vo vd, e = .returned (.tuple #[ipV (cgot k.data) vo vd, .int .i64 0]) ∧ Byt w' vo (cgot k.data).opts ∧ Byt w' vd (cgot k.data).data ∧ Grow w w' := by
  obtain ⟨g1, g2, g3, g4, g5⟩ := (told_iff k).1 hc
  obtain ⟨A, c, rfl, hd, hk⟩ := h.form
  obtain ⟨hcl, hcm⟩ := hd.len.2
  obtain ⟨W1, hW1⟩ : ∃ W1, W1 = (w.alloc (.cells #[.int .u8 (k.kind : Int), .int .u8 (k.code : Int), .int .u32 (k.rest : Int), .slice A k.data.length c] 25)).alloc (.cells #[.int .u8 0, .int .u16 0, .bool false, .bool false, .int .i64 0, .int .u8 0, .int .u8 0, .int .u32 0, .int .u32 0, .slice none 0 0, .slice none 0 0] 47) := ⟨_, rfl⟩
  have hs0 : W1.heap.size = w.heap.size + 2 := by rw [hW1]; simp
  have hg1 : Grow w W1 := by rw [hW1]; exact (Grow.alloc w _).trans (Grow.alloc _ _)
  have hB1 : Icmbox W1 w.heap.size k (.slice A k.data.length c) := by rw [hW1]; exact (Icmbox.new _ _ _).grow (Grow.alloc _ _)
  have hk1 : Blk W1 (w.heap.size + 1) zeroP (.slice none 0 0) (.slice none 0 0) := by
    have := Blk.new (w.alloc (.cells #[.int .u8 (k.kind : Int), .int .u8 (k.code : Int), .int .u32 (k.rest : Int), .slice A k.data.length c] 25)) zeroP (.slice none 0 0) (.slice none 0 0)
    rw [World.size_alloc] at this
    rw [hW1]
    exact this
  have hsz : w.heap.size ≤ w.heap.size + 1 := by omega
  obtain ⟨b0, b1, b2, b3⟩ := id hB1
  obtain ⟨b, off, rfl, hb, hcell⟩ := hd.at_ (by omega)
  have celg : ∀ w', Grow w w' → ∀ i, i < k.data.length → w'.cell? ⟨b, off + i, none⟩ = some (.int .u8 (byt k.data i : Int)) := fun w' g i hi => by
    rw [g.cell (p := ⟨b, off + i, none⟩) hb, hcell i hi, byt_at hi]
  have l0 := byt_lt k.data 0
  go_enter Try.func23, Try.ntmps23
  go_upto_if 16 with fail
  rw [← hW1]
  clear hW1
  have c0 : W1.cell? ⟨b, off, none⟩ = some (.int .u8 (byt k.data 0 : Int)) := celg W1 hg1 0 (by omega)
  obtain ⟨n0, hn0⟩ : ∃ n0, byt k.data 0 = n0 + 64 := ⟨byt k.data 0 - 64, by omega⟩
  have eh : hdr k.data = 4 * n0 := by unfold hdr; omega
  rw [hn0] at c0 l0 g3 g4
  have c0' : W1.cell? ⟨b, off, none⟩ = some (.int .u8 ((n0 : Int) + 64)) := by rw [c0]; rfl
  clear c0
  rw [eh] at g5
  have l4 := num_lt k.data 4
  have n6 := num_lt k.data 6
  have n12 := num_lt k.data 12
  have n14 := num_lt k.data 14
  have n16 := num_lt k.data 16
  have n18 := num_lt k.data 18
  have y1 := byt_lt k.data 1
  have y6 := byt_lt k.data 6
  have y8 := byt_lt k.data 8
  have y9 := byt_lt k.data 9
  have i0 : 0 < k.data.length := by omega
  have i1 : (1 : Int) < (k.data.length : Int) := by omega
  have i6 : (6 : Int) < (k.data.length : Int) := by omega
  have i8 : (8 : Int) < (k.data.length : Int) := by omega
  have i9 : (9 : Int) < (k.data.length : Int) := by omega
  have E4 : numOf ((k.data.drop 4).take 2) = num k.data 4 := numOf_2 (by omega)
  have E6 : numOf ((k.data.drop 6).take 2) = num k.data 6 := numOf_2 (by omega)
  have E12 : numOf ((k.data.drop 12).take 4) = 65536 * num k.data 12 + num k.data 14 := numOf_4 (by omega)
  have E16 : numOf ((k.data.drop 16).take 4) = 65536 * num k.data 16 + num k.data 18 := numOf_4 (by omega)
  have w25 : IntKind.u16.wrap (num k.data 4 : Int) = (num k.data 4 : Int) := by
    simp only [IntKind.wrap, IntKind.signed, IntKind.bits]
    simp
    omega
  have w12 : IntKind.u32.wrap (65536 * (num k.data 12 : Int) + (num k.data 14 : Int)) = 65536 * (num k.data 12 : Int) + (num k.data 14 : Int) := by
    simp only [IntKind.wrap, IntKind.signed, IntKind.bits]
    simp
    omega
  have w16 : IntKind.u32.wrap (65536 * (num k.data 16 : Int) + (num k.data 18 : Int)) = 65536 * (num k.data 16 : Int) + (num k.data 18 : Int) := by
    simp only [IntKind.wrap, IntKind.signed, IntKind.bits]
    simp
    omega
  clear b0 b1 b2 b3
  go_wp2_with fail
  refine wp_region_phase (A := ?frame11) (inList (isV (.slice (some ⟨b, off, none⟩) k.data.length c) :: isV (.pointer (some ⟨b, off + 1, none⟩)) :: isV (.int .u8 (byt k.data 1 : Int)) :: isV (.slice (some ⟨b, off, none⟩) k.data.length c) :: isV (.int .i64 (num k.data 4 : Nat)) :: isV (.int .u16 (num k.data 4 : Nat)) :: isV (.slice (some ⟨b, off, none⟩) k.data.length c) :: isV (.pointer (some ⟨b, off + 8, none⟩)) :: isV (.int .u8 (byt k.data 8 : Int)) :: isV (.slice (some ⟨b, off, none⟩) k.data.length c) :: isV (.pointer (some ⟨b, off + 9, none⟩)) :: isV (.int .u8 (byt k.data 9 : Int)) :: isV (ipV (pA k.data) (.slice none 0 0) (.slice none 0 0)) :: (isNew W1.heap.size) :: [])) 14 (by kernel_rfl) (by kernel_rfl) (by kernel_rfl) (inList_stays ?_) (fun x => ?frameEq11) ?_ ?_
  case frameEq11 => go_simp; rfl
  · intro f hf
    simp only [List.mem_cons, List.not_mem_nil, or_false] at hf
    rcases hf with rfl | rfl | rfl | rfl | rfl | rfl | rfl | rfl | rfl | rfl | rfl | rfl | rfl | rfl <;> first | exact isV_stays _ | exact isB_stays _ | exact isBs_stays _ | exact isNew_stays _
  · refine ⟨fun x w1 hg hd post hp => ?_, fun x w1 hg hd post hp => ?_, fun x w1 hg hd post hp => ?_, fun x w1 hg hd post hp => ?_, fun x w1 hg hd post hp => ?_, fun x w1 hg hd post hp => ?_, fun x w1 hg hd post hp => ?_, fun x w1 hg hd post hp => ?_, fun x w1 hg hd post hp => ?_, fun x w1 hg hd post hp => ?_, fun x w1 hg hd post hp => ?_, fun x w1 hg hd post hp => ?_, fun x w1 hg hd post hp => ?_, fun x w1 hg hd post hp => ?_, trivial⟩
    · -- 0: slot 45: Op.move t4
      clear hd
      go_simp
      exact hp _ _ (Grow.refl _) rfl
    · -- 1: slot 46: Op.indexAddr 23 t45 (const (1:i64))
      have h45 : x 45 = .slice (some ⟨b, off, none⟩) k.data.length c := hd 0 (by decide) _ rfl
      clear hd
      go_simp
      exact hp _ _ (Grow.refl _) rfl
    · -- 2: slot 47: Op.load 5 t46
      have h46 : x 46 = .pointer (some ⟨b, off + 1, none⟩) := hd 1 (by decide) _ rfl
      clear hd
      have q1 := celg w1 (hg1.trans hg) 1 (by omega)
      go_simp
      exact hp _ _ (Grow.refl _) rfl
    · -- 3: slot 48: Op.move t4
      clear hd
      go_simp
      exact hp _ _ (Grow.refl _) rfl
    · -- 4: slot 49: Op.call { value (Operand.func 38), args := #[t48, const (4:i64), const (2:i64)],
      have h48 : x 48 = .slice (some ⟨b, off, none⟩) k.data.length c := hd 3 (by decide) _ rfl
      clear hd
      go_simp
      refine (rnum7_any _ 4 2 k.data _ (hd.grow (hg1.trans hg)) (by omega) (by omega) (by omega) (by omega)).mono ?_
      rw [E4]
      rintro e w2 ⟨rfl, rfl⟩
      exact ⟨_, rfl, hp _ _ (Grow.refl _) rfl⟩
    · -- 5: slot 50: Op.convert 3 39 t49
      have h49 : x 49 = .int .i64 (num k.data 4 : Nat) := hd 4 (by decide) _ rfl
      clear hd
      go_simp
      exact hp _ _ (Grow.refl _) rfl
    · -- 6: slot 51: Op.move t4
      clear hd
      go_simp
      exact hp _ _ (Grow.refl _) rfl
    · -- 7: slot 52: Op.indexAddr 23 t51 (const (8:i64))
      have h51 : x 51 = .slice (some ⟨b, off, none⟩) k.data.length c := hd 6 (by decide) _ rfl
      clear hd
      go_simp
      exact hp _ _ (Grow.refl _) rfl
    · -- 8: slot 53: Op.load 5 t52
      have h52 : x 52 = .pointer (some ⟨b, off + 8, none⟩) := hd 7 (by decide) _ rfl
      clear hd
      have q1 := celg w1 (hg1.trans hg) 8 (by omega)
      go_simp
      exact hp _ _ (Grow.refl _) rfl
    · -- 9: slot 54: Op.move t4
      clear hd
      go_simp
      exact hp _ _ (Grow.refl _) rfl
    · -- 10: slot 55: Op.indexAddr 23 t54 (const (9:i64))
      have h54 : x 54 = .slice (some ⟨b, off, none⟩) k.data.length c := hd 9 (by decide) _ rfl
      clear hd
      go_simp
      exact hp _ _ (Grow.refl _) rfl
    · -- 11: slot 56: Op.load 5 t55
      have h55 : x 55 = .pointer (some ⟨b, off + 9, none⟩) := hd 10 (by decide) _ rfl
      clear hd
      have q1 := celg w1 (hg1.trans hg) 9 (by omega)
      go_simp
      exact hp _ _ (Grow.refl _) rfl
    · -- 12: slot 57: Op.build 47 #[(0, t47), (1, t50), (5, t53), (6, t56)]
      have h47 : x 47 = .int .u8 (byt k.data 1 : Int) := hd 2 (by decide) _ rfl
      have h50 : x 50 = .int .u16 (num k.data 4 : Nat) := hd 5 (by decide) _ rfl
      have h53 : x 53 = .int .u8 (byt k.data 8 : Int) := hd 8 (by decide) _ rfl
      have h56 : x 56 = .int .u8 (byt k.data 9 : Int) := hd 11 (by decide) _ rfl
      clear hd
      go_simp
      exact hp _ _ (Grow.refl _) rfl
    · -- 13: slot 6: Op.alloc 47
      clear hd
      have hz := hg.size
      go_simp
      exact hp _ _ (Grow.alloc _ _) ⟨w1.heap.size, rfl, hz, Blk.new w1 zeroP _ _⟩
  · intro x w1 hg hd
    have h57 : x 57 = ipV (pA k.data) (.slice none 0 0) (.slice none 0 0) := hd 12 _ (by decide) rfl
    have h6 : (isNew W1.heap.size) (x 6) w1 := hd 13 _ (by decide) rfl
    clear hd
    obtain ⟨g, e6, hgg, hk6⟩ := h6
    simp only [List.drop_succ_cons, List.drop_zero]
    have F64 : (((byt k.data 6 : Nat) : Int) / 64 % 2 == 1) = decide (byt k.data 6 / 64 % 2 = 1) := by
      rw [Bool.eq_iff_iff]
      simp only [beq_iff_eq, decide_eq_true_eq]
      omega
    have F32 : (((byt k.data 6 : Nat) : Int) / 32 % 2 == 1) = decide (byt k.data 6 / 32 % 2 = 1) := by
      rw [Bool.eq_iff_iff]
      simp only [beq_iff_eq, decide_eq_true_eq]
      omega
    go_wp2_with (first | (refine wpList_store_ip W1 w1 rfl _ _ rfl rfl g e6 (pA k.data) zeroP (.slice none 0 0) (.slice none 0 0) (.slice none 0 0) (.slice none 0 0) h57 rfl rfl hk6 hg hgg ?_; intro wA hkA _ gA; have cc := celg wA (hg1.trans gA) 6 (by omega)) | (refine wpList_store_fld W1 wA rfl _ _ _ rfl rfl g 2 (.bool (decide (byt k.data 6 / 64 % 2 = 1))) rfl rfl (pA k.data) (pB k.data) (.slice none 0 0) (.slice none 0 0) (.slice none 0 0) (.slice none 0 0) (hkA) (by kernel_rfl) rfl (by omega) rfl (gA) hgg ?_; intro wB hkB _ gB; have cc := celg wB (hg1.trans gB) 6 (by omega)) | (refine wpList_store_fld W1 wB rfl _ _ _ rfl rfl g 3 (.bool (decide (byt k.data 6 / 32 % 2 = 1))) rfl rfl (pB k.data) (pC k.data) (.slice none 0 0) (.slice none 0 0) (.slice none 0 0) (.slice none 0 0) (hkB) (by kernel_rfl) rfl (by omega) rfl (gB) hgg ?_; intro wC hkC _ gC; have cc := celg wC (hg1.trans gC) 6 (by omega)))
    refine (rnum7_any _ 6 2 _ _ (hd.grow (hg1.trans gC)) (by omega) (by omega) (by omega) (by omega)).mono ?_
    rw [E6]
    rintro e w' ⟨rfl, rfl⟩
    go_wp2_with (refine wpList_store_fld W1 wC rfl _ _ _ rfl rfl g 4 (.int .i64 ((num k.data 6 % 8192 : Nat) : Int)) rfl (show Value.int .i64 ((num k.data 6 : Int) % 8192) = _ from by simp) (pC k.data) (pD k.data) (.slice none 0 0) (.slice none 0 0) (.slice none 0 0) (.slice none 0 0) (hkC) (by kernel_rfl) rfl (by omega) rfl (gC) hgg ?_; intro wD hkD _ gD; have cc := celg wD (hg1.trans gD) 6 (by omega))
    refine (rnum7_any _ 12 4 _ _ (hd.grow (hg1.trans gD)) (by omega) (by omega) (by omega) (by omega)).mono ?_
    rw [E12]
    rintro e w' ⟨rfl, rfl⟩
    go_wp2_with fail
    refine (rnum7_any _ 16 4 _ _ (hd.grow (hg1.trans gD)) (by omega) (by omega) (by omega) (by omega)).mono ?_
    rw [E16]
    rintro e w' ⟨rfl, rfl⟩
    go_wp2_with (first | (refine wpList_store_fld W1 wD rfl _ _ _ rfl rfl g 7 (.int .u32 ((65536 * num k.data 12 + num k.data 14 : Nat) : Int)) rfl (show Value.int .u32 (65536 * (num k.data 12 : Int) + (num k.data 14 : Int)) = _ from by simp) (pD k.data) (pF k.data) (.slice none 0 0) (.slice none 0 0) (.slice none 0 0) (.slice none 0 0) (hkD) (by kernel_rfl) rfl (by omega) rfl (gD) hgg ?_; intro wF hkF _ gF; have cc := celg wF (hg1.trans gF) 6 (by omega)) | (refine wpList_store_fld W1 wF rfl _ _ _ rfl rfl g 8 (.int .u32 ((65536 * num k.data 16 + num k.data 18 : Nat) : Int)) rfl (show Value.int .u32 (65536 * (num k.data 16 : Int) + (num k.data 18 : Int)) = _ from by simp) (pF k.data) (pE k.data) (.slice none 0 0) (.slice none 0 0) (.slice none 0 0) (.slice none 0 0) (hkF) (by kernel_rfl) rfl (by omega) rfl (gF) hgg ?_; intro wE hkE _ gE; have cc := celg wE (hg1.trans gE) 6 (by omega)))
    obtain ⟨H, hH⟩ : ∃ H : Nat, H = 4 * n0 := ⟨_, rfl⟩
    have i2 : H ≤ c := by omega
    have i3 : (20 : Int) ≤ (H : Int) := by omega
    have i4 : H + 8 ≤ c := by omega
    have i5 : (H : Int) ≤ (H : Int) + 8 := by omega
    have iH : hdr k.data = H := by omega
    have i7 : 20 ≤ H ∧ H + 8 ≤ k.data.length ∧ H ≤ k.data.length := by omega
    have j1 : (0 : Int) ≤ (H : Int) + 8 := by omega
    have j2 : (H : Int) + 8 ≤ (c : Int) := by omega
    have j3 : ((H : Int) + 8).toNat = H + 8 := by omega
    have wH : IntKind.i64.wrap ((H : Int) + 8) = (H : Int) + 8 := IntWalk.i64_in _ (by omega)
    have HH := Lib.hid hH
    clear hH
    obtain ⟨vo, evo⟩ : ∃ vo, vo = Value.slice (if c = 20 then some ⟨b, off, none⟩ else some ⟨b, off + 20, none⟩) (H - 20) (c - 20) := ⟨_, rfl⟩
    obtain ⟨vd, evd⟩ : ∃ vd, vd = Value.slice (if c = H then some ⟨b, off, none⟩ else some ⟨b, off + H, none⟩) 8 (c - H) := ⟨_, rfl⟩
    have one1 : vo.oneCell' = true := by rw [evo]; rfl
    have one2 : vd.oneCell' = true := by rw [evd]; rfl
    have bo : Byt w vo (cgot k.data).opts := by
      have q := cutAt3 hd (lo := 20) (hi := H) i7.1 i7.2.2
      rw [← evo, ← iH] at q
      exact q
    have bd : Byt w vd (cgot k.data).data := by
      have q := cutAt3 hd (lo := H) (hi := H + 8) (by omega) i7.2.1
      rw [Nat.add_sub_cancel_left, ← evd, ← iH] at q
      exact q
    have egot : (cellsP (pE k.data) vo (.slice none 0 0)).toList.set 10 vd = (cellsP (cgot k.data) vo vd).toList := rfl
    have EVO := Lib.hid evo
    have EVD := Lib.hid evd
    clear iH evo evd
    refine wp_region_weave (A := ?frame16) [9, 11] (fun q => Grow W1 q) (inVals (isW (.slice (some ⟨b, off, none⟩) k.data.length c) :: isW (.int .i64 (H : Int)) :: isW (vo) :: isW (.slice (some ⟨b, off, none⟩) k.data.length c) :: isW (.int .i64 (H : Int)) :: isW (.int .i64 (H : Int)) :: isW (.int .i64 ((H : Int) + 8)) :: isW (vd) :: isW (.pointer (some ⟨g, 9, none⟩)) :: isAll :: isW (.pointer (some ⟨g, 10, none⟩)) :: isAll :: [])) (fun j vs q => match j, vs with | 0, [] => Blk q g (pE k.data) (.slice none 0 0) (.slice none 0 0) | 1, [_] => Blk q g (pE k.data) vo (.slice none 0 0) | 2, [_, _] => Blk q g (cgot k.data) vo vd | _, _ => False) (by kernel_rfl) (by kernel_rfl) (by kernel_rfl) (by kernel_rfl) (fun z => ?frameEq16) (gE.trans (Grow.drew wE)) (hkE.grow (Grow.drew wE)) ?_ ?_ ?_
    case frameEq16 => go_simp; rfl
    · refine ⟨fun _ z wz hI hd post hp => ?_, fun _ z wz hI hd post hp => ?_, fun _ z wz hI hd post hp => ?_, fun _ z wz hI hd post hp => ?_, fun _ z wz hI hd post hp => ?_, fun _ z wz hI hd post hp => ?_, fun _ z wz hI hd post hp => ?_, fun _ z wz hI hd post hp => ?_, fun _ z wz hI hd post hp => ?_, fun hn => absurd hn (by decide), fun _ z wz hI hd post hp => ?_, fun hn => absurd hn (by decide), trivial⟩
      · -- 0: slot 84: Op.move t4
        clear hd
        go_simp
        exact hp _ rfl
      · -- 1: slot 85: Op.move t5
        clear hd
        go_simp
        exact hp _ (show Value.int .i64 (4 * (n0 : Int)) = Value.int .i64 (H : Int) from by rw [HH.out]; simp)
      · -- 2: slot 86: Op.slice 23 t84 (some (const (20:i64))) (some t85) none
        have h84 : z 84 = .slice (some ⟨b, off, none⟩) k.data.length c := hd 0 (by decide) (by decide) _ rfl
        have h85 : z 85 = .int .i64 (H : Int) := hd 1 (by decide) (by decide) _ rfl
        clear hd
        go_simp
        exact hp _ EVO.out.symm
      · -- 3: slot 87: Op.move t4
        clear hd
        go_simp
        exact hp _ rfl
      · -- 4: slot 88: Op.move t5
        clear hd
        go_simp
        exact hp _ (show Value.int .i64 (4 * (n0 : Int)) = Value.int .i64 (H : Int) from by rw [HH.out]; simp)
      · -- 5: slot 89: Op.move t5
        clear hd
        go_simp
        exact hp _ (show Value.int .i64 (4 * (n0 : Int)) = Value.int .i64 (H : Int) from by rw [HH.out]; simp)
      · -- 6: slot 90: Op.binOp BinOp.add 3 t89 (const (8:i64)) 3
        have h89 : z 89 = .int .i64 (H : Int) := hd 5 (by decide) (by decide) _ rfl
        clear hd
        go_simp
        exact hp _ rfl
      · -- 7: slot 91: Op.slice 23 t87 (some t88) (some t90) none
        have h87 : z 87 = .slice (some ⟨b, off, none⟩) k.data.length c := hd 3 (by decide) (by decide) _ rfl
        have h88 : z 88 = .int .i64 (H : Int) := hd 4 (by decide) (by decide) _ rfl
        have h90 : z 90 = .int .i64 ((H : Int) + 8) := hd 6 (by decide) (by decide) _ rfl
        clear hd
        go_simp
        exact hp _ EVD.out.symm
      · -- 8: slot 92: Op.fieldAddr 47 t6 9
        clear hd
        go_simp
        exact hp _ rfl
      · -- 10: slot 93: Op.fieldAddr 47 t6 10
        clear hd
        go_simp
        exact hp _ rfl
    · refine ⟨fun z wz hI hd hs post hp => ?_, fun z wz hI hd hs post hp => ?_, trivial⟩
      · -- 9: slot none:0: Op.store 23 t92 t86
        have h92 : z 92 = .pointer (some ⟨g, 9, none⟩) := hd 8 (by decide) (by decide) _ rfl
        have h86 : z 86 = vo := hd 2 (by decide) (by decide) _ rfl
        clear hd
        have s0 : Blk wz g (pE k.data) (.slice none 0 0) (.slice none 0 0) := hs
        exact upon_fld W1 wz rfl _ (.tmp 92) (.tmp 86) rfl g 9 vo h92 h86 (pE k.data) (pE k.data) _ _ vo _ s0 (by kernel_rfl) one1 (by omega) rfl hI hgg fun w' h1 h2 h3 => hp _ w' h3 h1
      · -- 11: slot none:1: Op.store 23 t93 t91
        have h93 : z 93 = .pointer (some ⟨g, 10, none⟩) := hd 10 (by decide) (by decide) _ rfl
        have h91 : z 91 = vd := hd 7 (by decide) (by decide) _ rfl
        clear hd
        have s1 : Blk wz g (pE k.data) vo (.slice none 0 0) := hs
        exact upon_fld W1 wz rfl _ (.tmp 93) (.tmp 91) rfl g 10 vd h93 h91 (pE k.data) (cgot k.data) vo _ vo vd s1 (by kernel_rfl) one2 (by omega) egot hI hgg fun w' h1 h2 h3 => hp _ w' h3 h1
    · intro z wz hI hd hs
      have hk9 : Blk wz g (cgot k.data) vo vd := hs
      clear hd hs
      obtain ⟨d0, d1, d2, d3, d4, d5, d6, d7, d8, d9, d10⟩ := hk9.boxd
      go_wp2_with (refine wpList_store_ip w wz rfl _ _ rfl rfl (w.heap.size + 1) rfl (cgot k.data) zeroP vo vd (.slice none 0 0) (.slice none 0 0) (by rfl) one1 one2 (hk1.grow hI) (hg1.trans hI) hsz ?_; intro wr hkr _ gr)
      refine bodyPost_ret (results_ip rfl _ wr (w.heap.size + 1) _ _ _ rfl hkr) rfl ?_
      exact ⟨_, _, rfl, bo.grow gr, bd.grow gr, gr⟩
end Go.Proofs.Ytbnnacohkemnhaa
