/- The walk of the law on bytes as datagrams. -/
import Derived.Test.YtmblfenindjeiaaGramLive
import Derived.Test.YtmblfenindjeiaaGramRef
namespace Go.Proofs.Ytmblfenindjeiaa
set_option linter.unusedVariables false
set_option linter.unusedSimpArgs false
open Go.ChangeShapes Go.WideShapes Go.ChangeAt Go.RowKit

set_option maxRecDepth 10000 in
set_option maxHeartbeats 4000000 in
theorem gramGets_few (w : World) (s d : Nat) (hs : s < 4294967296) (hd : d < 4294967296) {v : Value} {l : List UInt8} (h : Byt w v l) (h4 : l.length < 4) :
    Calls Try.prog 4 #[.int .u32 (s : Int), .int .u32 (d : Int), v] w fun e w' => e = .returned (.bool true) ∧ Grow w w' := by
  obtain ⟨A, c, rfl, hcl, hcm⟩ := h.form
  unfold maxLen at hcm
  have hl : l.length ≤ 1000000 := by omega
  obtain ⟨q1, q2⟩ := gcode_le s d l
  have hok := gres_ok s d l
  go_enter Try.func4, Try.ntmps4
  go_wp2_with fail
  refine (gGet_any s d _ l _ hs hd h hl).mono ?_
  rintro e w2 ⟨vd, rfl, hvd, hg2⟩
  have bd := hvd.byt
  obtain ⟨B6, m6, d6, rfl, _⟩ := bd.form2
  obtain ⟨r, hr⟩ : ∃ r, r = gres s d l := ⟨_, rfl⟩
  rw [← hr] at bd hok ⊢
  have HR := Lib.hid hr
  clear hr
  obtain ⟨gc, hgc⟩ : ∃ gc, gc = gcode s d l := ⟨_, rfl⟩
  rw [← hgc] at q1 q2 ⊢
  have HC := Lib.hid hgc
  clear hgc
  go_wp2_with (refine wpList_store_Gram w2 _ rfl _ _ rfl rfl w2.heap.size rfl r zeroG (.slice B6 m6 d6) (.slice none 0 0) (by rfl) rfl (Gramblk.new w2 zeroG (.slice none 0 0)) (Grow.alloc _ _) (Nat.le_refl _) ?_; intro w3 hk3 _ hg3)
  have hg03 := hg2.trans hg3
  refine (RGet8_any s d _ l _ hs hd (h.grow hg03) hl).mono ?_
  rw [← HR.out, ← HC.out]
  rintro e w4 ⟨vd2, rfl, bd2, hg4⟩
  obtain ⟨C6, k6, e6, rfl, _⟩ := bd2.form2
  clear HC
  go_wp2_with (refine wpList_store_Gram w4 _ rfl _ _ rfl rfl w4.heap.size rfl r zeroG (.slice C6 k6 e6) (.slice none 0 0) (by rfl) rfl (Gramblk.new w4 zeroG (.slice none 0 0)) (Grow.alloc _ _) (Nat.le_refl _) ?_; intro w5 hk5 _ hg5)
  have hg35 := hg4.trans hg5
  have hg05 := hg03.trans hg35
  refine (gPorts_short _ l _ (h.grow hg05) h4).mono ?_
  rintro e w' ⟨rfl, rfl⟩
  obtain ⟨d0, d1, d2⟩ := (hk3.grow hg35).boxd
  obtain ⟨f0, f1, f2⟩ := hk5.boxd
  go_wp2_with fail
  refine (gramCode_any gc _ (by omega) (by omega)).mono ?_
  rintro e w' ⟨rfl, rfl⟩
  go_wp2_with fail
  refine (RSame8_yes _ _ r r _ ⟨_, rfl, (bd.grow hg3).grow hg35, hok⟩ ⟨_, rfl, bd2.grow hg5, hok⟩ rfl).mono ?_
  rintro e w6 ⟨rfl, hg6⟩
  have hg07 := hg05.trans hg6
  go_wp2_with fail
  refine (gramCode_any 2 _ (by omega) (by omega)).mono ?_
  rintro e w' ⟨rfl, rfl⟩
  go_wp2_with fail
  refine (gramLive_any _).mono ?_
  rintro e wl ⟨rfl, hgl⟩
  go_wp2_with fail
  go_ret
  exact ⟨rfl, hg07.trans hgl⟩

set_option maxRecDepth 10000 in
set_option maxHeartbeats 4000000 in
theorem gramGets_more (w : World) (s d : Nat) (hs : s < 4294967296) (hd : d < 4294967296) {v : Value} {l : List UInt8} (h : Byt w v l) (h4 : 4 ≤ l.length) (hL : l.length ≤ 70000) :
    Calls Try.prog 4 #[.int .u32 (s : Int), .int .u32 (d : Int), v] w fun e w' => e = .returned (.bool true) ∧ Grow w w' := by
  obtain ⟨A, c, rfl, hcl, hcm⟩ := h.form
  unfold maxLen at hcm
  have hl : l.length ≤ 1000000 := by omega
  obtain ⟨b, off, rfl, hb, hcell⟩ := h.at_ (by omega)
  have N0 : Hid (((num l 0 : Nat) : Int) = 256 * (byt l 0 : Int) + (byt l 1 : Int)) := Lib.hid (by show ((256 * byt l 0 + byt l 1 : Nat) : Int) = _; omega)
  have N2 : Hid (((num l 2 : Nat) : Int) = 256 * (byt l 2 : Int) + (byt l 3 : Int)) := Lib.hid (by show ((256 * byt l 2 + byt l 3 : Nat) : Int) = _; omega)
  have n0 := num_lt l 0
  have n2 := num_lt l 2
  have y0 := byt_lt l 0
  have y1 := byt_lt l 1
  have y2 := byt_lt l 2
  have y3 := byt_lt l 3
  have i0 : 0 < l.length := by omega
  have i1 : (1 : Int) < (l.length : Int) := by omega
  have i2 : (2 : Int) < (l.length : Int) := by omega
  have i3 : (3 : Int) < (l.length : Int) := by omega
  obtain ⟨q1, q2⟩ := gcode_le s d l
  have hok := gres_ok s d l
  go_enter Try.func4, Try.ntmps4
  go_wp2_with fail
  refine (gGet_any s d _ l _ hs hd h hl).mono ?_
  rintro e w2 ⟨vd, rfl, hvd, hg2⟩
  have bd := hvd.byt
  obtain ⟨B6, m6, d6, rfl, _⟩ := bd.form2
  obtain ⟨r, hr⟩ : ∃ r, r = gres s d l := ⟨_, rfl⟩
  rw [← hr] at bd hok ⊢
  have HR := Lib.hid hr
  clear hr
  obtain ⟨gc, hgc⟩ : ∃ gc, gc = gcode s d l := ⟨_, rfl⟩
  rw [← hgc] at q1 q2 ⊢
  have HC := Lib.hid hgc
  clear hgc
  go_wp2_with (refine wpList_store_Gram w2 _ rfl _ _ rfl rfl w2.heap.size rfl r zeroG (.slice B6 m6 d6) (.slice none 0 0) (by rfl) rfl (Gramblk.new w2 zeroG (.slice none 0 0)) (Grow.alloc _ _) (Nat.le_refl _) ?_; intro w3 hk3 _ hg3)
  have hg03 := hg2.trans hg3
  refine (RGet8_any s d _ l _ hs hd (h.grow hg03) hl).mono ?_
  rw [← HR.out, ← HC.out]
  rintro e w4 ⟨vd2, rfl, bd2, hg4⟩
  obtain ⟨C6, k6, e6, rfl, _⟩ := bd2.form2
  clear HC
  go_wp2_with (refine wpList_store_Gram w4 _ rfl _ _ rfl rfl w4.heap.size rfl r zeroG (.slice C6 k6 e6) (.slice none 0 0) (by rfl) rfl (Gramblk.new w4 zeroG (.slice none 0 0)) (Grow.alloc _ _) (Nat.le_refl _) ?_; intro w5 hk5 _ hg5)
  have hg35 := hg4.trans hg5
  have hg05 := hg03.trans hg35
  refine (gPorts_ok _ l _ (h.grow hg05) h4 hl).mono ?_
  rintro e w' ⟨rfl, rfl⟩
  obtain ⟨d0, d1, d2⟩ := (hk3.grow hg35).boxd
  obtain ⟨f0, f1, f2⟩ := hk5.boxd
  go_wp2_with fail
  refine (gramCode_any gc _ (by omega) (by omega)).mono ?_
  rintro e w' ⟨rfl, rfl⟩
  go_wp2_with fail
  refine (RSame8_yes _ _ r r _ ⟨_, rfl, (bd.grow hg3).grow hg35, hok⟩ ⟨_, rfl, bd2.grow hg5, hok⟩ rfl).mono ?_
  rintro e w6 ⟨rfl, hg6⟩
  have hg07 := hg05.trans hg6
  have hlt : b < w6.heap.size := by have := hg07.size; omega
  have cel : ∀ i, i < l.length → w6.cell? ⟨b, off + i, none⟩ = some (.int .u8 (byt l i : Int)) := fun i hi => by
    rw [hg07.cell (p := ⟨b, off + i, none⟩) hb, hcell i hi, byt_at hi]
  have c0 : w6.cell? ⟨b, off, none⟩ = some (.int .u8 (byt l 0 : Int)) := cel 0 (by omega)
  have c1 := cel 1 (by omega)
  have c2 := cel 2 (by omega)
  have c3 := cel 3 (by omega)
  clear d0 d1 d2 f0 f1 f2
  go_wp2_with fail
  refine wp_region_loose (A := ?frame11) (inList (isV (.int .u16 (num l 0 : Nat)) :: isV (.int .i64 (num l 0 : Nat)) :: isV (.slice (some ⟨b, off, none⟩) l.length c) :: isV (.pointer (some ⟨b, off, none⟩)) :: isV (.int .u8 (byt l 0 : Int)) :: isV (.int .i64 (byt l 0 : Int)) :: isV (.int .i64 (256 * (byt l 0 : Int))) :: isV (.slice (some ⟨b, off, none⟩) l.length c) :: isV (.pointer (some ⟨b, off + 1, none⟩)) :: isV (.int .u8 (byt l 1 : Int)) :: isV (.int .i64 (byt l 1 : Int)) :: isV (.int .i64 (256 * (byt l 0 : Int) + (byt l 1 : Int))) :: isV (.bool true) :: isV (.bool true) :: isV (.int .u16 (num l 2 : Nat)) :: isV (.int .i64 (num l 2 : Nat)) :: isV (.slice (some ⟨b, off, none⟩) l.length c) :: isV (.pointer (some ⟨b, off + 2, none⟩)) :: isV (.int .u8 (byt l 2 : Int)) :: isV (.int .i64 (byt l 2 : Int)) :: isV (.int .i64 (256 * (byt l 2 : Int))) :: isV (.slice (some ⟨b, off, none⟩) l.length c) :: isV (.pointer (some ⟨b, off + 3, none⟩)) :: isV (.int .u8 (byt l 3 : Int)) :: isV (.int .i64 (byt l 3 : Int)) :: isV (.int .i64 (256 * (byt l 2 : Int) + (byt l 3 : Int))) :: isV (.bool true) :: isV (.bool true) :: isV (.bool true) :: isV (.int .i64 0) :: isV (.int .i64 0) :: isV (.bool true) :: isV (.bool true) :: isV (.bool true) :: isV (.bool true) :: isV (.bool true) :: isV (.bool true) :: [])) (by kernel_rfl) (by kernel_rfl) (inList_stays ?_) (fun x => ?frameEq11) ?_ ?_
  case frameEq11 => go_simp; rfl
  · intro f hf
    simp only [List.mem_cons, List.not_mem_nil, or_false] at hf
    rcases hf with rfl | rfl | rfl | rfl | rfl | rfl | rfl | rfl | rfl | rfl | rfl | rfl | rfl | rfl | rfl | rfl | rfl | rfl | rfl | rfl | rfl | rfl | rfl | rfl | rfl | rfl | rfl | rfl | rfl | rfl | rfl | rfl | rfl | rfl | rfl | rfl | rfl <;> first | exact isV_stays _ | exact isB_stays _ | exact isBs_stays _
  · refine ⟨fun x w1 hg hd post hp => ?_, fun x w1 hg hd post hp => ?_, fun x w1 hg hd post hp => ?_, fun x w1 hg hd post hp => ?_, fun x w1 hg hd post hp => ?_, fun x w1 hg hd post hp => ?_, fun x w1 hg hd post hp => ?_, fun x w1 hg hd post hp => ?_, fun x w1 hg hd post hp => ?_, fun x w1 hg hd post hp => ?_, fun x w1 hg hd post hp => ?_, fun x w1 hg hd post hp => ?_, fun x w1 hg hd post hp => ?_, fun x w1 hg hd post hp => ?_, fun x w1 hg hd post hp => ?_, fun x w1 hg hd post hp => ?_, fun x w1 hg hd post hp => ?_, fun x w1 hg hd post hp => ?_, fun x w1 hg hd post hp => ?_, fun x w1 hg hd post hp => ?_, fun x w1 hg hd post hp => ?_, fun x w1 hg hd post hp => ?_, fun x w1 hg hd post hp => ?_, fun x w1 hg hd post hp => ?_, fun x w1 hg hd post hp => ?_, fun x w1 hg hd post hp => ?_, fun x w1 hg hd post hp => ?_, fun x w1 hg hd post hp => ?_, fun x w1 hg hd post hp => ?_, fun x w1 hg hd post hp => ?_, fun x w1 hg hd post hp => ?_, fun x w1 hg hd post hp => ?_, fun x w1 hg hd post hp => ?_, fun x w1 hg hd post hp => ?_, fun x w1 hg hd post hp => ?_, fun x w1 hg hd post hp => ?_, fun x w1 hg hd post hp => ?_, trivial⟩
    · -- 0: slot 69: Op.move t13
      clear hd
      go_simp
      exact hp _ _ (Grow.refl _) rfl
    · -- 1: slot 70: Op.convert 23 3 t69
      have h69 : x 69 = .int .u16 (num l 0 : Nat) := hd 0 (by decide) _ rfl
      clear hd
      have e1 : IntKind.i64.wrap ((num l 0 : Nat) : Int) = ((num l 0 : Nat) : Int) := IntWalk.i64_in _ (by omega)
      go_simp
      exact hp _ _ (Grow.refl _) rfl
    · -- 2: slot 71: Op.move t2
      clear hd
      go_simp
      exact hp _ _ (Grow.refl _) rfl
    · -- 3: slot 72: Op.indexAddr 24 t71 (const (0:i64))
      have h71 : x 71 = .slice (some ⟨b, off, none⟩) l.length c := hd 2 (by decide) _ rfl
      clear hd
      go_simp
      exact hp _ _ (Grow.refl _) rfl
    · -- 4: slot 73: Op.load 5 t72
      have h72 : x 72 = .pointer (some ⟨b, off, none⟩) := hd 3 (by decide) _ rfl
      clear hd
      have q1 := (hg.cell (p := ⟨b, off, none⟩) hlt).trans c0
      go_simp
      exact hp _ _ (Grow.refl _) rfl
    · -- 5: slot 74: Op.convert 5 3 t73
      have h73 : x 73 = .int .u8 (byt l 0 : Int) := hd 4 (by decide) _ rfl
      clear hd
      have e1 : IntKind.i64.wrap (byt l 0 : Int) = (byt l 0 : Int) := IntWalk.i64_in _ (by omega)
      go_simp
      exact hp _ _ (Grow.refl _) rfl
    · -- 6: slot 75: Op.binOp BinOp.mul 3 (const (256:i64)) t74 3
      have h74 : x 74 = .int .i64 (byt l 0 : Int) := hd 5 (by decide) _ rfl
      clear hd
      have e1 : IntKind.i64.wrap (256 * (byt l 0 : Int)) = 256 * (byt l 0 : Int) := IntWalk.i64_in _ (by omega)
      go_simp
      exact hp _ _ (Grow.refl _) rfl
    · -- 7: slot 76: Op.move t2
      clear hd
      go_simp
      exact hp _ _ (Grow.refl _) rfl
    · -- 8: slot 77: Op.indexAddr 24 t76 (const (1:i64))
      have h76 : x 76 = .slice (some ⟨b, off, none⟩) l.length c := hd 7 (by decide) _ rfl
      clear hd
      go_simp
      exact hp _ _ (Grow.refl _) rfl
    · -- 9: slot 78: Op.load 5 t77
      have h77 : x 77 = .pointer (some ⟨b, off + 1, none⟩) := hd 8 (by decide) _ rfl
      clear hd
      have q1 := (hg.cell (p := ⟨b, off + 1, none⟩) hlt).trans c1
      go_simp
      exact hp _ _ (Grow.refl _) rfl
    · -- 10: slot 79: Op.convert 5 3 t78
      have h78 : x 78 = .int .u8 (byt l 1 : Int) := hd 9 (by decide) _ rfl
      clear hd
      have e1 : IntKind.i64.wrap (byt l 1 : Int) = (byt l 1 : Int) := IntWalk.i64_in _ (by omega)
      go_simp
      exact hp _ _ (Grow.refl _) rfl
    · -- 11: slot 80: Op.binOp BinOp.add 3 t75 t79 3
      have h75 : x 75 = .int .i64 (256 * (byt l 0 : Int)) := hd 6 (by decide) _ rfl
      have h79 : x 79 = .int .i64 (byt l 1 : Int) := hd 10 (by decide) _ rfl
      clear hd
      have e1 : IntKind.i64.wrap (256 * (byt l 0 : Int) + (byt l 1 : Int)) = 256 * (byt l 0 : Int) + (byt l 1 : Int) := IntWalk.i64_in _ (by omega)
      go_simp
      exact hp _ _ (Grow.refl _) rfl
    · -- 12: slot 81: Op.binOp BinOp.eql 3 t70 t80 3
      have h70 : x 70 = .int .i64 (num l 0 : Nat) := hd 1 (by decide) _ rfl
      have h80 : x 80 = .int .i64 (256 * (byt l 0 : Int) + (byt l 1 : Int)) := hd 11 (by decide) _ rfl
      clear hd
      go_simp
      exact hp _ _ (Grow.refl _) (show Value.bool _ = Value.bool true from by rw [N0.out, beq_self_eq_true])
    · -- 13: slot 82: Op.move t81
      have h81 : x 81 = .bool true := hd 12 (by decide) _ rfl
      clear hd
      go_simp
      exact hp _ _ (Grow.refl _) rfl
    · -- 14: slot 83: Op.move t14
      have h82 : x 82 = .bool true := hd 13 (by decide) _ rfl
      clear hd
      go_simp
      exact hp _ _ (Grow.refl _) rfl
    · -- 15: slot 84: Op.convert 23 3 t83
      have h83 : x 83 = .int .u16 (num l 2 : Nat) := hd 14 (by decide) _ rfl
      have h82 : x 82 = .bool true := hd 13 (by decide) _ rfl
      clear hd
      have e1 : IntKind.i64.wrap ((num l 2 : Nat) : Int) = ((num l 2 : Nat) : Int) := IntWalk.i64_in _ (by omega)
      go_simp
      exact hp _ _ (Grow.refl _) rfl
    · -- 16: slot 85: Op.move t2
      have h82 : x 82 = .bool true := hd 13 (by decide) _ rfl
      clear hd
      go_simp
      exact hp _ _ (Grow.refl _) rfl
    · -- 17: slot 86: Op.indexAddr 24 t85 (const (2:i64))
      have h85 : x 85 = .slice (some ⟨b, off, none⟩) l.length c := hd 16 (by decide) _ rfl
      have h82 : x 82 = .bool true := hd 13 (by decide) _ rfl
      clear hd
      go_simp
      exact hp _ _ (Grow.refl _) rfl
    · -- 18: slot 87: Op.load 5 t86
      have h86 : x 86 = .pointer (some ⟨b, off + 2, none⟩) := hd 17 (by decide) _ rfl
      have h82 : x 82 = .bool true := hd 13 (by decide) _ rfl
      clear hd
      have q1 := (hg.cell (p := ⟨b, off + 2, none⟩) hlt).trans c2
      go_simp
      exact hp _ _ (Grow.refl _) rfl
    · -- 19: slot 88: Op.convert 5 3 t87
      have h87 : x 87 = .int .u8 (byt l 2 : Int) := hd 18 (by decide) _ rfl
      have h82 : x 82 = .bool true := hd 13 (by decide) _ rfl
      clear hd
      have e1 : IntKind.i64.wrap (byt l 2 : Int) = (byt l 2 : Int) := IntWalk.i64_in _ (by omega)
      go_simp
      exact hp _ _ (Grow.refl _) rfl
    · -- 20: slot 89: Op.binOp BinOp.mul 3 (const (256:i64)) t88 3
      have h88 : x 88 = .int .i64 (byt l 2 : Int) := hd 19 (by decide) _ rfl
      have h82 : x 82 = .bool true := hd 13 (by decide) _ rfl
      clear hd
      have e1 : IntKind.i64.wrap (256 * (byt l 2 : Int)) = 256 * (byt l 2 : Int) := IntWalk.i64_in _ (by omega)
      go_simp
      exact hp _ _ (Grow.refl _) rfl
    · -- 21: slot 90: Op.move t2
      have h82 : x 82 = .bool true := hd 13 (by decide) _ rfl
      clear hd
      go_simp
      exact hp _ _ (Grow.refl _) rfl
    · -- 22: slot 91: Op.indexAddr 24 t90 (const (3:i64))
      have h90 : x 90 = .slice (some ⟨b, off, none⟩) l.length c := hd 21 (by decide) _ rfl
      have h82 : x 82 = .bool true := hd 13 (by decide) _ rfl
      clear hd
      go_simp
      exact hp _ _ (Grow.refl _) rfl
    · -- 23: slot 92: Op.load 5 t91
      have h91 : x 91 = .pointer (some ⟨b, off + 3, none⟩) := hd 22 (by decide) _ rfl
      have h82 : x 82 = .bool true := hd 13 (by decide) _ rfl
      clear hd
      have q1 := (hg.cell (p := ⟨b, off + 3, none⟩) hlt).trans c3
      go_simp
      exact hp _ _ (Grow.refl _) rfl
    · -- 24: slot 93: Op.convert 5 3 t92
      have h92 : x 92 = .int .u8 (byt l 3 : Int) := hd 23 (by decide) _ rfl
      have h82 : x 82 = .bool true := hd 13 (by decide) _ rfl
      clear hd
      have e1 : IntKind.i64.wrap (byt l 3 : Int) = (byt l 3 : Int) := IntWalk.i64_in _ (by omega)
      go_simp
      exact hp _ _ (Grow.refl _) rfl
    · -- 25: slot 94: Op.binOp BinOp.add 3 t89 t93 3
      have h89 : x 89 = .int .i64 (256 * (byt l 2 : Int)) := hd 20 (by decide) _ rfl
      have h93 : x 93 = .int .i64 (byt l 3 : Int) := hd 24 (by decide) _ rfl
      have h82 : x 82 = .bool true := hd 13 (by decide) _ rfl
      clear hd
      have e1 : IntKind.i64.wrap (256 * (byt l 2 : Int) + (byt l 3 : Int)) = 256 * (byt l 2 : Int) + (byt l 3 : Int) := IntWalk.i64_in _ (by omega)
      go_simp
      exact hp _ _ (Grow.refl _) rfl
    · -- 26: slot 95: Op.binOp BinOp.eql 3 t84 t94 3
      have h84 : x 84 = .int .i64 (num l 2 : Nat) := hd 15 (by decide) _ rfl
      have h94 : x 94 = .int .i64 (256 * (byt l 2 : Int) + (byt l 3 : Int)) := hd 25 (by decide) _ rfl
      have h82 : x 82 = .bool true := hd 13 (by decide) _ rfl
      clear hd
      go_simp
      exact hp _ _ (Grow.refl _) (show Value.bool _ = Value.bool true from by rw [N2.out, beq_self_eq_true])
    · -- 27: slot 96: Op.pick t82 t95 (const (Value.bool false))
      have h82 : x 82 = .bool true := hd 13 (by decide) _ rfl
      have h95 : x 95 = .bool true := hd 26 (by decide) _ rfl
      clear hd
      go_simp
      exact hp _ _ (Grow.refl _) rfl
    · -- 28: slot 97: Op.move t96
      have h96 : x 96 = .bool true := hd 27 (by decide) _ rfl
      clear hd
      go_simp
      exact hp _ _ (Grow.refl _) rfl
    · -- 29: slot 98: Op.move t15
      have h97 : x 97 = .bool true := hd 28 (by decide) _ rfl
      clear hd
      go_simp
      exact hp _ _ (Grow.refl _) rfl
    · -- 30: slot 99: Op.call { value (Operand.func 9), args := #[t98], argTypes := #[29] }
      have h98 : x 98 = .int .i64 0 := hd 29 (by decide) _ rfl
      have h97 : x 97 = .bool true := hd 28 (by decide) _ rfl
      clear hd
      go_simp
      refine (gramCode_any _ _ (by omega) (by omega)).mono ?_
      rintro e w' ⟨rfl, rfl⟩
      exact ⟨_, rfl, hp _ _ (Grow.refl _) rfl⟩
    · -- 31: slot 100: Op.binOp BinOp.eql 3 t99 (const (0:i64)) 3
      have h99 : x 99 = .int .i64 0 := hd 30 (by decide) _ rfl
      have h97 : x 97 = .bool true := hd 28 (by decide) _ rfl
      clear hd
      go_simp
      exact hp _ _ (Grow.refl _) rfl
    · -- 32: slot 101: Op.pick t97 t100 (const (Value.bool false))
      have h97 : x 97 = .bool true := hd 28 (by decide) _ rfl
      have h100 : x 100 = .bool true := hd 31 (by decide) _ rfl
      clear hd
      go_simp
      exact hp _ _ (Grow.refl _) rfl
    · -- 33: slot 102: Op.move t101
      have h101 : x 101 = .bool true := hd 32 (by decide) _ rfl
      clear hd
      go_simp
      exact hp _ _ (Grow.refl _) rfl
    · -- 34: slot 103: Op.call { value (Operand.func 6), args := #[], argTypes := #[] }
      have h102 : x 102 = .bool true := hd 33 (by decide) _ rfl
      clear hd
      go_simp
      refine (gramLive_any _).mono ?_
      rintro e w2 ⟨rfl, hg2⟩
      exact ⟨_, rfl, hp _ _ hg2 rfl⟩
    · -- 35: slot 104: Op.pick t102 t103 (const (Value.bool false))
      have h102 : x 102 = .bool true := hd 33 (by decide) _ rfl
      have h103 : x 103 = .bool true := hd 34 (by decide) _ rfl
      clear hd
      go_simp
      exact hp _ _ (Grow.refl _) rfl
    · -- 36: slot 6: Op.assign t104
      have h104 : x 104 = .bool true := hd 35 (by decide) _ rfl
      clear hd
      go_simp
      exact hp _ _ (Grow.refl _) rfl
  · intro x w1 hg hd
    have h6 : x 6 = .bool true := hd 36 _ rfl
    clear hd
    go_wp2
    go_ret
    exact ⟨by go_simp, hg07.trans hg⟩

set_option maxHeartbeats 1000000 in
theorem gramGets_walk (w : World) (s : Int) (hs : 0 ≤ s ∧ s ≤ 4294967295) (d : Int) (hd : 0 ≤ d ∧ d ≤ 4294967295) {v : Value} {l : List UInt8} (h : Byt w v l) (hl0 : l.length ≤ 140737488351232) :
    Calls Try.prog 4 #[.int .u32 s, .int .u32 d, v] w fun e w' => e = .returned (.bool true) ∧ Grow w w' := by
  obtain ⟨s, rfl⟩ := Int.eq_ofNat_of_zero_le hs.1
  obtain ⟨d, rfl⟩ := Int.eq_ofNat_of_zero_le hd.1
  by_cases hL : 70000 < l.length
  · obtain ⟨A, c, rfl, hcl, hcm⟩ := h.form
    unfold maxLen at hcm
    go_enter Try.func4, Try.ntmps4
    go_wp2_with fail
    refine (gramLive_any _).mono ?_
    rintro e wl ⟨rfl, hgl⟩
    go_wp2_with fail
    go_ret
    exact ⟨rfl, hgl⟩
  by_cases h4 : l.length < 4
  · exact gramGets_few w s d (by omega) (by omega) h h4
  · exact gramGets_more w s d (by omega) (by omega) h (by omega) (by omega)
end Go.Proofs.Ytmblfenindjeiaa
