/- The walk of the law on datagrams as bytes. -/
import Derived.Test.YtmblfenindjeiaaGramLive
import Derived.Test.YtmblfenindjeiaaGramRef
import Derived.Test.YtmblfenindjeiaaGramRBytes
import Derived.Test.YtmblfenindjeiaaApp
namespace Go.Proofs.Ytmblfenindjeiaa
set_option linter.unusedVariables false
set_option linter.unusedSimpArgs false
open Go.ChangeShapes Go.WideShapes Go.ChangeAt Go.RowKit

set_option maxHeartbeats 2000000 in
theorem gramPuts_much (w : World) (s d : Nat) (hs : s < 4294967296) (hd4 : d < 4294967296) {v : Value} {g : Gram} (h : isGram w v g) {vm : Value} {lm : List UInt8} (hm : Byt w vm lm) (hL : 70000 < g.data.length ∨ 1000 < lm.length) :
    Calls Try.prog 3 #[.int .u32 (s : Int), .int .u32 (d : Int), v, vm] w fun e w' => e = .returned (.bool true) ∧ Grow w w' := by
  obtain ⟨A, c, rfl, hd, hk⟩ := h.form
  obtain ⟨hcl0, hcm0⟩ := hd.len.2
  unfold maxLen at hcm0
  obtain ⟨Am, cm, rfl, hmc, hmm⟩ := hm.form
  unfold maxLen at hmm
  obtain ⟨W1, hW1⟩ : ∃ W1, W1 = w.alloc (.cells #[.int .u16 (g.src : Int), .int .u16 (g.dst : Int), .slice A g.data.length c] 26) := ⟨_, rfl⟩
  have hg1 : Grow w W1 := by rw [hW1]; exact Grow.alloc w _
  have hB1 : Grambox W1 w.heap.size g (.slice A g.data.length c) := by rw [hW1]; exact Grambox.new _ _ _
  have hip := h.grow hg1
  obtain ⟨b0, b1, b2⟩ := id hB1
  by_cases hA : 70000 < g.data.length
  · go_enter Try.func3, Try.ntmps3
    go_wp2_with fail
    rw [← hW1]
    refine (gramLive_any _).mono ?_
    rintro e wl ⟨rfl, hgl⟩
    go_wp2_with fail
    go_ret
    exact ⟨rfl, hg1.trans hgl⟩
  · have hB : 1000 < lm.length := by omega
    go_enter Try.func3, Try.ntmps3
    go_wp2_with fail
    rw [← hW1]
    refine (gramLive_any _).mono ?_
    rintro e wl ⟨rfl, hgl⟩
    go_wp2_with fail
    go_ret
    exact ⟨rfl, hg1.trans hgl⟩

set_option maxHeartbeats 2000000 in
theorem gramPuts_long (w : World) (s d : Nat) (hs : s < 4294967296) (hd4 : d < 4294967296) {v : Value} {g : Gram} (h : isGram w v g) {vm : Value} {lm : List UInt8} (hm : Byt w vm lm) (hL : g.data.length ≤ 70000) (hM : lm.length ≤ 1000) (hl : 65507 < g.data.length) :
    Calls Try.prog 3 #[.int .u32 (s : Int), .int .u32 (d : Int), v, vm] w fun e w' => e = .returned (.bool true) ∧ Grow w w' := by
  obtain ⟨A, c, rfl, hd, hk⟩ := h.form
  obtain ⟨hcl0, hcm0⟩ := hd.len.2
  unfold maxLen at hcm0
  obtain ⟨Am, cm, rfl, hmc, hmm⟩ := hm.form
  unfold maxLen at hmm
  obtain ⟨W1, hW1⟩ : ∃ W1, W1 = w.alloc (.cells #[.int .u16 (g.src : Int), .int .u16 (g.dst : Int), .slice A g.data.length c] 26) := ⟨_, rfl⟩
  have hg1 : Grow w W1 := by rw [hW1]; exact Grow.alloc w _
  have hB1 : Grambox W1 w.heap.size g (.slice A g.data.length c) := by rw [hW1]; exact Grambox.new _ _ _
  have hip := h.grow hg1
  obtain ⟨b0, b1, b2⟩ := id hB1
  have hsm : g.data.length ≤ 1000000 := by omega
  go_enter Try.func3, Try.ntmps3
  go_wp2_with fail
  rw [← hW1]
  clear hW1
  refine (gPut_long s d _ g _ hs hd4 hip hsm hl).mono ?_
  rintro e w2 ⟨rfl, hg2⟩
  clear b0 b1 b2
  obtain ⟨b0, b1, b2⟩ := hB1.grow hg2
  go_wp2_with fail
  refine (gBare_long _ g _ (hip.grow hg2) hsm hl).mono ?_
  rintro e w3 ⟨rfl, hg3⟩
  clear b0 b1 b2
  obtain ⟨b0, b1, b2⟩ := (hB1.grow hg2).grow hg3
  go_wp2_with fail
  refine (gramCode_any 9 _ (by omega) (by omega)).mono ?_
  rintro e w' ⟨rfl, rfl⟩
  go_wp2_with fail
  refine (gramCode_any 9 _ (by omega) (by omega)).mono ?_
  rintro e w' ⟨rfl, rfl⟩
  go_wp2_with fail
  refine (gramLive_any _).mono ?_
  rintro e wl ⟨rfl, hgl⟩
  go_wp2_with fail
  go_ret
  exact ⟨rfl, ((hg1.trans hg2).trans hg3).trans hgl⟩

set_option maxRecDepth 10000 in
set_option maxHeartbeats 8000000 in
theorem gramPuts_good (w : World) (s d : Nat) (hs : s < 4294967296) (hd4 : d < 4294967296) {v : Value} {g : Gram} (h : isGram w v g) {vm : Value} {lm : List UInt8} (hm : Byt w vm lm) (hl : g.data.length ≤ 65507) (hM : lm.length ≤ 1000) :
    Calls Try.prog 3 #[.int .u32 (s : Int), .int .u32 (d : Int), v, vm] w fun e w' => e = .returned (.bool true) ∧ Grow w w' := by
  obtain ⟨A, c, rfl, hd, hk⟩ := h.form
  obtain ⟨hcl0, hcm0⟩ := hd.len.2
  unfold maxLen at hcm0
  obtain ⟨Am, cm, rfl, hmc, hmm⟩ := hm.form
  unfold maxLen at hmm
  obtain ⟨W1, hW1⟩ : ∃ W1, W1 = w.alloc (.cells #[.int .u16 (g.src : Int), .int .u16 (g.dst : Int), .slice A g.data.length c] 26) := ⟨_, rfl⟩
  have hg1 : Grow w W1 := by rw [hW1]; exact Grow.alloc w _
  have hB1 : Grambox W1 w.heap.size g (.slice A g.data.length c) := by rw [hW1]; exact Grambox.new _ _ _
  have hip := h.grow hg1
  obtain ⟨b0, b1, b2⟩ := id hB1
  have hsm : g.data.length ≤ 1000000 := by omega
  have hcl := gcheck_lt s d g
  have X1 := gput_code s d g lm hk hl
  have X2 := gput_res s d g lm hk hl
  have Y1 := gbare_code d s g [] hk hl
  have Y2 := gbare_res d s g [] hk hl
  rw [List.append_nil] at Y1 Y2
  have hPut := gPut_good s d _ g _ hs hd4 hip hl
  have hla := gbytes_length g (gcheck s d g)
  have hlb := gbytes_length g 0
  obtain ⟨ck, hck⟩ : ∃ ck, ck = gcheck s d g := ⟨_, rfl⟩
  rw [← hck] at hcl X1 X2 hPut hla
  have HK := Lib.hid hck
  clear hck
  obtain ⟨LA, hLA⟩ : ∃ LA, LA = g.bytes ck := ⟨_, rfl⟩
  rw [← hLA] at X1 X2 hPut hla
  have HA := Lib.hid hLA
  clear hLA
  have hBar : ∀ w', Grow W1 w' → _ := fun w' gr => gBare_good _ g w' (hip.grow gr) hl
  obtain ⟨LB, hLB⟩ : ∃ LB, LB = g.bytes 0 := ⟨_, rfl⟩
  rw [← hLB] at Y1 Y2 hlb hBar
  have HL := Lib.hid hLB
  clear hLB
  have f1 : ([] : List UInt8).length + LA.length ≤ 140737488355328 := by simp; omega
  have f2 : LA.length + lm.length ≤ 140737488355328 := by omega
  have f3 : (LA ++ lm).length ≤ 1000000 := by simp; omega
  have f4 : LB.length ≤ 1000000 := by omega
  have E1 := Lib.hid X1
  have E2 := Lib.hid X2
  have E3 := Lib.hid Y1
  have E4 := Lib.hid Y2
  clear X1 X2 Y1 Y2 hla hlb
  go_enter Try.func3, Try.ntmps3
  go_wp2_with fail
  rw [← hW1]
  clear hW1
  refine hPut.mono ?_
  rintro e w2 ⟨ua, rfl, hoa, hg2⟩
  have hua2 := hoa.byt
  obtain ⟨Aa, na, ca, rfl, _⟩ := hua2.form2
  clear b0 b1 b2 hPut
  obtain ⟨b0, b1, b2⟩ := hB1.grow hg2
  go_wp2_with fail
  refine (hBar _ hg2).mono ?_
  rintro e w4 ⟨ub, rfl, hob, hg4⟩
  have hub := hob.byt
  obtain ⟨Ab, nb, cb, rfl, _⟩ := hub.form2
  have hua := hua2.grow hg4
  have hB4 := (hB1.grow hg2).grow hg4
  have hip4 := (hip.grow hg2).grow hg4
  have hm4 := ((hm.grow hg1).grow hg2).grow hg4
  clear b0 b1 b2 hBar hua2
  obtain ⟨b0, b1, b2⟩ := id hB4
  go_wp2_with fail
  clear b0 b1 b2
  refine wp_region_loose (A := ?frame8) (inList (isV (.int .i64 0) :: isV (.int .i64 0) :: isV (.int .i64 0) :: isV (.int .i64 0) :: isV (.int .i64 0) :: isV (.bool false) :: isV (.bool false) :: isV (.slice Aa na ca) :: isV (strV LA) :: isV (GramV g (.slice A g.data.length c)) :: isV (.int .u32 (s : Int)) :: isV (.int .u32 (d : Int)) :: isV (GramV g (.slice A g.data.length c)) :: isV (.int .i64 (ck : Int)) :: isB (LA) :: isV (strV LA) :: isV (.bool false) :: isV (.bool false) :: isV (.bool false) :: isV (.slice Ab nb cb) :: isV (strV LB) :: isV (GramV g (.slice A g.data.length c)) :: isB (LB) :: isV (strV LB) :: isV (.bool false) :: isV (.bool false) :: [])) (by kernel_rfl) (by kernel_rfl) (inList_stays ?_) (fun x => ?frameEq8) ?_ ?_
  case frameEq8 => go_simp; rfl
  · intro f hf
    simp only [List.mem_cons, List.not_mem_nil, or_false] at hf
    rcases hf with rfl | rfl | rfl | rfl | rfl | rfl | rfl | rfl | rfl | rfl | rfl | rfl | rfl | rfl | rfl | rfl | rfl | rfl | rfl | rfl | rfl | rfl | rfl | rfl | rfl | rfl <;> first | exact isV_stays _ | exact isB_stays _ | exact isBs_stays _
  · refine ⟨fun x w1 hg hd post hp => ?_, fun x w1 hg hd post hp => ?_, fun x w1 hg hd post hp => ?_, fun x w1 hg hd post hp => ?_, fun x w1 hg hd post hp => ?_, fun x w1 hg hd post hp => ?_, fun x w1 hg hd post hp => ?_, fun x w1 hg hd post hp => ?_, fun x w1 hg hd post hp => ?_, fun x w1 hg hd post hp => ?_, fun x w1 hg hd post hp => ?_, fun x w1 hg hd post hp => ?_, fun x w1 hg hd post hp => ?_, fun x w1 hg hd post hp => ?_, fun x w1 hg hd post hp => ?_, fun x w1 hg hd post hp => ?_, fun x w1 hg hd post hp => ?_, fun x w1 hg hd post hp => ?_, fun x w1 hg hd post hp => ?_, fun x w1 hg hd post hp => ?_, fun x w1 hg hd post hp => ?_, fun x w1 hg hd post hp => ?_, fun x w1 hg hd post hp => ?_, fun x w1 hg hd post hp => ?_, fun x w1 hg hd post hp => ?_, fun x w1 hg hd post hp => ?_, trivial⟩
    · -- 0: slot 66: Op.move t12
      clear hd
      go_simp
      exact hp _ _ (Grow.refl _) rfl
    · -- 1: slot 67: Op.call { value (Operand.func 9), args := #[t66], argTypes := #[29] }
      have h66 : x 66 = .int .i64 0 := hd 0 (by decide) _ rfl
      clear hd
      go_simp
      refine (gramCode_any _ _ (by omega) (by omega)).mono ?_
      rintro e w' ⟨rfl, rfl⟩
      exact ⟨_, rfl, hp _ _ (Grow.refl _) rfl⟩
    · -- 2: slot 68: Op.move t14
      clear hd
      go_simp
      exact hp _ _ (Grow.refl _) rfl
    · -- 3: slot 69: Op.call { value (Operand.func 9), args := #[t68], argTypes := #[29] }
      have h68 : x 68 = .int .i64 0 := hd 2 (by decide) _ rfl
      clear hd
      go_simp
      refine (gramCode_any _ _ (by omega) (by omega)).mono ?_
      rintro e w' ⟨rfl, rfl⟩
      exact ⟨_, rfl, hp _ _ (Grow.refl _) rfl⟩
    · -- 4: slot 70: Op.binOp BinOp.add 3 t67 t69 3
      have h67 : x 67 = .int .i64 0 := hd 1 (by decide) _ rfl
      have h69 : x 69 = .int .i64 0 := hd 3 (by decide) _ rfl
      clear hd
      go_simp
      exact hp _ _ (Grow.refl _) rfl
    · -- 5: slot 71: Op.binOp BinOp.neq 3 t70 (const (0:i64)) 3
      have h70 : x 70 = .int .i64 0 := hd 4 (by decide) _ rfl
      clear hd
      go_simp
      exact hp _ _ (Grow.refl _) rfl
    · -- 6: slot 72: Op.move t71
      have h71 : x 71 = .bool false := hd 5 (by decide) _ rfl
      clear hd
      go_simp
      exact hp _ _ (Grow.refl _) rfl
    · -- 7: slot 73: Op.move t11
      have h72 : x 72 = .bool false := hd 6 (by decide) _ rfl
      clear hd
      go_simp
      exact hp _ _ (Grow.refl _) rfl
    · -- 8: slot 74: Op.convert 24 9 t73
      have h73 : x 73 = .slice Aa na ca := hd 7 (by decide) _ rfl
      have h72 : x 72 = .bool false := hd 6 (by decide) _ rfl
      clear hd
      have c1 := str1 (hua.grow hg)
      go_simp
      exact hp _ _ (Grow.refl _) rfl
    · -- 9: slot 75: Op.load 26 t6
      have h72 : x 72 = .bool false := hd 6 (by decide) _ rfl
      clear hd
      obtain ⟨d0, d1, d2⟩ := hB4.grow hg
      go_simp
      exact hp _ _ (Grow.refl _) rfl
    · -- 10: slot 76: Op.move t9
      have h72 : x 72 = .bool false := hd 6 (by decide) _ rfl
      clear hd
      go_simp
      exact hp _ _ (Grow.refl _) rfl
    · -- 11: slot 77: Op.move t10
      have h72 : x 72 = .bool false := hd 6 (by decide) _ rfl
      clear hd
      go_simp
      exact hp _ _ (Grow.refl _) rfl
    · -- 12: slot 78: Op.load 26 t6
      have h72 : x 72 = .bool false := hd 6 (by decide) _ rfl
      clear hd
      obtain ⟨d0, d1, d2⟩ := hB4.grow hg
      go_simp
      exact hp _ _ (Grow.refl _) rfl
    · -- 13: slot 79: Op.call { value (Operand.func 11), args := #[t76, t77, t78], argTypes := #[28, 2
      have h76 : x 76 = .int .u32 (s : Int) := hd 10 (by decide) _ rfl
      have h77 : x 77 = .int .u32 (d : Int) := hd 11 (by decide) _ rfl
      have h78 : x 78 = GramV g (.slice A g.data.length c) := hd 12 (by decide) _ rfl
      have h72 : x 72 = .bool false := hd 6 (by decide) _ rfl
      clear hd
      go_simp
      refine (RCheck8_any s d _ g _ hs hd4 (hip4.grow hg) hsm).mono ?_
      rw [← HK.out]
      rintro e w2 ⟨rfl, hg2⟩
      exact ⟨_, rfl, hp _ _ hg2 rfl⟩
    · -- 14: slot 80: Op.call { value (Operand.func 10), args := #[t75, t79], argTypes := #[26, 3] }
      have h75 : x 75 = GramV g (.slice A g.data.length c) := hd 9 (by decide) _ rfl
      have h79 : x 79 = .int .i64 (ck : Int) := hd 13 (by decide) _ rfl
      have h72 : x 72 = .bool false := hd 6 (by decide) _ rfl
      clear hd
      go_simp
      refine (RBytes8_any _ g ck _ (hip4.grow hg) hsm hcl).mono ?_
      rw [← HA.out]
      rintro e w2 ⟨u, rfl, ho, hg2⟩
      exact ⟨_, rfl, hp _ _ hg2 ho⟩
    · -- 15: slot 81: Op.convert 24 9 t80
      have h80 : Byt w1 (x 80) (LA) := hd 14 (by decide) _ rfl
      have h72 : x 72 = .bool false := hd 6 (by decide) _ rfl
      clear hd
      have c := str1 h80
      go_simp
      exact hp _ _ (Grow.refl _) rfl
    · -- 16: slot 82: Op.binOp BinOp.neq 9 t74 t81 9
      have h74 : x 74 = strV LA := hd 8 (by decide) _ rfl
      have h81 : x 81 = strV LA := hd 15 (by decide) _ rfl
      have h72 : x 72 = .bool false := hd 6 (by decide) _ rfl
      clear hd
      unfold strV at *
      go_simp
      exact hp _ _ (Grow.refl _) (by show Value.bool _ = Value.bool false; simp)
    · -- 17: slot 83: Op.pick t72 (const (Value.bool true)) t82
      have h72 : x 72 = .bool false := hd 6 (by decide) _ rfl
      have h82 : x 82 = .bool false := hd 16 (by decide) _ rfl
      clear hd
      go_simp
      exact hp _ _ (Grow.refl _) rfl
    · -- 18: slot 84: Op.move t83
      have h83 : x 83 = .bool false := hd 17 (by decide) _ rfl
      clear hd
      go_simp
      exact hp _ _ (Grow.refl _) rfl
    · -- 19: slot 85: Op.move t13
      have h84 : x 84 = .bool false := hd 18 (by decide) _ rfl
      clear hd
      go_simp
      exact hp _ _ (Grow.refl _) rfl
    · -- 20: slot 86: Op.convert 24 9 t85
      have h85 : x 85 = .slice Ab nb cb := hd 19 (by decide) _ rfl
      have h84 : x 84 = .bool false := hd 18 (by decide) _ rfl
      clear hd
      have c1 := str1 (hub.grow hg)
      go_simp
      exact hp _ _ (Grow.refl _) rfl
    · -- 21: slot 87: Op.load 26 t6
      have h84 : x 84 = .bool false := hd 18 (by decide) _ rfl
      clear hd
      obtain ⟨d0, d1, d2⟩ := hB4.grow hg
      go_simp
      exact hp _ _ (Grow.refl _) rfl
    · -- 22: slot 88: Op.call { value (Operand.func 10), args := #[t87, const (0:i64)], argTypes := #[
      have h87 : x 87 = GramV g (.slice A g.data.length c) := hd 21 (by decide) _ rfl
      have h84 : x 84 = .bool false := hd 18 (by decide) _ rfl
      clear hd
      go_simp
      refine (RBytes8_any _ g 0 _ (hip4.grow hg) hsm (by decide)).mono ?_
      rw [← HL.out]
      rintro e w2 ⟨u, rfl, ho, hg2⟩
      exact ⟨_, rfl, hp _ _ hg2 ho⟩
    · -- 23: slot 89: Op.convert 24 9 t88
      have h88 : Byt w1 (x 88) (LB) := hd 22 (by decide) _ rfl
      have h84 : x 84 = .bool false := hd 18 (by decide) _ rfl
      clear hd
      have c := str1 h88
      go_simp
      exact hp _ _ (Grow.refl _) rfl
    · -- 24: slot 90: Op.binOp BinOp.neq 9 t86 t89 9
      have h86 : x 86 = strV LB := hd 20 (by decide) _ rfl
      have h89 : x 89 = strV LB := hd 23 (by decide) _ rfl
      have h84 : x 84 = .bool false := hd 18 (by decide) _ rfl
      clear hd
      unfold strV at *
      go_simp
      exact hp _ _ (Grow.refl _) (by show Value.bool _ = Value.bool false; simp)
    · -- 25: slot 91: Op.pick t84 (const (Value.bool true)) t90
      have h84 : x 84 = .bool false := hd 18 (by decide) _ rfl
      have h90 : x 90 = .bool false := hd 24 (by decide) _ rfl
      clear hd
      go_simp
      exact hp _ _ (Grow.refl _) rfl
  · intro x w1 hg hd
    have h91 : x 91 = .bool false := hd 25 _ rfl
    clear hd
    rw [h91]
    have hB5 := hB4.grow hg
    have hub5 := hub.grow hg
    have hm5 := hm4.grow (hg.trans (Grow.alloc w1 (.cells #[] 5)))
    have hua5 := hua.grow (hg.trans (Grow.alloc w1 (.cells #[] 5)))
    go_wp2_with (first | (at_builtin; refine wpList_app w1 _ rfl _ _ rfl _ _ _ _ rfl rfl (Own.empty w1) (Grow.alloc w1 _) hua5 f1 ?_; intro v6 w6 ho6 hg6; clear hua5; rw [List.nil_append] at ho6) | (at_builtin; refine wpList_app w1 _ rfl _ _ rfl _ _ _ _ rfl rfl ho6 hg6 (hm4.grow (hg.trans hg6)) f2 ?_; intro v7 w7 ho7 hg7; clear ho6))
    refine (gGet_any s d _ (LA ++ lm) _ hs hd4 ho7.byt f3).mono ?_
    rw [E1.out, E2.out]
    rintro e w8 ⟨vd, rfl, hvd, hg8⟩
    have bd := hvd.byt
    obtain ⟨B6, m6, d6, rfl, _⟩ := bd.form2
    have hg18 := hg7.trans hg8
    go_wp2_with (refine wpList_store_Gram w8 _ rfl _ _ rfl rfl w8.heap.size rfl g zeroG (.slice B6 m6 d6) (.slice none 0 0) (by rfl) rfl (Gramblk.new w8 zeroG (.slice none 0 0)) (Grow.alloc _ _) (Nat.le_refl _) ?_; intro w9 hk9 _ hg9)
    have hg19 := hg18.trans hg9
    refine (gGet_any d s _ LB _ hd4 hs (hub5.grow hg19) f4).mono ?_
    rw [E3.out, E4.out]
    rintro e w10 ⟨ve, rfl, hve, hg10⟩
    have be := hve.byt
    obtain ⟨C6, k6, e6, rfl, _⟩ := be.form2
    go_wp2_with (refine wpList_store_Gram w10 _ rfl _ _ rfl rfl w10.heap.size rfl g zeroG (.slice C6 k6 e6) (.slice none 0 0) (by rfl) rfl (Gramblk.new w10 zeroG (.slice none 0 0)) (Grow.alloc _ _) (Nat.le_refl _) ?_; intro w11 hk11 _ hg11)
    have hg911 := hg10.trans hg11
    have hg111 := hg19.trans hg911
    have ix : isGram w11 (GramV g (.slice B6 m6 d6)) g := ⟨_, rfl, (bd.grow hg9).grow hg911, hk⟩
    have iy : isGram w11 (GramV g (.slice C6 k6 e6)) g := ⟨_, rfl, be.grow hg11, hk⟩
    have ig := (hip4.grow hg).grow hg111
    have BX := hk9.boxd.grow hg911
    have BY := hk11.boxd
    have BG := hB5.grow hg111
    refine (gramCode_any 0 _ (by omega) (by omega)).mono ?_
    rintro e w' ⟨rfl, rfl⟩
    go_wp2_with fail
    refine (gramCode_any 0 _ (by omega) (by omega)).mono ?_
    rintro e w' ⟨rfl, rfl⟩
    obtain ⟨x0, x1, x2⟩ := id BX
    obtain ⟨y0, y1, y2⟩ := id BY
    obtain ⟨b0, b1, b2⟩ := id BG
    go_wp2_with fail
    refine (RSame8_yes _ _ g g _ ix ig rfl).mono ?_
    rintro e w12 ⟨rfl, hg12⟩
    clear x0 x1 x2 y0 y1 y2 b0 b1 b2
    obtain ⟨x0, x1, x2⟩ := BX.grow hg12
    obtain ⟨y0, y1, y2⟩ := BY.grow hg12
    obtain ⟨b0, b1, b2⟩ := BG.grow hg12
    go_wp2_with fail
    refine (RSame8_yes _ _ g g _ (iy.grow hg12) (ig.grow hg12) rfl).mono ?_
    rintro e w13 ⟨rfl, hg13⟩
    have hg113 := hg12.trans hg13
    clear x0 x1 x2 y0 y1 y2 b0 b1 b2
    obtain ⟨x0, x1, x2⟩ := BX.grow hg113
    obtain ⟨y0, y1, y2⟩ := BY.grow hg113
    go_wp2_with fail
    refine (gSame_yes _ _ g g _ (ix.grow hg113) (iy.grow hg113) rfl).mono ?_
    rintro e w14 ⟨rfl, hg14⟩
    go_wp2_with fail
    refine (gramLive_any _).mono ?_
    rintro e wl ⟨rfl, hgl⟩
    go_wp2_with fail
    go_ret
    exact ⟨rfl, ((((hg1.trans hg2).trans hg4).trans hg).trans hg111).trans ((hg113.trans hg14).trans hgl)⟩

set_option maxHeartbeats 1000000 in
theorem gramPuts_walk (w : World) (s : Int) (hs : 0 ≤ s ∧ s ≤ 4294967295) (d : Int) (hd : 0 ≤ d ∧ d ≤ 4294967295) {v : Value} {g : Gram} (h : isGram w v g) {vm : Value} {lm : List UInt8} (hm : Byt w vm lm) (hlm : lm.length ≤ 140737488351232) :
    Calls Try.prog 3 #[.int .u32 s, .int .u32 d, v, vm] w fun e w' => e = .returned (.bool true) ∧ Grow w w' := by
  obtain ⟨s, rfl⟩ := Int.eq_ofNat_of_zero_le hs.1
  obtain ⟨d, rfl⟩ := Int.eq_ofNat_of_zero_le hd.1
  by_cases hL : 70000 < g.data.length ∨ 1000 < lm.length
  · exact gramPuts_much w s d (by omega) (by omega) h hm hL
  by_cases hl : 65507 < g.data.length
  · exact gramPuts_long w s d (by omega) (by omega) h hm (by omega) (by omega) hl
  · exact gramPuts_good w s d (by omega) (by omega) h hm (by omega) (by omega)
end Go.Proofs.Ytmblfenindjeiaa
