/- The document's own answer: a datagram as bytes, and its check sum. -/
import Derived.Test.YtmblfenindjeiaaGramPut
import Derived.Test.YtmblfenindjeiaaIpBytes
import Derived.Lib.Hide
namespace Go.Proofs.Ytmblfenindjeiaa
set_option linter.unusedVariables false
set_option linter.unusedSimpArgs false
open Go.ChangeShapes Go.WideShapes Go.ChangeAt Go.RowKit

theorem gtop_eq (g : Gram) : g.top = two (g.src : Int) ++ two (g.dst : Int) ++ two (8 + (g.data.length : Int)) := by
  unfold Gram.top
  rw [Int.natCast_add]
  rfl

set_option maxRecDepth 10000 in
set_option maxHeartbeats 8000000 in
theorem RBytes8_any (v : Value) (g : Gram) (n : Nat) (w : World) (h : isGram w v g) (hs : g.data.length ≤ 1000000) (hn : n < 65536) :
    Calls Try.prog 10 #[v, .int .i64 (n : Int)] w fun e w' => ∃ u, e = .returned u ∧ Byt w' u (g.bytes n) ∧ Grow w w' := by
  obtain ⟨A, c, rfl, hd, hk⟩ := h.form
  obtain ⟨_, k1, k2⟩ := hk
  obtain ⟨W1, hW1⟩ : ∃ W1, W1 = w.alloc (.cells #[.int .u16 (g.src : Int), .int .u16 (g.dst : Int), .slice A g.data.length c] 26) := ⟨_, rfl⟩
  have hg1 : Grow w W1 := by rw [hW1]; exact Grow.alloc w _
  have hB1 : Grambox W1 w.heap.size g (.slice A g.data.length c) := by rw [hW1]; exact Grambox.new _ _ _
  have hdW := hd.grow hg1
  go_enter Try.func10, Try.ntmps10
  go_wp2_with fail
  rw [← hW1]
  clear hW1
  refine wp_region_weave (A := ?frame1) [3, 7, 8, 13, 14, 15] (fun q => Grow W1 q) (inVals (isW (.pointer (some ⟨w.heap.size, 0, none⟩)) :: isW (.int .u16 (g.src : Int)) :: isW (.int .i64 (g.src : Int)) :: isAll :: isW (.pointer (some ⟨w.heap.size, 1, none⟩)) :: isW (.int .u16 (g.dst : Int)) :: isW (.int .i64 (g.dst : Int)) :: isAll :: isAll :: isW (.pointer (some ⟨w.heap.size, 2, none⟩)) :: isW (.slice A g.data.length c) :: isW (.int .i64 (g.data.length : Int)) :: isW (.int .i64 (8 + (g.data.length : Int))) :: isAll :: isAll :: isAll :: [])) (fun j vs q => match j, vs with | 0, [] => True | 1, [v1] => Own q W1.heap.size v1 (two (g.src : Int)) | 2, [v1, v2] => Own q W1.heap.size v1 (two (g.src : Int)) ∧ Own q W1.heap.size v2 (two (g.dst : Int)) | 3, [_, _, v3] => Own q W1.heap.size v3 (two (g.src : Int) ++ two (g.dst : Int)) | 4, [_, _, v3, v4] => Own q W1.heap.size v3 (two (g.src : Int) ++ two (g.dst : Int)) ∧ Own q W1.heap.size v4 (two (8 + (g.data.length : Int))) | 5, [_, _, _, _, v5] => Own q W1.heap.size v5 (two (g.src : Int) ++ two (g.dst : Int) ++ two (8 + (g.data.length : Int))) | 6, [_, _, _, _, _, v6] => Own q W1.heap.size v6 (two (g.src : Int) ++ two (g.dst : Int) ++ two (8 + (g.data.length : Int))) | _, _ => False) (by kernel_rfl) (by kernel_rfl) (by kernel_rfl) (by kernel_rfl) (fun x => ?frameEq1) (Grow.drew W1) trivial ?_ ?_ ?_
  case frameEq1 => go_simp; rfl
  · refine ⟨fun _ x w1 hI hd post hp => ?_, fun _ x w1 hI hd post hp => ?_, fun _ x w1 hI hd post hp => ?_, fun hn => absurd hn (by decide), fun _ x w1 hI hd post hp => ?_, fun _ x w1 hI hd post hp => ?_, fun _ x w1 hI hd post hp => ?_, fun hn => absurd hn (by decide), fun hn => absurd hn (by decide), fun _ x w1 hI hd post hp => ?_, fun _ x w1 hI hd post hp => ?_, fun _ x w1 hI hd post hp => ?_, fun _ x w1 hI hd post hp => ?_, fun hn => absurd hn (by decide), fun hn => absurd hn (by decide), fun hn => absurd hn (by decide), trivial⟩
    · -- 0: slot 6: Op.fieldAddr 26 t2 0
      clear hd
      go_simp
      exact hp _ rfl
    · -- 1: slot 7: Op.load 23 t6
      have h6 : x 6 = .pointer (some ⟨w.heap.size, 0, none⟩) := hd 0 (by decide) (by decide) _ rfl
      clear hd
      obtain ⟨d0, d1, d2⟩ := hB1.grow hI
      go_simp
      exact hp _ rfl
    · -- 2: slot 8: Op.convert 23 3 t7
      have h7 : x 7 = .int .u16 (g.src : Int) := hd 1 (by decide) (by decide) _ rfl
      clear hd
      have e8 : IntKind.i64.wrap (g.src : Int) = (g.src : Int) := IntWalk.i64_in _ (by omega)
      go_simp
      exact hp _ rfl
    · -- 4: slot 10: Op.fieldAddr 26 t2 1
      clear hd
      go_simp
      exact hp _ rfl
    · -- 5: slot 11: Op.load 23 t10
      have h10 : x 10 = .pointer (some ⟨w.heap.size, 1, none⟩) := hd 4 (by decide) (by decide) _ rfl
      clear hd
      obtain ⟨d0, d1, d2⟩ := hB1.grow hI
      go_simp
      exact hp _ rfl
    · -- 6: slot 12: Op.convert 23 3 t11
      have h11 : x 11 = .int .u16 (g.dst : Int) := hd 5 (by decide) (by decide) _ rfl
      clear hd
      have e12 : IntKind.i64.wrap (g.dst : Int) = (g.dst : Int) := IntWalk.i64_in _ (by omega)
      go_simp
      exact hp _ rfl
    · -- 9: slot 15: Op.fieldAddr 26 t2 2
      clear hd
      go_simp
      exact hp _ rfl
    · -- 10: slot 16: Op.load 24 t15
      have h15 : x 15 = .pointer (some ⟨w.heap.size, 2, none⟩) := hd 9 (by decide) (by decide) _ rfl
      clear hd
      obtain ⟨d0, d1, d2⟩ := hB1.grow hI
      go_simp
      exact hp _ rfl
    · -- 11: slot 17: Op.call { builtin len, args := #[t16], argTypes := #[24] }
      have h16 : x 16 = .slice A g.data.length c := hd 10 (by decide) (by decide) _ rfl
      clear hd
      go_simp
      exact hp _ rfl
    · -- 12: slot 18: Op.binOp BinOp.add 3 (const (8:i64)) t17 3
      have h17 : x 17 = .int .i64 (g.data.length : Int) := hd 11 (by decide) (by decide) _ rfl
      clear hd
      have e18 : IntKind.i64.wrap (8 + (g.data.length : Int)) = 8 + (g.data.length : Int) := IntWalk.i64_in _ (by omega)
      go_simp
      exact hp _ rfl
  · refine ⟨fun x w1 hI hd hs post hp => ?_, fun x w1 hI hd hs post hp => ?_, fun x w1 hI hd hs post hp => ?_, fun x w1 hI hd hs post hp => ?_, fun x w1 hI hd hs post hp => ?_, fun x w1 hI hd hs post hp => ?_, trivial⟩
    · -- 3: slot 9: Op.call { value (Operand.func 22), args := #[t8], argTypes := #[3] }
      have h8 : x 8 = .int .i64 (g.src : Int) := hd 2 (by decide) (by decide) _ rfl
      clear hd
      go_simp
      refine (Two_any _ _ (by omega) (by omega)).mono ?_
      rintro e w2 ⟨u, rfl, ho, hg2⟩
      exact ⟨_, rfl, hp _ _ (hI.trans hg2) (Own.base ho hI.size)⟩
    · -- 7: slot 13: Op.call { value (Operand.func 22), args := #[t12], argTypes := #[3] }
      have h12 : x 12 = .int .i64 (g.dst : Int) := hd 6 (by decide) (by decide) _ rfl
      clear hd
      have s1 : Own w1 W1.heap.size (x 9) (two (g.src : Int)) := hs
      go_simp
      refine (Two_any _ _ (by omega) (by omega)).mono ?_
      rintro e w2 ⟨u, rfl, ho, hg2⟩
      exact ⟨_, rfl, hp _ _ (hI.trans hg2) ⟨s1.grow hg2, Own.base ho hI.size⟩⟩
    · -- 8: slot 14: Op.call { builtin append, args := #[t9, t13], argTypes := #[24, 24] }
      clear hd
      obtain ⟨s1, s2⟩ : Own w1 W1.heap.size (x 9) (two (g.src : Int)) ∧ Own w1 W1.heap.size (x 13) (two (g.dst : Int)) := hs
      exact upon_app W1 w1 rfl (.tmp 9) (.tmp 13) rfl (x 9) (x 13) _ _ rfl rfl s1 hI s2.byt (by simp [two_length]) fun v' w' h1 h2 => hp v' w' h2 h1
    · -- 13: slot 19: Op.call { value (Operand.func 22), args := #[t18], argTypes := #[3] }
      have h18 : x 18 = .int .i64 (8 + (g.data.length : Int)) := hd 12 (by decide) (by decide) _ rfl
      clear hd
      have s3 : Own w1 W1.heap.size (x 14) (two (g.src : Int) ++ two (g.dst : Int)) := hs
      go_simp
      refine (Two_any _ _ (by omega) (by omega)).mono ?_
      rintro e w2 ⟨u, rfl, ho, hg2⟩
      exact ⟨_, rfl, hp _ _ (hI.trans hg2) ⟨s3.grow hg2, Own.base ho hI.size⟩⟩
    · -- 14: slot 20: Op.call { builtin append, args := #[t14, t19], argTypes := #[24, 24] }
      clear hd
      obtain ⟨s3, s4⟩ : Own w1 W1.heap.size (x 14) (two (g.src : Int) ++ two (g.dst : Int)) ∧ Own w1 W1.heap.size (x 19) (two (8 + (g.data.length : Int))) := hs
      exact upon_app W1 w1 rfl (.tmp 14) (.tmp 19) rfl (x 14) (x 19) _ _ rfl rfl s3 hI s4.byt (by simp [two_length]) fun v' w' h1 h2 => hp v' w' h2 h1
    · -- 15: slot 5: Op.assign t20
      clear hd
      have s5 : Own w1 W1.heap.size (x 20) (two (g.src : Int) ++ two (g.dst : Int) ++ two (8 + (g.data.length : Int))) := hs
      go_simp
      exact hp _ _ hI s5
  · intro x w1 hI hd hs
    have h5 : Own w1 W1.heap.size (x 5) (two (g.src : Int) ++ two (g.dst : Int) ++ two (8 + (g.data.length : Int))) := hs
    rw [← gtop_eq] at h5
    clear hd hs
    obtain ⟨vt, hvt⟩ : ∃ vt, vt = x 5 := ⟨_, rfl⟩
    rw [← hvt] at h5 ⊢
    clear hvt
    have hgs := hI
    go_wp2_with fail
    refine wp_region_weave (A := ?frame2) [2, 3, 6, 7] (fun q => Grow W1 q) (inVals (isW (vt) :: isW (.int .i64 (n : Int)) :: isAll :: isAll :: isW (.pointer (some ⟨w.heap.size, 2, none⟩)) :: isW (.slice A g.data.length c) :: isAll :: isAll :: [])) (fun j vs q => match j, vs with | 0, [] => Own q W1.heap.size vt g.top | 1, [v1] => Own q W1.heap.size vt g.top ∧ Own q W1.heap.size v1 (two (n : Int)) | 2, [_, v2] => Own q W1.heap.size v2 (g.top ++ two (n : Int)) | 3, [_, _, v3] => Own q W1.heap.size v3 (g.top ++ two (n : Int) ++ g.data) | 4, [_, _, _, v4] => Own q W1.heap.size v4 (g.top ++ two (n : Int) ++ g.data) | _, _ => False) (by kernel_rfl) (by kernel_rfl) (by kernel_rfl) (by kernel_rfl) (fun z => ?frameEq2) (hgs.trans (Grow.drew w1)) (h5.grow (Grow.drew w1)) ?_ ?_ ?_
    case frameEq2 => go_simp; rfl
    · refine ⟨fun _ z z1 hI hd post hp => ?_, fun _ z z1 hI hd post hp => ?_, fun hn => absurd hn (by decide), fun hn => absurd hn (by decide), fun _ z z1 hI hd post hp => ?_, fun _ z z1 hI hd post hp => ?_, fun hn => absurd hn (by decide), fun hn => absurd hn (by decide), trivial⟩
      · -- 0: slot 21: Op.move t5
        clear hd
        go_simp
        exact hp _ rfl
      · -- 1: slot 22: Op.move t1
        clear hd
        go_simp
        exact hp _ rfl
      · -- 4: slot 25: Op.fieldAddr 26 t2 2
        clear hd
        go_simp
        exact hp _ rfl
      · -- 5: slot 26: Op.load 24 t25
        have h25 : z 25 = .pointer (some ⟨w.heap.size, 2, none⟩) := hd 4 (by decide) (by decide) _ rfl
        clear hd
        obtain ⟨d0, d1, d2⟩ := hB1.grow hI
        go_simp
        exact hp _ rfl
    · refine ⟨fun z z1 hI hd hs post hp => ?_, fun z z1 hI hd hs post hp => ?_, fun z z1 hI hd hs post hp => ?_, fun z z1 hI hd hs post hp => ?_, trivial⟩
      · -- 2: slot 23: Op.call { value (Operand.func 22), args := #[t22], argTypes := #[3] }
        have h22 : z 22 = .int .i64 (n : Int) := hd 1 (by decide) (by decide) _ rfl
        clear hd
        have s0 : Own z1 W1.heap.size vt g.top := hs
        go_simp
        refine (Two_any _ _ (by omega) (by omega)).mono ?_
        rintro e w2 ⟨u, rfl, ho, hg2⟩
        exact ⟨_, rfl, hp _ _ (hI.trans hg2) ⟨s0.grow hg2, Own.base ho hI.size⟩⟩
      · -- 3: slot 24: Op.call { builtin append, args := #[t21, t23], argTypes := #[24, 24] }
        have h21 : z 21 = vt := hd 0 (by decide) (by decide) _ rfl
        clear hd
        obtain ⟨s0, s1⟩ : Own z1 W1.heap.size vt g.top ∧ Own z1 W1.heap.size (z 23) (two (n : Int)) := hs
        exact upon_app W1 z1 rfl (.tmp 21) (.tmp 23) rfl vt (z 23) _ _ h21 rfl s0 hI s1.byt (by simp [gtop_length, two_length]) fun v' w' h1 h2 => hp v' w' h2 h1
      · -- 6: slot 27: Op.call { builtin append, args := #[t24, t26], argTypes := #[24, 24] }
        have h26 : z 26 = .slice A g.data.length c := hd 5 (by decide) (by decide) _ rfl
        clear hd
        have s2 : Own z1 W1.heap.size (z 24) (g.top ++ two (n : Int)) := hs
        exact upon_app W1 z1 rfl (.tmp 24) (.tmp 26) rfl (z 24) _ _ _ rfl h26 s2 hI (hdW.grow hI) (by simp [gtop_length, two_length]; omega) fun v' w' h1 h2 => hp v' w' h2 h1
      · -- 7: slot 4: Op.assign t27
        clear hd
        have s3 : Own z1 W1.heap.size (z 27) (g.top ++ two (n : Int) ++ g.data) := hs
        go_simp
        exact hp _ _ hI s3
    · intro z z1 hI hd hs
      have h4 : Own z1 W1.heap.size (z 4) (g.top ++ two (n : Int) ++ g.data) := hs
      clear hd hs
      go_wp2_with fail
      go_ret
      exact ⟨_, rfl, (by unfold Gram.bytes; exact h4.byt), hg1.trans hI⟩

set_option maxHeartbeats 2000000 in
theorem RCheck8_any (s d : Nat) (v : Value) (g : Gram) (w : World) (hs4 : s < 4294967296) (hd4 : d < 4294967296) (h : isGram w v g) (hs : g.data.length ≤ 1000000) :
    Calls Try.prog 11 #[.int .u32 (s : Int), .int .u32 (d : Int), v] w fun e w' => e = .returned (.int .i64 (gcheck s d g : Nat)) ∧ Grow w w' := by
  obtain ⟨A, c, rfl, hd, hk⟩ := h.form
  obtain ⟨W1, hW1⟩ : ∃ W1, W1 = w.alloc (.cells #[.int .u16 (g.src : Int), .int .u16 (g.dst : Int), .slice A g.data.length c] 26) := ⟨_, rfl⟩
  have hg1 : Grow w W1 := by rw [hW1]; exact Grow.alloc w _
  have hB1 : Grambox W1 w.heap.size g (.slice A g.data.length c) := by rw [hW1]; exact Grambox.new _ _ _
  have hip := h.grow hg1
  obtain ⟨b0, b1, b2⟩ := hB1
  have hbl7 : (g.bytes 0).length ≤ 140737488351232 := by rw [gbytes_length]; omega
  have EC := Lib.hid (of_psum s d (g.bytes 0))
  have eck : gcheck s d g = if 65535 - psum s d (g.bytes 0) = 0 then 65535 else 65535 - psum s d (g.bytes 0) := by
    have hpl := psum_lt s d (g.bytes 0)
    unfold gcheck
    by_cases hz : psum s d (g.bytes 0) = 65535
    · rw [if_pos hz, if_pos (by omega)]
    · rw [if_neg hz, if_neg (by omega)]
  obtain ⟨cs, hcs⟩ : ∃ cs, cs = 65535 - psum s d (g.bytes 0) := ⟨_, rfl⟩
  rw [← hcs] at eck EC
  have hc5 : cs ≤ 65535 := by rw [hcs]; exact Nat.sub_le _ _
  have HC := Lib.hid eck
  clear eck hcs
  go_enter Try.func11, Try.ntmps11
  go_wp2_with fail
  rw [← hW1]
  clear hW1
  refine (RBytes8_any _ g 0 _ hip hs (by decide)).mono ?_
  rintro e w2 ⟨u, rfl, hu, hg2⟩
  obtain ⟨Au, nu, cu, rfl, _⟩ := hu.form2
  clear b0 b1 b2
  go_wp2_with fail
  refine (ROf_any s d 17 _ (g.bytes 0) _ hs4 hd4 (by decide) hu hbl7).mono ?_
  rw [EC.out]
  rintro e w4 ⟨rfl, hg4⟩
  clear EC hbl7
  by_cases hz : cs = 0
  · have e3 : gcheck s d g = 65535 := by rw [HC.out, if_pos hz]
    subst hz
    clear HC
    have E3 := Lib.hid e3
    clear e3
    go_wp2_with fail
    go_ret
    exact ⟨by rw [E3.out]; rfl, (hg1.trans hg2).trans hg4⟩
  · have e3 : gcheck s d g = cs := by rw [HC.out, if_neg hz]
    clear HC
    have E3 := Lib.hid e3
    clear e3
    have hz' : ((cs : Int) == 0) = false := beq_eq_false_iff_ne.2 (by omega)
    go_wp2_with fail
    go_ret
    exact ⟨by rw [E3.out]; rfl, (hg1.trans hg2).trans hg4⟩
end Go.Proofs.Ytmblfenindjeiaa
