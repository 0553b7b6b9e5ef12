/- The document's own answer: a message as bytes. -/
import Derived.Test.YtbnnacohkemnhaaIcmGet
import Derived.Test.YtbnnacohkemnhaaIpBytes
import Derived.Lib.Hide
namespace Go.Proofs.Ytbnnacohkemnhaa
set_option linter.unusedVariables false
set_option linter.unusedSimpArgs false
open Go.ChangeShapes Go.WideShapes Go.ChangeAt Go.RowKit

theorem lit4 (w : World) (k : Icm) (t0 t1 : UInt8) (k1 : k.kind < 256) (k2 : k.code < 256) (h : two (k.csum : Nat) = [t0, t1]) :
    Own (w.alloc (.cells #[.int .u8 (k.kind : Int), .int .u8 (k.code : Int), .int .u8 (t0.toNat : Int), .int .u8 (t1.toNat : Int)] 5)) w.heap.size (.slice (some ⟨w.heap.size, 0, none⟩) 4 4) (k.top ++ two (k.csum : Nat)) := by
  rw [h]
  refine Own.lit w _ [UInt8.ofNat k.kind, UInt8.ofNat k.code, t0, t1] ?_ (by unfold maxLen; simp)
  simp only [bv, List.map_cons, List.map_nil, UInt8.toNat_ofNat', List.cons.injEq, Value.int.injEq, true_and, and_true]
  constructor <;> omega
theorem lit40 (w : World) (k : Icm) (k1 : k.kind < 256) (k2 : k.code < 256) :
    Own (w.alloc (.cells #[.int .u8 (k.kind : Int), .int .u8 (k.code : Int), .int .u8 0, .int .u8 0] 5)) w.heap.size (.slice (some ⟨w.heap.size, 0, none⟩) 4 4) (k.top ++ [0, 0]) := by
  refine Own.lit w _ [UInt8.ofNat k.kind, UInt8.ofNat k.code, 0, 0] ?_ (by unfold maxLen; simp)
  simp only [bv, List.map_cons, List.map_nil, UInt8.toNat_ofNat', List.cons.injEq, Value.int.injEq, true_and, and_true]
  exact ⟨by omega, by omega, rfl, rfl⟩

set_option maxRecDepth 10000 in
set_option maxHeartbeats 8000000 in
theorem RBytes7_any (v : Value) (k : Icm) (w : World) (h : isIcm w v k) (hs : k.data.length ≤ 1000000) :
    Calls Try.prog 13 #[v] w fun e w' => ∃ u, e = .returned u ∧ Byt w' u k.bytes ∧ Grow w w' := by
  obtain ⟨A, c, rfl, hd, hk⟩ := h.form
  obtain ⟨_, k1, k2, k3⟩ := hk
  obtain ⟨W1, hW1⟩ : ∃ W1, W1 = w.alloc (.cells #[.int .u8 (k.kind : Int), .int .u8 (k.code : Int), .int .u32 (k.rest : Int), .slice A k.data.length c] 25) := ⟨_, rfl⟩
  have hg1 : Grow w W1 := by rw [hW1]; exact Grow.alloc w _
  have hB1 : Icmbox W1 w.heap.size k (.slice A k.data.length c) := by rw [hW1]; exact Icmbox.new _ _ _
  have hdW := hd.grow hg1
  have l1 := ones_lt k.bare
  have e1 : (65535 : Int) - (ones k.bare : Int) = ((k.csum : Nat) : Int) := by unfold Icm.csum; omega
  have hcs : k.csum < 65536 := icsum_lt k
  have hbl := ibare_length k
  obtain ⟨t0, t1, htw⟩ : ∃ t0 t1, two (k.csum : Nat) = [t0, t1] := ⟨_, _, rfl⟩
  go_enter Try.func13, Try.ntmps13
  go_wp2_with fail
  rw [← hW1]
  clear hW1
  refine wp_region_weave (A := ?frame1) [2, 5, 6] (fun q => Grow W1 q) (inVals (isW (.pointer (some ⟨w.heap.size, 2, none⟩)) :: isW (.int .u32 (k.rest : Int)) :: isAll :: isW (.pointer (some ⟨w.heap.size, 3, none⟩)) :: isW (.slice A k.data.length c) :: isAll :: isAll :: [])) (fun j vs q => match j, vs with | 0, [] => True | 1, [v1] => Own q W1.heap.size v1 (dig k.rest 4) | 2, [_, v2] => Own q W1.heap.size v2 k.tail | 3, [_, _, v3] => Own q W1.heap.size v3 k.tail | _, _ => False) (by kernel_rfl) (by kernel_rfl) (by kernel_rfl) (by kernel_rfl) (fun x => ?frameEq1) (Grow.drew W1) trivial ?_ ?_ ?_
  case frameEq1 => go_simp; rfl
  · refine ⟨fun _ x w1 hI hd post hp => ?_, fun _ x w1 hI hd post hp => ?_, fun hn => absurd hn (by decide), fun _ x w1 hI hd post hp => ?_, fun _ x w1 hI hd post hp => ?_, fun hn => absurd hn (by decide), fun hn => absurd hn (by decide), trivial⟩
    · -- 0: slot 5: Op.fieldAddr 25 t1 2
      clear hd
      go_simp
      exact hp _ rfl
    · -- 1: slot 6: Op.load 22 t5
      have h5 : x 5 = .pointer (some ⟨w.heap.size, 2, none⟩) := hd 0 (by decide) (by decide) _ rfl
      clear hd
      obtain ⟨d0, d1, d2, d3⟩ := hB1.grow hI
      go_simp
      exact hp _ rfl
    · -- 3: slot 8: Op.fieldAddr 25 t1 3
      clear hd
      go_simp
      exact hp _ rfl
    · -- 4: slot 9: Op.load 23 t8
      have h8 : x 8 = .pointer (some ⟨w.heap.size, 3, none⟩) := hd 3 (by decide) (by decide) _ rfl
      clear hd
      obtain ⟨d0, d1, d2, d3⟩ := hB1.grow hI
      go_simp
      exact hp _ rfl
  · refine ⟨fun x w1 hI hd hs post hp => ?_, fun x w1 hI hd hs post hp => ?_, fun x w1 hI hd hs post hp => ?_, trivial⟩
    · -- 2: slot 7: Op.call { value (Operand.func 34), args := #[t6], argTypes := #[22] }
      have h6 : x 6 = .int .u32 (k.rest : Int) := hd 1 (by decide) (by decide) _ rfl
      clear hd
      go_simp
      refine (Four_any k.rest _ k3).mono ?_
      rintro e w2 ⟨u, rfl, ho, hg2⟩
      exact ⟨_, rfl, hp _ _ (hI.trans hg2) (Own.base ho hI.size)⟩
    · -- 5: slot 10: Op.call { builtin append, args := #[t7, t9], argTypes := #[23, 23] }
      have h9 : x 9 = .slice A k.data.length c := hd 4 (by decide) (by decide) _ rfl
      clear hd
      have s3 : Own w1 W1.heap.size (x 7) (dig k.rest 4) := hs
      exact upon_app W1 w1 rfl (.tmp 7) (.tmp 9) rfl (x 7) _ _ _ rfl h9 s3 hI (hdW.grow hI) (by simp [dig_length]; omega) fun v' w' h1 h2 => hp v' w' h2 h1
    · -- 6: slot 3: Op.assign t10
      clear hd
      have s4 : Own w1 W1.heap.size (x 10) k.tail := hs
      go_simp
      exact hp _ _ hI s4
  · intro x w1 hI hd hs
    have h3 : Own w1 W1.heap.size (x 3) k.tail := hs
    clear hd hs
    have hI0 := hI
    obtain ⟨vt, hvt⟩ : ∃ vt, vt = x 3 := ⟨_, rfl⟩
    rw [← hvt] at h3 ⊢
    clear hvt
    have hb3 := h3.byt
    obtain ⟨d0, d1, d2, d3⟩ := hB1.grow hI
    have n1 : (k.top ++ [0, 0]).length + k.tail.length ≤ 140737488355328 := by simp [itop_length, itail_length]; omega
    go_wp2_with (at_builtin; refine wpList_app w1 _ rfl (.tmp 15) (.tmp 16) rfl _ vt _ _ rfl rfl (lit40 w1 k k1 k2) (Grow.alloc _ _) (hb3.grow (Grow.alloc _ _)) n1 ?_; intro v2 w2 ho2 hg2)
    have eb : k.top ++ [0, 0] ++ k.tail = k.bare := rfl
    rw [eb] at ho2
    refine (RSum_any _ k.bare _ ho2.byt (by omega)).mono ?_
    rintro e w' ⟨rfl, rfl⟩
    go_wp2_with fail
    refine (Two_any _ _ (by omega) (by omega)).mono ?_
    rintro e w11 ⟨v11, rfl, ho11, hg11⟩
    obtain ⟨g4, cap4, rfl, hbg4, hlt4, hn4, hm4, hcell4⟩ := ho11.row (by simp [two_length])
    rw [two_length] at hn4
    have cc0 := (hcell4 0 (by simp [two_length])).1
    have cc1 := (hcell4 1 (by simp [two_length])).1
    simp only [htw, List.getElem_cons_zero, List.getElem_cons_succ] at cc0 cc1
    have hgb : Grow w1 w11 := hg2.trans hg11
    have hB11 := (hB1.grow hI).grow hgb
    have hbt := hb3.grow hgb
    clear d0 d1 d2 d3
    rw [two_length]
    go_wp2_with fail
    refine wp_region_weave (A := ?frame3) [10, 12, 13] (fun q => Grow w11 q) (inVals (isW (.pointer (some ⟨w.heap.size, 0, none⟩)) :: isW (.int .u8 (k.kind : Int)) :: isW (.pointer (some ⟨w.heap.size, 1, none⟩)) :: isW (.int .u8 (k.code : Int)) :: isW (.slice (some ⟨g4, 0, none⟩) 2 cap4) :: isW (.pointer (some ⟨g4, 0, none⟩)) :: isW (.int .u8 (t0.toNat : Int)) :: isW (.slice (some ⟨g4, 0, none⟩) 2 cap4) :: isW (.pointer (some ⟨g4, 1, none⟩)) :: isW (.int .u8 (t1.toNat : Int)) :: isAll :: isW (vt) :: isAll :: isAll :: [])) (fun j vs q => match j, vs with | 0, [] => True | 1, [v1] => Own q w11.heap.size v1 (k.top ++ two (k.csum : Nat)) | 2, [_, v2] => Own q w11.heap.size v2 k.bytes | 3, [_, _, v3] => Own q w11.heap.size v3 k.bytes | _, _ => False) (by kernel_rfl) (by kernel_rfl) (by kernel_rfl) (by kernel_rfl) (fun z => ?frameEq3) (Grow.drew w11) trivial ?_ ?_ ?_
    case frameEq3 => go_simp; rfl
    · refine ⟨fun _ z wz hI hd post hp => ?_, fun _ z wz hI hd post hp => ?_, fun _ z wz hI hd post hp => ?_, fun _ z wz hI hd post hp => ?_, fun _ z wz hI hd post hp => ?_, fun _ z wz hI hd post hp => ?_, fun _ z wz hI hd post hp => ?_, fun _ z wz hI hd post hp => ?_, fun _ z wz hI hd post hp => ?_, fun _ z wz hI hd post hp => ?_, fun hn => absurd hn (by decide), fun _ z wz hI hd post hp => ?_, fun hn => absurd hn (by decide), fun hn => absurd hn (by decide), trivial⟩
      · -- 0: slot 21: Op.fieldAddr 25 t1 0
        clear hd
        go_simp
        exact hp _ rfl
      · -- 1: slot 22: Op.load 5 t21
        have h21 : z 21 = .pointer (some ⟨w.heap.size, 0, none⟩) := hd 0 (by decide) (by decide) _ rfl
        clear hd
        obtain ⟨d0, d1, d2, d3⟩ := hB11.grow hI
        go_simp
        exact hp _ rfl
      · -- 2: slot 23: Op.fieldAddr 25 t1 1
        clear hd
        go_simp
        exact hp _ rfl
      · -- 3: slot 24: Op.load 5 t23
        have h23 : z 23 = .pointer (some ⟨w.heap.size, 1, none⟩) := hd 2 (by decide) (by decide) _ rfl
        clear hd
        obtain ⟨d0, d1, d2, d3⟩ := hB11.grow hI
        go_simp
        exact hp _ rfl
      · -- 4: slot 25: Op.move t4
        clear hd
        go_simp
        exact hp _ rfl
      · -- 5: slot 26: Op.indexAddr 23 t25 (const (0:i64))
        have h25 : z 25 = .slice (some ⟨g4, 0, none⟩) 2 cap4 := hd 4 (by decide) (by decide) _ rfl
        clear hd
        go_simp
        exact hp _ rfl
      · -- 6: slot 27: Op.load 5 t26
        have h26 : z 26 = .pointer (some ⟨g4, 0, none⟩) := hd 5 (by decide) (by decide) _ rfl
        clear hd
        have q1 := (hI.cell (p := ⟨g4, 0, none⟩) hlt4).trans cc0
        go_simp
        exact hp _ rfl
      · -- 7: slot 28: Op.move t4
        clear hd
        go_simp
        exact hp _ rfl
      · -- 8: slot 29: Op.indexAddr 23 t28 (const (1:i64))
        have h28 : z 28 = .slice (some ⟨g4, 0, none⟩) 2 cap4 := hd 7 (by decide) (by decide) _ rfl
        clear hd
        go_simp
        exact hp _ rfl
      · -- 9: slot 30: Op.load 5 t29
        have h29 : z 29 = .pointer (some ⟨g4, 1, none⟩) := hd 8 (by decide) (by decide) _ rfl
        clear hd
        have q1 := (hI.cell (p := ⟨g4, 1, none⟩) hlt4).trans cc1
        go_simp
        exact hp _ rfl
      · -- 11: slot 32: Op.move t3
        clear hd
        go_simp
        exact hp _ rfl
    · refine ⟨fun z wz hI hd hs post hp => ?_, fun z wz hI hd hs post hp => ?_, fun z wz hI hd hs post hp => ?_, trivial⟩
      · -- 10: slot 31: Op.buildSlice 23 4 #[(0, t22), (1, t24), (2, t27), (3, t30)]
        have h22 : z 22 = .int .u8 (k.kind : Int) := hd 1 (by decide) (by decide) _ rfl
        have h24 : z 24 = .int .u8 (k.code : Int) := hd 3 (by decide) (by decide) _ rfl
        have h27 : z 27 = .int .u8 (t0.toNat : Int) := hd 6 (by decide) (by decide) _ rfl
        have h30 : z 30 = .int .u8 (t1.toNat : Int) := hd 9 (by decide) (by decide) _ rfl
        clear hd
        go_simp
        exact hp _ _ (hI.trans (Grow.alloc _ _)) (Own.base (lit4 wz k t0 t1 k1 k2 htw) hI.size)
      · -- 12: slot 33: Op.call { builtin append, args := #[t31, t32], argTypes := #[23, 23] }
        have h32 : z 32 = vt := hd 11 (by decide) (by decide) _ rfl
        clear hd
        have s1 : Own wz w11.heap.size (z 31) (k.top ++ two (k.csum : Nat)) := hs
        exact upon_app w11 wz rfl (.tmp 31) (.tmp 32) rfl (z 31) _ _ _ rfl h32 s1 hI (hbt.grow hI) (by simp [itop_length, itail_length, two_length]; omega) fun v' w' h1 h2 => hp v' w' h2 h1
      · -- 13: slot 2: Op.assign t33
        clear hd
        have s2 : Own wz w11.heap.size (z 33) k.bytes := hs
        go_simp
        exact hp _ _ hI s2
    · intro z wz hI hd hs
      have h2 : Own wz w11.heap.size (z 2) k.bytes := hs
      clear hd hs
      go_wp2_with fail
      go_ret
      exact ⟨_, rfl, h2.byt, (hg1.trans hI0).trans (hgb.trans hI)⟩
end Go.Proofs.Ytbnnacohkemnhaa
