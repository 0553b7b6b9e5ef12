/- The walk of the law on what errors are about. -/
import Derived.Test.YtbnnacohkemnhaaIcmLive
import Derived.Test.YtbnnacohkemnhaaIcmRef
import Derived.Test.YtbnnacohkemnhaaIcmRCauseAll
import Derived.Test.YtbnnacohkemnhaaIcmCause
import Derived.Test.YtbnnacohkemnhaaIpSameZ
namespace Go.Proofs.Ytbnnacohkemnhaa
set_option linter.unusedVariables false
set_option linter.unusedSimpArgs false
open Go.ChangeShapes Go.WideShapes Go.ChangeAt Go.RowKit

/-- A value that is known where something holds. -/
def isCond (p : Prop) (u : Value) (v : Value) (_ : World) : Prop := p → v = u
theorem isCond_stays {p : Prop} (u : Value) : stays (isCond p u) := fun _ _ _ _ h => h

set_option maxRecDepth 10000 in
set_option maxHeartbeats 8000000 in
theorem icmpCauses_walk (w : World) {v : Value} {k : Icm} (h : isIcm w v k) (a : Int) (ha : 0 ≤ a ∧ a ≤ 255) (b : Int) (hb : 0 ≤ b ∧ b ≤ 255) {u : Value} {l : List UInt8} (hu : Byt w u l) (hu0 : l.length ≤ 140737488351232) :
    Calls Try.prog 6 #[v, .int .u8 a, .int .u8 b, u] w fun e w' => e = .returned (.bool true) ∧ Grow w w' := by
  obtain ⟨a, rfl⟩ := Int.eq_ofNat_of_zero_le ha.1
  obtain ⟨b, rfl⟩ := Int.eq_ofNat_of_zero_le hb.1
  have ha1 : a < 256 := by omega
  have hb1 : b < 256 := by omega
  clear ha hb
  obtain ⟨A, c, rfl, hd, hk⟩ := h.form
  obtain ⟨hcl, hcm0⟩ := hd.len.2
  obtain ⟨A2, c2, rfl, hcl2, hcm2⟩ := hu.form
  unfold maxLen at hcm0 hcm2
  obtain ⟨W1, hW1⟩ : ∃ W1, W1 = w.alloc (.cells #[.int .u8 (k.kind : Int), .int .u8 (k.code : Int), .int .u32 (k.rest : Int), .slice A k.data.length c] 25) := ⟨_, rfl⟩
  have hg1 : Grow w W1 := by rw [hW1]; exact Grow.alloc w _
  have hB1 : Icmbox W1 w.heap.size k (.slice A k.data.length c) := by rw [hW1]; exact Icmbox.new _ _ _
  have hip := h.grow hg1
  obtain ⟨b0, b1, b2, b3⟩ := id hB1
  by_cases hL : 1000 < k.data.length
  · skip
    go_enter Try.func6, Try.ntmps6
    go_wp2_with fail
    rw [← hW1]
    refine (icmLive_any _).mono ?_
    rintro e wl ⟨rfl, hgl⟩
    go_wp2_with fail
    go_ret
    exact ⟨rfl, hg1.trans hgl⟩
  by_cases hM : 1000 < l.length
  · skip
    go_enter Try.func6, Try.ntmps6
    go_wp2_with fail
    rw [← hW1]
    refine (icmLive_any _).mono ?_
    rintro e wl ⟨rfl, hgl⟩
    go_wp2_with fail
    go_ret
    exact ⟨rfl, hg1.trans hgl⟩
  have hsm : k.data.length ≤ 1000000 := by omega
  have hl : l.length ≤ 1000000 := by omega
  have hab := about_le l
  have hab2 : about l ≤ c2 := by omega
  have q1 := ccode_le k
  obtain ⟨q1, q2⟩ := q1
  have hok := cres_ok k
  go_enter Try.func6, Try.ntmps6
  go_wp2_with fail
  rw [← hW1]
  clear hW1
  refine (icmAbout_any a b _ l _ (hu.grow hg1) ha1 hb1 hl).mono ?_
  obtain ⟨L, hLL⟩ : ∃ L, L = l.take (about l) := ⟨_, rfl⟩
  have hbf : Byt w (.slice A2 (about l) c2) L := by rw [hLL]; exact hu.front hab
  rw [← hLL]
  rintro e w2 ⟨vq, rfl, hoq, hg2⟩
  have bq := hoq.byt
  obtain ⟨B6, m6, d6, rfl, _⟩ := bq.form2
  clear b0 b1 b2 b3 hLL
  go_wp2_with (refine wpList_store_Icm w2 _ rfl _ _ rfl rfl w2.heap.size rfl ⟨a, b, 0, L⟩ zeroM (.slice B6 m6 d6) (.slice none 0 0) (by rfl) rfl (Icmblk.new w2 zeroM (.slice none 0 0)) (Grow.alloc _ _) (Nat.le_refl _) ?_; intro w3 hk3 _ hg3)
  have hg13 := hg2.trans hg3
  have hg03 := hg1.trans hg13
  have hB3 := hB1.grow hg13
  have hip3 := hip.grow hg13
  have hQ3 := hk3.boxd
  have hl3 := hu.grow hg03
  have hqok : (⟨a, b, 0, L⟩ : Icm).Ok := ⟨trivial, ha1, hb1, (by decide : (0 : Nat) < 4294967296)⟩
  have hq3 : isIcm w3 (IcmV ⟨a, b, 0, L⟩ (.slice B6 m6 d6)) ⟨a, b, 0, L⟩ := ⟨_, rfl, bq.grow hg3, hqok⟩
  have hn3 : isIcm w3 (IcmV ⟨a, b, 0, L⟩ (.slice A2 (about l) c2)) ⟨a, b, 0, L⟩ := ⟨_, rfl, hbf.grow hg03, hqok⟩
  obtain ⟨T3, eT3⟩ : ∃ T3, ((k.kind : Int) == 3) = T3 := ⟨_, rfl⟩
  obtain ⟨T11, eT11⟩ : ∃ T11, ((k.kind : Int) == 11) = T11 := ⟨_, rfl⟩
  have eTE : isErr k = (T3 || T11) := by
    rw [← eT3, ← eT11, Bool.eq_iff_iff]
    unfold isErr
    simp only [decide_eq_true_eq, Bool.or_eq_true, beq_iff_eq]
    omega
  refine wp_region_loose (A := ?frame4) (inList (isV (IcmV ⟨a, b, 0, L⟩ (.slice B6 m6 d6)) :: isV (.int .u8 (a : Int)) :: isV (.int .u8 (b : Int)) :: isV (.slice A2 l.length c2) :: isV (.slice A2 l.length c2) :: isV (.int .i64 (about l : Nat)) :: isV (.slice A2 (about l) c2) :: isV (IcmV ⟨a, b, 0, L⟩ (.slice A2 (about l) c2)) :: isV (.bool true) :: isV (.bool false) :: isV (.bool false) :: isV (IcmV k (.slice A k.data.length c)) :: isV (.bool (isErr k)) :: isV (.pointer (some ⟨w.heap.size, 0, none⟩)) :: isV (.int .u8 (k.kind : Int)) :: isV (.bool T3) :: isV (.bool T3) :: (isCond (T3 = false) (.pointer (some ⟨w.heap.size, 0, none⟩))) :: (isCond (T3 = false) (.int .u8 (k.kind : Int))) :: (isCond (T3 = false) (.bool T11)) :: isV (.bool (isErr k)) :: isV (.bool false) :: isV (.bool false) :: [])) (by kernel_rfl) (by kernel_rfl) (inList_stays ?_) (fun x => ?frameEq4) ?_ ?_
  case frameEq4 => go_simp; rfl
  · intro f hf
    simp only [List.mem_cons, List.not_mem_nil, or_false] at hf
    rcases hf with rfl | rfl | rfl | rfl | rfl | rfl | rfl | rfl | rfl | rfl | rfl | rfl | rfl | rfl | rfl | rfl | rfl | rfl | rfl | rfl | rfl | rfl | rfl <;> first | exact isV_stays _ | exact isB_stays _ | exact isBs_stays _ | exact isCond_stays _
  · refine ⟨fun x w1 hg hd post hp => ?_, fun x w1 hg hd post hp => ?_, fun x w1 hg hd post hp => ?_, fun x w1 hg hd post hp => ?_, fun x w1 hg hd post hp => ?_, fun x w1 hg hd post hp => ?_, fun x w1 hg hd post hp => ?_, fun x w1 hg hd post hp => ?_, fun x w1 hg hd post hp => ?_, fun x w1 hg hd post hp => ?_, fun x w1 hg hd post hp => ?_, fun x w1 hg hd post hp => ?_, fun x w1 hg hd post hp => ?_, fun x w1 hg hd post hp => ?_, fun x w1 hg hd post hp => ?_, fun x w1 hg hd post hp => ?_, fun x w1 hg hd post hp => ?_, fun x w1 hg hd post hp => ?_, fun x w1 hg hd post hp => ?_, fun x w1 hg hd post hp => ?_, fun x w1 hg hd post hp => ?_, fun x w1 hg hd post hp => ?_, fun x w1 hg hd post hp => ?_, trivial⟩
    · -- 0: slot 28: Op.load 25 t9
      clear hd
      obtain ⟨d0, d1, d2, d3⟩ := hQ3.grow hg
      go_simp
      exact hp _ _ (Grow.refl _) rfl
    · -- 1: slot 29: Op.move t1
      clear hd
      go_simp
      exact hp _ _ (Grow.refl _) rfl
    · -- 2: slot 30: Op.move t2
      clear hd
      go_simp
      exact hp _ _ (Grow.refl _) rfl
    · -- 3: slot 31: Op.move t3
      clear hd
      go_simp
      exact hp _ _ (Grow.refl _) rfl
    · -- 4: slot 32: Op.move t3
      clear hd
      go_simp
      exact hp _ _ (Grow.refl _) rfl
    · -- 5: slot 33: Op.call { value (Operand.func 20), args := #[t32], argTypes := #[23] }
      have h32 : x 32 = .slice A2 l.length c2 := hd 4 (by decide) _ rfl
      clear hd
      go_simp
      refine (RAbout_any _ l _ (hl3.grow hg) hl).mono ?_
      rintro e w2 ⟨rfl, hg2⟩
      exact ⟨_, rfl, hp _ _ hg2 rfl⟩
    · -- 6: slot 34: Op.slice 23 t31 none (some t33) none
      have h31 : x 31 = .slice A2 l.length c2 := hd 3 (by decide) _ rfl
      have h33 : x 33 = .int .i64 (about l : Nat) := hd 5 (by decide) _ rfl
      clear hd
      go_simp
      exact hp _ _ (Grow.refl _) rfl
    · -- 7: slot 35: Op.build 25 #[(0, t29), (1, t30), (3, t34)]
      have h29 : x 29 = .int .u8 (a : Int) := hd 1 (by decide) _ rfl
      have h30 : x 30 = .int .u8 (b : Int) := hd 2 (by decide) _ rfl
      have h34 : x 34 = .slice A2 (about l) c2 := hd 6 (by decide) _ rfl
      clear hd
      go_simp
      exact hp _ _ (Grow.refl _) rfl
    · -- 8: slot 36: Op.call { value (Operand.func 14), args := #[t28, t35], argTypes := #[25, 25] }
      have h28 : x 28 = IcmV ⟨a, b, 0, L⟩ (.slice B6 m6 d6) := hd 0 (by decide) _ rfl
      have h35 : x 35 = IcmV ⟨a, b, 0, L⟩ (.slice A2 (about l) c2) := hd 7 (by decide) _ rfl
      clear hd
      go_simp
      refine (RSame7_yes _ _ ⟨a, b, 0, L⟩ ⟨a, b, 0, L⟩ _ (hq3.grow hg) (hn3.grow hg) rfl).mono ?_
      rintro e w2 ⟨rfl, hg2⟩
      exact ⟨_, rfl, hp _ _ hg2 rfl⟩
    · -- 9: slot 37: Op.unOp UnOp.not 4 t36
      have h36 : x 36 = .bool true := hd 8 (by decide) _ rfl
      clear hd
      go_simp
      exact hp _ _ (Grow.refl _) rfl
    · -- 10: slot 38: Op.move t37
      have h37 : x 37 = .bool false := hd 9 (by decide) _ rfl
      clear hd
      go_simp
      exact hp _ _ (Grow.refl _) rfl
    · -- 11: slot 39: Op.load 25 t4
      have h38 : x 38 = .bool false := hd 10 (by decide) _ rfl
      clear hd
      obtain ⟨d0, d1, d2, d3⟩ := hB3.grow hg
      go_simp
      exact hp _ _ (Grow.refl _) rfl
    · -- 12: slot 40: Op.call { value (Operand.func 21), args := #[t39], argTypes := #[25] }
      have h39 : x 39 = IcmV k (.slice A k.data.length c) := hd 11 (by decide) _ rfl
      have h38 : x 38 = .bool false := hd 10 (by decide) _ rfl
      clear hd
      go_simp
      refine (Error_any _ k _ (hip3.grow hg)).mono ?_
      rintro e w2 ⟨rfl, hg2⟩
      exact ⟨_, rfl, hp _ _ hg2 rfl⟩
    · -- 13: slot 41: Op.fieldAddr 25 t4 0
      have h38 : x 38 = .bool false := hd 10 (by decide) _ rfl
      clear hd
      go_simp
      exact hp _ _ (Grow.refl _) rfl
    · -- 14: slot 42: Op.load 5 t41
      have h41 : x 41 = .pointer (some ⟨w.heap.size, 0, none⟩) := hd 13 (by decide) _ rfl
      have h38 : x 38 = .bool false := hd 10 (by decide) _ rfl
      clear hd
      obtain ⟨d0, d1, d2, d3⟩ := hB3.grow hg
      go_simp
      exact hp _ _ (Grow.refl _) rfl
    · -- 15: slot 43: Op.binOp BinOp.eql 5 t42 (const (3:u8)) 5
      have h42 : x 42 = .int .u8 (k.kind : Int) := hd 14 (by decide) _ rfl
      have h38 : x 38 = .bool false := hd 10 (by decide) _ rfl
      clear hd
      go_simp
      exact hp _ _ (Grow.refl _) rfl
    · -- 16: slot 44: Op.move t43
      have h43 : x 43 = .bool T3 := hd 15 (by decide) _ rfl
      have h38 : x 38 = .bool false := hd 10 (by decide) _ rfl
      clear hd
      go_simp
      exact hp _ _ (Grow.refl _) rfl
    · -- 17: slot 45: Op.fieldAddr 25 t4 0
      have h44 : x 44 = .bool T3 := hd 16 (by decide) _ rfl
      clear hd
      cases hT : T3
      · rw [hT] at h44
        go_simp
        exact hp _ _ (Grow.refl _) (fun _ => rfl)
      · rw [hT] at h44
        go_simp
        exact hp _ _ (Grow.refl _) (fun hn => absurd (hT.symm.trans hn) (by decide))
    · -- 18: slot 46: Op.load 5 t45
      have h45 : (isCond (T3 = false) (.pointer (some ⟨w.heap.size, 0, none⟩))) (x 45) w1 := hd 17 (by decide) _ rfl
      have h44 : x 44 = .bool T3 := hd 16 (by decide) _ rfl
      clear hd
      cases hT : T3
      · rw [hT] at h44
        have q45 : x 45 = _ := h45 hT
        obtain ⟨d0, d1, d2, d3⟩ := hB3.grow hg
        go_simp
        exact hp _ _ (Grow.refl _) (fun _ => rfl)
      · rw [hT] at h44
        go_simp
        exact hp _ _ (Grow.refl _) (fun hn => absurd (hT.symm.trans hn) (by decide))
    · -- 19: slot 47: Op.binOp BinOp.eql 5 t46 (const (11:u8)) 5
      have h46 : (isCond (T3 = false) (.int .u8 (k.kind : Int))) (x 46) w1 := hd 18 (by decide) _ rfl
      have h44 : x 44 = .bool T3 := hd 16 (by decide) _ rfl
      clear hd
      cases hT : T3
      · rw [hT] at h44
        have q46 : x 46 = _ := h46 hT
        go_simp
        exact hp _ _ (Grow.refl _) (fun _ => rfl)
      · rw [hT] at h44
        go_simp
        exact hp _ _ (Grow.refl _) (fun hn => absurd (hT.symm.trans hn) (by decide))
    · -- 20: slot 48: Op.pick t44 (const (Value.bool true)) t47
      have h44 : x 44 = .bool T3 := hd 16 (by decide) _ rfl
      have h47 : (isCond (T3 = false) (.bool T11)) (x 47) w1 := hd 19 (by decide) _ rfl
      have h38 : x 38 = .bool false := hd 10 (by decide) _ rfl
      clear hd
      cases hT : T3
      · rw [hT] at h44
        have q47 : x 47 = _ := h47 hT
        have e48 := eTE
        rw [hT, Bool.false_or] at e48
        go_simp
        exact hp _ _ (Grow.refl _) (show Value.bool _ = Value.bool _ from by rw [e48])
      · rw [hT] at h44
        have e48 := eTE
        rw [hT, Bool.true_or] at e48
        go_simp
        exact hp _ _ (Grow.refl _) (show Value.bool _ = Value.bool _ from by rw [e48])
    · -- 21: slot 49: Op.binOp BinOp.neq 4 t40 t48 4
      have h40 : x 40 = .bool (isErr k) := hd 12 (by decide) _ rfl
      have h48 : x 48 = .bool (isErr k) := hd 20 (by decide) _ rfl
      have h38 : x 38 = .bool false := hd 10 (by decide) _ rfl
      clear hd
      go_simp
      exact hp _ _ (Grow.refl _) rfl
    · -- 22: slot 50: Op.pick t38 (const (Value.bool true)) t49
      have h38 : x 38 = .bool false := hd 10 (by decide) _ rfl
      have h49 : x 49 = .bool false := hd 21 (by decide) _ rfl
      clear hd
      go_simp
      exact hp _ _ (Grow.refl _) rfl
  · intro x w1 hg hd
    have h50 : x 50 = .bool false := hd 22 _ rfl
    clear hd
    have hg04 := hg03.trans hg
    have hip4 := hip3.grow hg
    obtain ⟨b0, b1, b2, b3⟩ := hB3.grow hg
    rw [h50]
    go_wp2_with fail
    refine (icmCause_any _ k _ hip4 hsm).mono ?_
    obtain ⟨P, hP⟩ : ∃ P, P = cres k := ⟨_, rfl⟩
    rw [← hP] at hok ⊢
    have HP := Lib.hid hP
    clear hP
    rintro e w5 ⟨vo, vd, rfl, hvo, hvd, hg5⟩
    have bo := hvo.byt
    have bd := hvd.byt
    obtain ⟨A7, n7, c7, rfl, _⟩ := bo.form2
    obtain ⟨B7, m7, d7, rfl, _⟩ := bd.form2
    clear b0 b1 b2 b3
    go_wp2_with (refine wpList_store_ip w5 _ rfl _ _ rfl rfl w5.heap.size rfl P zeroP (.slice A7 n7 c7) (.slice B7 m7 d7) (.slice none 0 0) (.slice none 0 0) (by rfl) rfl rfl (Blk.new w5 zeroP (.slice none 0 0) (.slice none 0 0)) (Grow.alloc _ _) (Nat.le_refl _) ?_; intro w6 hk6 _ hg6; obtain ⟨b0, b1, b2, b3⟩ := ((hB3.grow hg).grow hg5).grow hg6)
    have hg46 := hg5.trans hg6
    refine (RCause7_any _ k _ (hip4.grow hg46) hsm).mono ?_
    rw [← HP.out]
    rintro e w7 ⟨uo, ud, rfl, ro, rd, hg7⟩
    obtain ⟨A8, n8, c8, rfl, _⟩ := ro.form2
    obtain ⟨B8, m8, d8, rfl, _⟩ := rd.form2
    clear b0 b1 b2 b3
    go_wp2_with (refine wpList_store_ip w7 _ rfl _ _ rfl rfl w7.heap.size rfl P zeroP (.slice A8 n8 c8) (.slice B8 m8 d8) (.slice none 0 0) (.slice none 0 0) (by rfl) rfl rfl (Blk.new w7 zeroP (.slice none 0 0) (.slice none 0 0)) (Grow.alloc _ _) (Nat.le_refl _) ?_; intro w8 hk8 _ hg8)
    refine (icmCode_any (ccode k) _ (by omega) (by omega)).mono ?_
    rintro e w' ⟨rfl, rfl⟩
    have hg68 := hg7.trans hg8
    obtain ⟨d0, d1, d2, d3, d4, d5, d6', d7', d8', d9, d10⟩ := (hk6.grow hg68).boxd
    obtain ⟨f0, f1, f2, f3, f4, f5, f6, f7, f8, f9, f10⟩ := hk8.boxd
    go_wp2_with fail
    refine (RSame_yes _ _ P P _ ⟨_, _, rfl, (bo.grow hg6).grow hg68, (bd.grow hg6).grow hg68, hok⟩ ⟨_, _, rfl, ro.grow hg8, rd.grow hg8, hok⟩ rfl).mono ?_
    rintro e w9 ⟨rfl, hg9⟩
    go_wp2_with fail
    refine (icmLive_any _).mono ?_
    rintro e wl ⟨rfl, hgl⟩
    go_wp2_with fail
    go_ret
    exact ⟨rfl, (hg04.trans hg46).trans ((hg68.trans hg9).trans hgl)⟩
end Go.Proofs.Ytbnnacohkemnhaa
