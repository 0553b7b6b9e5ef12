/- The walk of the law on segments that are the same. -/
import Derived.Test.YtbhdpobmooncpaaSegLive
import Derived.Test.YtbhdpobmooncpaaSegSameAll
import Derived.Test.YtbhdpobmooncpaaSegSameZ
namespace Go.Proofs.Ytbhdpobmooncpaa
set_option linter.unusedVariables false
set_option linter.unusedSimpArgs false
open Go.ChangeShapes Go.WideShapes Go.ChangeAt Go.RowKit

set_option maxRecDepth 10000 in
set_option maxHeartbeats 4000000 in
theorem segSame_walk (w : World) {v : Value} {k : Sgm} (h : isSgm w v k) {u : Value} {q : Sgm} (hu : isSgm w u q) :
    Calls Try.prog 6 #[v, u] w fun e w' => e = .returned (.bool true) ∧ Grow w w' := by
  obtain ⟨A, c, rfl, hd1, hk⟩ := h.form
  obtain ⟨B, cq, rfl, hd2, hq⟩ := hu.form
  obtain ⟨W1, hW1⟩ : ∃ W1, W1 = w.alloc (.cells (Sgmcells k (.slice A k.data.length c)) 26) := ⟨_, rfl⟩
  obtain ⟨W2, hW2⟩ : ∃ W2, W2 = W1.alloc (.cells (Sgmcells q (.slice B q.data.length cq)) 26) := ⟨_, rfl⟩
  have hg1 : Grow w W1 := by rw [hW1]; exact Grow.alloc w _
  have hg2 : Grow W1 W2 := by rw [hW2]; exact Grow.alloc _ _
  have hBk : Sgmbox W2 w.heap.size k (.slice A k.data.length c) := by
    refine Sgmbox.grow ?_ hg2
    rw [hW1]
    exact Sgmbox.new _ _ _
  have hs1 : W1.heap.size = w.heap.size + 1 := by rw [hW1]; simp
  have hBq : Sgmbox W2 (w.heap.size + 1) q (.slice B q.data.length cq) := by rw [hW2, ← hs1]; exact Sgmbox.new _ _ _
  have hik := h.grow (hg1.trans hg2)
  have hiq := hu.grow (hg1.trans hg2)
  unfold Sgmcells at hW1 hW2
  obtain ⟨T, hT⟩ : ∃ T, T = k.same q := ⟨_, rfl⟩
  have HT := Lib.hid hT
  clear hT hs1
  go_enter Try.func6, Try.ntmps6
  go_wp2_with fail
  rw [← hW1, ← hW2]
  clear hW1 hW2
  refine wp_region_loose (A := ?frame1) (inList (isV (SgmV k (.slice A k.data.length c)) :: isV (SgmV q (.slice B q.data.length cq)) :: isV (.bool T) :: isV (SgmV k (.slice A k.data.length c)) :: isV (SgmV q (.slice B q.data.length cq)) :: isV (.bool T) :: isV (.bool true) :: isV (.bool true) :: isV (SgmV k (.slice A k.data.length c)) :: isV (SgmV k (.slice A k.data.length c)) :: isV (.bool true) :: isV (.bool true) :: isV (.bool true) :: isV (.bool true) :: isV (.bool true) :: isV (.bool true) :: [])) (by kernel_rfl) (by kernel_rfl) (inList_stays ?_) (fun x => ?frameEq1) ?_ ?_
  case frameEq1 => go_simp; rfl
  · intro f hf
    simp only [List.mem_cons, List.not_mem_nil, or_false] at hf
    rcases hf with rfl | rfl | rfl | rfl | rfl | rfl | rfl | rfl | rfl | rfl | rfl | rfl | rfl | rfl | rfl | rfl <;> first | exact isV_stays _ | exact isB_stays _ | exact isBs_stays _
  · refine ⟨fun x w1 hg hd post hp => ?_, fun x w1 hg hd post hp => ?_, fun x w1 hg hd post hp => ?_, fun x w1 hg hd post hp => ?_, fun x w1 hg hd post hp => ?_, fun x w1 hg hd post hp => ?_, fun x w1 hg hd post hp => ?_, fun x w1 hg hd post hp => ?_, fun x w1 hg hd post hp => ?_, fun x w1 hg hd post hp => ?_, fun x w1 hg hd post hp => ?_, fun x w1 hg hd post hp => ?_, fun x w1 hg hd post hp => ?_, fun x w1 hg hd post hp => ?_, fun x w1 hg hd post hp => ?_, fun x w1 hg hd post hp => ?_, trivial⟩
    · -- 0: slot 5: Op.load 26 t2
      clear hd
      obtain ⟨d0, d1, d2, d3, d4, d5, d6, d7, d8⟩ := hBk.grow hg
      go_simp
      exact hp _ _ (Grow.refl _) rfl
    · -- 1: slot 6: Op.load 26 t3
      clear hd
      obtain ⟨d0, d1, d2, d3, d4, d5, d6, d7, d8⟩ := hBq.grow hg
      go_simp
      exact hp _ _ (Grow.refl _) rfl
    · -- 2: slot 7: Op.call { value (Operand.func 18), args := #[t5, t6], argTypes := #[26, 26] }
      have h5 : x 5 = SgmV k (.slice A k.data.length c) := hd 0 (by decide) _ rfl
      have h6 : x 6 = SgmV q (.slice B q.data.length cq) := hd 1 (by decide) _ rfl
      clear hd
      go_simp
      refine (SSame_any _ _ k q _ (hik.grow hg) (hiq.grow hg)).mono ?_
      rw [← HT.out]
      rintro e w2 ⟨rfl, hg2⟩
      exact ⟨_, rfl, hp _ _ hg2 rfl⟩
    · -- 3: slot 8: Op.load 26 t2
      clear hd
      obtain ⟨d0, d1, d2, d3, d4, d5, d6, d7, d8⟩ := hBk.grow hg
      go_simp
      exact hp _ _ (Grow.refl _) rfl
    · -- 4: slot 9: Op.load 26 t3
      clear hd
      obtain ⟨d0, d1, d2, d3, d4, d5, d6, d7, d8⟩ := hBq.grow hg
      go_simp
      exact hp _ _ (Grow.refl _) rfl
    · -- 5: slot 10: Op.call { value (Operand.func 17), args := #[t8, t9], argTypes := #[26, 26] }
      have h8 : x 8 = SgmV k (.slice A k.data.length c) := hd 3 (by decide) _ rfl
      have h9 : x 9 = SgmV q (.slice B q.data.length cq) := hd 4 (by decide) _ rfl
      clear hd
      go_simp
      refine (RSame9_any _ _ k q _ (hik.grow hg) (hiq.grow hg)).mono ?_
      rw [← HT.out]
      rintro e w2 ⟨rfl, hg2⟩
      exact ⟨_, rfl, hp _ _ hg2 rfl⟩
    · -- 6: slot 11: Op.binOp BinOp.eql 4 t7 t10 4
      have h7 : x 7 = .bool T := hd 2 (by decide) _ rfl
      have h10 : x 10 = .bool T := hd 5 (by decide) _ rfl
      clear hd
      go_simp
      exact hp _ _ (Grow.refl _) (show Value.bool _ = Value.bool true from by simp)
    · -- 7: slot 12: Op.move t11
      have h11 : x 11 = .bool true := hd 6 (by decide) _ rfl
      clear hd
      go_simp
      exact hp _ _ (Grow.refl _) rfl
    · -- 8: slot 13: Op.load 26 t2
      have h12 : x 12 = .bool true := hd 7 (by decide) _ rfl
      clear hd
      obtain ⟨d0, d1, d2, d3, d4, d5, d6, d7, d8⟩ := hBk.grow hg
      go_simp
      exact hp _ _ (Grow.refl _) rfl
    · -- 9: slot 14: Op.load 26 t2
      have h12 : x 12 = .bool true := hd 7 (by decide) _ rfl
      clear hd
      obtain ⟨d0, d1, d2, d3, d4, d5, d6, d7, d8⟩ := hBk.grow hg
      go_simp
      exact hp _ _ (Grow.refl _) rfl
    · -- 10: slot 15: Op.call { value (Operand.func 18), args := #[t13, t14], argTypes := #[26, 26] }
      have h13 : x 13 = SgmV k (.slice A k.data.length c) := hd 8 (by decide) _ rfl
      have h14 : x 14 = SgmV k (.slice A k.data.length c) := hd 9 (by decide) _ rfl
      have h12 : x 12 = .bool true := hd 7 (by decide) _ rfl
      clear hd
      go_simp
      refine (SSame_yes _ _ k k _ (hik.grow hg) (hik.grow hg) rfl).mono ?_
      rintro e w2 ⟨rfl, hg2⟩
      exact ⟨_, rfl, hp _ _ hg2 rfl⟩
    · -- 11: slot 16: Op.pick t12 t15 (const (Value.bool false))
      have h12 : x 12 = .bool true := hd 7 (by decide) _ rfl
      have h15 : x 15 = .bool true := hd 10 (by decide) _ rfl
      clear hd
      go_simp
      exact hp _ _ (Grow.refl _) rfl
    · -- 12: slot 17: Op.move t16
      have h16 : x 16 = .bool true := hd 11 (by decide) _ rfl
      clear hd
      go_simp
      exact hp _ _ (Grow.refl _) rfl
    · -- 13: slot 18: Op.call { value (Operand.func 8), args := #[], argTypes := #[] }
      have h17 : x 17 = .bool true := hd 12 (by decide) _ rfl
      clear hd
      go_simp
      refine (segLive_any _).mono ?_
      rintro e w2 ⟨rfl, hg2⟩
      exact ⟨_, rfl, hp _ _ hg2 rfl⟩
    · -- 14: slot 19: Op.pick t17 t18 (const (Value.bool false))
      have h17 : x 17 = .bool true := hd 12 (by decide) _ rfl
      have h18 : x 18 = .bool true := hd 13 (by decide) _ rfl
      clear hd
      go_simp
      exact hp _ _ (Grow.refl _) rfl
    · -- 15: slot 4: Op.assign t19
      have h19 : x 19 = .bool true := hd 14 (by decide) _ rfl
      clear hd
      go_simp
      exact hp _ _ (Grow.refl _) rfl
  · intro x w1 hg hd
    have h4 : x 4 = .bool true := hd 15 _ rfl
    clear hd
    go_wp2
    go_ret
    exact ⟨by go_simp, (hg1.trans hg2).trans hg⟩
end Go.Proofs.Ytbhdpobmooncpaa
