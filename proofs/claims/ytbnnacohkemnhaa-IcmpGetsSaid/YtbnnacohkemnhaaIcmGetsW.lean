/- The walk of the law on bytes as messages. -/
import Derived.Test.YtbnnacohkemnhaaIcmLive
import Derived.Test.YtbnnacohkemnhaaIcmRef
namespace Go.Proofs.Ytbnnacohkemnhaa
set_option linter.unusedVariables false
set_option linter.unusedSimpArgs false
open Go.ChangeShapes Go.WideShapes Go.ChangeAt Go.RowKit

set_option maxRecDepth 10000 in
set_option maxHeartbeats 4000000 in
theorem icmpGets_walk (w : World) {v : Value} {l : List UInt8} (h : Byt w v l) (hl0 : l.length ≤ 140737488351232) :
    Calls Try.prog 4 #[v] w fun e w' => e = .returned (.bool true) ∧ Grow w w' := by
  obtain ⟨A, c, rfl, hcl, hcm⟩ := h.form
  unfold maxLen at hcm
  by_cases hL : 70000 < l.length
  · go_enter Try.func4, Try.ntmps4
    go_wp2_with fail
    refine (icmLive_any _).mono ?_
    rintro e wl ⟨rfl, hgl⟩
    go_wp2_with fail
    go_ret
    exact ⟨rfl, hgl⟩
  have hl : l.length ≤ 1000000 := by omega
  obtain ⟨q1, q2⟩ := icode_le l
  have hok := ires_ok l
  go_enter Try.func4, Try.ntmps4
  go_wp2_with fail
  refine (icmGet_any _ l _ h hl).mono ?_
  rintro e w2 ⟨vd, rfl, hvd, hg2⟩
  have bd := hvd.byt
  obtain ⟨B6, m6, d6, rfl, _⟩ := bd.form2
  obtain ⟨r, hr⟩ : ∃ r, r = ires l := ⟨_, rfl⟩
  rw [← hr] at bd hok ⊢
  have HR := Lib.hid hr
  clear hr
  go_wp2_with (refine wpList_store_Icm w2 _ rfl _ _ rfl rfl w2.heap.size rfl r zeroM (.slice B6 m6 d6) (.slice none 0 0) (by rfl) rfl (Icmblk.new w2 zeroM (.slice none 0 0)) (Grow.alloc _ _) (Nat.le_refl _) ?_; intro w3 hk3 _ hg3)
  have hg03 := hg2.trans hg3
  refine (RGet7_any _ l _ (h.grow hg03) hl).mono ?_
  rw [← HR.out]
  rintro e w4 ⟨vd2, rfl, bd2, hg4⟩
  obtain ⟨C6, k6, e6, rfl, _⟩ := bd2.form2
  go_wp2_with (refine wpList_store_Icm w4 _ rfl _ _ rfl rfl w4.heap.size rfl r zeroM (.slice C6 k6 e6) (.slice none 0 0) (by rfl) rfl (Icmblk.new w4 zeroM (.slice none 0 0)) (Grow.alloc _ _) (Nat.le_refl _) ?_; intro w5 hk5 _ hg5)
  refine (icmCode_any (icode l) _ (by omega) (by omega)).mono ?_
  rintro e w' ⟨rfl, rfl⟩
  have hg35 := hg4.trans hg5
  obtain ⟨d0, d1, d2, d3⟩ := (hk3.grow hg35).boxd
  obtain ⟨f0, f1, f2, f3⟩ := hk5.boxd
  go_wp2_with fail
  refine (RSame7_yes _ _ r r _ ⟨_, rfl, (bd.grow hg3).grow hg35, hok⟩ ⟨_, rfl, bd2.grow hg5, hok⟩ rfl).mono ?_
  rintro e w6 ⟨rfl, hg6⟩
  go_wp2_with fail
  refine (icmLive_any _).mono ?_
  rintro e wl ⟨rfl, hgl⟩
  go_wp2_with fail
  go_ret
  exact ⟨rfl, (hg03.trans hg35).trans (hg6.trans hgl)⟩
end Go.Proofs.Ytbnnacohkemnhaa
