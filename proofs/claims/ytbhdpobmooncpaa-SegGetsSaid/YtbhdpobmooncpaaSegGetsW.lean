/- The walk of the law on bytes as segments. -/
import Derived.Test.YtbhdpobmooncpaaSegLive
import Derived.Test.YtbhdpobmooncpaaSegSameZ
namespace Go.Proofs.Ytbhdpobmooncpaa
set_option linter.unusedVariables false
set_option linter.unusedSimpArgs false
open Go.ChangeShapes Go.WideShapes Go.ChangeAt Go.RowKit

set_option maxRecDepth 10000 in
set_option maxHeartbeats 4000000 in
theorem segGets_in (w : World) (s d : Nat) (hs : s < 4294967296) (hd : d < 4294967296) {v : Value} {l : List UInt8} (h : Byt w v l) (hL : l.length ≤ 70000) :
    Calls Try.prog 4 #[.int .u32 (s : Int), .int .u32 (d : Int), v] w fun e w' => e = .returned (.bool true) ∧ Grow w w' := by
  obtain ⟨A, c, rfl, hcl, hcm⟩ := h.form
  unfold maxLen at hcm
  have hl : l.length ≤ 1000000 := by omega
  obtain ⟨q1, q2⟩ := tcode_le s d l
  have hok := tres_ok s d l
  go_enter Try.func4, Try.ntmps4
  go_wp2_with fail
  refine (sGet_any s d _ l _ hs hd h hl).mono ?_
  rintro e w2 ⟨vd, rfl, hvd, hg2⟩
  have bd := hvd.byt
  obtain ⟨B6, m6, d6, rfl, _⟩ := bd.form2
  obtain ⟨r, hr⟩ : ∃ r, r = tres s d l := ⟨_, rfl⟩
  rw [← hr] at bd hok ⊢
  have HR := Lib.hid hr
  clear hr
  obtain ⟨gc, hgc⟩ : ∃ gc, gc = tcode s d l := ⟨_, rfl⟩
  rw [← hgc] at q1 q2 ⊢
  have HC := Lib.hid hgc
  clear hgc hvd
  go_wp2_with (refine wpList_store_Sgm w2 _ rfl _ _ rfl rfl w2.heap.size rfl r zeroT (.slice B6 m6 d6) (.slice none 0 0) (by rfl) rfl (Sgmblk.new w2 zeroT (.slice none 0 0)) (Grow.alloc _ _) (Nat.le_refl _) ?_; intro w3 hk3 _ hg3)
  have hg03 := hg2.trans hg3
  refine (RGet9_any s d _ l _ hs hd (h.grow hg03) hl).mono ?_
  rw [← HR.out, ← HC.out]
  rintro e w4 ⟨vd2, rfl, bd2, hg4⟩
  obtain ⟨C6, k6, e6, rfl, _⟩ := bd2.form2
  clear HC HR
  go_wp2_with (refine wpList_store_Sgm w4 _ rfl _ _ rfl rfl w4.heap.size rfl r zeroT (.slice C6 k6 e6) (.slice none 0 0) (by rfl) rfl (Sgmblk.new w4 zeroT (.slice none 0 0)) (Grow.alloc _ _) (Nat.le_refl _) ?_; intro w5 hk5 _ hg5)
  have hg35 := hg4.trans hg5
  have hg05 := hg03.trans hg35
  refine (segCode_any gc _ (by omega) (by omega)).mono ?_
  rintro e w' ⟨rfl, rfl⟩
  obtain ⟨d0, d1, d2, d3, d4, d5, d6', d7, d8⟩ := (hk3.grow hg35).boxd
  obtain ⟨f0, f1, f2, f3, f4, f5, f6, f7, f8⟩ := hk5.boxd
  go_wp2_with fail
  refine (RSame9_yes _ _ r r _ ⟨_, rfl, (bd.grow hg3).grow hg35, hok⟩ ⟨_, rfl, bd2.grow hg5, hok⟩ rfl).mono ?_
  rintro e w6 ⟨rfl, hg6⟩
  have hg07 := hg05.trans hg6
  clear d0 d1 d2 d3 d4 d5 d6' d7 d8 f0 f1 f2 f3 f4 f5 f6 f7 f8
  go_wp2_with fail
  refine (segLive_any _).mono ?_
  rintro e wl ⟨rfl, hgl⟩
  go_wp2_with fail
  go_ret
  exact ⟨rfl, hg07.trans hgl⟩

set_option maxHeartbeats 1000000 in
theorem segGets_walk (w : World) (s : Int) (hs : 0 ≤ s ∧ s ≤ 4294967295) (d : Int) (hd : 0 ≤ d ∧ d ≤ 4294967295) {v : Value} {l : List UInt8} (h : Byt w v l) (hl0 : l.length ≤ 140737488351232) :
    Calls Try.prog 4 #[.int .u32 s, .int .u32 d, v] w fun e w' => e = .returned (.bool true) ∧ Grow w w' := by
  obtain ⟨s, rfl⟩ := Int.eq_ofNat_of_zero_le hs.1
  obtain ⟨d, rfl⟩ := Int.eq_ofNat_of_zero_le hd.1
  by_cases hL : 70000 < l.length
  · obtain ⟨A, c, rfl, hcl, hcm⟩ := h.form
    unfold maxLen at hcm
    go_enter Try.func4, Try.ntmps4
    go_wp2_with fail
    refine (segLive_any _).mono ?_
    rintro e wl ⟨rfl, hgl⟩
    go_wp2_with fail
    go_ret
    exact ⟨rfl, hgl⟩
  · exact segGets_in w s d (by omega) (by omega) h (by omega)
end Go.Proofs.Ytbhdpobmooncpaa
