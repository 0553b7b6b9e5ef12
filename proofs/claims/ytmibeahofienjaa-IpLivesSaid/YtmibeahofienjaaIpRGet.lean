/- The document's own answer: bytes as a packet. -/
import Derived.Test.YtmibeahofienjaaIpFld
import Derived.Test.YtmibeahofienjaaIpMeas
namespace Go.Proofs.Ytmibeahofienjaa
set_option linter.unusedVariables false
set_option linter.unusedSimpArgs false
open Go.ChangeShapes Go.WideShapes Go.ChangeAt Go.RowKit

set_option maxHeartbeats 4000000 in
theorem RGet_bad (v : Value) (l : List UInt8) (w : World) (h : Byt w v l) (hl : l.length ≤ 1000000) (hc : mcode l ≠ 0) :
    Calls Try.prog 21 #[v] w fun e w' => e = .returned (.tuple #[ipV zeroP (.slice none 0 0) (.slice none 0 0), .int .i64 (mcode l)]) ∧ Grow w w' := by
  obtain ⟨A, c, rfl, hcl, hcm⟩ := h.form
  obtain ⟨W1, hW1⟩ : ∃ W1, W1 = w.alloc (.cells #[.int .u8 0, .int .u16 0, .bool false, .bool false, .int .i64 0, .int .u8 0, .int .u8 0, .int .u32 0, .int .u32 0, .slice none 0 0, .slice none 0 0] 27) := ⟨_, rfl⟩
  have hg1 : Grow w W1 := by rw [hW1]; exact Grow.alloc w _
  have hk1 : Blk W1 w.heap.size zeroP (.slice none 0 0) (.slice none 0 0) := by rw [hW1]; exact Blk.new w zeroP _ _
  go_enter Try.func21, Try.ntmps21
  go_upto_if 9 with fail
  rw [← hW1]
  clear hW1
  by_cases h1 : l.length < 20
  · have e1 : mcode l = 2 := by unfold mcode; rw [if_pos h1]
    go_wp2_with (refine wpList_store_ip w W1 rfl _ _ rfl rfl w.heap.size rfl zeroP zeroP (.slice none 0 0) (.slice none 0 0) (.slice none 0 0) (.slice none 0 0) rfl rfl rfl (hk1) (hg1) (Nat.le_refl _) ?_; intro w3 hk3 hbut hg3)
    refine bodyPost_ret (results_ip rfl _ w3 w.heap.size _ _ _ rfl hk3) rfl ?_
    exact ⟨by first | rfl | (rw [e1]; rfl), hg3⟩
  obtain ⟨b, off, rfl, hb, hcell⟩ := h.at_ (by omega)
  have celg : ∀ w', Grow w w' → ∀ i, i < l.length → w'.cell? ⟨b, off + i, none⟩ = some (.int .u8 (byt l i : Int)) := fun w' g i hi => by
    rw [g.cell (p := ⟨b, off + i, none⟩) hb, hcell i hi, byt_at hi]
  have l0 := byt_lt l 0
  have c0 : W1.cell? ⟨b, off, none⟩ = some (.int .u8 (byt l 0 : Int)) := celg W1 hg1 0 (by omega)
  by_cases h2 : byt l 0 < 69 ∨ 79 < byt l 0
  · have e1 : mcode l = 3 := by unfold mcode; rw [if_neg h1, if_pos h2]
    generalize byt l 0 = x0 at *
    rcases h2 with h2 | h2
    · go_wp2_with (refine wpList_store_ip w W1 rfl _ _ rfl rfl w.heap.size rfl zeroP zeroP (.slice none 0 0) (.slice none 0 0) (.slice none 0 0) (.slice none 0 0) rfl rfl rfl (hk1) (hg1) (Nat.le_refl _) ?_; intro w3 hk3 hbut hg3)
      refine bodyPost_ret (results_ip rfl _ w3 w.heap.size _ _ _ rfl hk3) rfl ?_
      exact ⟨by first | rfl | (rw [e1]; rfl), hg3⟩
    · go_wp2_with (refine wpList_store_ip w W1 rfl _ _ rfl rfl w.heap.size rfl zeroP zeroP (.slice none 0 0) (.slice none 0 0) (.slice none 0 0) (.slice none 0 0) rfl rfl rfl (hk1) (hg1) (Nat.le_refl _) ?_; intro w3 hk3 hbut hg3)
      refine bodyPost_ret (results_ip rfl _ w3 w.heap.size _ _ _ rfl hk3) rfl ?_
      exact ⟨by first | rfl | (rw [e1]; rfl), hg3⟩
  obtain ⟨n0, hn0⟩ : ∃ n0, byt l 0 = n0 + 64 := ⟨byt l 0 - 64, by omega⟩
  have eh : hdr l = 4 * n0 := by unfold hdr; omega
  rw [hn0] at c0
  have c0' : W1.cell? ⟨b, off, none⟩ = some (.int .u8 ((n0 : Int) + 64)) := by rw [c0]; rfl
  clear c0
  by_cases h3 : l.length < 4 * n0
  · have e1 : mcode l = 2 := by unfold mcode; rw [if_neg h1, if_neg h2, eh, if_pos h3]
    go_wp2_with (refine wpList_store_ip w W1 rfl _ _ rfl rfl w.heap.size rfl zeroP zeroP (.slice none 0 0) (.slice none 0 0) (.slice none 0 0) (.slice none 0 0) rfl rfl rfl (hk1) (hg1) (Nat.le_refl _) ?_; intro w3 hk3 hbut hg3)
    refine bodyPost_ret (results_ip rfl _ w3 w.heap.size _ _ _ rfl hk3) rfl ?_
    exact ⟨by first | rfl | (rw [e1]; rfl), hg3⟩
  have hbf := (h.grow hg1).front (show 4 * n0 ≤ l.length by omega)
  have hbl : (l.take (4 * n0)).length ≤ 281474976710656 := by simp; omega
  have l9 := ones_lt (l.take (4 * n0))
  by_cases h4 : ones (l.take (4 * n0)) ≠ 65535
  · have e1 : mcode l = 4 := by unfold mcode; rw [if_neg h1, if_neg h2, eh, if_neg h3, if_pos h4]
    have h4' : ((ones (l.take (4 * n0)) : Int) != 65535) = true := by simp; omega
    go_wp2_with fail
    refine (RSum_any _ _ _ hbf hbl).mono ?_
    rintro e w' ⟨rfl, rfl⟩
    go_wp2_with (refine wpList_store_ip w W1 rfl _ _ rfl rfl w.heap.size rfl zeroP zeroP (.slice none 0 0) (.slice none 0 0) (.slice none 0 0) (.slice none 0 0) rfl rfl rfl (hk1) (hg1) (Nat.le_refl _) ?_; intro w3 hk3 hbut hg3)
    refine bodyPost_ret (results_ip rfl _ w3 w.heap.size _ _ _ rfl hk3) rfl ?_
    exact ⟨by first | rfl | (rw [e1]; rfl), hg3⟩
  have h4' : ((ones (l.take (4 * n0)) : Int) != 65535) = false := by simp; omega
  have l2 := num_lt l 2
  have l6 := byt_lt l 6
  by_cases h5 : num l 2 < 4 * n0
  · have e1 : mcode l = 3 := by unfold mcode; rw [if_neg h1, if_neg h2, eh, if_neg h3, if_neg h4, if_pos (.inl h5)]
    go_wp2_with fail
    refine (RSum_any _ _ _ hbf hbl).mono ?_
    rintro e w' ⟨rfl, rfl⟩
    go_wp2_with fail
    refine (number_two _ 2 _ _ (h.grow hg1) (by omega) (by omega)).mono ?_
    rintro e w2 ⟨rfl, hg2⟩
    have hgw := hg1.trans hg2
    have c6 := celg w2 hgw 6 (by omega)
    go_wp2_with (refine wpList_store_ip w w2 rfl _ _ rfl rfl w.heap.size rfl zeroP zeroP (.slice none 0 0) (.slice none 0 0) (.slice none 0 0) (.slice none 0 0) rfl rfl rfl (hk1.grow hg2) (hgw) (Nat.le_refl _) ?_; intro w3 hk3 hbut hg3)
    refine bodyPost_ret (results_ip rfl _ w3 w.heap.size _ _ _ rfl hk3) rfl ?_
    exact ⟨by first | rfl | (rw [e1]; rfl), hg3⟩
  by_cases h6 : 128 ≤ byt l 6
  · have e1 : mcode l = 3 := by unfold mcode; rw [if_neg h1, if_neg h2, eh, if_neg h3, if_neg h4, if_pos (.inr h6)]
    go_wp2_with fail
    refine (RSum_any _ _ _ hbf hbl).mono ?_
    rintro e w' ⟨rfl, rfl⟩
    go_wp2_with fail
    refine (number_two _ 2 _ _ (h.grow hg1) (by omega) (by omega)).mono ?_
    rintro e w2 ⟨rfl, hg2⟩
    have hgw := hg1.trans hg2
    have c6 := celg w2 hgw 6 (by omega)
    go_wp2_with (refine wpList_store_ip w w2 rfl _ _ rfl rfl w.heap.size rfl zeroP zeroP (.slice none 0 0) (.slice none 0 0) (.slice none 0 0) (.slice none 0 0) rfl rfl rfl (hk1.grow hg2) (hgw) (Nat.le_refl _) ?_; intro w3 hk3 hbut hg3)
    refine bodyPost_ret (results_ip rfl _ w3 w.heap.size _ _ _ rfl hk3) rfl ?_
    exact ⟨by first | rfl | (rw [e1]; rfl), hg3⟩
  by_cases h7 : l.length < num l 2
  · have e1 : mcode l = 2 := by unfold mcode; rw [if_neg h1, if_neg h2, eh, if_neg h3, if_neg h4, if_neg (by omega), if_pos h7]
    go_wp2_with fail
    refine (RSum_any _ _ _ hbf hbl).mono ?_
    rintro e w' ⟨rfl, rfl⟩
    go_wp2_with fail
    refine (number_two _ 2 _ _ (h.grow hg1) (by omega) (by omega)).mono ?_
    rintro e w2 ⟨rfl, hg2⟩
    have hgw := hg1.trans hg2
    have c6 := celg w2 hgw 6 (by omega)
    go_wp2_with (refine wpList_store_ip w w2 rfl _ _ rfl rfl w.heap.size rfl zeroP zeroP (.slice none 0 0) (.slice none 0 0) (.slice none 0 0) (.slice none 0 0) rfl rfl rfl (hk1.grow hg2) (hgw) (Nat.le_refl _) ?_; intro w3 hk3 hbut hg3)
    refine bodyPost_ret (results_ip rfl _ w3 w.heap.size _ _ _ rfl hk3) rfl ?_
    exact ⟨by first | rfl | (rw [e1]; rfl), hg3⟩
  exact absurd (by unfold mcode; rw [if_neg h1, if_neg h2, eh, if_neg h3, if_neg h4, if_neg (by omega), if_neg h7]) hc

end Go.Proofs.Ytmibeahofienjaa
