/- The document's own answer: what a message is about, where it is about nothing. -/
import Derived.Test.YtbnnacohkemnhaaIcmRef
import Derived.Test.YtbnnacohkemnhaaIpRGetG
namespace Go.Proofs.Ytbnnacohkemnhaa
set_option linter.unusedVariables false
set_option linter.unusedSimpArgs false
open Go.ChangeShapes Go.WideShapes Go.ChangeAt Go.RowKit

set_option maxHeartbeats 8000000 in
theorem RCause7_bad (v : Value) (k : Icm) (w : World) (h : isIcm w v k) (hs : k.data.length ≤ 1000000) (hc : ccode k ≠ 0) :
    Calls Try.prog 23 #[v] w fun e w' => e = .returned (.tuple #[ipV zeroP (.slice none 0 0) (.slice none 0 0), .int .i64 (ccode k)]) ∧ Grow w w' := by
  obtain ⟨A, c, rfl, hd, hk⟩ := h.form
  obtain ⟨W1, hW1⟩ : ∃ W1, W1 = (w.alloc (.cells #[.int .u8 (k.kind : Int), .int .u8 (k.code : Int), .int .u32 (k.rest : Int), .slice A k.data.length c] 25)).alloc (.cells #[.int .u8 0, .int .u16 0, .bool false, .bool false, .int .i64 0, .int .u8 0, .int .u8 0, .int .u32 0, .int .u32 0, .slice none 0 0, .slice none 0 0] 47) := ⟨_, rfl⟩
  have hs0 : W1.heap.size = w.heap.size + 2 := by rw [hW1]; simp
  have hg1 : Grow w W1 := by rw [hW1]; exact (Grow.alloc w _).trans (Grow.alloc _ _)
  have hB1 : Icmbox W1 w.heap.size k (.slice A k.data.length c) := by rw [hW1]; exact (Icmbox.new _ _ _).grow (Grow.alloc _ _)
  have hk1 : Blk W1 (w.heap.size + 1) zeroP (.slice none 0 0) (.slice none 0 0) := by
    have := Blk.new (w.alloc (.cells #[.int .u8 (k.kind : Int), .int .u8 (k.code : Int), .int .u32 (k.rest : Int), .slice A k.data.length c] 25)) zeroP (.slice none 0 0) (.slice none 0 0)
    rw [World.size_alloc] at this
    rw [hW1]
    exact this
  have hsz : w.heap.size ≤ w.heap.size + 1 := by omega
  obtain ⟨b0, b1, b2, b3⟩ := id hB1
  have hk0 := hk.kind
  by_cases h1 : isErr k = false
  · have e1 : ccode k = 6 := by unfold ccode; rw [if_pos h1]
    have h1' := of_decide_eq_false h1
    have e3 : ((k.kind : Int) != 3) = true := bne_iff_ne.2 (by omega)
    have e11 : ((k.kind : Int) != 11) = true := bne_iff_ne.2 (by omega)
    clear h1'
    go_enter Try.func23, Try.ntmps23
    go_upto_if 16 with fail
    rw [← hW1]
    clear hW1
    go_wp2_with (refine wpList_store_ip w W1 rfl _ _ rfl rfl (w.heap.size + 1) rfl zeroP zeroP (.slice none 0 0) (.slice none 0 0) (.slice none 0 0) (.slice none 0 0) rfl rfl rfl hk1 hg1 hsz ?_; intro w3 hk3 hbut hg3)
    refine bodyPost_ret (results_ip rfl _ w3 (w.heap.size + 1) _ _ _ rfl hk3) rfl ?_
    exact ⟨by first | rfl | (rw [e1]; rfl), hg3⟩
  have hkind : ((k.kind : Int) != 3) = false ∨ (((k.kind : Int) != 3) = true ∧ ((k.kind : Int) != 11) = false) := by
    have h1t : isErr k = true := by simpa using h1
    have := of_decide_eq_true (show decide (k.kind = 3 ∨ k.kind = 11) = true from h1t)
    rcases this with h | h
    · exact .inl (by rw [h]; rfl)
    · exact .inr ⟨by rw [h]; rfl, by rw [h]; rfl⟩
  rcases hkind with e3 | ⟨e3, e11⟩
  · skip
    go_enter Try.func23, Try.ntmps23
    go_upto_if 16 with fail
    rw [← hW1]
    clear hW1
    by_cases h2 : k.data.length < 28
    · have e1 : ccode k = 2 := by unfold ccode; rw [if_neg h1, if_pos h2]
      go_wp2_with (refine wpList_store_ip w W1 rfl _ _ rfl rfl (w.heap.size + 1) rfl zeroP zeroP (.slice none 0 0) (.slice none 0 0) (.slice none 0 0) (.slice none 0 0) rfl rfl rfl hk1 hg1 hsz ?_; intro w3 hk3 hbut hg3)
      refine bodyPost_ret (results_ip rfl _ w3 (w.heap.size + 1) _ _ _ rfl hk3) rfl ?_
      exact ⟨by first | rfl | (rw [e1]; rfl), hg3⟩
    obtain ⟨b, off, rfl, hb, hcell⟩ := hd.at_ (by omega)
    have l0 := byt_lt k.data 0
    have c0 : W1.cell? ⟨b, off, none⟩ = some (.int .u8 (byt k.data 0 : Int)) := by
      have := hcell 0 (by omega)
      rw [byt_at] at this
      exact (hg1.cell (p := ⟨b, off, none⟩) hb).trans this
    have i0 : 0 < k.data.length := by omega
    by_cases h3 : byt k.data 0 < 69 ∨ 79 < byt k.data 0
    · have e1 : ccode k = 3 := by unfold ccode; rw [if_neg h1, if_neg h2, if_pos h3]
      generalize byt k.data 0 = x0 at *
      rcases h3 with h3 | h3
      · skip
        go_wp2_with (refine wpList_store_ip w W1 rfl _ _ rfl rfl (w.heap.size + 1) rfl zeroP zeroP (.slice none 0 0) (.slice none 0 0) (.slice none 0 0) (.slice none 0 0) rfl rfl rfl hk1 hg1 hsz ?_; intro w3 hk3 hbut hg3)
        refine bodyPost_ret (results_ip rfl _ w3 (w.heap.size + 1) _ _ _ rfl hk3) rfl ?_
        exact ⟨by first | rfl | (rw [e1]; rfl), hg3⟩
      · skip
        go_wp2_with (refine wpList_store_ip w W1 rfl _ _ rfl rfl (w.heap.size + 1) rfl zeroP zeroP (.slice none 0 0) (.slice none 0 0) (.slice none 0 0) (.slice none 0 0) rfl rfl rfl hk1 hg1 hsz ?_; intro w3 hk3 hbut hg3)
        refine bodyPost_ret (results_ip rfl _ w3 (w.heap.size + 1) _ _ _ rfl hk3) rfl ?_
        exact ⟨by first | rfl | (rw [e1]; rfl), hg3⟩
    by_cases h4 : k.data.length < hdr k.data + 8
    · have e1 : ccode k = 2 := by unfold ccode; rw [if_neg h1, if_neg h2, if_neg h3, if_pos h4]
      obtain ⟨n0, hn0⟩ : ∃ n0, byt k.data 0 = n0 + 64 := ⟨byt k.data 0 - 64, by omega⟩
      have eh : hdr k.data = 4 * n0 := by unfold hdr; omega
      rw [hn0] at c0 l0 h3
      have c0' : W1.cell? ⟨b, off, none⟩ = some (.int .u8 ((n0 : Int) + 64)) := by rw [c0]; rfl
      rw [eh] at h4
      clear c0 eh hn0
      go_wp2_with (refine wpList_store_ip w W1 rfl _ _ rfl rfl (w.heap.size + 1) rfl zeroP zeroP (.slice none 0 0) (.slice none 0 0) (.slice none 0 0) (.slice none 0 0) rfl rfl rfl hk1 hg1 hsz ?_; intro w3 hk3 hbut hg3)
      refine bodyPost_ret (results_ip rfl _ w3 (w.heap.size + 1) _ _ _ rfl hk3) rfl ?_
      exact ⟨by first | rfl | (rw [e1]; rfl), hg3⟩
    exact absurd (by unfold ccode; rw [if_neg h1, if_neg h2, if_neg h3, if_neg h4]) hc
  · skip
    go_enter Try.func23, Try.ntmps23
    go_upto_if 16 with fail
    rw [← hW1]
    clear hW1
    by_cases h2 : k.data.length < 28
    · have e1 : ccode k = 2 := by unfold ccode; rw [if_neg h1, if_pos h2]
      go_wp2_with (refine wpList_store_ip w W1 rfl _ _ rfl rfl (w.heap.size + 1) rfl zeroP zeroP (.slice none 0 0) (.slice none 0 0) (.slice none 0 0) (.slice none 0 0) rfl rfl rfl hk1 hg1 hsz ?_; intro w3 hk3 hbut hg3)
      refine bodyPost_ret (results_ip rfl _ w3 (w.heap.size + 1) _ _ _ rfl hk3) rfl ?_
      exact ⟨by first | rfl | (rw [e1]; rfl), hg3⟩
    obtain ⟨b, off, rfl, hb, hcell⟩ := hd.at_ (by omega)
    have l0 := byt_lt k.data 0
    have c0 : W1.cell? ⟨b, off, none⟩ = some (.int .u8 (byt k.data 0 : Int)) := by
      have := hcell 0 (by omega)
      rw [byt_at] at this
      exact (hg1.cell (p := ⟨b, off, none⟩) hb).trans this
    have i0 : 0 < k.data.length := by omega
    by_cases h3 : byt k.data 0 < 69 ∨ 79 < byt k.data 0
    · have e1 : ccode k = 3 := by unfold ccode; rw [if_neg h1, if_neg h2, if_pos h3]
      generalize byt k.data 0 = x0 at *
      rcases h3 with h3 | h3
      · skip
        go_wp2_with (refine wpList_store_ip w W1 rfl _ _ rfl rfl (w.heap.size + 1) rfl zeroP zeroP (.slice none 0 0) (.slice none 0 0) (.slice none 0 0) (.slice none 0 0) rfl rfl rfl hk1 hg1 hsz ?_; intro w3 hk3 hbut hg3)
        refine bodyPost_ret (results_ip rfl _ w3 (w.heap.size + 1) _ _ _ rfl hk3) rfl ?_
        exact ⟨by first | rfl | (rw [e1]; rfl), hg3⟩
      · skip
        go_wp2_with (refine wpList_store_ip w W1 rfl _ _ rfl rfl (w.heap.size + 1) rfl zeroP zeroP (.slice none 0 0) (.slice none 0 0) (.slice none 0 0) (.slice none 0 0) rfl rfl rfl hk1 hg1 hsz ?_; intro w3 hk3 hbut hg3)
        refine bodyPost_ret (results_ip rfl _ w3 (w.heap.size + 1) _ _ _ rfl hk3) rfl ?_
        exact ⟨by first | rfl | (rw [e1]; rfl), hg3⟩
    by_cases h4 : k.data.length < hdr k.data + 8
    · have e1 : ccode k = 2 := by unfold ccode; rw [if_neg h1, if_neg h2, if_neg h3, if_pos h4]
      obtain ⟨n0, hn0⟩ : ∃ n0, byt k.data 0 = n0 + 64 := ⟨byt k.data 0 - 64, by omega⟩
      have eh : hdr k.data = 4 * n0 := by unfold hdr; omega
      rw [hn0] at c0 l0 h3
      have c0' : W1.cell? ⟨b, off, none⟩ = some (.int .u8 ((n0 : Int) + 64)) := by rw [c0]; rfl
      rw [eh] at h4
      clear c0 eh hn0
      go_wp2_with (refine wpList_store_ip w W1 rfl _ _ rfl rfl (w.heap.size + 1) rfl zeroP zeroP (.slice none 0 0) (.slice none 0 0) (.slice none 0 0) (.slice none 0 0) rfl rfl rfl hk1 hg1 hsz ?_; intro w3 hk3 hbut hg3)
      refine bodyPost_ret (results_ip rfl _ w3 (w.heap.size + 1) _ _ _ rfl hk3) rfl ?_
      exact ⟨by first | rfl | (rw [e1]; rfl), hg3⟩
    exact absurd (by unfold ccode; rw [if_neg h1, if_neg h2, if_neg h3, if_neg h4]) hc
end Go.Proofs.Ytbnnacohkemnhaa
