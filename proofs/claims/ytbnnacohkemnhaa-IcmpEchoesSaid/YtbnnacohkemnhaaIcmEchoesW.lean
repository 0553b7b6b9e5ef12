/- The walk of the law on questions and answers. -/
import Derived.Test.YtbnnacohkemnhaaIcmLive
import Derived.Test.YtbnnacohkemnhaaIcmRef
namespace Go.Proofs.Ytbnnacohkemnhaa
set_option linter.unusedVariables false
set_option linter.unusedSimpArgs false
open Go.ChangeShapes Go.WideShapes Go.ChangeAt Go.RowKit

set_option maxRecDepth 10000 in
set_option maxHeartbeats 8000000 in
theorem icmpEchoes_walk (w : World) {v : Value} {k : Icm} (h : isIcm w v k) (a : Int) (ha : 0 ≤ a ∧ a ≤ 65535) (b : Int) (hb : 0 ≤ b ∧ b ≤ 65535) :
    Calls Try.prog 5 #[v, .int .u16 a, .int .u16 b] w fun e w' => e = .returned (.bool true) ∧ Grow w w' := by
  obtain ⟨a, rfl⟩ := Int.eq_ofNat_of_zero_le ha.1
  obtain ⟨b, rfl⟩ := Int.eq_ofNat_of_zero_le hb.1
  have ha1 : a < 65536 := by omega
  have hb1 : b < 65536 := by omega
  clear ha hb
  obtain ⟨A, c, rfl, hd, hk⟩ := h.form
  obtain ⟨hcl, hcm0⟩ := hd.len.2
  unfold maxLen at hcm0
  obtain ⟨W1, hW1⟩ : ∃ W1, W1 = w.alloc (.cells #[.int .u8 (k.kind : Int), .int .u8 (k.code : Int), .int .u32 (k.rest : Int), .slice A k.data.length c] 25) := ⟨_, rfl⟩
  have hg1 : Grow w W1 := by rw [hW1]; exact Grow.alloc w _
  have hB1 : Icmbox W1 w.heap.size k (.slice A k.data.length c) := by rw [hW1]; exact Icmbox.new _ _ _
  have hip := h.grow hg1
  obtain ⟨b0, b1, b2, b3⟩ := id hB1
  by_cases hL : 1000 < k.data.length
  · skip
    go_enter Try.func5, Try.ntmps5
    go_wp2_with fail
    rw [← hW1]
    refine (icmLive_any _).mono ?_
    rintro e wl ⟨rfl, hgl⟩
    go_wp2_with fail
    go_ret
    exact ⟨rfl, hg1.trans hgl⟩
  have hl : k.data.length ≤ 1000000 := by omega
  obtain ⟨N, hN⟩ : ∃ N : Nat, N = 65536 * a + b := ⟨_, rfl⟩
  have hN1 : N < 4294967296 := by omega
  have w1 : IntKind.u32.wrap ((a : Int) * 65536) = (a : Int) * 65536 := by
    simp only [IntKind.wrap, IntKind.signed, IntKind.bits]
    simp
    omega
  have w2 : (a : Int) * 65536 + (b : Int) = (N : Int) := by omega
  have w3 : IntKind.u32.wrap ((a : Int) * 65536 + (b : Int)) = (N : Int) := by
    rw [w2]
    simp only [IntKind.wrap, IntKind.signed, IntKind.bits]
    simp
    omega
  have hqok : (⟨8, 0, N, k.data⟩ : Icm).Ok := ⟨trivial, (by decide : (8 : Nat) < 256), (by decide : (0 : Nat) < 256), hN1⟩
  have HN := Lib.hid hN
  clear hN
  go_enter Try.func5, Try.ntmps5
  go_wp2_with fail
  rw [← hW1]
  clear hW1
  refine (icmEcho_any a b _ k.data _ (hd.grow hg1) ha1 hb1 hl).mono ?_
  rw [← HN.out]
  rintro e w2 ⟨vq, rfl, hoq, hg2⟩
  have bq := hoq.byt
  obtain ⟨B6, m6, d6, rfl, _⟩ := bq.form2
  clear b0 b1 b2 b3
  go_wp2_with (refine wpList_store_Icm w2 _ rfl _ _ rfl rfl w2.heap.size rfl ⟨8, 0, N, k.data⟩ zeroM (.slice B6 m6 d6) (.slice none 0 0) (by rfl) rfl (Icmblk.new w2 zeroM (.slice none 0 0)) (Grow.alloc _ _) (Nat.le_refl _) ?_; intro w3 hk3 _ hg3; obtain ⟨b0, b1, b2, b3⟩ := hB1.grow (hg2.trans hg3); obtain ⟨d0, d1, d2, d3⟩ := hk3.boxd)
  have hg03 := hg1.trans (hg2.trans hg3)
  refine (RSame7_yes _ _ ⟨8, 0, N, k.data⟩ ⟨8, 0, N, k.data⟩ _ ⟨_, rfl, bq.grow hg3, hqok⟩ ⟨_, rfl, hd.grow hg03, hqok⟩ rfl).mono ?_
  rintro e w4 ⟨rfl, hg4⟩
  have hg04 := hg03.trans hg4
  have hip4 := h.grow hg04
  have hB4 := (hB1.grow (hg2.trans hg3)).grow hg4
  have bq4 := (bq.grow hg3).grow hg4
  clear b0 b1 b2 b3 d0 d1 d2 d3
  obtain ⟨b0, b1, b2, b3⟩ := id hB4
  obtain ⟨d0, d1, d2, d3⟩ := (hk3.grow hg4).boxd
  by_cases hk8 : ¬ (k.kind = 8 ∧ k.code = 0)
  · by_cases h8 : k.kind = 8
    · have e1 : ((k.kind : Int) != 8) = false := by rw [h8]; rfl
      have e2 : ((k.code : Int) != 0) = true := bne_iff_ne.2 (by omega)
      clear h8
      go_wp2_with fail
      refine (icmReply_bad _ k _ hip4 hk8).mono ?_
      rintro e w5 ⟨rfl, hg5⟩
      clear b0 b1 b2 b3 d0 d1 d2 d3
      go_wp2_with (refine wpList_store_Icm w5 _ rfl _ _ rfl rfl w5.heap.size rfl zeroM zeroM (.slice none 0 0) (.slice none 0 0) (by rfl) rfl (Icmblk.new w5 zeroM (.slice none 0 0)) (Grow.alloc _ _) (Nat.le_refl _) ?_; intro w6 hk6 _ hg6; obtain ⟨b0, b1, b2, b3⟩ := (hB4.grow hg5).grow hg6; obtain ⟨d0, d1, d2, d3⟩ := ((hk3.grow hg4).grow (hg5.trans hg6)).boxd)
      have hg46 := hg5.trans hg6
      refine (icmReply_good _ ⟨8, 0, N, k.data⟩ _ ⟨_, rfl, bq4.grow hg46, hqok⟩ hl rfl rfl).mono ?_
      rintro e w7 ⟨vb, rfl, hob, hg7⟩
      have bb := hob.byt
      obtain ⟨B9, m9, d9, rfl, _⟩ := bb.form2
      clear b0 b1 b2 b3 d0 d1 d2 d3
      go_wp2_with (refine wpList_store_Icm w7 _ rfl _ _ rfl rfl w7.heap.size rfl ⟨0, 0, N, k.data⟩ zeroM (.slice B9 m9 d9) (.slice none 0 0) (by rfl) rfl (Icmblk.new w7 zeroM (.slice none 0 0)) (Grow.alloc _ _) (Nat.le_refl _) ?_; intro w8 hk8b _ hg8; obtain ⟨b0, b1, b2, b3⟩ := ((hB4.grow hg46).grow hg7).grow hg8; obtain ⟨f0, f1, f2, f3⟩ := ((hk6.grow hg7).grow hg8).boxd)
      refine (icmCode_any 6 _ (by omega) (by omega)).mono ?_
      rintro e w' ⟨rfl, rfl⟩
      go_wp2_with fail
      refine (RSame7_yes _ _ zeroM zeroM _ ⟨_, rfl, Byt.nil _, zeroM_ok⟩ ⟨_, rfl, Byt.nil _, zeroM_ok⟩ rfl).mono ?_
      rintro e w9 ⟨rfl, hg9⟩
      go_wp2_with fail
      refine (icmCode_any 0 _ (by omega) (by omega)).mono ?_
      rintro e w' ⟨rfl, rfl⟩
      go_wp2_with fail
      refine (icmLive_any _).mono ?_
      rintro e wl ⟨rfl, hgl⟩
      go_wp2_with fail
      go_ret
      exact ⟨rfl, ((hg04.trans hg46).trans (hg7.trans hg8)).trans (hg9.trans hgl)⟩
    · have e1 : ((k.kind : Int) != 8) = true := bne_iff_ne.2 (by omega)
      clear h8
      go_wp2_with fail
      refine (icmReply_bad _ k _ hip4 hk8).mono ?_
      rintro e w5 ⟨rfl, hg5⟩
      clear b0 b1 b2 b3 d0 d1 d2 d3
      go_wp2_with (refine wpList_store_Icm w5 _ rfl _ _ rfl rfl w5.heap.size rfl zeroM zeroM (.slice none 0 0) (.slice none 0 0) (by rfl) rfl (Icmblk.new w5 zeroM (.slice none 0 0)) (Grow.alloc _ _) (Nat.le_refl _) ?_; intro w6 hk6 _ hg6; obtain ⟨b0, b1, b2, b3⟩ := (hB4.grow hg5).grow hg6; obtain ⟨d0, d1, d2, d3⟩ := ((hk3.grow hg4).grow (hg5.trans hg6)).boxd)
      have hg46 := hg5.trans hg6
      refine (icmReply_good _ ⟨8, 0, N, k.data⟩ _ ⟨_, rfl, bq4.grow hg46, hqok⟩ hl rfl rfl).mono ?_
      rintro e w7 ⟨vb, rfl, hob, hg7⟩
      have bb := hob.byt
      obtain ⟨B9, m9, d9, rfl, _⟩ := bb.form2
      clear b0 b1 b2 b3 d0 d1 d2 d3
      go_wp2_with (refine wpList_store_Icm w7 _ rfl _ _ rfl rfl w7.heap.size rfl ⟨0, 0, N, k.data⟩ zeroM (.slice B9 m9 d9) (.slice none 0 0) (by rfl) rfl (Icmblk.new w7 zeroM (.slice none 0 0)) (Grow.alloc _ _) (Nat.le_refl _) ?_; intro w8 hk8b _ hg8; obtain ⟨b0, b1, b2, b3⟩ := ((hB4.grow hg46).grow hg7).grow hg8; obtain ⟨f0, f1, f2, f3⟩ := ((hk6.grow hg7).grow hg8).boxd)
      refine (icmCode_any 6 _ (by omega) (by omega)).mono ?_
      rintro e w' ⟨rfl, rfl⟩
      go_wp2_with fail
      refine (RSame7_yes _ _ zeroM zeroM _ ⟨_, rfl, Byt.nil _, zeroM_ok⟩ ⟨_, rfl, Byt.nil _, zeroM_ok⟩ rfl).mono ?_
      rintro e w9 ⟨rfl, hg9⟩
      go_wp2_with fail
      refine (icmCode_any 0 _ (by omega) (by omega)).mono ?_
      rintro e w' ⟨rfl, rfl⟩
      go_wp2_with fail
      refine (icmLive_any _).mono ?_
      rintro e wl ⟨rfl, hgl⟩
      go_wp2_with fail
      go_ret
      exact ⟨rfl, ((hg04.trans hg46).trans (hg7.trans hg8)).trans (hg9.trans hgl)⟩
  replace hk8 : k.kind = 8 ∧ k.code = 0 := Decidable.not_not.1 hk8
  obtain ⟨h8, h0⟩ := hk8
  have e1 : ((k.kind : Int) != 8) = false := by rw [h8]; rfl
  have e2 : ((k.code : Int) != 0) = false := by rw [h0]; rfl
  have H0 := Lib.hid h0
  have H8 := Lib.hid h8
  clear h0 h8
  have k3 := hk.rest
  have kc := hk.code
  go_wp2_with fail
  refine (icmReply_good _ k _ hip4 hl H8.out H0.out).mono ?_
  rintro e w5 ⟨va, rfl, hoa, hg5⟩
  have ba := hoa.byt
  obtain ⟨B5, m5, d5, rfl, _⟩ := ba.form2
  clear b0 b1 b2 b3 d0 d1 d2 d3
  go_wp2_with (refine wpList_store_Icm w5 _ rfl _ _ rfl rfl w5.heap.size rfl ⟨0, 0, k.rest, k.data⟩ zeroM (.slice B5 m5 d5) (.slice none 0 0) (by rfl) rfl (Icmblk.new w5 zeroM (.slice none 0 0)) (Grow.alloc _ _) (Nat.le_refl _) ?_; intro w6 hk6 _ hg6; obtain ⟨b0, b1, b2, b3⟩ := (hB4.grow hg5).grow hg6; obtain ⟨d0, d1, d2, d3⟩ := ((hk3.grow hg4).grow (hg5.trans hg6)).boxd)
  have hg46 := hg5.trans hg6
  refine (icmReply_good _ ⟨8, 0, N, k.data⟩ _ ⟨_, rfl, bq4.grow hg46, hqok⟩ hl rfl rfl).mono ?_
  rintro e w7 ⟨vb, rfl, hob, hg7⟩
  have bb := hob.byt
  obtain ⟨B9, m9, d9, rfl, _⟩ := bb.form2
  clear b0 b1 b2 b3 d0 d1 d2 d3
  go_wp2_with (first | (refine wpList_store_Icm w7 _ rfl _ _ rfl rfl w7.heap.size rfl ⟨0, 0, N, k.data⟩ zeroM (.slice B9 m9 d9) (.slice none 0 0) (by rfl) rfl (Icmblk.new w7 zeroM (.slice none 0 0)) (Grow.alloc _ _) (Nat.le_refl _) ?_; intro w8 hk8b _ hg8; obtain ⟨b0, b1, b2, b3⟩ := ((hB4.grow hg46).grow hg7).grow hg8) | (refine wpList_store_Icm w8 _ rfl _ _ rfl rfl w8.heap.size rfl k zeroM (.slice A k.data.length c) (.slice none 0 0) (by rfl) rfl (Icmblk.new w8 zeroM (.slice none 0 0)) (Grow.alloc _ _) (Nat.le_refl _) ?_; intro w9 hk9 _ hg9) | (refine wpList_fld_Icm w8 w9 rfl _ _ _ rfl rfl w8.heap.size 0 (.int .u8 0) rfl rfl k ⟨0, k.code, k.rest, k.data⟩ (.slice A k.data.length c) (.slice A k.data.length c) hk9 (by kernel_rfl) rfl (by omega) rfl hg9 (Nat.le_refl _) ?_; intro w10 hk10 _ hg10))
  refine (icmCode_any 0 _ (by omega) (by omega)).mono ?_
  rintro e w' ⟨rfl, rfl⟩
  go_wp2_with fail
  refine (icmCode_any 0 _ (by omega) (by omega)).mono ?_
  rintro e w' ⟨rfl, rfl⟩
  have hg68 := (hg7.trans hg8).trans hg10
  have hg410 := hg46.trans hg68
  clear b0 b1 b2 b3
  obtain ⟨b0, b1, b2, b3⟩ := (hk6.grow hg68).boxd
  obtain ⟨d0, d1, d2, d3⟩ := hk10.boxd
  obtain ⟨f0, f1, f2, f3⟩ := (hk8b.grow hg10).boxd
  obtain ⟨p0, p1, p2, p3⟩ := ((hk3.grow hg4).grow hg410).boxd
  go_wp2_with fail
  refine (RSame7_yes _ _ ⟨0, 0, k.rest, k.data⟩ ⟨0, k.code, k.rest, k.data⟩ _ ⟨_, rfl, (ba.grow hg6).grow hg68, ⟨trivial, (by decide : (0 : Nat) < 256), (by decide : (0 : Nat) < 256), k3⟩⟩ ⟨_, rfl, (hd.grow hg04).grow hg410, ⟨trivial, (by decide : (0 : Nat) < 256), kc, k3⟩⟩ (by rw [H0.out])).mono ?_
  rintro e w11 ⟨rfl, hg11⟩
  clear b0 b1 b2 b3 d0 d1 d2 d3 f0 f1 f2 f3 p0 p1 p2 p3
  obtain ⟨f0, f1, f2, f3⟩ := ((hk8b.grow hg10).grow hg11).boxd
  obtain ⟨p0, p1, p2, p3⟩ := (((hk3.grow hg4).grow hg410).grow hg11).boxd
  go_wp2_with fail
  refine (icmLive_any _).mono ?_
  rintro e wl ⟨rfl, hgl⟩
  go_wp2_with fail
  go_ret
  exact ⟨rfl, (hg04.trans hg410).trans (hg11.trans hgl)⟩
end Go.Proofs.Ytbnnacohkemnhaa
