/- The walk of the law on two bytes turned. -/
import Derived.Test.YtmblfenindjeiaaGramLive
import Derived.Test.YtmblfenindjeiaaGramRef
import Derived.Test.YtmblfenindjeiaaApp
import Derived.BigQuiet
namespace Go.Proofs.Ytmblfenindjeiaa
set_option linter.unusedVariables false
set_option linter.unusedSimpArgs false
open Go.ChangeShapes Go.WideShapes Go.ChangeAt Go.RowKit

theorem gbytes_byt (g : Gram) (n k : Nat) : byt (g.bytes n) (8 + k) = byt g.data k := by
  have e : (g.top ++ two (n : Int)).length = 8 := by simp [gtop_length, two_length]
  unfold byt Gram.bytes
  rw [List.getElem?_append_right (by omega), e, Nat.add_sub_cancel_left]

set_option maxHeartbeats 2000000 in
theorem gramTurned_out (w : World) (s d : Nat) (hs : s < 4294967296) (hd4 : d < 4294967296) {v : Value} {g : Gram} (h : isGram w v g) (at_ now : Nat) (hL : 1000 < g.data.length ∨ g.data.length < 2) :
    Calls Try.prog 5 #[.int .u32 (s : Int), .int .u32 (d : Int), v, .int .u16 (at_ : Int), .int .u16 (now : Int)] w fun e w' => e = .returned (.bool true) ∧ Grow w w' := by
  obtain ⟨A, c, rfl, hd, hk⟩ := h.form
  obtain ⟨hcl0, hcm0⟩ := hd.len.2
  unfold maxLen at hcm0
  obtain ⟨W1, hW1⟩ : ∃ W1, W1 = w.alloc (.cells #[.int .u16 (g.src : Int), .int .u16 (g.dst : Int), .slice A g.data.length c] 26) := ⟨_, rfl⟩
  have hg1 : Grow w W1 := by rw [hW1]; exact Grow.alloc w _
  have hB1 : Grambox W1 w.heap.size g (.slice A g.data.length c) := by rw [hW1]; exact Grambox.new _ _ _
  obtain ⟨b0, b1, b2⟩ := id hB1
  by_cases hA : 1000 < g.data.length
  · go_enter Try.func5, Try.ntmps5
    go_wp2_with fail
    rw [← hW1]
    refine (gramLive_any _).mono ?_
    rintro e wl ⟨rfl, hgl⟩
    go_wp2_with fail
    go_ret
    exact ⟨rfl, hg1.trans hgl⟩
  · have hB : g.data.length < 2 := by omega
    go_enter Try.func5, Try.ntmps5
    go_wp2_with fail
    rw [← hW1]
    refine (gramLive_any _).mono ?_
    rintro e wl ⟨rfl, hgl⟩
    go_wp2_with fail
    go_ret
    exact ⟨rfl, hg1.trans hgl⟩

set_option maxRecDepth 10000 in
set_option maxHeartbeats 8000000 in
theorem gramTurned_in (w : World) (s d : Nat) (hs : s < 4294967296) (hd4 : d < 4294967296) {v : Value} {g : Gram} (h : isGram w v g) (at_ now : Nat) (ha : at_ < 65536) (hn : now < 65536) (hL : g.data.length ≤ 1000) (hL2 : 2 ≤ g.data.length) :
    Calls Try.prog 5 #[.int .u32 (s : Int), .int .u32 (d : Int), v, .int .u16 (at_ : Int), .int .u16 (now : Int)] w fun e w' => e = .returned (.bool true) ∧ Grow w w' := by
  obtain ⟨A, c, rfl, hd, hk⟩ := h.form
  obtain ⟨W1, hW1⟩ : ∃ W1, W1 = w.alloc (.cells #[.int .u16 (g.src : Int), .int .u16 (g.dst : Int), .slice A g.data.length c] 26) := ⟨_, rfl⟩
  have hg1 : Grow w W1 := by rw [hW1]; exact Grow.alloc w _
  have hB1 : Grambox W1 w.heap.size g (.slice A g.data.length c) := by rw [hW1]; exact Grambox.new _ _ _
  have hip := h.grow hg1
  have hsz := hg1.size
  have hPut := gPut_good s d _ g _ hs hd4 hip (by omega)
  obtain ⟨b0, b1, b2⟩ := id hB1
  -- where
  obtain ⟨j, hj⟩ : ∃ j, j = at_ % (g.data.length / 2) := ⟨_, rfl⟩
  have hjl := Nat.mod_lt at_ (show 0 < g.data.length / 2 by omega)
  rw [← hj] at hjl
  have KK : (at_ : Int) % ((g.data.length : Int) / 2) = (j : Int) := by rw [hj]; simp
  have KT : ((at_ : Int)).tmod ((g.data.length : Int) / 2) = (j : Int) := by rw [Int.tmod_eq_emod_of_nonneg (by omega), KK]
  clear hj
  obtain ⟨k, hk2⟩ : ∃ k, k = 2 * j := ⟨_, rfl⟩
  have KJ : (j : Int) * 2 = (k : Int) := by omega
  have hke : k % 2 = 0 := by omega
  have hkl : k + 1 < g.data.length := by omega
  clear hk2
  obtain ⟨p, hp⟩ : ∃ p, p = 8 + k := ⟨_, rfl⟩
  have K8 : (8 : Int) + (k : Int) = (p : Int) := by omega
  have K9 : (9 : Int) + (k : Int) = (p : Int) + 1 := by omega
  -- what was there, and what comes
  obtain ⟨LA, hLA⟩ : ∃ LA, LA = g.bytes (gcheck s d g) := ⟨_, rfl⟩
  have hla : LA.length = 8 + g.data.length := by rw [hLA]; exact gbytes_length g _
  obtain ⟨u0, hu0⟩ : ∃ u0, u0 = byt LA p := ⟨_, rfl⟩
  obtain ⟨u1, hu1⟩ : ∃ u1, u1 = byt LA (p + 1) := ⟨_, rfl⟩
  have v0 : u0 < 256 := by rw [hu0]; exact byt_lt _ _
  have v1 : u1 < 256 := by rw [hu1]; exact byt_lt _ _
  obtain ⟨was, hwas⟩ : ∃ was, was = 256 * u0 + u1 := ⟨_, rfl⟩
  have KW : 256 * (u0 : Int) + (u1 : Int) = (was : Int) := by omega
  have hw2 : was < 65536 := by omega
  obtain ⟨a, haa⟩ : ∃ a, a = UInt8.ofNat (now / 256) := ⟨_, rfl⟩
  obtain ⟨b, hbb⟩ : ∃ b, b = UInt8.ofNat (now % 256) := ⟨_, rfl⟩
  have q1 : (now : Int) / 256 = (a.toNat : Int) := by rw [haa, UInt8.toNat_ofNat']; omega
  have q2 : (now : Int) % 256 = (b.toNat : Int) := by rw [hbb, UInt8.toNat_ofNat']; omega
  have hnow : now = 256 * a.toNat + b.toNat := by omega
  have hwas2 : was = 256 * byt g.data k + byt g.data (k + 1) := by
    have e2 : p + 1 = 8 + (k + 1) := by omega
    rw [hwas, hu0, hu1, e2, hp, hLA, gbytes_byt, gbytes_byt]
  have C := gturned_code s d g k a b hk (by omega) hke hkl was now hwas2 hnow
  have D := gturned_data s d g k a b hk (by omega) hkl
  rw [← hLA] at C D hPut
  rw [← hp, show 9 + k = p + 1 by omega] at C D
  obtain ⟨L5, hL5⟩ : ∃ L5, L5 = (LA.set p a).set (p + 1) b := ⟨_, rfl⟩
  have hl5 : L5.length ≤ 1000000 := by rw [hL5, List.length_set, List.length_set]; omega
  rw [← hL5] at C D
  have HC := Lib.hid C
  have HD := Lib.hid D
  have H5 := Lib.hid hL5
  have U0 := Lib.hid hu0
  have U1 := Lib.hid hu1
  have HLA := Lib.hid hla
  have hp1 : p + 1 < LA.length := by omega
  have hp2 : p < LA.length := by omega
  have hl0 : 0 < LA.length := by omega
  have WM : IntKind.i64.wrap ((was : Int) * (now : Int)) = (was : Int) * (now : Int) := by
    have m1 : was * now ≤ 65536 * 65536 := Nat.mul_le_mul (by omega) (by omega)
    have m2 : (was : Int) * (now : Int) = ((was * now : Nat) : Int) := by simp
    rw [m2]
    exact IntWalk.i64_in _ (by omega)
  clear C D hL5 hu0 hu1 hwas hwas2 haa hbb hnow hp hLA hke hkl
  have i0 : ((g.data.length : Int) / 2 == 0) = false := beq_eq_false_iff_ne.2 (by omega)
  have i1 : ¬ (g.data.length : Int) / 2 = 0 := by omega
  have hA0 : ¬ 1000 < g.data.length := by omega
  have hB0 : ¬ g.data.length < 2 := by omega
  have hne : ((LA.length : Int) != 8 + (g.data.length : Int)) = false := by rw [HLA.out]; simp
  clear hla
  go_enter Try.func5, Try.ntmps5
  go_wp2_with fail
  rw [← hW1]
  clear hW1
  refine hPut.mono ?_
  rintro e w4 ⟨u, rfl, ho4, hg4⟩
  clear hPut
  obtain ⟨gb, cap, rfl, hbg, hlt, hnc, hcm, hcell⟩ := ho4.row hl0
  clear b0 b1 b2
  obtain ⟨b0, b1, b2⟩ := hB1.grow hg4
  go_wp2_with fail
  refine (gramCode_any 0 _ (by omega) (by omega)).mono ?_
  rintro e w' ⟨rfl, rfl⟩
  have k1 : w4.cell? ⟨gb, p, none⟩ = some (.int .u8 (u0 : Int)) := by rw [(hcell p hp2).1, byt_at, ← U0.out]
  have k2 : w4.cell? ⟨gb, p + 1, none⟩ = some (.int .u8 (u1 : Int)) := by rw [(hcell (p + 1) hp1).1, byt_at, ← U1.out]
  unfold maxLen at hcm
  have z1 := (hcell p hp2).2
  have z2 := (hcell (p + 1) hp1).2
  clear hcell
  go_wp2_with fail
  go_quiet (fail)
  have hgq : Grow w4 (w4.drewN nq) := below_drewN (Grow.refl w4) _
  obtain ⟨w5, hw5⟩ : ∃ w5, w5 = w4.drewN nq := ⟨_, rfl⟩
  rw [← hw5] at hgq ⊢
  clear hw5
  have ho5 := ho4.grow hgq
  have k3 := (hgq.cell (p := ⟨gb, p, none⟩) hlt).trans k1
  have k4 := (hgq.cell (p := ⟨gb, p + 1, none⟩) hlt).trans k2
  have z3 := (hgq.frozen (p := ⟨gb, p, none⟩) hlt).trans z1
  have z4 := (hgq.frozen (p := ⟨gb, p + 1, none⟩) hlt).trans z2
  clear k1 k2 z1 z2 b0 b1 b2
  go_wp2_with fail
  have hO := (ho5.set p a _ rfl).set (p + 1) b _ rfl
  have hgs : Grow W1 ((w5.setCell ⟨gb, p, none⟩ (.int .u8 (a.toNat : Int))).setCell ⟨gb, p + 1, none⟩ (.int .u8 (b.toNat : Int))) := ((hg4.trans hgq).setCell (p := ⟨gb, p, none⟩) hbg _).setCell (p := ⟨gb, p + 1, none⟩) hbg _
  obtain ⟨w6, hw6⟩ : ∃ w6, w6 = (w5.setCell ⟨gb, p, none⟩ (.int .u8 (a.toNat : Int))).setCell ⟨gb, p + 1, none⟩ (.int .u8 (b.toNat : Int)) := ⟨_, rfl⟩
  rw [← hw6] at hO hgs ⊢
  rw [← H5.out] at hO
  clear hw6 k3 k4 z3 z4
  by_cases hy : was = now ∨ (was + now = 65535 ∧ was * now = 0)
  · by_cases hw : was = now
    · have B1 : ((was : Int) == (now : Int)) = true := by rw [hw]; exact beq_self_eq_true _
      have hc0 : gcode s d L5 = 0 := by rw [HC.out, if_pos hy]
      have hdl : (gres s d L5).data.length = g.data.length := by unfold gres; rw [if_pos hc0]; exact HD.out
      refine (gGet_any s d _ L5 _ hs hd4 hO.byt hl5).mono ?_
      rw [hc0]
      rintro e w7 ⟨vd, rfl, hvd, hg7⟩
      have hok := gres_ok s d L5
      obtain ⟨r, hr⟩ : ∃ r, r = gres s d L5 := ⟨_, rfl⟩
      rw [← hr] at hvd hdl hok ⊢
      obtain ⟨B6, d6, rfl, hcB, hcM⟩ := hvd.byt.form
      rw [hdl] at hcB ⊢
      clear hr hc0 hdl hvd hy hw
      go_wp2_with (refine wpList_store_Gram W1 _ rfl _ _ rfl rfl w7.heap.size rfl r zeroG (.slice B6 g.data.length d6) (.slice none 0 0) (by rfl) rfl (Gramblk.new w7 zeroG (.slice none 0 0)) ((hgs.trans hg7).trans (Grow.alloc _ _)) (hgs.trans hg7).size ?_; intro w8 hk8 _ hg8; obtain ⟨x0, x1, x2⟩ := hk8.boxd; obtain ⟨b0, b1, b2⟩ := hB1.grow hg8)
      refine (gramCode_any 0 _ (by omega) (by omega)).mono ?_
      rintro e w' ⟨rfl, rfl⟩
      go_wp2_with fail
      refine (gramLive_any _).mono ?_
      rintro e wl ⟨rfl, hgl⟩
      go_wp2_with fail
      go_ret
      exact ⟨rfl, hg1.trans (hg8.trans hgl)⟩
    · obtain ⟨h5, h6⟩ : was + now = 65535 ∧ was * now = 0 := hy.resolve_left hw
      have B1 : ((was : Int) == (now : Int)) = false := beq_eq_false_iff_ne.2 (by omega)
      have B2 : ((was : Int) + (now : Int) == 65535) = true := beq_iff_eq.2 (by omega)
      have B3 : ((was : Int) * (now : Int) == 0) = true := beq_iff_eq.2 (by rw [← Int.natCast_mul, h6]; rfl)
      have hc0 : gcode s d L5 = 0 := by rw [HC.out, if_pos hy]
      have hdl : (gres s d L5).data.length = g.data.length := by unfold gres; rw [if_pos hc0]; exact HD.out
      refine (gGet_any s d _ L5 _ hs hd4 hO.byt hl5).mono ?_
      rw [hc0]
      rintro e w7 ⟨vd, rfl, hvd, hg7⟩
      have hok := gres_ok s d L5
      obtain ⟨r, hr⟩ : ∃ r, r = gres s d L5 := ⟨_, rfl⟩
      rw [← hr] at hvd hdl hok ⊢
      obtain ⟨B6, d6, rfl, hcB, hcM⟩ := hvd.byt.form
      rw [hdl] at hcB ⊢
      clear hr hc0 hdl hvd hy hw h5 h6
      go_wp2_with (refine wpList_store_Gram W1 _ rfl _ _ rfl rfl w7.heap.size rfl r zeroG (.slice B6 g.data.length d6) (.slice none 0 0) (by rfl) rfl (Gramblk.new w7 zeroG (.slice none 0 0)) ((hgs.trans hg7).trans (Grow.alloc _ _)) (hgs.trans hg7).size ?_; intro w8 hk8 _ hg8; obtain ⟨x0, x1, x2⟩ := hk8.boxd; obtain ⟨b0, b1, b2⟩ := hB1.grow hg8)
      refine (gramCode_any 0 _ (by omega) (by omega)).mono ?_
      rintro e w' ⟨rfl, rfl⟩
      go_wp2_with fail
      refine (gramLive_any _).mono ?_
      rintro e wl ⟨rfl, hgl⟩
      go_wp2_with fail
      go_ret
      exact ⟨rfl, hg1.trans (hg8.trans hgl)⟩
  · have hw : ¬ was = now := fun e => hy (.inl e)
    have B1 : ((was : Int) == (now : Int)) = false := beq_eq_false_iff_ne.2 (by omega)
    by_cases h5 : was + now = 65535
    · have h6 : ¬ was * now = 0 := fun e => hy (.inr ⟨h5, e⟩)
      have B2 : ((was : Int) + (now : Int) == 65535) = true := beq_iff_eq.2 (by omega)
      have B3 : ((was : Int) * (now : Int) == 0) = false := beq_eq_false_iff_ne.2 (by rw [← Int.natCast_mul]; omega)
      have hc4 : gcode s d L5 = 4 := by rw [HC.out, if_neg hy]
      have hdz : gres s d L5 = zeroG := by unfold gres; rw [if_neg (by omega)]
      refine (gGet_any s d _ L5 _ hs hd4 hO.byt hl5).mono ?_
      rw [hc4, hdz]
      rintro e w7 ⟨vd, rfl, hvd, hg7⟩
      obtain ⟨B6, d6, rfl, hcB, hcM⟩ := hvd.byt.form
      clear hc4 hdz hy hw h5 h6
      go_wp2_with (refine wpList_store_Gram W1 _ rfl _ _ rfl rfl w7.heap.size rfl zeroG zeroG (.slice B6 0 d6) (.slice none 0 0) (by rfl) rfl (Gramblk.new w7 zeroG (.slice none 0 0)) ((hgs.trans hg7).trans (Grow.alloc _ _)) (hgs.trans hg7).size ?_; intro w8 hk8 _ hg8; obtain ⟨x0, x1, x2⟩ := hk8.boxd; obtain ⟨b0, b1, b2⟩ := hB1.grow hg8)
      refine (gramCode_any 4 _ (by omega) (by omega)).mono ?_
      rintro e w' ⟨rfl, rfl⟩
      go_wp2_with fail
      refine (gramLive_any _).mono ?_
      rintro e wl ⟨rfl, hgl⟩
      go_wp2_with fail
      go_ret
      exact ⟨rfl, hg1.trans (hg8.trans hgl)⟩
    · have B2 : ((was : Int) + (now : Int) == 65535) = false := beq_eq_false_iff_ne.2 (by omega)
      have hc4 : gcode s d L5 = 4 := by rw [HC.out, if_neg hy]
      have hdz : gres s d L5 = zeroG := by unfold gres; rw [if_neg (by omega)]
      refine (gGet_any s d _ L5 _ hs hd4 hO.byt hl5).mono ?_
      rw [hc4, hdz]
      rintro e w7 ⟨vd, rfl, hvd, hg7⟩
      obtain ⟨B6, d6, rfl, hcB, hcM⟩ := hvd.byt.form
      clear hc4 hdz hy hw h5
      go_wp2_with (refine wpList_store_Gram W1 _ rfl _ _ rfl rfl w7.heap.size rfl zeroG zeroG (.slice B6 0 d6) (.slice none 0 0) (by rfl) rfl (Gramblk.new w7 zeroG (.slice none 0 0)) ((hgs.trans hg7).trans (Grow.alloc _ _)) (hgs.trans hg7).size ?_; intro w8 hk8 _ hg8; obtain ⟨x0, x1, x2⟩ := hk8.boxd; obtain ⟨b0, b1, b2⟩ := hB1.grow hg8)
      refine (gramCode_any 4 _ (by omega) (by omega)).mono ?_
      rintro e w' ⟨rfl, rfl⟩
      go_wp2_with fail
      refine (gramLive_any _).mono ?_
      rintro e wl ⟨rfl, hgl⟩
      go_wp2_with fail
      go_ret
      exact ⟨rfl, hg1.trans (hg8.trans hgl)⟩

set_option maxHeartbeats 1000000 in
theorem gramTurned_walk (w : World) (s : Int) (hs : 0 ≤ s ∧ s ≤ 4294967295) (d : Int) (hd : 0 ≤ d ∧ d ≤ 4294967295) {v : Value} {g : Gram} (h : isGram w v g) (at_ : Int) (ha : 0 ≤ at_ ∧ at_ ≤ 65535) (now : Int) (hn : 0 ≤ now ∧ now ≤ 65535) :
    Calls Try.prog 5 #[.int .u32 s, .int .u32 d, v, .int .u16 at_, .int .u16 now] w fun e w' => e = .returned (.bool true) ∧ Grow w w' := by
  obtain ⟨s, rfl⟩ := Int.eq_ofNat_of_zero_le hs.1
  obtain ⟨d, rfl⟩ := Int.eq_ofNat_of_zero_le hd.1
  obtain ⟨at_, rfl⟩ := Int.eq_ofNat_of_zero_le ha.1
  obtain ⟨now, rfl⟩ := Int.eq_ofNat_of_zero_le hn.1
  by_cases hL : 1000 < g.data.length ∨ g.data.length < 2
  · exact gramTurned_out w s d (by omega) (by omega) h at_ now hL
  · exact gramTurned_in w s d (by omega) (by omega) h at_ now (by omega) (by omega) (by omega) (by omega)
end Go.Proofs.Ytmblfenindjeiaa
