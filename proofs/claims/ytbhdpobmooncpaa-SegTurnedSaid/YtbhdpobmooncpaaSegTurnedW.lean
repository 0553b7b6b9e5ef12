/- The walk of the law on one byte turned. -/
import Derived.Test.YtbhdpobmooncpaaSegLive
import Derived.Test.YtbhdpobmooncpaaSegSameZ
namespace Go.Proofs.Ytbhdpobmooncpaa
set_option linter.unusedVariables false
set_option linter.unusedSimpArgs false
open Go.ChangeShapes Go.WideShapes Go.ChangeAt Go.RowKit

theorem oct_xor (a b : Nat) (ha : a < 256) (hb : b < 256) : bits .xor .u8 (a : Int) (b : Int) = ((a ^^^ b : Nat) : Int) := by
  have h : a ^^^ b < 2 ^ 8 := Nat.xor_lt_two_pow ha hb
  show IntKind.u8.wrap ((BitVec.ofInt 8 (a : Int) ^^^ BitVec.ofInt 8 (b : Int)).toNat : Int) = _
  rw [BitVec.toNat_xor, BitVec.toNat_ofInt, BitVec.toNat_ofInt]
  rw [show ((a : Int) % ((2 ^ 8 : Nat) : Int)).toNat = a by omega, show ((b : Int) % ((2 ^ 8 : Nat) : Int)).toNat = b by omega]
  simp only [IntKind.wrap, IntKind.signed, IntKind.bits]
  simp
  omega
theorem oct_diff (a b : Nat) (hb : b ≠ 0) : a ^^^ b ≠ a := by
  intro h
  apply hb
  have : a ^^^ (a ^^^ b) = a ^^^ a := by rw [h]
  rwa [← Nat.xor_assoc, Nat.xor_self, Nat.zero_xor] at this

set_option maxRecDepth 10000 in
set_option maxHeartbeats 8000000 in
theorem segTurned_walk (w : World) (s : Int) (hs : 0 ≤ s ∧ s ≤ 4294967295) (d : Int) (hd : 0 ≤ d ∧ d ≤ 4294967295) {v : Value} {k : Sgm} (h : isSgm w v k) (at_ : Int) (ha : 0 ≤ at_ ∧ at_ ≤ 65535) (by_ : Int) (hb : 0 ≤ by_ ∧ by_ ≤ 255) :
    Calls Try.prog 7 #[.int .u32 s, .int .u32 d, v, .int .u16 at_, .int .u8 by_] w fun e w' => e = .returned (.bool true) ∧ Grow w w' := by
  obtain ⟨s, rfl⟩ := Int.eq_ofNat_of_zero_le hs.1
  obtain ⟨d, rfl⟩ := Int.eq_ofNat_of_zero_le hd.1
  obtain ⟨at_, rfl⟩ := Int.eq_ofNat_of_zero_le ha.1
  obtain ⟨by_, rfl⟩ := Int.eq_ofNat_of_zero_le hb.1
  have hs4 : s < 4294967296 := by omega
  have hd4 : d < 4294967296 := by omega
  have ha1 : at_ < 65536 := by omega
  have hb1 : by_ < 256 := by omega
  clear ha hb hs hd
  obtain ⟨A, c, rfl, hdd, hk⟩ := h.form
  obtain ⟨hcl0, hcm0⟩ := hdd.len.2
  unfold maxLen at hcm0
  obtain ⟨W1, hW1⟩ : ∃ W1, W1 = w.alloc (.cells (Sgmcells k (.slice A k.data.length c)) 26) := ⟨_, rfl⟩
  have hg1 : Grow w W1 := by rw [hW1]; exact Grow.alloc w _
  have hB1 : Sgmbox W1 w.heap.size k (.slice A k.data.length c) := by rw [hW1]; exact Sgmbox.new _ _ _
  unfold Sgmcells at hW1
  have hip := h.grow hg1
  obtain ⟨b0, b1, b2, b3, b4, b5, b6, b7, b8⟩ := id hB1
  have hChk := RCheck9_any _ k _ hip
  by_cases hL : 2000 < k.data.length
  · clear hChk
    go_enter Try.func7, Try.ntmps7
    go_wp2_with fail
    rw [← hW1]
    refine (segLive_any _).mono ?_
    rintro e wl ⟨rfl, hgl⟩
    go_wp2_with fail
    go_ret
    exact ⟨rfl, (hg1).trans hgl⟩
  by_cases hc : k.check = 0
  case neg =>
    obtain ⟨q1, q2⟩ := check_le k
    have bf : ((k.check : Int) != 0) = true := bne_iff_ne.2 hc
    generalize k.check = f at *
    go_enter Try.func7, Try.ntmps7
    go_wp2_with fail
    rw [← hW1]
    refine hChk.mono ?_
    rintro e w2 ⟨rfl, hg2⟩
    go_wp2_with fail
    refine (segLive_any _).mono ?_
    rintro e wl ⟨rfl, hgl⟩
    go_wp2_with fail
    go_ret
    exact ⟨rfl, (hg1.trans hg2).trans hgl⟩
  have hf := (fine_iff k).1 hc
  rw [hc] at hChk
  by_cases hz : by_ = 0
  · subst hz
    go_enter Try.func7, Try.ntmps7
    go_wp2_with fail
    rw [← hW1]
    refine hChk.mono ?_
    rintro e w2 ⟨rfl, hg2⟩
    go_wp2_with fail
    refine (segLive_any _).mono ?_
    rintro e wl ⟨rfl, hgl⟩
    go_wp2_with fail
    go_ret
    exact ⟨rfl, (hg1.trans hg2).trans hgl⟩
  have hzb : ((by_ : Int) == 0) = false := beq_eq_false_iff_ne.2 (by omega)
  have hbl := sbytes_length k (tcheck s d k)
  have hol := sopt_length k
  have hPut : ∀ w', isSgm w' (SgmV k (.slice A k.data.length c)) k → _ := fun w' g => sPut_good s d _ k w' hs4 hd4 g hf
  have hTurn : ∀ j v, _ → _ → _ := fun j v => tturned_code s d k j v
  obtain ⟨LB, hLB⟩ : ∃ LB, LB = k.bytes (tcheck s d k) := ⟨_, rfl⟩
  rw [← hLB] at hPut hTurn hbl
  have hn1 : 20 ≤ LB.length := by omega
  have hn2 : LB.length ≤ 4000 := by omega
  clear hLB hbl hol hc hf
  go_enter Try.func7, Try.ntmps7
  go_wp2_with fail
  rw [← hW1]
  clear hW1
  refine hChk.mono ?_
  rintro e w2 ⟨rfl, hg2⟩
  clear hChk
  clear b0 b1 b2 b3 b4 b5 b6 b7 b8
  obtain ⟨b0, b1, b2, b3, b4, b5, b6, b7, b8⟩ := hB1.grow hg2
  go_wp2_with fail
  refine (hPut _ (hip.grow hg2)).mono ?_
  rintro e w4 ⟨u, rfl, ho4, hg4⟩
  clear hPut
  have hsz := hg1.size
  have hsz2 := hg2.size
  obtain ⟨g, cap, rfl, hbg, hlt, hnc, hcm, hcell⟩ := ho4.row (by omega)
  unfold maxLen at hcm
  clear b0 b1 b2 b3 b4 b5 b6 b7 b8
  go_wp2_with fail
  refine (segCode_any 0 _ (by omega) (by omega)).mono ?_
  rintro e w' ⟨rfl, rfl⟩
  obtain ⟨j, hj⟩ : ∃ j : Nat, j = at_ % LB.length := ⟨_, rfl⟩
  have hjb : j < LB.length := by rw [hj]; exact Nat.mod_lt _ (by omega)
  have ej : (at_ : Int) % (LB.length : Int) = (j : Int) := by rw [hj]; simp
  have et : ((at_ : Int)).tmod (LB.length : Int) = (j : Int) := by rw [Int.tmod_eq_emod_of_nonneg (by omega), ej]
  clear hj
  obtain ⟨cj, fj⟩ := hcell j hjb
  have yj := byt_lt LB j
  have hyj := byt_at hjb
  have X := oct_xor LB[j].toNat by_ (by omega) hb1
  have Xn := oct_diff LB[j].toNat by_ hz
  have Xl : LB[j].toNat ^^^ by_ < 256 := Nat.xor_lt_two_pow (n := 8) (by omega) hb1
  obtain ⟨v, hv⟩ : ∃ v, v = UInt8.ofNat (LB[j].toNat ^^^ by_) := ⟨_, rfl⟩
  have hvn : v.toNat = LB[j].toNat ^^^ by_ := by rw [hv, UInt8.toNat_ofNat']; omega
  have hO := ho4.set j v (bits .xor .u8 (LB[j].toNat : Int) (by_ : Int)) (by rw [hvn]; exact X)
  have hm : tcode s d (LB.set j v) ≠ 0 := hTurn j v hjb (by rw [hvn, ← hyj]; exact Xn)
  obtain ⟨q1, q2⟩ := tcode_le s d (LB.set j v)
  have hrs : tres s d (LB.set j v) = zeroT := by unfold tres; rw [if_neg hm]
  have bm : (tcode s d (LB.set j v) != 0) = true := bne_iff_ne.2 hm
  have hGet : ∀ w', Byt w' (.slice (some ⟨g, 0, none⟩) LB.length cap) (LB.set j v) → _ := fun w' gb => sGet_any s d _ (LB.set j v) w' hs4 hd4 gb (by rw [List.length_set]; omega)
  rw [hrs] at hGet
  have hg05 := ((hg1.trans hg2).trans hg4).setCell (p := ⟨g, j, none⟩) (show w.heap.size ≤ g by omega) (.int .u8 (bits .xor .u8 (LB[j].toNat : Int) (by_ : Int)))
  generalize tcode s d (LB.set j v) = tc at *
  clear X Xn Xl hv hvn hyj hTurn hrs hm
  go_wp2_with fail
  refine (hGet _ hO.byt).mono ?_
  rintro e w6 ⟨vd, rfl, hvd, hg6⟩
  have hg06 : Grow w w6 := Grow.trans hg05 hg6
  have bd := hvd.byt
  obtain ⟨B6, m6, d6, rfl, _⟩ := bd.form2
  go_wp2_with (refine wpList_store_Sgm w _ rfl _ _ rfl rfl w6.heap.size rfl zeroT zeroT (.slice B6 m6 d6) (.slice none 0 0) (by rfl) rfl (Sgmblk.new w6 zeroT (.slice none 0 0)) (hg06.trans (Grow.alloc _ _)) hg06.size ?_; intro w7 hk7 _ hg7)
  refine (segCode_any tc _ (by omega) (by omega)).mono ?_
  rintro e w' ⟨rfl, rfl⟩
  obtain ⟨d0, d1, d2, d3, d4, d5, d6', d7, d8⟩ := hk7.boxd
  go_wp2_with fail
  refine (RSame9_yes _ _ zeroT zeroT _ ⟨_, rfl, bd.anywhere, zeroT_ok⟩ ⟨_, rfl, Byt.nil _, zeroT_ok⟩ rfl).mono ?_
  rintro e w8 ⟨rfl, hg8⟩
  go_wp2_with fail
  refine (segLive_any _).mono ?_
  rintro e wl ⟨rfl, hgl⟩
  go_wp2_with fail
  go_ret
  exact ⟨rfl, (hg7.trans hg8).trans hgl⟩
end Go.Proofs.Ytbhdpobmooncpaa
