/- The walk of the law on one byte turned. -/
import Derived.Test.YtbnnacohkemnhaaIcmLive
import Derived.Test.YtbnnacohkemnhaaIcmRef
namespace Go.Proofs.Ytbnnacohkemnhaa
set_option linter.unusedVariables false
set_option linter.unusedSimpArgs false
open Go.ChangeShapes Go.WideShapes Go.ChangeAt Go.RowKit

set_option maxRecDepth 10000 in
set_option maxHeartbeats 8000000 in
theorem icmpTurned_walk (w : World) {v : Value} {k : Icm} (h : isIcm w v k) (at_ : Int) (ha : 0 ≤ at_ ∧ at_ ≤ 65535) (by_ : Int) (hb : 0 ≤ by_ ∧ by_ ≤ 255) :
    Calls Try.prog 8 #[v, .int .u16 at_, .int .u8 by_] w fun e w' => e = .returned (.bool true) ∧ Grow w w' := by
  obtain ⟨at_, rfl⟩ := Int.eq_ofNat_of_zero_le ha.1
  obtain ⟨by_, rfl⟩ := Int.eq_ofNat_of_zero_le hb.1
  have ha1 : at_ < 65536 := by omega
  have hb1 : by_ < 256 := by omega
  clear ha hb
  obtain ⟨A, c, rfl, hd, hk⟩ := h.form
  obtain ⟨hcl, hcm0⟩ := hd.len.2
  unfold maxLen at hcm0
  obtain ⟨W1, hW1⟩ : ∃ W1, W1 = w.alloc (.cells #[.int .u8 (k.kind : Int), .int .u8 (k.code : Int), .int .u32 (k.rest : Int), .slice A k.data.length c] 25) := ⟨_, rfl⟩
  have hg1 : Grow w W1 := by rw [hW1]; exact Grow.alloc w _
  have hB1 : Icmbox W1 w.heap.size k (.slice A k.data.length c) := by rw [hW1]; exact Icmbox.new _ _ _
  have hip := h.grow hg1
  obtain ⟨b0, b1, b2, b3⟩ := id hB1
  by_cases hL : 2000 < k.data.length
  · go_enter Try.func8, Try.ntmps8
    go_wp2_with fail
    rw [← hW1]
    refine (icmLive_any _).mono ?_
    rintro e wl ⟨rfl, hgl⟩
    go_wp2_with fail
    go_ret
    exact ⟨rfl, hg1.trans hgl⟩
  by_cases hz : by_ = 0
  · subst hz
    go_enter Try.func8, Try.ntmps8
    go_wp2_with fail
    rw [← hW1]
    refine (icmLive_any _).mono ?_
    rintro e wl ⟨rfl, hgl⟩
    go_wp2_with fail
    go_ret
    exact ⟨rfl, hg1.trans hgl⟩
  have hzb : ((by_ : Int) == 0) = false := beq_eq_false_iff_ne.2 (by omega)
  have hbl := ibytes_length k
  go_enter Try.func8, Try.ntmps8
  go_wp2_with fail
  rw [← hW1]
  clear hW1
  refine (icmPut_good _ k _ hip (by omega)).mono ?_
  rintro e w4 ⟨u, rfl, ho4, hg4⟩
  have hsz := hg1.size
  obtain ⟨g, cap, rfl, hbg, hlt, hnc, hcm, hcell⟩ := ho4.row (by omega)
  have hn1 : 8 ≤ k.bytes.length := by omega
  have hn2 : k.bytes.length ≤ 2008 := by omega
  clear hbl
  unfold maxLen at hcm
  clear b0 b1 b2 b3
  go_wp2_with fail
  refine (icmCode_any 0 _ (by omega) (by omega)).mono ?_
  rintro e w' ⟨rfl, rfl⟩
  obtain ⟨j, hj⟩ : ∃ j : Nat, j = at_ % k.bytes.length := ⟨_, rfl⟩
  have hjb : j < k.bytes.length := by rw [hj]; exact Nat.mod_lt _ (by omega)
  have ej : (at_ : Int) % (k.bytes.length : Int) = (j : Int) := by rw [hj]; simp
  have et : ((at_ : Int)).tmod (k.bytes.length : Int) = (j : Int) := by rw [Int.tmod_eq_emod_of_nonneg (by omega), ej]
  clear hj
  obtain ⟨cj, fj⟩ := hcell j hjb
  have yj := byt_lt k.bytes j
  have hyj := byt_at hjb
  have X := xor_oct k.bytes[j].toNat by_ (by omega) hb1
  have Xn := xor_diff k.bytes[j].toNat by_ hz
  have Xl : k.bytes[j].toNat ^^^ by_ < 256 := Nat.xor_lt_two_pow (n := 8) (by omega) hb1
  obtain ⟨v, hv⟩ : ∃ v, v = UInt8.ofNat (k.bytes[j].toNat ^^^ by_) := ⟨_, rfl⟩
  have hvn : v.toNat = k.bytes[j].toNat ^^^ by_ := by rw [hv, UInt8.toNat_ofNat']; omega
  have hO := ho4.set j v (bits .xor .u8 (k.bytes[j].toNat : Int) (by_ : Int)) (by rw [hvn]; exact X)
  have hm : icode (k.bytes.set j v) = 4 := iturned_code k j v hjb (by rw [hvn, ← hyj]; exact Xn)
  have hrs : ires (k.bytes.set j v) = zeroM := by unfold ires; rw [if_neg (by omega)]
  have hg05 := (hg1.trans hg4).setCell (p := ⟨g, j, none⟩) (show w.heap.size ≤ g by omega) (.int .u8 (bits .xor .u8 (k.bytes[j].toNat : Int) (by_ : Int)))
  have hl5 : (k.bytes.set j v).length ≤ 1000000 := by rw [List.length_set]; omega
  clear X Xn Xl hv hvn hyj
  go_wp2_with fail
  refine (icmGet_any _ _ _ hO.byt hl5).mono ?_
  rw [hm, hrs]
  rintro e w6 ⟨vd, rfl, hvd, hg6⟩
  have hg06 : Grow w w6 := Grow.trans hg05 hg6
  have bd := hvd.byt
  obtain ⟨B6, m6, d6, rfl, _⟩ := bd.form2
  go_wp2_with (refine wpList_store_Icm w _ rfl _ _ rfl rfl w6.heap.size rfl zeroM zeroM (.slice B6 m6 d6) (.slice none 0 0) (by rfl) rfl (Icmblk.new w6 zeroM (.slice none 0 0)) (hg06.trans (Grow.alloc _ _)) hg06.size ?_; intro w7 hk7 _ hg7)
  refine (icmCode_any 4 _ (by omega) (by omega)).mono ?_
  rintro e w' ⟨rfl, rfl⟩
  obtain ⟨d0, d1, d2, d3⟩ := hk7.boxd
  go_wp2_with fail
  refine (RSame7_yes _ _ zeroM zeroM _ ⟨_, rfl, bd.anywhere, zeroM_ok⟩ ⟨_, rfl, Byt.nil _, zeroM_ok⟩ rfl).mono ?_
  rintro e w8 ⟨rfl, hg8⟩
  go_wp2_with fail
  refine (icmLive_any _).mono ?_
  rintro e wl ⟨rfl, hgl⟩
  go_wp2_with fail
  go_ret
  exact ⟨rfl, (hg7.trans hg8).trans hgl⟩
end Go.Proofs.Ytbnnacohkemnhaa
