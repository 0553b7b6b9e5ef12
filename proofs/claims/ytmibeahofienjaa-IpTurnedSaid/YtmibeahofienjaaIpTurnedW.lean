/- The walk of the law on one byte turned. -/
import Derived.Test.YtmibeahofienjaaIpLive
import Derived.Test.YtmibeahofienjaaIpGet
import Derived.Test.YtmibeahofienjaaIpSameZ
import Derived.Test.YtmibeahofienjaaIpPure2
namespace Go.Proofs.Ytmibeahofienjaa
set_option linter.unusedVariables false
set_option linter.unusedSimpArgs false
open Go.ChangeShapes Go.WideShapes Go.ChangeAt Go.RowKit

theorem xor_byte (a b : Nat) (ha : a < 256) (hb : b < 256) : bits .xor .u8 (a : Int) (b : Int) = ((a ^^^ b : Nat) : Int) := by
  have h : a ^^^ b < 2 ^ 8 := Nat.xor_lt_two_pow ha hb
  show IntKind.u8.wrap ((BitVec.ofInt 8 (a : Int) ^^^ BitVec.ofInt 8 (b : Int)).toNat : Int) = _
  rw [BitVec.toNat_xor, BitVec.toNat_ofInt, BitVec.toNat_ofInt]
  rw [show ((a : Int) % ((2 ^ 8 : Nat) : Int)).toNat = a by omega, show ((b : Int) % ((2 ^ 8 : Nat) : Int)).toNat = b by omega]
  simp only [IntKind.wrap, IntKind.signed, IntKind.bits]
  simp
  omega
theorem xor_ne (a b : Nat) (hb : b ≠ 0) : a ^^^ b ≠ a := by
  intro h
  apply hb
  have : a ^^^ (a ^^^ b) = a ^^^ a := by rw [h]
  rwa [← Nat.xor_assoc, Nat.xor_self, Nat.zero_xor] at this

theorem Byt.void {w w' : World} {v : Value} (h : Byt w v []) : Byt w' v [] := by
  obtain ⟨A, c, e, h1, h2, _⟩ := h
  exact ⟨A, c, e, h1, h2, fun h => absurd h (by simp)⟩

set_option maxRecDepth 10000 in
set_option maxHeartbeats 8000000 in
theorem ipTurned_walk (w : World) {v : Value} {k : Pkt} (h : Ip w v k) (at_ : Int) (ha : 0 ≤ at_ ∧ at_ ≤ 255) (by_ : Int) (hb : 0 ≤ by_ ∧ by_ ≤ 255) :
    Calls Try.prog 8 #[v, .int .u8 at_, .int .u8 by_] w fun e w' => e = .returned (.bool true) ∧ Grow w w' := by
  obtain ⟨at_, rfl⟩ := Int.eq_ofNat_of_zero_le ha.1
  obtain ⟨by_, rfl⟩ := Int.eq_ofNat_of_zero_le hb.1
  have ha1 : at_ < 256 := by omega
  have hb1 : by_ < 256 := by omega
  clear ha hb
  obtain ⟨A, c, B, d, rfl, ho, hd, hk⟩ := h.form
  obtain ⟨W1, hW1⟩ : ∃ W1, W1 = w.alloc (.cells #[.int .u8 (k.tos : Int), .int .u16 (k.ident : Int), .bool k.whole, .bool k.more, .int .i64 k.off, .int .u8 (k.ttl : Int), .int .u8 (k.proto : Int), .int .u32 (k.src : Int), .int .u32 (k.dst : Int), .slice A k.opts.length c, .slice B k.data.length d] 27) := ⟨_, rfl⟩
  have hg1 : Grow w W1 := by rw [hW1]; exact Grow.alloc w _
  have hB1 : Boxd W1 w.heap.size k (.slice A k.opts.length c) (.slice B k.data.length d) := by rw [hW1]; exact Boxd.new _ _ _ _
  have hip := h.grow hg1
  go_enter Try.func8, Try.ntmps8
  go_wp2_with fail
  rw [← hW1]
  clear hW1
  refine (Long_any _ k _ hip).mono ?_
  rintro e w2 ⟨rfl, hg2⟩
  have hg02 := hg1.trans hg2
  by_cases hL : 100 < k.opts.length ∨ 70000 < k.data.length
  · rw [decide_eq_true hL]
    go_wp2_with fail
    refine (ipLive_any _).mono ?_
    rintro e wl ⟨rfl, hgl⟩
    go_wp2_with fail
    go_ret
    exact ⟨rfl, hg02.trans hgl⟩
  rw [decide_eq_false hL]
  have hsm : k.Small := ⟨by omega, by omega⟩
  obtain ⟨b0, b1, b2, b3, b4, b5, b6, b7, b8, b9, b10⟩ := hB1.grow hg2
  go_wp2_with fail
  refine (RCheck_ip _ k _ (hip.grow hg2) hsm).mono ?_
  rintro e w3 ⟨rfl, hg3⟩
  have hg13 := hg2.trans hg3
  have hg03 := hg1.trans hg13
  clear b0 b1 b2 b3 b4 b5 b6 b7 b8 b9 b10
  obtain ⟨b0, b1, b2, b3, b4, b5, b6, b7, b8, b9, b10⟩ := hB1.grow hg13
  by_cases hc : k.check ≠ 0
  · have hcb : (k.check != 0) = true := by simpa using hc
    go_wp2_with fail
    refine (ipLive_any _).mono ?_
    rintro e wl ⟨rfl, hgl⟩
    go_wp2_with fail
    go_ret
    exact ⟨rfl, hg03.trans hgl⟩
  have hc0 : k.check = 0 := by simpa using hc
  rw [hc0]
  by_cases hz : by_ = 0
  · subst hz
    go_wp2_with fail
    refine (ipLive_any _).mono ?_
    rintro e wl ⟨rfl, hgl⟩
    go_wp2_with fail
    go_ret
    exact ⟨rfl, hg03.trans hgl⟩
  have hzb : ((by_ : Int) == 0) = false := by simp; omega
  obtain ⟨o1, o2, o3, o4, o5⟩ := check_zero hc0
  have hbl := bytes_length k
  have hkl : k.len = 20 + k.opts.length + k.data.length := rfl
  go_wp2_with fail
  refine (Put_good _ k _ (hip.grow hg13) hsm hc0).mono ?_
  rintro e w4 ⟨u, rfl, ho4, hg4⟩
  have hg14 := hg13.trans hg4
  have hsz := hg03.size
  obtain ⟨g, cap, rfl, hbg, hlt, hnc, hcm, hcell⟩ := ho4.row (by omega)
  have hn1 : 20 + k.opts.length ≤ k.bytes.length := by omega
  have hn2 : k.bytes.length ≤ 65535 := by omega
  clear hbl hkl
  unfold maxLen at hcm
  clear b0 b1 b2 b3 b4 b5 b6 b7 b8 b9 b10
  obtain ⟨b0, b1, b2, b3, b4, b5, b6, b7, b8, b9, b10⟩ := hB1.grow hg14
  go_wp2_with fail
  refine (code_any 0 _ (by omega) (by omega)).mono ?_
  rintro e w' ⟨rfl, rfl⟩
  obtain ⟨j, hj⟩ : ∃ j : Nat, j = 1 + at_ % (19 + k.opts.length) := ⟨_, rfl⟩
  have hjl : j < 20 + k.opts.length := by
    have := Nat.mod_lt at_ (show 0 < 19 + k.opts.length by omega)
    omega
  have hj1 : 1 ≤ j := by omega
  have ej : 1 + (at_ : Int) % (19 + (k.opts.length : Int)) = (j : Int) := by rw [hj]; simp
  clear hj
  have hjb : j < k.bytes.length := by omega
  obtain ⟨cj, fj⟩ := hcell j hjb
  have yj := byt_lt k.bytes j
  have hyj := byt_at hjb
  have X := xor_byte k.bytes[j].toNat by_ (by omega) hb1
  have Xn := xor_ne k.bytes[j].toNat by_ hz
  have Xl : k.bytes[j].toNat ^^^ by_ < 256 := Nat.xor_lt_two_pow (n := 8) (by omega) hb1
  obtain ⟨v, hv⟩ : ∃ v, v = UInt8.ofNat (k.bytes[j].toNat ^^^ by_) := ⟨_, rfl⟩
  have hvn : v.toNat = k.bytes[j].toNat ^^^ by_ := by rw [hv, UInt8.toNat_ofNat']; omega
  have hO := ho4.set j v (bits .xor .u8 (k.bytes[j].toNat : Int) (by_ : Int)) (by rw [hvn]; exact X)
  have hm : mcode (k.bytes.set j v) = 4 := turned_code k hk hc0 j v hj1 hjl (by rw [hvn, ← hyj]; exact Xn)
  have hrs : res (k.bytes.set j v) = zeroP := by unfold res; rw [if_neg (by omega)]
  have hgz := (hg1.trans hg13).size
  have hg05 := (hg1.trans hg14).setCell (p := ⟨g, j, none⟩) (show w.heap.size ≤ g by omega) (.int .u8 (bits .xor .u8 (k.bytes[j].toNat : Int) (by_ : Int)))
  have hl5 : (k.bytes.set j v).length ≤ 1000000 := by rw [List.length_set]; omega
  clear X Xn Xl hv hvn hyj
  go_wp2_with fail
  refine (Get_any _ _ _ hO.byt hl5).mono ?_
  rw [hm, hrs]
  rintro e w6 ⟨vo, vd, rfl, hvo, hvd, hg6⟩
  have hg06 : Grow w w6 := Grow.trans hg05 hg6
  have bo := hvo.byt
  have bd := hvd.byt
  obtain ⟨A6, n6, c6, rfl, _⟩ := bo.form2
  obtain ⟨B6, m6, d6, rfl, _⟩ := bd.form2
  go_wp2_with (refine wpList_store_ip w _ rfl _ _ rfl rfl w6.heap.size rfl zeroP zeroP (.slice A6 n6 c6) (.slice B6 m6 d6) (.slice none 0 0) (.slice none 0 0) (by rfl) rfl rfl (Blk.new w6 zeroP (.slice none 0 0) (.slice none 0 0)) (hg06.trans (Grow.alloc _ _)) hg06.size ?_; intro w7 hk7 _ hg7)
  refine (code_any 4 _ (by omega) (by omega)).mono ?_
  rintro e w' ⟨rfl, rfl⟩
  obtain ⟨d0, d1, d2, d3, d4, d5, d6', d7, d8, d9, d10⟩ := hk7.boxd
  go_wp2_with fail
  refine (RSame_yes _ _ zeroP zeroP _ ⟨_, _, rfl, bo.void, bd.void, zero_ok⟩ ⟨_, _, rfl, Byt.nil _, Byt.nil _, zero_ok⟩ rfl).mono ?_
  rintro e w8 ⟨rfl, hg8⟩
  go_wp2_with fail
  refine (ipLive_any _).mono ?_
  rintro e wl ⟨rfl, hgl⟩
  go_wp2_with fail
  go_ret
  exact ⟨rfl, (hg7.trans hg8).trans hgl⟩
end Go.Proofs.Ytmibeahofienjaa
