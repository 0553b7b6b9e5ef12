/- The walk of the law on what is told again. -/
import Derived.Test.YtbnnacohkemnhaaIcmLive
import Derived.Test.YtbnnacohkemnhaaIcmRef
import Derived.Test.YtbnnacohkemnhaaIcmCause
import Derived.Test.YtbnnacohkemnhaaIpSameZ
import Derived.Test.YtbnnacohkemnhaaIpBytes
import Derived.Test.YtbnnacohkemnhaaIpFld
namespace Go.Proofs.Ytbnnacohkemnhaa
set_option linter.unusedVariables false
set_option linter.unusedSimpArgs false
open Go.ChangeShapes Go.WideShapes Go.ChangeAt Go.RowKit

set_option maxRecDepth 10000 in
set_option maxHeartbeats 8000000 in
theorem icmpBack_walk (w : World) {v : Value} {k : Pkt} (h : Ip w v k) (a : Int) (ha : 0 ≤ a ∧ a ≤ 255) :
    Calls Try.prog 7 #[v, .int .u8 a] w fun e w' => e = .returned (.bool true) ∧ Grow w w' := by
  obtain ⟨a, rfl⟩ := Int.eq_ofNat_of_zero_le ha.1
  have ha1 : a < 256 := by omega
  clear ha
  obtain ⟨A, c, B, d, rfl, ho, hd, hk⟩ := h.form
  obtain ⟨hdl, hdm⟩ := hd.len.2
  unfold maxLen at hdm
  obtain ⟨W1, hW1⟩ : ∃ W1, W1 = w.alloc (.cells #[.int .u8 (k.tos : Int), .int .u16 (k.ident : Int), .bool k.whole, .bool k.more, .int .i64 k.off, .int .u8 (k.ttl : Int), .int .u8 (k.proto : Int), .int .u32 (k.src : Int), .int .u32 (k.dst : Int), .slice A k.opts.length c, .slice B k.data.length d] 47) := ⟨_, rfl⟩
  have hg1 : Grow w W1 := by rw [hW1]; exact Grow.alloc w _
  have hk1 : Blk W1 w.heap.size k (.slice A k.opts.length c) (.slice B k.data.length d) := by rw [hW1]; exact Blk.new _ _ _ _
  have hB1 := hk1.boxd
  have hip := h.grow hg1
  go_enter Try.func7, Try.ntmps7
  go_wp2_with fail
  rw [← hW1]
  clear hW1
  refine (Long_any _ k _ hip).mono ?_
  rintro e w2 ⟨rfl, hg2⟩
  have hg02 := hg1.trans hg2
  by_cases hL : 100 < k.opts.length ∨ 70000 < k.data.length
  · rw [decide_eq_true hL]
    go_wp2_with fail
    refine (icmLive_any _).mono ?_
    rintro e wl ⟨rfl, hgl⟩
    go_wp2_with fail
    go_ret
    exact ⟨rfl, hg02.trans hgl⟩
  rw [decide_eq_false hL]
  have hsm : k.Small := ⟨by omega, by omega⟩
  obtain ⟨b0, b1, b2, b3, b4, b5, b6, b7, b8, b9, b10⟩ := hB1.grow hg2
  go_wp2_with fail
  refine (RCheck_ip _ k _ (hip.grow hg2) hsm).mono ?_
  rintro e w3 ⟨rfl, hg3⟩
  have hg13 := hg2.trans hg3
  have hg03 := hg1.trans hg13
  clear b0 b1 b2 b3 b4 b5 b6 b7 b8 b9 b10
  obtain ⟨b0, b1, b2, b3, b4, b5, b6, b7, b8, b9, b10⟩ := hB1.grow hg13
  by_cases hc : k.check ≠ 0
  · have hcb : (k.check != 0) = true := by simpa using hc
    go_wp2_with fail
    refine (icmLive_any _).mono ?_
    rintro e wl ⟨rfl, hgl⟩
    go_wp2_with fail
    go_ret
    exact ⟨rfl, hg03.trans hgl⟩
  have hc0 : k.check = 0 := by simpa using hc
  rw [hc0]
  by_cases h8 : k.data.length < 8
  · go_wp2_with fail
    refine (icmLive_any _).mono ?_
    rintro e wl ⟨rfl, hgl⟩
    go_wp2_with fail
    go_ret
    exact ⟨rfl, hg03.trans hgl⟩
  obtain ⟨e1, e2, e3⟩ := back_told k a hk hc0 (by omega)
  obtain ⟨o1, o2, o3, o4, o5⟩ := check_zero' hc0
  have hbl := bytes_length k
  have hb6 : k.bytes.length ≤ 1000000 := by omega
  have htl : (k.bytes.take (28 + k.opts.length)).length ≤ 1000000 := by rw [List.length_take]; omega
  clear hbl
  go_wp2_with fail
  refine (Bytes_any _ k _ (hip.grow hg13) hsm hc0).mono ?_
  rintro e w4 ⟨u4, rfl, ho4, hg4⟩
  obtain ⟨A4, n4, c4, rfl, _⟩ := ho4.form2
  clear b0 b1 b2 b3 b4 b5 b6 b7 b8 b9 b10
  obtain ⟨b0, b1, b2, b3, b4, b5, b6, b7, b8, b9, b10⟩ := hB1.grow (hg13.trans hg4)
  go_wp2_with fail
  refine (icmAbout_any 11 a _ k.bytes _ ho4 (by decide) ha1 hb6).mono ?_
  rw [e1]
  rintro e w5 ⟨vq, rfl, hoq, hg5⟩
  have hq5 : isIcm w5 (IcmV ⟨11, a, 0, k.bytes.take (28 + k.opts.length)⟩ vq) ⟨11, a, 0, k.bytes.take (28 + k.opts.length)⟩ := ⟨_, rfl, hoq.byt, ⟨trivial, (by decide : (11 : Nat) < 256), ha1, (by decide : (0 : Nat) < 4294967296)⟩⟩
  obtain ⟨B6, m6, d6, rfl, _⟩ := hoq.byt.form2
  have er : cres ⟨11, a, 0, k.bytes.take (28 + k.opts.length)⟩ = { k with data := k.data.take 8 } := by unfold cres; rw [if_pos e2]; exact e3
  clear b0 b1 b2 b3 b4 b5 b6 b7 b8 b9 b10
  go_wp2_with fail
  refine (icmCause_any _ _ _ hq5 htl).mono ?_
  rw [e2, er]
  rintro e w6 ⟨vo, vd, rfl, hvo, hvd, hg6⟩
  obtain ⟨K, hK⟩ : ∃ K : Pkt, K = { k with data := k.data.take 8 } := ⟨_, rfl⟩
  have hKok : K.Ok := by rw [hK]; exact ⟨hk.tos, hk.ident, hk.off1, hk.off2, hk.ttl, hk.proto, hk.src, hk.dst⟩
  rw [← hK] at hvo hvd ⊢
  obtain ⟨A7, n7, c7, rfl, _⟩ := hvo.byt.form2
  obtain ⟨B7, m7, d7, rfl, _⟩ := hvd.byt.form2
  have HK := Lib.hid hK
  clear hK e1 e2 e3 er
  have hg36 := (hg4.trans hg5).trans hg6
  have hg16 := hg13.trans hg36
  have hz1 : w.heap.size < W1.heap.size := hk1.lt
  have hz6 := hg16.size
  have hz5 := (hg13.trans (hg4.trans hg5)).size
  have h8' : (8 : Int) ≤ (d : Int) := by omega
  go_wp2_with (first | (refine wpList_store_ip w6 _ rfl _ _ rfl rfl w6.heap.size rfl K zeroP (.slice A7 n7 c7) (.slice B7 m7 d7) (.slice none 0 0) (.slice none 0 0) (by rfl) rfl rfl (Blk.new w6 zeroP (.slice none 0 0) (.slice none 0 0)) (Grow.alloc _ _) (Nat.le_refl _) ?_; intro w7 hk7 hbut7 hg7; have hkk7 := (hk1.grow hg16).grow hg7; obtain ⟨b0, b1, b2, b3, b4, b5, b6, b7, b8, b9, b10⟩ := hkk7.boxd) | (refine wpList_store_fld w w7 rfl _ _ _ rfl rfl w.heap.size 10 (.slice B 8 d) rfl rfl k K (.slice A k.opts.length c) (.slice B k.data.length d) (.slice A k.opts.length c) (.slice B 8 d) hkk7 (by kernel_rfl) rfl (by omega) (by rw [HK.out]; rfl) ((hg1.trans hg16).trans hg7) (Nat.le_refl _) ?_; intro w8 hk8 hbut8 hg8))
  refine (icmCode_any 0 _ (by omega) (by omega)).mono ?_
  rintro e w' ⟨rfl, rfl⟩
  have hne : w6.heap.size ≠ w.heap.size := by omega
  have hk78 : Blk w8 w6.heap.size K (.slice A7 n7 c7) (.slice B7 m7 d7) := (hbut8.2 _ hne).trans hk7
  have bo8 : Byt w8 (.slice A k.opts.length c) K.opts := by rw [HK.out]; exact ho.grow hg8
  have bd8 : Byt w8 (.slice B 8 d) K.data := by rw [HK.out]; exact (hd.front (by omega)).grow hg8
  have vo8 := (Own.but (hvo.grow hg7) hbut8 (by omega)).byt
  have vd8 := (Own.but (hvd.grow hg7) hbut8 (by omega)).byt
  clear b0 b1 b2 b3 b4 b5 b6 b7 b8 b9 b10
  obtain ⟨b0, b1, b2, b3, b4, b5, b6, b7, b8, b9, b10⟩ := hk8.boxd
  obtain ⟨f0, f1, f2, f3, f4, f5, f6, f7, f8, f9, f10⟩ := hk78.boxd
  go_wp2_with fail
  refine (RSame_yes _ _ K K _ ⟨_, _, rfl, bo8, bd8, hKok⟩ ⟨_, _, rfl, vo8, vd8, hKok⟩ rfl).mono ?_
  rintro e w9 ⟨rfl, hg9⟩
  go_wp2_with fail
  refine (icmLive_any _).mono ?_
  rintro e wl ⟨rfl, hgl⟩
  go_wp2_with fail
  go_ret
  exact ⟨rfl, (hg8.trans hg9).trans hgl⟩
end Go.Proofs.Ytbnnacohkemnhaa
