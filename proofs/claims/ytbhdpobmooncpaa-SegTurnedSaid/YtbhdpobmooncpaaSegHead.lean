/- A segment's header as bytes. -/
import Derived.Test.YtbhdpobmooncpaaSegOpt
namespace Go.Proofs.Ytbhdpobmooncpaa
set_option linter.unusedVariables false
set_option linter.unusedSimpArgs false
open Go.ChangeShapes Go.WideShapes Go.ChangeAt Go.RowKit

def Sgm.head (k : Sgm) : List UInt8 := k.pre ++ [0, 0, 0, 0] ++ k.opts
theorem shead_bytes (k : Sgm) : k.head ++ k.data = k.bytes 0 := by unfold Sgm.bytes Sgm.head Sgm.post; simp [two]
theorem shd_length (k : Sgm) : k.head.length = 20 + k.opts.length := by simp [Sgm.head, spre_length]; omega

set_option maxRecDepth 10000 in
set_option maxHeartbeats 4000000 in
theorem sheader_any (v : Value) (k : Sgm) (w : World) (h : isSgm w v k) (m1 : 0 ≤ k.mss) (m2 : k.mss ≤ 65535) (s1 : 0 ≤ k.scale) (s2 : k.scale ≤ 15) :
    Calls Try.prog 25 #[v] w fun e w' => ∃ u, e = .returned u ∧ Own w' w.heap.size u k.head ∧ Grow w w' := by
  obtain ⟨A, c, rfl, hd, hk⟩ := h.form
  obtain ⟨W1, hW1⟩ : ∃ W1, W1 = w.alloc (.cells (Sgmcells k (.slice A k.data.length c)) 26) := ⟨_, rfl⟩
  have hg1 : Grow w W1 := by rw [hW1]; exact Grow.alloc w _
  have hB1 : Sgmbox W1 w.heap.size k (.slice A k.data.length c) := by rw [hW1]; exact Sgmbox.new _ _ _
  unfold Sgmcells at hW1
  have hip := h.grow hg1
  have k1 := hk.src
  have k2 := hk.dst
  have k3 := hk.seq
  have k4 := hk.ack
  have k5 := hk.flags
  have k6 := hk.win
  obtain ⟨n, hn⟩ : ∃ n, n = k.opts.length := ⟨_, rfl⟩
  have hn8 := sopt_length k
  rw [← hn] at hn8
  obtain ⟨q, hq⟩ : ∃ q, q = (20 + n) / 4 := ⟨_, rfl⟩
  obtain ⟨t, ht⟩ : ∃ t, t = 80 + 4 * n := ⟨_, rfl⟩
  have Q1 : (20 + (n : Int)) / 4 = (q : Int) := by omega
  have Q2 : (q : Int) * 16 = (t : Int) := by omega
  have hq8 : q ≤ 7 := by omega
  have ht8 : t ≤ 112 := by omega
  have hn9 : n ≤ 8 := by omega
  have HT := Lib.hid ht
  have HN := Lib.hid hn
  clear hn8 hq ht hn
  obtain ⟨L1, hL1⟩ : ∃ L1, L1 = two (k.src : Int) := ⟨_, rfl⟩
  obtain ⟨L2, hL2⟩ : ∃ L2, L2 = L1 ++ two (k.dst : Int) := ⟨_, rfl⟩
  obtain ⟨L3, hL3⟩ : ∃ L3, L3 = L2 ++ dig k.seq 4 := ⟨_, rfl⟩
  obtain ⟨L4, hL4⟩ : ∃ L4, L4 = L3 ++ dig k.ack 4 := ⟨_, rfl⟩
  obtain ⟨M, hM⟩ : ∃ M, M = [UInt8.ofNat t, UInt8.ofNat k.flags] := ⟨_, rfl⟩
  obtain ⟨L5, hL5⟩ : ∃ L5, L5 = L4 ++ M := ⟨_, rfl⟩
  have eL6 : L5 ++ two (k.win : Int) = k.pre := by rw [hL5, hL4, hL3, hL2, hL1, hM, HT.out, HN.out]; rfl
  have l1 : L1.length = 2 := by rw [hL1]; rfl
  have l2 : L2.length = 4 := by rw [hL2, List.length_append, l1, two_length]
  have l3 : L3.length = 8 := by rw [hL3, List.length_append, l2, dig_length]
  have l4 : L4.length = 12 := by rw [hL4, List.length_append, l3, dig_length]
  have lM : M.length = 2 := by rw [hM]; rfl
  have l5 : L5.length = 14 := by rw [hL5, List.length_append, l4, lM]
  have f0 : ([] : List UInt8).length ≤ 281474976710652 := by simp
  have f1 : L1.length ≤ 281474976710652 := by omega
  have f2 : L2.length ≤ 281474976710652 := by omega
  have f3 : L3.length ≤ 281474976710652 := by omega
  have f5 : L5.length ≤ 281474976710652 := by omega
  have n3 : 0 < [L4, M].length := by simp
  have n4 : [L4, M].length ≤ maxLen := by simp [maxLen]
  have n5 : lens [L4, M] ≤ 281474976710656 := by simp [lens, l4, lM]
  have eJ : [L4, M].flatten = L5 := by rw [hL5]; simp
  have z3 : 0 < [k.pre, [0, 0, 0, 0], k.opts].length := by simp
  have z4 : [k.pre, [0, 0, 0, 0], k.opts].length ≤ maxLen := by simp [maxLen]
  have z5 : lens [k.pre, [0, 0, 0, 0], k.opts] ≤ 281474976710656 := by simp [lens, spre_length, ← HN.out]; omega
  have eZ : [k.pre, [0, 0, 0, 0], k.opts].flatten = k.head := by unfold Sgm.head; simp
  have hlitM : ∀ w' : World, Byt (w'.alloc (.cells #[.int .u8 (t : Int), .int .u8 (k.flags : Int)] 5)) (.slice (some ⟨w'.heap.size, 0, none⟩) 2 2) M := by
    intro w'
    rw [hM]
    refine (Own.lit w' #[.int .u8 (t : Int), .int .u8 (k.flags : Int)] [UInt8.ofNat t, UInt8.ofNat k.flags] ?_ (by unfold maxLen; simp)).byt
    simp only [bv, List.map_cons, List.map_nil, UInt8.toNat_ofNat', List.cons.injEq, Value.int.injEq, true_and, and_true]
    constructor <;> omega
  have H1 := Lib.hid hL1
  have H2 := Lib.hid hL2
  have H3 := Lib.hid hL3
  have H4 := Lib.hid hL4
  clear hL1 hL2 hL3 hL4 hM hL5 l1 l2 l3 l4 l5 lM
  obtain ⟨b0, b1, b2, b3, b4, b5, b6, b7, b8⟩ := id hB1
  go_enter Try.func25, Try.ntmps25
  go_wp2_with fail
  rw [← hW1]
  clear hW1
  refine (sOptions_any _ k _ hip m1 m2 s1 s2).mono ?_
  rintro e w2 ⟨uo, rfl, ho2, hg2⟩
  obtain ⟨Ao, co, rfl, hoc, hom⟩ := ho2.byt.form
  rw [← HN.out] at ho2 hoc ⊢
  clear b0 b1 b2 b3 b4 b5 b6 b7 b8
  obtain ⟨b0, b1, b2, b3, b4, b5, b6, b7, b8⟩ := hB1.grow hg2
  go_wp2_with fail
  rw [Q1]
  refine (Put16_any _ [] _ _ (Byt.nil _) f0).mono ?_
  rw [List.nil_append, ← H1.out]
  rintro e w3 ⟨v3, rfl, ho3, hg3⟩
  clear b0 b1 b2 b3 b4 b5 b6 b7 b8
  obtain ⟨b0, b1, b2, b3, b4, b5, b6, b7, b8⟩ := (hB1.grow hg2).grow hg3
  go_wp2_with fail
  refine (Put16_any _ L1 _ _ ho3.byt f1).mono ?_
  rw [← H2.out]
  rintro e w4 ⟨v4, rfl, ho4, hg4⟩
  have g14 := (hg2.trans hg3).trans hg4
  clear b0 b1 b2 b3 b4 b5 b6 b7 b8
  obtain ⟨b0, b1, b2, b3, b4, b5, b6, b7, b8⟩ := hB1.grow g14
  go_wp2_with fail
  refine (Put32_any _ L2 k.seq _ ho4.byt f2 k3).mono ?_
  rw [← H3.out]
  rintro e w5 ⟨v5, rfl, ho5, hg5⟩
  have g15 := g14.trans hg5
  clear b0 b1 b2 b3 b4 b5 b6 b7 b8
  obtain ⟨b0, b1, b2, b3, b4, b5, b6, b7, b8⟩ := hB1.grow g15
  go_wp2_with fail
  refine (Put32_any _ L3 k.ack _ ho5.byt f3 k4).mono ?_
  rw [← H4.out]
  rintro e w6 ⟨v6, rfl, ho6, hg6⟩
  have g16 := g15.trans hg6
  clear b0 b1 b2 b3 b4 b5 b6 b7 b8
  obtain ⟨b0, b1, b2, b3, b4, b5, b6, b7, b8⟩ := hB1.grow g16
  obtain ⟨A6, m6, c6, rfl, _⟩ := ho6.byt.form2
  go_wp2_with fail
  refine (Join_lit_at w6 _ (Grow.alloc _ _) _ 2 _ (World.size_alloc _ _).symm [L4, M] rfl rfl n3 n4 n5 (byt_two (ho6.byt.grow (Grow.alloc _ _)) (hlitM _))).mono ?_
  rw [eJ]
  rintro e w7 ⟨v7, rfl, ho7, hg7⟩
  have g17 := g16.trans hg7
  clear b0 b1 b2 b3 b4 b5 b6 b7 b8
  obtain ⟨b0, b1, b2, b3, b4, b5, b6, b7, b8⟩ := hB1.grow g17
  go_wp2_with fail
  refine (Put16_any _ L5 _ _ ho7.byt f5).mono ?_
  rw [eL6]
  rintro e w8 ⟨v8, rfl, ho8, hg8⟩
  have g18 := g17.trans hg8
  have ho28 := ho2.byt.grow ((((((hg3.trans hg4).trans hg5).trans hg6).trans hg7)).trans hg8)
  clear b0 b1 b2 b3 b4 b5 b6 b7 b8
  obtain ⟨b0, b1, b2, b3, b4, b5, b6, b7, b8⟩ := hB1.grow g18
  obtain ⟨A8, m8, c8, rfl, _⟩ := ho8.byt.form2
  have mk : Hid (∃ i0 : TypeInfo, Try.prog.info? 5 = some i0 ∧ i0.zero = some (.int .u8 0) ∧ i0.size = 1 ∧ i0.bytes = 1) := Lib.hid (info_parts infoByte)
  obtain ⟨i0, hi, hz0, hz1, hz2⟩ := mk.out
  have fb1 : i0.bytes * 4 ≤ 281474976710656 := by rw [hz2]; omega
  have fb2 : 4 ≤ maxLen := by unfold maxLen; omega
  go_wp2_with (at_make; refine wpList_make_full _ rfl _ _ 24 rfl w8.heap.size 5 i0 (.int .u8 0) 1 Try.underlying24 hi hz0 hz1 .i64 .i64 _ _ 4 rfl rfl rfl rfl fb1 fb2 (Nat.le_refl _) ?_; intro w9 hown hg)
  have hg9 : Grow w8 w9 := (Below.refl _ _).grown hg (Nat.le_refl _) (by simp)
  have hb9 : Byt w9 (.slice (some ⟨w8.heap.size, 0, none⟩) 4 4) [0, 0, 0, 0] := by
    refine Byt.of_own (base := w8.heap.size) (e := 5) (n := 4) ?_
    rw [show (Value.int IntKind.u8 0).cells = #[Value.int IntKind.u8 0] from rfl, Nat.mul_one, toList_madeCells_one] at hown
    exact hown
  refine (Join_lit_at w w9 ((hg1.trans g18).trans hg9) _ 3 _ rfl [k.pre, [0, 0, 0, 0], k.opts] rfl rfl z3 z4 z5 (byt_three (ho8.byt.grow hg9) hb9 (ho28.grow hg9))).mono ?_
  rw [eZ]
  rintro e w10 ⟨v9, rfl, ho9, hg10⟩
  go_wp2_with fail
  go_ret
  exact ⟨_, rfl, ho9, hg10⟩
end Go.Proofs.Ytbhdpobmooncpaa
