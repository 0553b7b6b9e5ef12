/- Contracts: the head of addresses, and the check sum with it. -/
import Derived.Test.YtbhdpobmooncpaaApp
import Derived.Test.YtbhdpobmooncpaaSumLaws
namespace Go.Proofs.Ytbhdpobmooncpaa
set_option linter.unusedVariables false
set_option linter.unusedSimpArgs false
open Go.ChangeShapes Go.WideShapes Go.ChangeAt Go.RowKit

def headOf (s d p : Nat) (n : Int) : List UInt8 := dig s 4 ++ dig d 4 ++ [0, UInt8.ofNat p] ++ two n
theorem headOf_length (s d p : Nat) (n : Int) : (headOf s d p n).length = 12 := by simp [headOf, dig_length, two_length]
theorem byt_pair (w : World) (p : Nat) (hp : p < 256) : Byt (w.alloc (.cells #[.int .u8 0, .int .u8 (p : Int)] 5)) (.slice (some ⟨w.heap.size, 0, none⟩) 2 2) [0, UInt8.ofNat p] := by
  have := (Own.lit w #[.int .u8 0, .int .u8 (p : Int)] [0, UInt8.ofNat p] (by simp [bv]; omega) (by unfold maxLen; simp)).byt
  exact this

set_option maxHeartbeats 1000000 in
theorem Head_any (s d p : Nat) (n : Int) (w : World) (hs : s < 4294967296) (hd : d < 4294967296) (hp : p < 256) :
    Calls Try.prog 42 #[.int .u32 (s : Int), .int .u32 (d : Int), .int .u8 (p : Int), .int .i64 n] w fun e w' => ∃ u, e = .returned u ∧ Own w' w.heap.size u (headOf s d p n) ∧ Grow w w' := by
  have e4 : [dig s 4 ++ dig d 4, [0, UInt8.ofNat p]].flatten = dig s 4 ++ dig d 4 ++ [0, UInt8.ofNat p] := by simp
  have f4 : lens [dig s 4 ++ dig d 4, [0, UInt8.ofNat p]] ≤ 281474976710656 := by simp [lens, dig_length]
  have f1 : ([] : List UInt8).length ≤ 281474976710652 := by simp
  have f2 : (dig s 4).length ≤ 281474976710652 := by simp [dig_length]
  have f3 : (dig s 4 ++ dig d 4 ++ [0, UInt8.ofNat p]).length ≤ 281474976710652 := by simp [dig_length]
  have f0 : 0 < [dig s 4 ++ dig d 4, [0, UInt8.ofNat p]].length := by simp
  have f5 : (2 : Nat) ≤ maxLen := by simp [maxLen]
  go_enter Try.func42, Try.ntmps42
  go_wp2_with fail
  refine (Put32_any _ [] s w (Byt.nil w) f1 hs).mono ?_
  rintro e w1 ⟨v1, rfl, ho1, hg1⟩
  rw [List.nil_append] at ho1
  go_wp2_with fail
  refine (Put32_any _ _ d _ ho1.byt f2 hd).mono ?_
  rintro e w2 ⟨v2, rfl, ho2, hg2⟩
  obtain ⟨A2, m2, c2, rfl, _⟩ := ho2.byt.form2
  have hb3 := byt_pair w2 p hp
  have hg3 : Grow w (w2.alloc (.cells #[.int .u8 0, .int .u8 (p : Int)] 5)) := (hg1.trans hg2).trans (Grow.alloc _ _)
  have hb2 := ho2.byt.grow (Grow.alloc w2 (.cells #[.int .u8 0, .int .u8 (p : Int)] 5))
  go_wp2_with fail
  refine (Join_lit_at w _ hg3 _ 2 _ (World.size_alloc _ _).symm [dig s 4 ++ dig d 4, [0, UInt8.ofNat p]] rfl rfl f0 f5 f4 (byt_two hb2 hb3)).mono ?_
  rw [e4]
  rintro e w4 ⟨v4, rfl, ho4, hg4⟩
  go_wp2_with fail
  refine (Put16_any _ _ n _ ho4.byt f3).mono ?_
  rintro e w5 ⟨v5, rfl, ho5, hg5⟩
  go_wp2_with fail
  go_ret
  exact ⟨_, rfl, ho5.base hg4.size, hg4.trans hg5⟩

set_option maxHeartbeats 1000000 in
theorem RHead_any (s d p : Nat) (n : Int) (w : World) (hs : s < 4294967296) (hd : d < 4294967296) (hp : p < 256) (hn : -9223372036854775808 ≤ n ∧ n ≤ 9223372036854775807) :
    Calls Try.prog 46 #[.int .u32 (s : Int), .int .u32 (d : Int), .int .u8 (p : Int), .int .i64 n] w fun e w' => ∃ u, e = .returned u ∧ Own w' w.heap.size u (headOf s d p n) ∧ Grow w w' := by
  go_enter Try.func46, Try.ntmps46
  go_wp2_with fail
  refine (Four_any s _ hs).mono ?_
  rintro e w1 ⟨v1, rfl, ho1, hg1⟩
  go_wp2_with fail
  refine (Four_any d _ hd).mono ?_
  rintro e w2 ⟨v2, rfl, ho2, hg2⟩
  have ho1' := ho1.grow hg2
  have hb2 := ho2.byt
  have hg12 := hg1.trans hg2
  have f1 : (dig s 4).length + (dig d 4).length ≤ 140737488355328 := by simp [dig_length]
  have f2 : (dig s 4 ++ dig d 4).length + [0, UInt8.ofNat p].length ≤ 140737488355328 := by simp [dig_length]
  have f3 : (dig s 4 ++ dig d 4 ++ [0, UInt8.ofNat p]).length + (two n).length ≤ 140737488355328 := by simp [dig_length, two_length]
  go_wp2_with (first | (at_builtin; refine wpList_app w _ rfl _ _ rfl _ _ _ _ rfl rfl ho1' hg12 hb2 f1 ?_; intro v3 w3 ho3 hg3; clear ho1') | (at_builtin; refine wpList_app w _ rfl _ _ rfl _ _ _ _ rfl rfl (ho3.grow (Grow.alloc _ _)) (hg3.trans (Grow.alloc _ _)) (byt_pair _ p hp) f2 ?_; intro v4 w4 ho4 hg4; clear ho3))
  refine (Two_any n _ hn.1 hn.2).mono ?_
  rintro e w5 ⟨v5, rfl, ho5, hg5⟩
  have ho4' := ho4.grow hg5
  have hb5 := ho5.byt
  have hg45 := hg4.trans hg5
  go_wp2_with (at_builtin; refine wpList_app w _ rfl _ _ rfl _ _ _ _ rfl rfl ho4' hg45 hb5 f3 ?_; intro v6 w6 ho6 hg6; clear ho4')
  go_ret
  exact ⟨_, rfl, ho6, hg6⟩

theorem beq_self (a : Int) : (a == a) = true := beq_self_eq_true a

set_option maxHeartbeats 1000000 in
theorem Of_any (s d p : Nat) (v : Value) (l : List UInt8) (w : World) (hs : s < 4294967296) (hd : d < 4294967296) (hp : p < 256) (h : Byt w v l) (hl : l.length ≤ 140737488351232) :
    Calls Try.prog 27 #[.int .u32 (s : Int), .int .u32 (d : Int), .int .u8 (p : Int), v] w fun e w' => e = .returned (.int .i64 (65535 - (ones (headOf s d p l.length ++ l) : Int))) ∧ Grow w w' := by
  obtain ⟨A, c, rfl, hc, hcm⟩ := h.form
  have e4 : [headOf s d p l.length, l].flatten = headOf s d p l.length ++ l := by simp
  have f4 : lens [headOf s d p l.length, l] ≤ 281474976710656 := by simp [lens, headOf_length]; omega
  have f0 : 0 < [headOf s d p l.length, l].length := by simp
  have f5 : (2 : Nat) ≤ maxLen := by simp [maxLen]
  have f6 : (headOf s d p l.length ++ l).length ≤ 281474976710656 := by rw [List.length_append, headOf_length]; omega
  go_enter Try.func27, Try.ntmps27
  go_wp2_with fail
  refine (Head_any s d p _ w hs hd hp).mono ?_
  rintro e w1 ⟨v1, rfl, ho1, hg1⟩
  obtain ⟨A2, m2, c2, rfl, _⟩ := ho1.byt.form2
  go_wp2_with fail
  refine (Join_lit_at w _ hg1 _ 2 _ rfl [headOf s d p l.length, l] rfl rfl f0 f5 f4 (byt_two ho1.byt (h.grow hg1))).mono ?_
  rw [e4]
  rintro e w2 ⟨v2, rfl, ho2, hg2⟩
  go_wp2_with fail
  refine (Check_any _ _ _ ho2.byt f6).mono ?_
  rintro e w3 ⟨rfl, hg3⟩
  go_wp2_with fail
  go_ret
  exact ⟨rfl, hg2.trans hg3⟩

set_option maxHeartbeats 1000000 in
theorem ROf_any (s d p : Nat) (v : Value) (l : List UInt8) (w : World) (hs : s < 4294967296) (hd : d < 4294967296) (hp : p < 256) (h : Byt w v l) (hl : l.length ≤ 140737488351232) :
    Calls Try.prog 33 #[.int .u32 (s : Int), .int .u32 (d : Int), .int .u8 (p : Int), v] w fun e w' => e = .returned (.int .i64 (65535 - (ones (headOf s d p l.length ++ l) : Int))) ∧ Grow w w' := by
  have l1 := ones_lt (headOf s d p l.length ++ l)
  obtain ⟨A, c, rfl, hc, hcm⟩ := h.form
  have f6 : (headOf s d p l.length ++ l).length ≤ 281474976710656 := by rw [List.length_append, headOf_length]; omega
  have f7 : (headOf s d p l.length).length + l.length ≤ 140737488355328 := by rw [headOf_length]; omega
  go_enter Try.func33, Try.ntmps33
  go_wp2_with fail
  refine (RHead_any s d p _ w hs hd hp (by omega)).mono ?_
  rintro e w1 ⟨v1, rfl, ho1, hg1⟩
  have hb := h.grow hg1
  go_wp2_with (at_builtin; refine wpList_app w _ rfl _ _ rfl _ _ _ _ rfl rfl ho1 hg1 hb f7 ?_; intro v3 w3 ho3 hg3; clear ho1)
  refine (RSum_any _ _ _ ho3.byt f6).mono ?_
  rintro e w4 ⟨rfl, rfl⟩
  go_wp2_with fail
  go_ret
  exact ⟨rfl, hg3⟩

end Go.Proofs.Ytbhdpobmooncpaa
