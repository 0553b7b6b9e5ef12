/- Options as bytes: the layer's, and the reference's. -/
import Derived.Test.YtbhdpobmooncpaaSeg
import Derived.Test.YtbhdpobmooncpaaApp
import Derived.Test.YtbhdpobmooncpaaSumHead
namespace Go.Proofs.Ytbhdpobmooncpaa
set_option linter.unusedVariables false
set_option linter.unusedSimpArgs false
open Go.ChangeShapes Go.WideShapes Go.ChangeAt Go.RowKit

theorem mssO_pos {m : Int} (h : ¬ m = 0) : mssO m = [2, 4] ++ two m := by unfold mssO; rw [if_neg h]
theorem scaleO_pos {s : Int} (h : ¬ s = 0) : scaleO s = [1, 3, 3, UInt8.ofNat (s - 1).toNat] := by unfold scaleO; rw [if_neg h]
theorem sopts_00 : sopts 0 0 = [] := rfl
theorem lit_2_4 (w : World) : Own (w.alloc (.cells #[.int .u8 2, .int .u8 4] 5)) w.heap.size (.slice (some ⟨w.heap.size, 0, none⟩) 2 2) [2, 4] := Own.lit w #[.int .u8 2, .int .u8 4] [2, 4] rfl (by unfold maxLen; simp)
theorem lit_1_3_3 (w : World) (s : Int) (h0 : 0 ≤ s) (h1 : s ≤ 15) (hz : ¬ s = 0) : Own (w.alloc (.cells #[.int .u8 1, .int .u8 3, .int .u8 3, .int .u8 (s - 1)] 5)) w.heap.size (.slice (some ⟨w.heap.size, 0, none⟩) 4 4) [1, 3, 3, UInt8.ofNat (s - 1).toNat] := by
  refine Own.lit w #[.int .u8 1, .int .u8 3, .int .u8 3, .int .u8 (s - 1)] [1, 3, 3, UInt8.ofNat (s - 1).toNat] ?_ (by unfold maxLen; simp)
  simp only [bv, List.map_cons, List.map_nil, UInt8.toNat_ofNat', List.cons.injEq, Value.int.injEq, true_and, and_true]
  exact ⟨rfl, rfl, rfl, by omega⟩

set_option maxHeartbeats 2000000 in
theorem sOptions_any (v : Value) (k : Sgm) (w : World) (h : isSgm w v k) (m1 : 0 ≤ k.mss) (m2 : k.mss ≤ 65535) (s1 : 0 ≤ k.scale) (s2 : k.scale ≤ 15) :
    Calls Try.prog 20 #[v] w fun e w' => ∃ u, e = .returned u ∧ Own w' w.heap.size u k.opts ∧ Grow w w' := by
  obtain ⟨A, c, rfl, hd, hk⟩ := h.form
  obtain ⟨W1, hW1⟩ : ∃ W1, W1 = w.alloc (.cells (Sgmcells k (.slice A k.data.length c)) 26) := ⟨_, rfl⟩
  have hg1 : Grow w W1 := by rw [hW1]; exact Grow.alloc w _
  have hB1 : Sgmbox W1 w.heap.size k (.slice A k.data.length c) := by rw [hW1]; exact Sgmbox.new _ _ _
  have hs1 : W1.heap.size = w.heap.size + 1 := by rw [hW1]; simp
  unfold Sgmcells at hW1
  have hsz := hg1.size
  have eo : k.opts = mssO k.mss ++ scaleO k.scale := rfl
  rw [eo]
  clear h hd hk eo
  by_cases hm : k.mss = 0
  · have bm : ((k.mss : Int) != 0) = false := by rw [hm]; rfl
    by_cases hs : k.scale = 0
    · have bs : ((k.scale : Int) != 0) = false := by rw [hs]; rfl
      have e0 : mssO k.mss ++ scaleO k.scale = [] := by rw [hm, hs]; rfl
      rw [e0]
      clear e0 hm hs
      go_enter Try.func20, Try.ntmps20
      go_wp2_with fail
      rw [← hW1]
      go_ret
      exact ⟨_, rfl, World.ownsRow_nil _ _ _ _, hg1⟩
    · have bs : ((k.scale : Int) != 0) = true := bne_iff_ne.2 hs
      have hl3 := lit_1_3_3 W1 k.scale s1 s2 hs
      rw [hs1] at hl3
      obtain ⟨L, hL⟩ : ∃ L, L = [1, 3, 3, UInt8.ofNat (k.scale - 1).toNat] := ⟨_, rfl⟩
      have e0 : mssO k.mss ++ scaleO k.scale = [[], L].flatten := by rw [hm, scaleO_pos hs, hL]; rfl
      rw [← hL] at hl3
      have ll : L.length = 4 := by rw [hL]; rfl
      rw [e0]
      obtain ⟨W2, hW2⟩ : ∃ W2, W2 = W1.alloc (.cells #[.int .u8 1, .int .u8 3, .int .u8 3, .int .u8 (k.scale - 1)] 5) := ⟨_, rfl⟩
      rw [← hW2] at hl3
      have hg2 : Grow W1 W2 := by rw [hW2]; exact Grow.alloc _ _
      have hs2 : w.heap.size + 1 + 1 = W2.heap.size := by rw [hW2]; simp [hs1]
      have n3 : 0 < [([] : List UInt8), L].length := by simp
      have n4 : [([] : List UInt8), L].length ≤ maxLen := by simp [maxLen]
      have n5 : lens [([] : List UInt8), L] ≤ 281474976710656 := by simp [lens, ll]
      have hz1 : 1 ≤ k.scale := by omega
      have J := Join_lit_at w W2 (hg1.trans hg2) _ 2 _ hs2 [[], L] rfl rfl n3 n4 n5 (byt_two (Byt.nil _) hl3.byt)
      clear e0 hm hL n3 n4 n5 hl3 hs1 hs2 hsz hs ll
      obtain ⟨b0, b1, b2, b3, b4, b5, b6, b7, b8⟩ := hB1
      go_enter Try.func20, Try.ntmps20
      go_wp2_with fail
      rw [← hW1, ← hW2]
      refine J.mono ?_
      rintro e w4 ⟨v4, rfl, ho4, hg4⟩
      go_wp2_with fail
      go_ret
      exact ⟨_, rfl, ho4, hg4⟩
  · have bm : ((k.mss : Int) != 0) = true := bne_iff_ne.2 hm
    have hl2 := lit_2_4 W1
    rw [hs1] at hl2
    obtain ⟨W2, hW2⟩ : ∃ W2, W2 = W1.alloc (.cells #[.int .u8 2, .int .u8 4] 5) := ⟨_, rfl⟩
    rw [← hW2] at hl2
    have hg2 : Grow W1 W2 := by rw [hW2]; exact Grow.alloc _ _
    have hs2 : W2.heap.size = w.heap.size + 1 + 1 := by rw [hW2]; simp [hs1]
    have P := Put16_any _ [2, 4] k.mss W2 hl2.byt (by simp)
    have e1 : [2, 4] ++ two k.mss = mssO k.mss := (mssO_pos hm).symm
    rw [e1] at P
    have lm : (mssO k.mss).length = 4 := by rw [mssO_length, if_neg hm]
    obtain ⟨M, hM⟩ : ∃ M, M = mssO k.mss := ⟨_, rfl⟩
    rw [← hM] at P lm ⊢
    clear e1 hM hl2
    have hB2 := hB1.grow hg2
    obtain ⟨d0, d1, d2, d3, d4, d5, d6, d7, d8⟩ := hB1
    obtain ⟨b0, b1, b2, b3, b4, b5, b6, b7, b8⟩ := id hB2
    by_cases hs : k.scale = 0
    · have bs : ((k.scale : Int) != 0) = false := by rw [hs]; rfl
      have e0 : M ++ scaleO k.scale = M := by rw [hs]; exact List.append_nil _
      rw [e0]
      clear e0 hm hs
      go_enter Try.func20, Try.ntmps20
      go_wp2_with fail
      rw [← hW1, ← hW2]
      refine P.mono ?_
      rintro e w3 ⟨u, rfl, ho, hg⟩
      clear b0 b1 b2 b3 b4 b5 b6 b7 b8 d0 d1 d2 d3 d4 d5 d6 d7 d8
      obtain ⟨b0, b1, b2, b3, b4, b5, b6, b7, b8⟩ := hB2.grow hg
      go_wp2_with fail
      go_ret
      exact ⟨_, rfl, ho.base (by omega), (hg1.trans hg2).trans hg⟩
    · have bs : ((k.scale : Int) != 0) = true := bne_iff_ne.2 hs
      have hz1 : 1 ≤ k.scale := by omega
      obtain ⟨L, hL⟩ : ∃ L, L = [1, 3, 3, UInt8.ofNat (k.scale - 1).toNat] := ⟨_, rfl⟩
      have e0 : M ++ scaleO k.scale = [M, L].flatten := by rw [scaleO_pos hs, hL]; simp
      have ll : L.length = 4 := by rw [hL]; rfl
      rw [e0]
      have n3 : 0 < [M, L].length := by simp
      have n4 : [M, L].length ≤ maxLen := by simp [maxLen]
      have n5 : lens [M, L] ≤ 281474976710656 := by simp [lens, ll, lm]
      have HL := Lib.hid hL
      clear e0 hm hL
      go_enter Try.func20, Try.ntmps20
      go_wp2_with fail
      rw [← hW1, ← hW2]
      clear hW1 hW2
      refine P.mono ?_
      rintro e w3 ⟨u, rfl, ho, hg⟩
      clear b0 b1 b2 b3 b4 b5 b6 b7 b8 d0 d1 d2 d3 d4 d5 d6 d7 d8
      have hB3 := hB2.grow hg
      obtain ⟨b0, b1, b2, b3, b4, b5, b6, b7, b8⟩ := hB3
      have hl3 := lit_1_3_3 w3 k.scale s1 s2 hs
      rw [← HL.out] at hl3
      obtain ⟨W4, hW4⟩ : ∃ W4, W4 = w3.alloc (.cells #[.int .u8 1, .int .u8 3, .int .u8 3, .int .u8 (k.scale - 1)] 5) := ⟨_, rfl⟩
      rw [← hW4] at hl3
      have hg4 : Grow w3 W4 := by rw [hW4]; exact Grow.alloc _ _
      have hs4 : w3.heap.size + 1 = W4.heap.size := by rw [hW4]; simp
      obtain ⟨Au, nu, cu, rfl, _⟩ := ho.byt.form2
      have J := Join_lit_at w W4 (((hg1.trans hg2).trans hg).trans hg4) _ 2 _ hs4 [M, L] rfl rfl n3 n4 n5 (byt_two (ho.byt.grow hg4) hl3.byt)
      clear n3 n4 n5 hl3 HL ll lm hs P hs1 hs2 hs4 hsz
      go_wp2_with fail
      rw [← hW4]
      clear hW4
      refine J.mono ?_
      rintro e w5 ⟨v5, rfl, ho5, hg5⟩
      go_wp2_with fail
      go_ret
      exact ⟨_, rfl, ho5, hg5⟩

set_option maxHeartbeats 2000000 in
theorem ROptions_any (m s : Int) (w : World) (m1 : 0 ≤ m) (m2 : m ≤ 65535) (s1 : 0 ≤ s) (s2 : s ≤ 15) :
    Calls Try.prog 23 #[.int .i64 m, .int .i64 s] w fun e w' => ∃ u, e = .returned u ∧ Own w' w.heap.size u (sopts m s) ∧ Grow w w' := by
  have eo : sopts m s = mssO m ++ scaleO s := rfl
  rw [eo]
  clear eo
  have f2 : (scaleO s).length ≤ 4 := by rw [scaleO_length]; split <;> omega
  by_cases hm : m = 0
  · have bm : decide (0 < m) = false := decide_eq_false (by omega)
    by_cases hs : s = 0
    · have bs : decide (0 < s) = false := decide_eq_false (by omega)
      have e0 : mssO m ++ scaleO s = [] := by rw [hm, hs]; rfl
      rw [e0]
      clear e0 hm hs
      go_enter Try.func23, Try.ntmps23
      go_wp2_with fail
      go_ret
      exact ⟨_, rfl, World.ownsRow_nil _ _ _ _, Grow.refl _⟩
    · have bs : decide (0 < s) = true := decide_eq_true (by omega)
      have hl3 := lit_1_3_3 w s s1 s2 hs
      have e0 : mssO m ++ scaleO s = [] ++ scaleO s := by rw [hm]; rfl
      rw [← scaleO_pos hs] at hl3
      rw [e0]
      have hz1 : 1 ≤ s := by omega
      obtain ⟨L, hL⟩ : ∃ L, L = scaleO s := ⟨_, rfl⟩
      rw [← hL] at hl3 f2 ⊢
      have f3 : ([] : List UInt8).length + L.length ≤ 140737488355328 := by simp; omega
      have hb3 := hl3.byt
      have hnil : ∀ w', Own w' w.heap.size (.slice none 0 0) [] := fun w' => World.ownsRow_nil _ _ _ _
      clear e0 hm hs hL
      go_enter Try.func23, Try.ntmps23
      go_wp2_with (at_builtin; refine wpList_app w _ rfl _ _ rfl _ _ _ _ rfl rfl (hnil _) (Grow.alloc _ _) hb3 f3 ?_; intro v6 w6 ho6 hg6)
      go_ret
      exact ⟨_, rfl, ho6, hg6⟩
  · have bm : decide (0 < m) = true := decide_eq_true (by omega)
    have hl2 := lit_2_4 w
    obtain ⟨W1, hW1⟩ : ∃ W1, W1 = w.alloc (.cells #[.int .u8 2, .int .u8 4] 5) := ⟨_, rfl⟩
    rw [← hW1] at hl2
    have hg1 : Grow w W1 := by rw [hW1]; exact Grow.alloc _ _
    have lm : (mssO m).length = 4 := by rw [mssO_length, if_neg hm]
    have f1 : [2, 4].length + (two m).length ≤ 140737488355328 := by simp [two_length]
    have f3 : (mssO m).length + (scaleO s).length ≤ 140737488355328 := by omega
    by_cases hs : s = 0
    · have bs : decide (0 < s) = false := decide_eq_false (by omega)
      have e0 : mssO m ++ scaleO s = [2, 4] ++ two m := by rw [hs, mssO_pos hm]; exact List.append_nil _
      rw [e0]
      clear e0
      go_enter Try.func23, Try.ntmps23
      go_wp2_with fail
      rw [← hW1]
      clear hW1
      refine (Two_any m _ (by omega) (by omega)).mono ?_
      rintro e w2 ⟨v2, rfl, ho2, hg2⟩
      have hla := hl2.grow hg2
      have hb2 := ho2.byt
      have hgg := hg1.trans hg2
      go_wp2_with (at_builtin; refine wpList_app w _ rfl _ _ rfl _ _ _ _ rfl rfl hla hgg hb2 f1 ?_; intro v6 w6 ho6 hg6)
      go_ret
      exact ⟨_, rfl, ho6, hg6⟩
    · have bs : decide (0 < s) = true := decide_eq_true (by omega)
      have hz1 : 1 ≤ s := by omega
      have hl3 : ∀ w' : World, Own (w'.alloc (.cells #[.int .u8 1, .int .u8 3, .int .u8 3, .int .u8 (s - 1)] 5)) w'.heap.size (.slice (some ⟨w'.heap.size, 0, none⟩) 4 4) (scaleO s) := by
        intro w'
        rw [scaleO_pos hs]
        exact lit_1_3_3 w' s s1 s2 hs
      have e1 : [2, 4] ++ two m = mssO m := (mssO_pos hm).symm
      go_enter Try.func23, Try.ntmps23
      go_wp2_with fail
      rw [← hW1]
      clear hW1
      refine (Two_any m _ (by omega) (by omega)).mono ?_
      rintro e w2 ⟨v2, rfl, ho2, hg2⟩
      have hla := hl2.grow hg2
      have hb2 := ho2.byt
      have hgg := hg1.trans hg2
      go_wp2_with (first | (at_builtin; refine wpList_app w _ rfl _ _ rfl _ _ _ _ rfl rfl hla hgg hb2 f1 ?_; intro v6 w6 ho6 hg6; rw [e1] at ho6; clear hla) | (at_builtin; refine wpList_app w _ rfl _ _ rfl _ _ _ _ rfl rfl (ho6.grow (Grow.alloc _ _)) (hg6.trans (Grow.alloc _ _)) (hl3 _).byt f3 ?_; intro v7 w7 ho7 hg7; clear ho6))
      go_ret
      exact ⟨_, rfl, ho7, hg7⟩
end Go.Proofs.Ytbhdpobmooncpaa
