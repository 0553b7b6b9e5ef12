/- A message as bytes: Put. -/
import Derived.Test.YtbnnacohkemnhaaIcm
import Derived.Test.YtbnnacohkemnhaaIpPut
import Derived.Lib.Hide
namespace Go.Proofs.Ytbnnacohkemnhaa
set_option linter.unusedVariables false
set_option linter.unusedSimpArgs false
open Go.ChangeShapes Go.WideShapes Go.ChangeAt Go.RowKit

theorem ilay (k : Icm) (n : Int) : lay k.bare 2 (two n) = k.top ++ two n ++ k.tail := by
  simp [lay, Icm.bare, Icm.top, two]

set_option maxHeartbeats 400000 in
theorem icmPut_long (v : Value) (k : Icm) (w : World) (h : isIcm w v k) (hs : k.data.length ≤ 1000000) (hl : 65507 < k.data.length) :
    Calls Try.prog 10 #[v] w fun e w' => e = .returned (.tuple #[.slice none 0 0, .int .i64 9]) ∧ Grow w w' := by
  obtain ⟨A, c, rfl, hd, hk⟩ := h.form
  go_enter Try.func10, Try.ntmps10
  go_wp2_with fail
  go_ret2
  exact ⟨rfl, Grow.alloc _ _⟩

set_option maxHeartbeats 4000000 in
theorem icmPut_good (v : Value) (k : Icm) (w : World) (h : isIcm w v k) (hl : k.data.length ≤ 65507) :
    Calls Try.prog 10 #[v] w fun e w' => ∃ u, e = .returned (.tuple #[u, .int .i64 0]) ∧ Own w' w.heap.size u k.bytes ∧ Grow w w' := by
  obtain ⟨A, c, rfl, hd, hk⟩ := h.form
  obtain ⟨_, k1, k2, k3⟩ := hk
  obtain ⟨W1, hW1⟩ : ∃ W1, W1 = w.alloc (.cells #[.int .u8 (k.kind : Int), .int .u8 (k.code : Int), .int .u32 (k.rest : Int), .slice A k.data.length c] 25) := ⟨_, rfl⟩
  have hg1 : Grow w W1 := by rw [hW1]; exact Grow.alloc w _
  have hB1 : Icmbox W1 w.heap.size k (.slice A k.data.length c) := by rw [hW1]; exact Icmbox.new _ _ _
  obtain ⟨L1, hL1⟩ : ∃ L1, L1 = [UInt8.ofNat k.kind, UInt8.ofNat k.code, 0, 0] := ⟨_, rfl⟩
  obtain ⟨W2, hW2⟩ : ∃ W2, W2 = W1.alloc (.cells #[.int .u8 (k.kind : Int), .int .u8 (k.code : Int), .int .u8 0, .int .u8 0] 5) := ⟨_, rfl⟩
  have hs0 : W1.heap.size = w.heap.size + 1 := by rw [hW1]; simp
  have hb1 : Byt W2 (.slice (some ⟨w.heap.size + 1, 0, none⟩) 4 4) L1 := by
    rw [hW2, hL1, ← hs0]
    refine (Own.lit W1 _ [UInt8.ofNat k.kind, UInt8.ofNat k.code, 0, 0] ?_ (by unfold maxLen; simp)).byt
    simp only [bv, List.map_cons, List.map_nil, UInt8.toNat_ofNat', List.cons.injEq, Value.int.injEq, true_and, and_true]
    exact ⟨by omega, by omega, rfl, rfl⟩
  have hg2 : Grow W1 W2 := by rw [hW2]; exact Grow.alloc _ _
  have l1 : L1.length = 4 := by rw [hL1]; rfl
  have f1 : L1.length ≤ 281474976710652 := by omega
  go_enter Try.func10, Try.ntmps10
  go_wp2_with fail
  rw [← hW1, ← hW2]
  refine (Put32_any _ L1 k.rest _ hb1 f1 k3).mono ?_
  rintro e w3 ⟨v3, rfl, ho3, hg3⟩
  have hg13 := hg2.trans hg3
  obtain ⟨b0, b1, b2, b3⟩ := hB1.grow hg13
  obtain ⟨L2, hL2⟩ : ∃ L2, L2 = L1 ++ dig k.rest 4 := ⟨_, rfl⟩
  rw [← hL2] at ho3
  have l2 : L2.length = 8 := by rw [hL2, List.length_append, l1, dig_length]
  obtain ⟨A3, m3, c3, rfl, _⟩ := ho3.byt.form2
  have q3 := ho3.byt
  have r3 := hd.grow (hg1.trans hg13)
  have n3 : 0 < [L2, k.data].length := by simp
  have n4 : [L2, k.data].length ≤ maxLen := by simp [maxLen]
  have n5 : lens [L2, k.data] ≤ 281474976710656 := by simp [lens, l2]; omega
  go_wp2_with fail
  refine (Join_lit_at W1 _ hg13 _ 2 _ rfl [L2, k.data] rfl rfl n3 n4 n5 (byt_two q3 r3)).mono ?_
  rintro e w4 ⟨v4, rfl, ho4, hg4⟩
  have e4 : [L2, k.data].flatten = k.bare := by rw [hL2, hL1]; simp [Icm.bare, Icm.top, Icm.tail]
  rw [e4] at ho4
  have hbl := ibare_length k
  have hgw4 := hg1.trans hg4
  have hs4 := hg4.size
  have hob := ho4.byt
  obtain ⟨g, cap, zs, rfl, hbg, hnc, hcm, hh, hcap⟩ := ho4.cells (by omega)
  obtain ⟨n, hn⟩ : ∃ n, n = k.bare.length := ⟨_, rfl⟩
  rw [← hn] at hnc hob
  have ecs : 65535 - (ones k.bare : Int) = ((k.csum : Nat) : Int) := by
    have := ones_lt k.bare
    unfold Icm.csum
    omega
  have hn8 : 8 ≤ n := by omega
  have hnm : n ≤ 65515 := by omega
  unfold maxLen at hcm
  have i1 : (2 : Int) ≤ (n : Int) := by omega
  have i2 : ¬ cap = 2 := by omega
  have hgm : g < w4.heap.size := (Array.getElem?_eq_some_iff.1 hh).1
  have hsg : w.heap.size ≤ g := by omega
  clear b0 b1 b2 b3 hW1 hW2 hB1 hb1 ho3 q3 r3
  rw [← hn]
  have HN := Lib.hid hn
  clear hbl hn
  go_wp2_with fail
  refine wp_region_phase (A := ?frame5) (inList (isV (.slice (some ⟨g, 0, none⟩) n cap) :: isV (.slice (some ⟨g, 2, none⟩) (n - 2) (cap - 2)) :: isV (.slice (some ⟨g, 0, none⟩) n cap) :: isV (.int .i64 (k.csum : Nat)) :: isB (two (k.csum : Nat)) :: [])) 5 (by kernel_rfl) (by kernel_rfl) (by kernel_rfl) (inList_stays ?_) (fun x => ?frameEq5) ?_ ?_
  case frameEq5 => go_simp; rfl
  · intro f hf
    simp only [List.mem_cons, List.not_mem_nil, or_false] at hf
    rcases hf with rfl | rfl | rfl | rfl | rfl <;> first | exact isV_stays _ | exact isB_stays _ | exact isBs_stays _
  · refine ⟨fun x w1 hg hd post hp => ?_, fun x w1 hg hd post hp => ?_, fun x w1 hg hd post hp => ?_, fun x w1 hg hd post hp => ?_, fun x w1 hg hd post hp => ?_, trivial⟩
    · -- 0: slot 23: Op.move t5
      clear hd
      go_simp
      exact hp _ _ (Grow.refl _) rfl
    · -- 1: slot 24: Op.slice 23 t23 (some (const (2:i64))) none none
      have h23 : x 23 = .slice (some ⟨g, 0, none⟩) n cap := hd 0 (by decide) _ rfl
      clear hd
      go_simp
      exact hp _ _ (Grow.refl _) rfl
    · -- 2: slot 25: Op.move t5
      clear hd
      go_simp
      exact hp _ _ (Grow.refl _) rfl
    · -- 3: slot 26: Op.call { value (Operand.func 31), args := #[t25], argTypes := #[23] }
      have h25 : x 25 = .slice (some ⟨g, 0, none⟩) n cap := hd 2 (by decide) _ rfl
      clear hd
      go_simp
      refine (Check_any _ k.bare _ (hob.grow hg) (by rw [ibare_length]; omega)).mono ?_
      rintro e w2 ⟨rfl, hg2⟩
      exact ⟨_, rfl, hp _ _ hg2 (show Value.int .i64 _ = Value.int .i64 _ from by rw [ecs])⟩
    · -- 4: slot 27: Op.call { value (Operand.func 30), args := #[const (Value.slice none 0 0), t26],
      have h26 : x 26 = .int .i64 (k.csum : Nat) := hd 3 (by decide) _ rfl
      clear hd
      go_simp
      refine (Put16_any _ [] _ _ (Byt.nil _) (by simp)).mono ?_
      rintro e w2 ⟨u, rfl, ho, hg2⟩
      exact ⟨_, rfl, hp _ _ hg2 ho.byt⟩
  · intro x w1 hg hd
    have h24 : x 24 = .slice (some ⟨g, 2, none⟩) (n - 2) (cap - 2) := hd 1 _ (by decide) rfl
    have h27 : Byt w1 (x 27) (two (k.csum : Nat)) := hd 4 _ (by decide) rfl
    clear hd
    obtain ⟨A2, c2, e27, hc2, hm2⟩ := h27.form
    obtain ⟨b2, o2, rfl, hb2, hcell⟩ := (e27 ▸ h27 : Byt w1 _ _).at_ (by simp [two_length])
    have hh1 : w1.heap[g]? = some (.cells (k.bare.map bv ++ zs).toArray 5 (0, 0)) := (Below.block hg g hgm).trans hh
    simp only [List.drop_succ_cons, List.drop_zero]
    refine wpList_copy_splice rfl (.tmp 24) (.tmp 27) 23 23 rfl 5 Try.underlying23 (by kernel_rfl) (some ⟨g, 2, none⟩) _ (n - 2) (cap - 2) _ _ h24 e27 g 2 (k.bare.map bv ++ zs) 5 hh1 ((two (k.csum : Nat)).map bv) ?_ ?_ ?_ (bv_one _) w.heap.size w (hgw4.trans hg) hsg ?_
    · rw [List.length_map, two_length]
      exact (Nat.min_eq_left (by omega)).symm
    · intro _
      refine ⟨rfl, _, rfl, fun j u hu => ?_⟩
      have hj : j < (two (k.csum : Nat)).length := by
        rcases Nat.lt_or_ge j (two (k.csum : Nat)).length with h' | h'
        · exact h'
        · rw [List.getElem?_eq_none (by simpa using h')] at hu; cases hu
      rw [add_at]
      have := hcell j hj
      simp [hj] at hu
      rw [this, ← hu]
      rfl
    · have hnn := HN.out
      simp [two_length]; omega
    · intro w2 h2 hb2
      have hnn := HN.out
      have h2' := h2.out
      rw [splice_lay _ _ _ _ (by simp [two_length]; omega), ilay] at h2'
      have e3 : k.bytes.length = n := by rw [ibytes_length, HN.out, ibare_length]
      have hcap' : (k.bytes.map bv ++ zs).length = cap := by
        rw [List.length_append, List.length_map] at hcap ⊢
        omega
      have hown := Own.of_cells (w := w2) (base := w.heap.size) (g := g) (cap := cap) (l := k.bytes) (zs := zs) hsg (by omega) (by unfold maxLen; omega) h2' hcap'
      rw [e3] at hown
      clear hnn e3
      go_wp2_with fail
      go_ret2
      exact ⟨_, rfl, hown, hb2⟩
end Go.Proofs.Ytbnnacohkemnhaa
