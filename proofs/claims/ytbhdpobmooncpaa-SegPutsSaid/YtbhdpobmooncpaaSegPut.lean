/- A segment as bytes: Put. -/
import Derived.Test.YtbhdpobmooncpaaSegHead
import Derived.Test.YtbhdpobmooncpaaIpPut
import Derived.Test.YtbhdpobmooncpaaIpBlk
import Derived.Deep.DeepCutAuto
import Derived.Lib.Hide
namespace Go.Proofs.Ytbhdpobmooncpaa
set_option linter.unusedVariables false
set_option linter.unusedSimpArgs false
open Go.ChangeShapes Go.WideShapes Go.ChangeAt Go.RowKit

theorem sbytes_drop (k : Sgm) (n : Nat) : (k.bytes n).drop 18 = k.post := by
  unfold Sgm.bytes
  exact List.drop_left' (by simp [spre_length, two_length])
theorem slay (k : Sgm) (n : Nat) : lay (k.bytes 0) 16 (two (n : Int)) = k.bytes n := by
  have e1 : (k.bytes 0).take 16 = k.pre := by
    unfold Sgm.bytes
    rw [List.append_assoc]
    exact List.take_left' (spre_length k)
  have e2 := sbytes_drop k 0
  unfold lay
  rw [two_length, e1, e2]
  simp [Sgm.bytes]
theorem of_tsum (s d : Nat) (l : List UInt8) : 65535 - (ones (headOf s d 6 (l.length : Int) ++ l) : Int) = ((65535 - tsum s d l : Nat) : Int) := by
  have h := tsum_lt s d l
  have e : tsum s d l = ones (headOf s d 6 (l.length : Int) ++ l) := by unfold tsum; rfl
  rw [← e]
  generalize tsum s d l = x at *
  omega
theorem of_tcheck (s d : Nat) (k : Sgm) : 65535 - (ones (headOf s d 6 ((k.bytes 0).length : Int) ++ k.bytes 0) : Int) = (tcheck s d k : Int) := by
  rw [of_tsum]
  unfold tcheck
  rfl

set_option maxHeartbeats 400000 in
theorem sPut_bad (s d : Nat) (v : Value) (k : Sgm) (w : World) (h : isSgm w v k) (hc : k.check ≠ 0) :
    Calls Try.prog 9 #[.int .u32 (s : Int), .int .u32 (d : Int), v] w fun e w' => e = .returned (.tuple #[.slice none 0 0, .int .i64 k.check]) ∧ Grow w w' := by
  obtain ⟨A, c, rfl, hd, hk⟩ := h.form
  obtain ⟨W1, hW1⟩ : ∃ W1, W1 = w.alloc (.cells (Sgmcells k (.slice A k.data.length c)) 26) := ⟨_, rfl⟩
  have hg1 : Grow w W1 := by rw [hW1]; exact Grow.alloc w _
  unfold Sgmcells at hW1
  have hip := h.grow hg1
  have C := sCheck_any _ k _ hip
  have b0 : (k.check != 0) = true := bne_iff_ne.2 hc
  obtain ⟨q1, q2⟩ := check_le k
  generalize k.check = n at *
  go_enter Try.func9, Try.ntmps9
  go_wp2_with fail
  rw [← hW1]
  refine C.mono ?_
  rintro e w2 ⟨rfl, hg2⟩
  go_wp2_with fail
  go_ret2
  exact ⟨rfl, hg1.trans hg2⟩

set_option maxRecDepth 10000 in
set_option maxHeartbeats 4000000 in
theorem sPut_good (s d : Nat) (v : Value) (k : Sgm) (w : World) (hs : s < 4294967296) (hd4 : d < 4294967296) (h : isSgm w v k) (hf : k.Fine) :
    Calls Try.prog 9 #[.int .u32 (s : Int), .int .u32 (d : Int), v] w fun e w' => ∃ u, e = .returned (.tuple #[u, .int .i64 0]) ∧ Own w' w.heap.size u (k.bytes (tcheck s d k)) ∧ Grow w w' := by
  have hc0 := (fine_iff k).2 hf
  obtain ⟨_, m1, m2, s1, s2, hdl⟩ := hf
  obtain ⟨A, c, rfl, hd, hk⟩ := h.form
  obtain ⟨W1, hW1⟩ : ∃ W1, W1 = w.alloc (.cells (Sgmcells k (.slice A k.data.length c)) 26) := ⟨_, rfl⟩
  have hg1 : Grow w W1 := by rw [hW1]; exact Grow.alloc w _
  have hB1 : Sgmbox W1 w.heap.size k (.slice A k.data.length c) := by rw [hW1]; exact Sgmbox.new _ _ _
  unfold Sgmcells at hW1
  have hip := h.grow hg1
  have hdW := hd.grow hg1
  have C := sCheck_any _ k _ hip
  rw [hc0] at C
  have hol := sopt_length k
  have hbl := sbytes_length k 0
  have hbl7 : Hid ((k.bytes 0).length ≤ 140737488351232) := Lib.hid (by omega)
  have hbl8 : 0 < (k.bytes 0).length := by omega
  have hln : lens [k.head, k.data] ≤ 281474976710656 := by simp [lens, shd_length]; omega
  have ehd : [k.head, k.data].flatten = k.bytes 0 := by rw [← shead_bytes]; simp
  have HC := Lib.hid (of_tcheck s d k)
  have hcl := tcheck_lt s d k
  obtain ⟨ck, hck⟩ : ∃ ck, ck = tcheck s d k := ⟨_, rfl⟩
  rw [← hck] at HC hcl ⊢
  have hbm : (k.bytes 0).length ≤ 65483 := by omega
  have hb20 : 20 ≤ (k.bytes 0).length := by omega
  have ebl : Hid ((k.bytes ck).length = (k.bytes 0).length) := Lib.hid (by rw [sbytes_length, sbytes_length])
  clear hck hol hbl hc0
  go_enter Try.func9, Try.ntmps9
  go_wp2_with fail
  rw [← hW1]
  clear hW1
  refine C.mono ?_
  rintro e w2 ⟨rfl, hgx⟩
  go_wp2_with fail
  refine wp_region_loose (A := ?frame4) (inList (isV (SgmV k (.slice A k.data.length c)) :: isB (k.head) :: isV (.pointer (some ⟨w.heap.size, 8, none⟩)) :: isV (.slice A k.data.length c) :: (isBs [k.head, k.data]) :: (isO w.heap.size (k.bytes 0)) :: (isO w.heap.size (k.bytes 0)) :: [])) (by kernel_rfl) (by kernel_rfl) (inList_stays ?_) (fun x => ?frameEq4) ?_ ?_
  case frameEq4 => go_simp; rfl
  · intro f hf
    simp only [List.mem_cons, List.not_mem_nil, or_false] at hf
    rcases hf with rfl | rfl | rfl | rfl | rfl | rfl | rfl <;> first | exact isV_stays _ | exact isB_stays _ | exact isBs_stays _ | exact isO_stays _
  · refine ⟨fun x w1 hg hd post hp => ?_, fun x w1 hg hd post hp => ?_, fun x w1 hg hd post hp => ?_, fun x w1 hg hd post hp => ?_, fun x w1 hg hd post hp => ?_, fun x w1 hg hd post hp => ?_, fun x w1 hg hd post hp => ?_, trivial⟩
    · -- 0: slot 15: Op.load 26 t5
      clear hd
      obtain ⟨d0, d1, d2, d3, d4, d5, d6, d7, d8⟩ := hB1.grow (hgx.trans hg)
      go_simp
      exact hp _ _ (Grow.refl _) rfl
    · -- 1: slot 16: Op.call { value (Operand.func 25), args := #[t15], argTypes := #[26] }
      have h15 : x 15 = SgmV k (.slice A k.data.length c) := hd 0 (by decide) _ rfl
      clear hd
      go_simp
      refine (sheader_any _ k _ (hip.grow (hgx.trans hg)) m1 m2 s1 s2).mono ?_
      rintro e w2 ⟨u, rfl, ho, hg2⟩
      exact ⟨_, rfl, hp _ _ hg2 ho.byt⟩
    · -- 2: slot 17: Op.fieldAddr 26 t5 8
      clear hd
      go_simp
      exact hp _ _ (Grow.refl _) rfl
    · -- 3: slot 18: Op.load 24 t17
      have h17 : x 17 = .pointer (some ⟨w.heap.size, 8, none⟩) := hd 2 (by decide) _ rfl
      clear hd
      obtain ⟨d0, d1, d2, d3, d4, d5, d6, d7, d8⟩ := hB1.grow (hgx.trans hg)
      go_simp
      exact hp _ _ (Grow.refl _) rfl
    · -- 4: slot 19: Op.buildSlice 64 2 #[(0, t16), (1, t18)]
      have h16 : Byt w1 (x 16) (k.head) := hd 1 (by decide) _ rfl
      have h18 : x 18 = .slice A k.data.length c := hd 3 (by decide) _ rfl
      clear hd
      obtain ⟨A4, n4, c4, e4, _⟩ := h16.form2
      rw [e4] at h16
      have hdd := hdW.grow (hgx.trans hg)
      go_simp
      exact hp _ _ (Grow.alloc _ _) (Byts.lit w1 #[.slice A4 n4 c4, .slice A k.data.length c] _ [k.head, k.data] 2 rfl rfl (by simp [maxLen]) (byt_two h16 hdd))
    · -- 5: slot 20: Op.call { value (Operand.func 24), args := #[t19], argTypes := #[64] }
      have h19 : (isBs [k.head, k.data]) (x 19) w1 := hd 4 (by decide) _ rfl
      clear hd
      go_simp
      refine (Join_any _ _ _ h19 (by simp) hln).mono ?_
      rw [ehd]
      rintro e w2 ⟨u, rfl, ho, hg2⟩
      have hz := hg.size
      have hz2 := (hg1.trans hgx).size
      exact ⟨_, rfl, hp _ _ hg2 (Own.base (b := w1.heap.size) ho (by omega))⟩
    · -- 6: slot 9: Op.assign t20
      have h20 : (isO w.heap.size (k.bytes 0)) (x 20) w1 := hd 5 (by decide) _ rfl
      clear hd
      have p20 : Own w1 _ (x 20) _ := h20
      go_simp
      exact hp _ _ (Grow.refl _) p20
  · intro x w1 hg hd
    have h9 : (isO w.heap.size (k.bytes 0)) (x 9) w1 := hd 6 _ rfl
    clear hd
    obtain ⟨vb, hvb⟩ : ∃ vb, vb = x 9 := ⟨_, rfl⟩
    rw [← hvb] at h9 ⊢
    clear hvb
    have ho2 : Own w1 w.heap.size vb (k.bytes 0) := h9
    have hob := ho2.byt
    have hg4 := (hg1.trans hgx).trans hg
    obtain ⟨b, cap, zs, rfl, hbg, hnc, hcm, hh, hcap⟩ := ho2.cells hbl8
    have hbm2 : b < w1.heap.size := (Array.getElem?_eq_some_iff.1 hh).1
    obtain ⟨n, hn⟩ : ∃ n, n = (k.bytes 0).length := ⟨_, rfl⟩
    rw [← hn] at hnc hob hbm hb20 ebl ⊢
    have HN := Lib.hid hn
    have i1 : (16 : Int) ≤ (n : Int) := by omega
    have i2 : ¬ cap = 16 := by omega
    unfold maxLen at hcm
    have hgm : b < w1.heap.size := hbm2
    have HCap := Lib.hid hcap
    have HH := Lib.hid hh
    clear hn hbl8 hcap hln ehd hh
    go_wp2_with fail
    refine wp_region_phase (A := ?frame5) (inList (isV (.slice (some ⟨b, 0, none⟩) n cap) :: isV (.slice (some ⟨b, 16, none⟩) (n - 16) (cap - 16)) :: isV (.int .u32 (s : Int)) :: isV (.int .u32 (d : Int)) :: isV (.slice (some ⟨b, 0, none⟩) n cap) :: isV (.int .i64 (ck : Int)) :: isB (two (ck : Int)) :: [])) 7 (by kernel_rfl) (by kernel_rfl) (by kernel_rfl) (inList_stays ?_) (fun x => ?frameEq5) ?_ ?_
    case frameEq5 => go_simp; rfl
    · intro f hf
      simp only [List.mem_cons, List.not_mem_nil, or_false] at hf
      rcases hf with rfl | rfl | rfl | rfl | rfl | rfl | rfl <;> first | exact isV_stays _ | exact isB_stays _ | exact isBs_stays _
    · refine ⟨fun z z1 hg hd post hp => ?_, fun z z1 hg hd post hp => ?_, fun z z1 hg hd post hp => ?_, fun z z1 hg hd post hp => ?_, fun z z1 hg hd post hp => ?_, fun z z1 hg hd post hp => ?_, fun z z1 hg hd post hp => ?_, trivial⟩
      · -- 0: slot 21: Op.move t9
        clear hd
        go_simp
        exact hp _ _ (Grow.refl _) rfl
      · -- 1: slot 22: Op.slice 24 t21 (some (const (16:i64))) none none
        have h21 : z 21 = .slice (some ⟨b, 0, none⟩) n cap := hd 0 (by decide) _ rfl
        clear hd
        go_simp
        exact hp _ _ (Grow.refl _) rfl
      · -- 2: slot 23: Op.move t0
        clear hd
        go_simp
        exact hp _ _ (Grow.refl _) rfl
      · -- 3: slot 24: Op.move t1
        clear hd
        go_simp
        exact hp _ _ (Grow.refl _) rfl
      · -- 4: slot 25: Op.move t9
        clear hd
        go_simp
        exact hp _ _ (Grow.refl _) rfl
      · -- 5: slot 26: Op.call { value (Operand.func 27), args := #[t23, t24, const (6:u8), t25], argTy
        have h23 : z 23 = .int .u32 (s : Int) := hd 2 (by decide) _ rfl
        have h24 : z 24 = .int .u32 (d : Int) := hd 3 (by decide) _ rfl
        have h25 : z 25 = .slice (some ⟨b, 0, none⟩) n cap := hd 4 (by decide) _ rfl
        clear hd
        go_simp
        refine (Of_any s d 6 _ (k.bytes 0) _ hs hd4 (by decide) (hob.grow hg) hbl7.out).mono ?_
        rw [HC.out]
        rintro e w2 ⟨rfl, hg2⟩
        exact ⟨_, rfl, hp _ _ hg2 rfl⟩
      · -- 6: slot 27: Op.call { value (Operand.func 26), args := #[const (Value.slice none 0 0), t26],
        have h26 : z 26 = .int .i64 (ck : Int) := hd 5 (by decide) _ rfl
        clear hd
        go_simp
        refine (Put16_any _ [] _ _ (Byt.nil _) (by simp)).mono ?_
        rintro e w2 ⟨u, rfl, ho, hg2⟩
        exact ⟨_, rfl, hp _ _ hg2 ho.byt⟩
    · intro z z1 hg hd
      have h22 : z 22 = .slice (some ⟨b, 16, none⟩) (n - 16) (cap - 16) := hd 1 _ (by decide) rfl
      have h27 : Byt z1 (z 27) (two (ck : Int)) := hd 6 _ (by decide) rfl
      clear hd
      obtain ⟨A2, c2, e27, hc2, hm2⟩ := h27.form
      obtain ⟨b2, o2, rfl, hb2, hcell⟩ := (e27 ▸ h27 : Byt z1 _ _).at_ (by simp [two_length])
      have hh1 : z1.heap[b]? = some (.cells ((k.bytes 0).map bv ++ zs).toArray 5 (0, 0)) := (Below.block hg b hgm).trans HH.out
      simp only [List.drop_succ_cons, List.drop_zero]
      refine wpList_copy_splice rfl (.tmp 22) (.tmp 27) 24 24 rfl 5 Try.underlying24 (by kernel_rfl) (some ⟨b, 16, none⟩) _ (n - 16) (cap - 16) _ _ h22 e27 b 16 ((k.bytes 0).map bv ++ zs) 5 hh1 ((two (ck : Int)).map bv) ?_ ?_ ?_ (bv_one _) w.heap.size w (hg4.trans hg) hbg ?_
      · rw [List.length_map, two_length]
        exact (Nat.min_eq_left (by omega)).symm
      · intro _
        refine ⟨rfl, _, rfl, fun j u hu => ?_⟩
        have hj : j < (two (ck : Int)).length := by
          rcases Nat.lt_or_ge j (two (ck : Int)).length with h' | h'
          · exact h'
          · rw [List.getElem?_eq_none (by simpa using h')] at hu; cases hu
        rw [add_at]
        have := hcell j hj
        simp [hj] at hu
        rw [this, ← hu]
        rfl
      · have hnn := HN.out
        simp [two_length]; omega
      · intro w2 h2 hb2
        have hnn := HN.out
        have h2' := h2.out
        rw [splice_lay _ _ _ _ (by simp [two_length]; omega), slay] at h2'
        have e3 : (k.bytes ck).length = n := ebl.out
        have hcap := HCap.out
        have hcap' : ((k.bytes ck).map bv ++ zs).length = cap := by
          rw [List.length_append, List.length_map] at hcap ⊢
          omega
        have hown := Own.of_cells (w := w2) (base := w.heap.size) (g := b) (cap := cap) (l := k.bytes ck) (zs := zs) hbg (by omega) (by unfold maxLen; omega) h2' hcap'
        rw [e3] at hown
        clear hnn e3
        go_wp2_with fail
        go_ret2
        exact ⟨_, rfl, hown, hb2⟩
end Go.Proofs.Ytbhdpobmooncpaa
