/- A datagram as bytes: Put. -/
import Derived.Test.YtmblfenindjeiaaGram
import Derived.Test.YtmblfenindjeiaaIpPut
import Derived.Deep.DeepCutAuto
import Derived.Lib.Hide
namespace Go.Proofs.Ytmblfenindjeiaa
set_option linter.unusedVariables false
set_option linter.unusedSimpArgs false
open Go.ChangeShapes Go.WideShapes Go.ChangeAt Go.RowKit

theorem glay (g : Gram) (n : Nat) : lay (g.bytes 0) 6 (two (n : Int)) = g.bytes n := by
  have e1 : (g.bytes 0).take 6 = g.top := by
    unfold Gram.bytes
    rw [List.append_assoc]
    exact List.take_left' (gtop_length g)
  have e2 := gbytes_drop g 0
  unfold lay
  rw [two_length, e1, e2]
  simp [Gram.bytes]

theorem of_psum (s d : Nat) (l : List UInt8) : 65535 - (ones (headOf s d 17 (l.length : Int) ++ l) : Int) = ((65535 - psum s d l : Nat) : Int) := by
  have h := psum_lt s d l
  have e : psum s d l = ones (headOf s d 17 (l.length : Int) ++ l) := by unfold psum; rfl
  rw [← e]
  generalize psum s d l = x at *
  omega

set_option maxHeartbeats 400000 in
theorem gPut_long (s d : Nat) (v : Value) (g : Gram) (w : World) (hs : s < 4294967296) (hd4 : d < 4294967296) (h : isGram w v g) (hsm : g.data.length ≤ 1000000) (hl : 65507 < g.data.length) :
    Calls Try.prog 7 #[.int .u32 (s : Int), .int .u32 (d : Int), v] w fun e w' => e = .returned (.tuple #[.slice none 0 0, .int .i64 9]) ∧ Grow w w' := by
  obtain ⟨A, c, rfl, hd, hk⟩ := h.form
  obtain ⟨W1, hW1⟩ : ∃ W1, W1 = w.alloc (.cells #[.int .u16 (g.src : Int), .int .u16 (g.dst : Int), .slice A g.data.length c] 26) := ⟨_, rfl⟩
  have hg1 : Grow w W1 := by rw [hW1]; exact Grow.alloc w _
  have hB1 : Grambox W1 w.heap.size g (.slice A g.data.length c) := by rw [hW1]; exact Grambox.new _ _ _
  have hip := h.grow hg1
  obtain ⟨b0, b1, b2⟩ := hB1
  go_enter Try.func7, Try.ntmps7
  go_wp2_with fail
  rw [← hW1]
  refine (gBare_long _ g _ hip hsm hl).mono ?_
  rintro e w2 ⟨rfl, hg2⟩
  go_wp2_with fail
  go_ret2
  exact ⟨rfl, hg1.trans hg2⟩

set_option maxHeartbeats 4000000 in
theorem gPut_good (s d : Nat) (v : Value) (g : Gram) (w : World) (hs : s < 4294967296) (hd4 : d < 4294967296) (h : isGram w v g) (hl : g.data.length ≤ 65507) :
    Calls Try.prog 7 #[.int .u32 (s : Int), .int .u32 (d : Int), v] w fun e w' => ∃ u, e = .returned (.tuple #[u, .int .i64 0]) ∧ Own w' w.heap.size u (g.bytes (gcheck s d g)) ∧ Grow w w' := by
  obtain ⟨A, c, rfl, hd, hk⟩ := h.form
  obtain ⟨W1, hW1⟩ : ∃ W1, W1 = w.alloc (.cells #[.int .u16 (g.src : Int), .int .u16 (g.dst : Int), .slice A g.data.length c] 26) := ⟨_, rfl⟩
  have hg1 : Grow w W1 := by rw [hW1]; exact Grow.alloc w _
  have hB1 : Grambox W1 w.heap.size g (.slice A g.data.length c) := by rw [hW1]; exact Grambox.new _ _ _
  have hip := h.grow hg1
  have hs1 := hg1.size
  obtain ⟨b0, b1, b2⟩ := hB1
  have hbl := gbytes_length g 0
  have hcl := gcheck_lt s d g
  have hpl := psum_lt s d (g.bytes 0)
  have ecs : 65535 - (ones (headOf s d 17 ((g.bytes 0).length : Int) ++ g.bytes 0) : Int) = ((65535 - psum s d (g.bytes 0) : Nat) : Int) := of_psum s d (g.bytes 0)
  have eck : gcheck s d g = if 65535 - psum s d (g.bytes 0) = 0 then 65535 else 65535 - psum s d (g.bytes 0) := by
    unfold gcheck
    by_cases hz : psum s d (g.bytes 0) = 65535
    · rw [if_pos hz, if_pos (by omega)]
    · rw [if_neg hz, if_neg (by omega)]
  obtain ⟨ck, hck⟩ : ∃ ck, ck = gcheck s d g := ⟨_, rfl⟩
  obtain ⟨cs, hcs⟩ : ∃ cs, cs = 65535 - psum s d (g.bytes 0) := ⟨_, rfl⟩
  rw [← hck] at hcl eck ⊢
  rw [← hcs] at ecs eck
  have hc5 : cs ≤ 65535 := by rw [hcs]; exact Nat.sub_le _ _
  have hbl7 : (g.bytes 0).length ≤ 140737488351232 := by rw [hbl]; omega
  have hbl8 : 0 < (g.bytes 0).length := by rw [hbl]; omega
  have EC := Lib.hid ecs
  have HC := Lib.hid eck
  have HB := Lib.hid hbl
  clear hck hcs hpl ecs eck hbl
  go_enter Try.func7, Try.ntmps7
  go_wp2_with fail
  rw [← hW1]
  clear hW1
  refine (gBare_good _ g _ hip hl).mono ?_
  rintro e w2 ⟨u, rfl, ho2, hg2⟩
  have hob := ho2.byt
  obtain ⟨b, cap, zs, rfl, hbg, hnc, hcm, hh, hcap⟩ := ho2.cells hbl8
  have hbm : b < w2.heap.size := (Array.getElem?_eq_some_iff.1 hh).1
  clear b0 b1 b2
  go_wp2_with fail
  refine (Of_any s d 17 _ (g.bytes 0) _ hs hd4 (by decide) hob hbl7).mono ?_
  rw [EC.out]
  rintro e w4 ⟨rfl, hg4⟩
  clear EC hbl7 hbl8
  obtain ⟨n, hn⟩ : ∃ n, n = (g.bytes 0).length := ⟨_, rfl⟩
  have hbl := HB.out
  rw [← hn] at hnc hob hbl ⊢
  have hn8 : 8 ≤ n := by omega
  have hnm : n ≤ 65515 := by omega
  have HN := Lib.hid hn
  clear hbl hn HB
  go_upto_if 24 with fail
  go_cut [10] (fun s10 wx => s10 = .int .i64 (ck : Int) ∧ wx = w4)
  case first =>
    by_cases hz : cs = 0
    · have e3 : ck = 65535 := by rw [HC.out, if_pos hz]
      subst hz
      go_wp2_with fail
      go_meet
      exact ⟨by rw [e3]; rfl, rfl⟩
    · have e3 : ck = cs := by rw [HC.out, if_neg hz]
      have hz' : ((cs : Int) == 0) = false := beq_eq_false_iff_ne.2 (by omega)
      go_wp2_with fail
      go_meet
      exact ⟨by rw [e3], rfl⟩
  case rest =>
    obtain ⟨rfl, rfl⟩ := hcut
    have hgw4 := (hg1.trans hg2).trans hg4
    have hs4 := hg4.size
    unfold maxLen at hcm
    have i1 : (6 : Int) ≤ (n : Int) := by omega
    have i2 : ¬ cap = 6 := by omega
    have hgm : b < wc.heap.size := by omega
    have hsg : w.heap.size ≤ b := by omega
    have hh4 := (Below.block hg4 b hbm).trans hh
    clear HC
    go_wp2_with fail
    refine wp_region_phase (A := ?frame7) (inList (isV (.slice (some ⟨b, 0, none⟩) n cap) :: isV (.slice (some ⟨b, 6, none⟩) (n - 6) (cap - 6)) :: isV (.int .i64 (ck : Int)) :: isB (two (ck : Int)) :: [])) 4 (by kernel_rfl) (by kernel_rfl) (by kernel_rfl) (inList_stays ?_) (fun x => ?frameEq7) ?_ ?_
    case frameEq7 => go_simp; rfl
    · intro f hf
      simp only [List.mem_cons, List.not_mem_nil, or_false] at hf
      rcases hf with rfl | rfl | rfl | rfl <;> first | exact isV_stays _ | exact isB_stays _ | exact isBs_stays _
    · refine ⟨fun x w1 hg hd post hp => ?_, fun x w1 hg hd post hp => ?_, fun x w1 hg hd post hp => ?_, fun x w1 hg hd post hp => ?_, trivial⟩
      · -- 0: slot 25: Op.move t8
        clear hd
        go_simp
        exact hp _ _ (Grow.refl _) rfl
      · -- 1: slot 26: Op.slice 24 t25 (some (const (6:i64))) none none
        have h25 : x 25 = .slice (some ⟨b, 0, none⟩) n cap := hd 0 (by decide) _ rfl
        clear hd
        go_simp
        exact hp _ _ (Grow.refl _) rfl
      · -- 2: slot 27: Op.move t10
        clear hd
        go_simp
        exact hp _ _ (Grow.refl _) rfl
      · -- 3: slot 28: Op.call { value (Operand.func 18), args := #[const (Value.slice none 0 0), t27],
        have h27 : x 27 = .int .i64 (ck : Int) := hd 2 (by decide) _ rfl
        clear hd
        go_simp
        refine (Put16_any _ [] _ _ (Byt.nil _) (by simp)).mono ?_
        rintro e w2 ⟨u, rfl, ho, hg2⟩
        exact ⟨_, rfl, hp _ _ hg2 ho.byt⟩
    · intro x w1 hg hd
      have h26 : x 26 = .slice (some ⟨b, 6, none⟩) (n - 6) (cap - 6) := hd 1 _ (by decide) rfl
      have h28 : Byt w1 (x 28) (two (ck : Int)) := hd 3 _ (by decide) rfl
      clear hd
      obtain ⟨A2, c2, e28, hc2, hm2⟩ := h28.form
      obtain ⟨b2, o2, rfl, hb2, hcell⟩ := (e28 ▸ h28 : Byt w1 _ _).at_ (by simp [two_length])
      have hh1 : w1.heap[b]? = some (.cells ((g.bytes 0).map bv ++ zs).toArray 5 (0, 0)) := (Below.block hg b hgm).trans hh4
      simp only [List.drop_succ_cons, List.drop_zero]
      refine wpList_copy_splice rfl (.tmp 26) (.tmp 28) 24 24 rfl 5 Try.underlying24 (by kernel_rfl) (some ⟨b, 6, none⟩) _ (n - 6) (cap - 6) _ _ h26 e28 b 6 ((g.bytes 0).map bv ++ zs) 5 hh1 ((two (ck : Int)).map bv) ?_ ?_ ?_ (bv_one _) w.heap.size w (hgw4.trans hg) hsg ?_
      · rw [List.length_map, two_length]
        exact (Nat.min_eq_left (by omega)).symm
      · intro _
        refine ⟨rfl, _, rfl, fun j u hu => ?_⟩
        have hj : j < (two (ck : Int)).length := by
          rcases Nat.lt_or_ge j (two (ck : Int)).length with h' | h'
          · exact h'
          · rw [List.getElem?_eq_none (by simpa using h')] at hu; cases hu
        rw [add_at]
        have := hcell j hj
        simp [hj] at hu
        rw [this, ← hu]
        rfl
      · have hnn := HN.out
        simp [two_length]; omega
      · intro w2 h2 hb2
        have hnn := HN.out
        have h2' := h2.out
        rw [splice_lay _ _ _ _ (by simp [two_length]; omega), glay] at h2'
        have e3 : (g.bytes ck).length = n := by rw [gbytes_length, HN.out, gbytes_length]
        have hcap' : ((g.bytes ck).map bv ++ zs).length = cap := by
          rw [List.length_append, List.length_map] at hcap ⊢
          omega
        have hown := Own.of_cells (w := w2) (base := w.heap.size) (g := b) (cap := cap) (l := g.bytes ck) (zs := zs) hsg (by omega) (by unfold maxLen; omega) h2' hcap'
        rw [e3] at hown
        clear hnn e3
        go_wp2_with fail
        go_ret2
        exact ⟨_, rfl, hown, hb2⟩
end Go.Proofs.Ytmblfenindjeiaa
