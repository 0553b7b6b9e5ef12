/- Two bytes written over; the header; the packet as bytes. -/
import Derived.Test.YtmibeahofienjaaIpNum
import Derived.Test.YtmibeahofienjaaIpFacts
import Derived.Test.YtmibeahofienjaaOpen
import Derived.Test.YtmibeahofienjaaSumLaws
namespace Go.Proofs.Ytmibeahofienjaa
set_option linter.unusedVariables false
set_option linter.unusedSimpArgs false
open Go.ChangeShapes Go.WideShapes Go.ChangeAt Go.RowKit

theorem splice_lay (l m : List UInt8) (zs : List Value) (k : Nat) (hk : k + m.length ≤ l.length) : splice (l.map bv ++ zs) k (m.map bv) = (lay l k m).map bv ++ zs := by
  unfold splice lay
  rw [List.take_append_of_le_length (by simp; omega), List.drop_append_of_le_length (by simp; omega)]
  simp [List.map_take, List.map_drop]

set_option maxHeartbeats 1000000 in
theorem set16_any (w₀ w : World) (base : Nat) (hB : w₀.heap.size ≤ base) (hg0 : Grow w₀ w) (v : Value) (l : List UInt8) (h : Own w base v l) (k : Nat) (n : Int) (hk : k + 2 ≤ l.length) (hl : l.length ≤ 1000000) :
    Calls Try.prog 25 #[v, .int .i64 (k : Int), .int .i64 n] w fun e w' => e = .returned (.tuple #[]) ∧ Own w' base v (lay l k (two n)) ∧ Grow w₀ w' := by
  obtain ⟨g, cap, zs, rfl, hbg, hnc, hcm, hh, hcap⟩ := h.cells (by omega)
  unfold maxLen at hcm
  have e1 : k ≤ l.length := by omega
  have e2 : ¬ cap = k := by omega
  go_enter Try.func25, Try.ntmps25
  go_wp2_with fail
  refine wp_region_phase (A := ?frame) (inList (isV (.slice (some ⟨g, 0, none⟩) l.length cap) :: isV (.int .i64 (k : Int)) :: isV (.slice (some ⟨g, k, none⟩) (l.length - k) (cap - k)) :: isV (.int .i64 n) :: isB (two n) :: [])) 5 (by kernel_rfl) (by kernel_rfl) (by kernel_rfl) (inList_stays ?_) (fun x => ?frameEq) ?_ ?_
  case frameEq => go_simp; rfl
  · intro f hf
    simp only [List.mem_cons, List.not_mem_nil, or_false] at hf
    rcases hf with rfl | rfl | rfl | rfl | rfl <;> first | exact isV_stays _ | exact isB_stays _ | exact isBs_stays _
  · refine ⟨fun x w1 hg hd post hp => ?_, fun x w1 hg hd post hp => ?_, fun x w1 hg hd post hp => ?_, fun x w1 hg hd post hp => ?_, fun x w1 hg hd post hp => ?_, trivial⟩
    · -- 0: slot 6: Op.move t0
      clear hd
      go_simp
      exact hp _ _ (Grow.refl _) rfl
    · -- 1: slot 7: Op.move t1
      clear hd
      go_simp
      exact hp _ _ (Grow.refl _) rfl
    · -- 2: slot 8: Op.slice 25 t6 (some t7) none none
      have h6 : x 6 = .slice (some ⟨g, 0, none⟩) l.length cap := hd 0 (by decide) _ rfl
      have h7 : x 7 = .int .i64 (k : Int) := hd 1 (by decide) _ rfl
      clear hd
      go_simp
      exact hp _ _ (Grow.refl _) rfl
    · -- 3: slot 9: Op.move t2
      clear hd
      go_simp
      exact hp _ _ (Grow.refl _) rfl
    · -- 4: slot 10: Op.call { value (Operand.func 38), args := #[const (Value.slice none 0 0), t9], 
      have h9 : x 9 = .int .i64 n := hd 3 (by decide) _ rfl
      clear hd
      go_simp
      refine (Put16_any _ [] n _ (Byt.nil _) (by simp)).mono ?_
      rintro e w2 ⟨u, rfl, ho, hg2⟩
      exact ⟨_, rfl, hp _ _ hg2 ho.byt⟩
  · intro x w1 hg hd
    have h8 : x 8 = .slice (some ⟨g, k, none⟩) (l.length - k) (cap - k) := hd 2 _ (by decide) rfl
    have h10 : Byt w1 (x 10) (two n) := hd 4 _ (by decide) rfl
    clear hd
    obtain ⟨A2, c2, e10, hc2, hm2⟩ := h10.form
    obtain ⟨b2, o2, rfl, hb2, hcell⟩ := (e10 ▸ h10 : Byt w1 _ _).at_ (by simp [two_length])
    have hlt : g < w.heap.size := (Array.getElem?_eq_some_iff.1 hh).1
    have hh1 : w1.heap[g]? = some (.cells (l.map bv ++ zs).toArray 5 (0, 0)) := (Below.block hg g hlt).trans hh
    simp only [List.drop_succ_cons, List.drop_zero]
    refine wpList_copy_splice rfl (.tmp 8) (.tmp 10) 25 25 rfl 5 Try.underlying25 (by kernel_rfl) (some ⟨g, k, none⟩) _ (l.length - k) (cap - k) _ _ h8 e10 g k (l.map bv ++ zs) 5 hh1 ((two n).map bv) ?_ ?_ ?_ (bv_one _) w₀.heap.size w₀ (hg0.trans hg) (by omega) ?_
    · rw [List.length_map, two_length]
      exact (Nat.min_eq_left (by omega)).symm
    · intro _
      refine ⟨rfl, _, rfl, fun j u hu => ?_⟩
      have hj : j < (two n).length := by
        rcases Nat.lt_or_ge j (two n).length with h' | h'
        · exact h'
        · rw [List.getElem?_eq_none (by simpa using h')] at hu; cases hu
      rw [add_at]
      have := hcell j hj
      simp [hj] at hu
      rw [this, ← hu]
      rfl
    · simp [two_length]; omega
    · intro w2 h2 hb2
      have h2' := h2.out
      rw [splice_lay _ _ _ _ (by simp [two_length]; omega)] at h2'
      have e3 : (lay l k (two n)).length = l.length := lay_length _ _ _ (by simp [two_length]; omega)
      have hown := Own.of_cells (w := w2) (base := base) (g := g) (cap := cap) (l := lay l k (two n)) (zs := zs) hbg (by omega) (by unfold maxLen; omega) h2' (by simpa [e3] using hcap)
      rw [e3] at hown
      go_wp2_with fail
      go_end0
      exact ⟨rfl, hown, hb2⟩

/-- A packet's cells, in a block of their own. -/
def Boxd (w : World) (b : Nat) (k : Pkt) (vo vd : Value) : Prop :=
  w.cell? ⟨b, 0, none⟩ = some (.int .u8 (k.tos : Int)) ∧ w.cell? ⟨b, 1, none⟩ = some (.int .u16 (k.ident : Int)) ∧ w.cell? ⟨b, 2, none⟩ = some (.bool k.whole) ∧ w.cell? ⟨b, 3, none⟩ = some (.bool k.more) ∧ w.cell? ⟨b, 4, none⟩ = some (.int .i64 k.off) ∧ w.cell? ⟨b, 5, none⟩ = some (.int .u8 (k.ttl : Int)) ∧ w.cell? ⟨b, 6, none⟩ = some (.int .u8 (k.proto : Int)) ∧ w.cell? ⟨b, 7, none⟩ = some (.int .u32 (k.src : Int)) ∧ w.cell? ⟨b, 8, none⟩ = some (.int .u32 (k.dst : Int)) ∧ w.cell? ⟨b, 9, none⟩ = some (vo) ∧ w.cell? ⟨b, 10, none⟩ = some (vd)
theorem cell_lt {w : World} {p : Addr} {v : Value} (h : w.cell? p = some v) : p.block < w.heap.size := block_of_cell h
theorem Boxd.grow {w w' : World} {b : Nat} {k : Pkt} {vo vd : Value} (h : Boxd w b k vo vd) (g : Grow w w') : Boxd w' b k vo vd := by
  obtain ⟨c0, c1, c2, c3, c4, c5, c6, c7, c8, c9, c10⟩ := h
  have hlt : b < w.heap.size := cell_lt c0
  exact ⟨(g.cell (p := ⟨b, 0, none⟩) hlt).trans c0, (g.cell (p := ⟨b, 1, none⟩) hlt).trans c1, (g.cell (p := ⟨b, 2, none⟩) hlt).trans c2, (g.cell (p := ⟨b, 3, none⟩) hlt).trans c3, (g.cell (p := ⟨b, 4, none⟩) hlt).trans c4, (g.cell (p := ⟨b, 5, none⟩) hlt).trans c5, (g.cell (p := ⟨b, 6, none⟩) hlt).trans c6, (g.cell (p := ⟨b, 7, none⟩) hlt).trans c7, (g.cell (p := ⟨b, 8, none⟩) hlt).trans c8, (g.cell (p := ⟨b, 9, none⟩) hlt).trans c9, (g.cell (p := ⟨b, 10, none⟩) hlt).trans c10⟩
theorem Boxd.new (w : World) (k : Pkt) (vo vd : Value) : Boxd (w.alloc (.cells #[.int .u8 (k.tos : Int), .int .u16 (k.ident : Int), .bool k.whole, .bool k.more, .int .i64 k.off, .int .u8 (k.ttl : Int), .int .u8 (k.proto : Int), .int .u32 (k.src : Int), .int .u32 (k.dst : Int), vo, vd] 27)) w.heap.size k vo vd := by
  unfold Boxd World.cell?
  rw [heap_alloc_new]
  exact ⟨rfl, rfl, rfl, rfl, rfl, rfl, rfl, rfl, rfl, rfl, rfl⟩

set_option maxHeartbeats 4000000 in
theorem header_any (v : Value) (k : Pkt) (w : World) (h : Ip w v k) (hs : k.Small) (hof : 0 ≤ k.off ∧ k.off ≤ 8191) :
    Calls Try.prog 24 #[v] w fun e w' => ∃ u, e = .returned u ∧ Own w' w.heap.size u k.bare ∧ Grow w w' := by
  obtain ⟨A, c, B, d, rfl, ho, hd, hk⟩ := h.form
  have hsm := hs
  obtain ⟨hs1, hs2⟩ := hs
  have k1 := hk.tos
  have k2 := hk.ident
  have k3 := hk.ttl
  have k4 := hk.proto
  have k5 := hk.src
  have k6 := hk.dst
  have k7 : 0 ≤ k.flag ∧ k.flag ≤ 24576 := by unfold Pkt.flag; cases k.whole <;> cases k.more <;> simp
  obtain ⟨k7, k8⟩ := k7
  obtain ⟨o1, o2⟩ := hof
  obtain ⟨W1, hW1⟩ : ∃ W1, W1 = w.alloc (.cells #[.int .u8 (k.tos : Int), .int .u16 (k.ident : Int), .bool k.whole, .bool k.more, .int .i64 k.off, .int .u8 (k.ttl : Int), .int .u8 (k.proto : Int), .int .u32 (k.src : Int), .int .u32 (k.dst : Int), .slice A k.opts.length c, .slice B k.data.length d] 27) := ⟨_, rfl⟩
  have hg1 : Grow w W1 := by rw [hW1]; exact Grow.alloc w _
  have hB1 : Boxd W1 w.heap.size k (.slice A k.opts.length c) (.slice B k.data.length d) := by rw [hW1]; exact Boxd.new _ _ _ _
  have hip := h.grow hg1
  obtain ⟨L1, hL1⟩ : ∃ L1, L1 = [UInt8.ofNat (69 + k.opts.length / 4), UInt8.ofNat k.tos] := ⟨_, rfl⟩
  obtain ⟨W2, hW2⟩ : ∃ W2, W2 = W1.alloc (.cells #[.int .u8 ((64 + (20 + (k.opts.length : Int)) / 4) % 256), .int .u8 (k.tos : Int)] 5) := ⟨_, rfl⟩
  have hs0 : W1.heap.size = w.heap.size + 1 := by rw [hW1]; simp
  have hb1 : Byt W2 (.slice (some ⟨w.heap.size + 1, 0, none⟩) 2 2) L1 := by
    rw [hW2, hL1, ← hs0]
    refine (Own.lit W1 _ [UInt8.ofNat (69 + k.opts.length / 4), UInt8.ofNat k.tos] ?_ (by unfold maxLen; simp)).byt
    simp only [bv, List.map_cons, List.map_nil, UInt8.toNat_ofNat', List.cons.injEq, Value.int.injEq, true_and, and_true]
    constructor <;> omega
  have hg2 : Grow W1 W2 := by rw [hW2]; exact Grow.alloc _ _
  have l1 : L1.length = 2 := by rw [hL1]; rfl
  have f1 : L1.length ≤ 281474976710652 := by omega
  go_enter Try.func24, Try.ntmps24
  go_wp2_with fail
  rw [← hW1, ← hW2]
  refine (Len_any _ k _ (hip.grow hg2) hsm).mono ?_
  rintro e w3 ⟨rfl, hg3⟩
  go_wp2_with fail
  refine (Put16_any _ L1 _ _ (hb1.grow hg3) f1).mono ?_
  rintro e w4 ⟨v4, rfl, ho4, hg4⟩
  have hg14 := (hg2.trans hg3).trans hg4
  obtain ⟨b0, b1, b2, b3, b4, b5, b6, b7, b8, b9, b10⟩ := hB1.grow hg14
  obtain ⟨L2, hL2⟩ : ∃ L2, L2 = L1 ++ two (k.len : Nat) := ⟨_, rfl⟩
  rw [← hL2] at ho4
  have f2 : L2.length ≤ 281474976710652 := by rw [hL2, List.length_append, two_length]; omega
  go_wp2_with fail
  refine (Put16_any _ L2 _ _ ho4.byt f2).mono ?_
  rintro e w5 ⟨v5, rfl, ho5, hg5⟩
  obtain ⟨A3, m3, c3, rfl, _⟩ := ho5.byt.form2
  obtain ⟨L3, hL3'⟩ : ∃ L3, L3 = L2 ++ two (k.ident : Nat) := ⟨_, rfl⟩
  rw [← hL3'] at ho5
  have hL3 : L3.length ≤ 281474976710652 := by rw [hL3', hL2, List.length_append, List.length_append, two_length, two_length]; omega
  have hb3 := ho5.byt
  have hg15 := hg14.trans hg5
  have hbx := hB1.grow hg15
  clear b0 b1 b2 b3 b4 b5 b6 b7 b8 b9 b10
  obtain ⟨b0, b1, b2, b3, b4, b5, b6, b7, b8, b9, b10⟩ := hB1.grow hg15
  have hlt5 : w.heap.size < w5.heap.size := cell_lt b0
  have hip5 := hip.grow hg15
  go_wp2_with fail
  refine wp_region_phase (A := ?frame) (inList (isV (.slice A3 m3 c3) :: isV (.pointer (some ⟨w.heap.size, 4, none⟩)) :: isV (.int .i64 k.off) :: isV (ipV k (.slice A k.opts.length c) (.slice B k.data.length d)) :: isV (.int .i64 k.flag) :: isV (.int .i64 (k.off + k.flag)) :: isB (L3 ++ two (k.off + k.flag)) :: [])) 7 (by kernel_rfl) (by kernel_rfl) (by kernel_rfl) (inList_stays ?_) (fun x => ?frameEq) ?_ ?_
  case frameEq => go_simp; rfl
  · intro f hf
    simp only [List.mem_cons, List.not_mem_nil, or_false] at hf
    rcases hf with rfl | rfl | rfl | rfl | rfl | rfl | rfl <;> first | exact isV_stays _ | exact isB_stays _ | exact isBs_stays _
  · refine ⟨fun x w1 hg hd post hp => ?_, fun x w1 hg hd post hp => ?_, fun x w1 hg hd post hp => ?_, fun x w1 hg hd post hp => ?_, fun x w1 hg hd post hp => ?_, fun x w1 hg hd post hp => ?_, fun x w1 hg hd post hp => ?_, trivial⟩
    · -- 0: slot 25: Op.move t4
      clear hd
      go_simp
      exact hp _ _ (Grow.refl _) rfl
    · -- 1: slot 26: Op.fieldAddr 27 t1 4
      clear hd
      go_simp
      exact hp _ _ (Grow.refl _) rfl
    · -- 2: slot 27: Op.load 3 t26
      have h26 : x 26 = .pointer (some ⟨w.heap.size, 4, none⟩) := hd 1 (by decide) _ rfl
      clear hd
      have c4 := (hg.cell (p := ⟨w.heap.size, 4, none⟩) hlt5).trans b4
      go_simp
      exact hp _ _ (Grow.refl _) rfl
    · -- 3: slot 28: Op.load 27 t1
      clear hd
      obtain ⟨d0, d1, d2, d3, d4, d5, d6, d7, d8, d9, d10⟩ := hbx.grow hg
      go_simp
      exact hp _ _ (Grow.refl _) rfl
    · -- 4: slot 29: Op.call { value (Operand.func 39), args := #[t28], argTypes := #[27] }
      have h28 : x 28 = ipV k (.slice A k.opts.length c) (.slice B k.data.length d) := hd 3 (by decide) _ rfl
      clear hd
      go_simp
      refine (flags_any _ k _ (hip5.grow hg)).mono ?_
      rintro e w2 ⟨rfl, hg2⟩
      exact ⟨_, rfl, hp _ _ hg2 rfl⟩
    · -- 5: slot 30: Op.binOp BinOp.add 3 t27 t29 3
      have h27 : x 27 = .int .i64 k.off := hd 2 (by decide) _ rfl
      have h29 : x 29 = .int .i64 k.flag := hd 4 (by decide) _ rfl
      clear hd
      have e30 : IntKind.i64.wrap (k.off + k.flag) = k.off + k.flag := IntWalk.i64_in _ (by omega)
      go_simp
      exact hp _ _ (Grow.refl _) rfl
    · -- 6: slot 31: Op.call { value (Operand.func 38), args := #[t25, t30], argTypes := #[25, 3] }
      have h25 : x 25 = .slice A3 m3 c3 := hd 0 (by decide) _ rfl
      have h30 : x 30 = .int .i64 (k.off + k.flag) := hd 5 (by decide) _ rfl
      clear hd
      go_simp
      refine (Put16_any _ L3 _ _ (hb3.grow hg) hL3).mono ?_
      rintro e w2 ⟨u, rfl, ho, hg2⟩
      exact ⟨_, rfl, hp _ _ hg2 ho.byt⟩
  · intro x w1 hg hd
    have h31 : Byt w1 (x 31) (L3 ++ two (k.off + k.flag)) := hd 6 _ (by decide) rfl
    clear hd
    obtain ⟨L4, hL4⟩ : ∃ L4, L4 = L3 ++ two (k.off + k.flag) := ⟨_, rfl⟩
    rw [← hL4] at h31
    have l4 : L4.length = 8 := by rw [hL4, hL3', hL2, hL1]; rfl
    obtain ⟨A4, m4, c4, e4, _⟩ := h31.form2
    have hg16 := hg15.trans hg
    clear b0 b1 b2 b3 b4 b5 b6 b7 b8 b9 b10
    obtain ⟨b0, b1, b2, b3, b4, b5, b6, b7, b8, b9, b10⟩ := hB1.grow hg16
    have hm4 := h31
    rw [e4] at hm4
    obtain ⟨L5, hL5⟩ : ∃ L5, L5 = [L4, [UInt8.ofNat k.ttl, UInt8.ofNat k.proto, 0, 0]].flatten := ⟨_, rfl⟩
    have l5 : L5.length = 12 := by rw [hL5]; simp [l4]
    have hl5 : Byt (w1.alloc (.cells #[.int .u8 (k.ttl : Int), .int .u8 (k.proto : Int), .int .u8 0, .int .u8 0] 5)) (.slice (some ⟨w1.heap.size, 0, none⟩) 4 4) [UInt8.ofNat k.ttl, UInt8.ofNat k.proto, 0, 0] := by
      refine (Own.lit w1 _ [UInt8.ofNat k.ttl, UInt8.ofNat k.proto, 0, 0] ?_ (by unfold maxLen; simp)).byt
      simp only [bv, List.map_cons, List.map_nil, UInt8.toNat_ofNat', List.cons.injEq, Value.int.injEq, true_and, and_true]
      exact ⟨by omega, by omega, rfl, rfl⟩
    have g5 := hg16.trans (Grow.alloc w1 (.cells #[.int .u8 (k.ttl : Int), .int .u8 (k.proto : Int), .int .u8 0, .int .u8 0] 5))
    have q5 := hm4.grow (Grow.alloc w1 (.cells #[.int .u8 (k.ttl : Int), .int .u8 (k.proto : Int), .int .u8 0, .int .u8 0] 5))
    have n0 : 0 < [L4, [UInt8.ofNat k.ttl, UInt8.ofNat k.proto, 0, 0]].length := by simp
    have n1 : [L4, [UInt8.ofNat k.ttl, UInt8.ofNat k.proto, 0, 0]].length ≤ maxLen := by simp [maxLen]
    have n2 : lens [L4, [UInt8.ofNat k.ttl, UInt8.ofNat k.proto, 0, 0]] ≤ 281474976710656 := by simp [lens, l4]
    simp only [List.drop_succ_cons, List.drop_zero]
    go_wp2_with fail
    refine (Join_lit_at W1 _ g5 _ 2 _ (World.size_alloc _ _).symm [L4, [UInt8.ofNat k.ttl, UInt8.ofNat k.proto, 0, 0]] rfl rfl n0 n1 n2 (byt_two q5 hl5)).mono ?_
    rw [← hL5]
    rintro e w6 ⟨v6, rfl, ho6, hg6⟩
    clear b0 b1 b2 b3 b4 b5 b6 b7 b8 b9 b10
    obtain ⟨b0, b1, b2, b3, b4, b5, b6, b7, b8, b9, b10⟩ := hB1.grow hg6
    have f5 : L5.length ≤ 281474976710652 := by omega
    go_wp2_with fail
    refine (Put32_any _ L5 k.src _ ho6.byt f5 k5).mono ?_
    rintro e w7 ⟨v7, rfl, ho7, hg7⟩
    have hg17 := hg6.trans hg7
    clear b0 b1 b2 b3 b4 b5 b6 b7 b8 b9 b10
    obtain ⟨b0, b1, b2, b3, b4, b5, b6, b7, b8, b9, b10⟩ := hB1.grow hg17
    obtain ⟨L6, hL6⟩ : ∃ L6, L6 = L5 ++ dig k.src 4 := ⟨_, rfl⟩
    rw [← hL6] at ho7
    have l6 : L6.length = 16 := by rw [hL6, List.length_append, l5, dig_length]
    have f6 : L6.length ≤ 281474976710652 := by omega
    go_wp2_with fail
    refine (Put32_any _ L6 k.dst _ ho7.byt f6 k6).mono ?_
    rintro e w8 ⟨v8, rfl, ho8, hg8⟩
    have hg18 := hg17.trans hg8
    clear b0 b1 b2 b3 b4 b5 b6 b7 b8 b9 b10
    obtain ⟨b0, b1, b2, b3, b4, b5, b6, b7, b8, b9, b10⟩ := hB1.grow hg18
    obtain ⟨L7, hL7⟩ : ∃ L7, L7 = L6 ++ dig k.dst 4 := ⟨_, rfl⟩
    rw [← hL7] at ho8
    have l7 : L7.length = 20 := by rw [hL7, List.length_append, l6, dig_length]
    obtain ⟨A8, m8, c8, rfl, _⟩ := ho8.byt.form2
    have q8 := ho8.byt
    have r8 := ho.grow (hg1.trans hg18)
    have n3 : 0 < [L7, k.opts].length := by simp
    have n4 : [L7, k.opts].length ≤ maxLen := by simp [maxLen]
    have n5 : lens [L7, k.opts] ≤ 281474976710656 := by simp [lens, l7]; omega
    go_wp2_with fail
    refine (Join_lit_at W1 _ hg18 _ 2 _ rfl [L7, k.opts] rfl rfl n3 n4 n5 (byt_two q8 r8)).mono ?_
    rintro e w9 ⟨v9, rfl, ho9, hg9⟩
    go_wp2_with fail
    go_ret
    have eq9 : [L7, k.opts].flatten = k.bare := by
      rw [hL7, hL6, hL5, hL4, hL3', hL2, hL1]
      simp [Pkt.bare, Pkt.pre, Pkt.post]
    rw [eq9] at ho9
    exact ⟨_, rfl, ho9.base (by omega), hg1.trans hg9⟩
end Go.Proofs.Ytmibeahofienjaa
