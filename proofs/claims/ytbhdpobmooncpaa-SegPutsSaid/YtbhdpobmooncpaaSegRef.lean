/- The document's own answers: numbers in bytes, bytes as a segment. -/
import Derived.Test.YtbhdpobmooncpaaSegGet
import Derived.Test.YtbhdpobmooncpaaSegRRead
import Derived.Test.YtbhdpobmooncpaaWeave
import Derived.Test.YtbhdpobmooncpaaIpFld
import Derived.Lib.Hide
namespace Go.Proofs.Ytbhdpobmooncpaa
set_option linter.unusedVariables false
set_option linter.unusedSimpArgs false
open Go.ChangeShapes Go.WideShapes Go.ChangeAt Go.RowKit

set_option maxHeartbeats 400000 in
theorem rnum9_any (v : Value) (k m : Nat) (l : List UInt8) (w : World) (h : Byt w v l) (hk : k + m ≤ l.length) (hm : m ≤ 4) (hm0 : 0 < m) (hs : k ≤ 1000) :
    Calls Try.prog 35 #[v, .int .i64 (k : Int), .int .i64 (m : Int)] w fun e w' => e = .returned (.int .i64 (numOf ((l.drop k).take m) : Nat)) ∧ w = w' := by
  obtain ⟨A, c, rfl, hc, hcm⟩ := h.form
  obtain ⟨b, off, rfl, hb, hcell⟩ := h.at_ (by omega)
  unfold maxLen at hcm
  clear h
  go_enter Try.func35, Try.ntmps35
  go_wp2
  go_loop [7, 8] (fun t i => ∃ j : Nat, j ≤ m ∧ i = .int .i64 (j : Int) ∧ t = .int .i64 ((numOf ((l.drop k).take j) : Nat) : Int)) (fun _ i => m - (intOf i).toNat)
  case atStart => exact ⟨0, Nat.zero_le _, rfl, rfl⟩
  case round =>
    obtain ⟨j, hj, rfl, rfl⟩ := hrel
    by_cases hlt : j < m
    · have hc1 : w.cell? ⟨b, off + (k + j), none⟩ = some (.int .u8 ((l[k + j]'(by omega)).toNat : Int)) := hcell (k + j) (by omega)
      have h6 := numOf_lt3 ((l.drop k).take j) (by simp; omega)
      have hu := (l[k + j]'(by omega)).toNat_lt
      go_wp2
      go_round
      case rel =>
        refine ⟨j + 1, by omega, by go_num, ?_⟩
        rw [take_snoc l k j (by omega), numOf_snoc]
        go_num
      case measure => simp [intOf]; omega
    · go_wp2
      have : j = m := by omega
      subst this
      go_ret
      exact ⟨rfl, rfl⟩
theorem rnum9_2 (v : Value) (k : Nat) (l : List UInt8) (w : World) (h : Byt w v l) (hk : k + 2 ≤ l.length) (hs : k ≤ 1000) :
    Calls Try.prog 35 #[v, .int .i64 (k : Int), .int .i64 2] w fun e w' => e = .returned (.int .i64 (num l k : Nat)) ∧ w = w' := by
  have := rnum9_any v k 2 l w h hk (by decide) (by decide) hs
  rwa [numOf_2 hk] at this
theorem rnum9_4 (v : Value) (k : Nat) (l : List UInt8) (w : World) (h : Byt w v l) (hk : k + 4 ≤ l.length) (hs : k ≤ 1000) :
    Calls Try.prog 35 #[v, .int .i64 (k : Int), .int .i64 4] w fun e w' => e = .returned (.int .i64 (65536 * num l k + num l (k + 2) : Nat)) ∧ w = w' := by
  have := rnum9_any v k 4 l w h hk (by decide) (by decide) hs
  rwa [numOf_4 hk] at this

set_option maxHeartbeats 2000000 in
theorem RGet9_few (s d : Nat) (v : Value) (l : List UInt8) (w : World) (hs : s < 4294967296) (hd4 : d < 4294967296) (h : Byt w v l) (hl : l.length ≤ 1000000) (h1 : l.length < 20) :
    Calls Try.prog 19 #[.int .u32 (s : Int), .int .u32 (d : Int), v] w fun e w' => e = .returned (.tuple #[SgmV zeroT (.slice none 0 0), .int .i64 2]) ∧ Grow w w' := by
  obtain ⟨A, c, rfl, hcl, hcm⟩ := h.form
  obtain ⟨W1, hW1⟩ : ∃ W1, W1 = w.alloc (.cells #[.int .u16 0, .int .u16 0, .int .u32 0, .int .u32 0, .int .u8 0, .int .u16 0, .int .i64 0, .int .i64 0, .slice none 0 0] 26) := ⟨_, rfl⟩
  have hg1 : Grow w W1 := by rw [hW1]; exact Grow.alloc w _
  have hk1 : Sgmblk W1 w.heap.size zeroT (.slice none 0 0) := by rw [hW1]; exact Sgmblk.new w zeroT _
  have hB1 := h.grow hg1
  go_enter Try.func19, Try.ntmps19
  go_upto_if 15 with fail
  rw [← hW1]
  clear hW1
  go_wp2_with (refine wpList_store_Sgm w W1 rfl _ _ rfl rfl w.heap.size rfl zeroT zeroT (.slice none 0 0) (.slice none 0 0) rfl rfl hk1 hg1 (Nat.le_refl _) ?_; intro w3 hk3 hbut hg3)
  refine bodyPost_ret (results2_Sgm 6 7 rfl _ w3 w.heap.size _ _ rfl hk3) rfl ?_
  exact ⟨rfl, hg3⟩

set_option maxHeartbeats 2000000 in
theorem RGet9_form (s d : Nat) (v : Value) (l : List UInt8) (w : World) (hs : s < 4294967296) (hd4 : d < 4294967296) (h : Byt w v l) (hl : l.length ≤ 1000000) (h1 : 20 ≤ l.length) (h2 : shead l < 20) :
    Calls Try.prog 19 #[.int .u32 (s : Int), .int .u32 (d : Int), v] w fun e w' => e = .returned (.tuple #[SgmV zeroT (.slice none 0 0), .int .i64 3]) ∧ Grow w w' := by
  obtain ⟨A, c, rfl, hcl, hcm⟩ := h.form
  obtain ⟨W1, hW1⟩ : ∃ W1, W1 = w.alloc (.cells #[.int .u16 0, .int .u16 0, .int .u32 0, .int .u32 0, .int .u8 0, .int .u16 0, .int .i64 0, .int .i64 0, .slice none 0 0] 26) := ⟨_, rfl⟩
  have hg1 : Grow w W1 := by rw [hW1]; exact Grow.alloc w _
  have hk1 : Sgmblk W1 w.heap.size zeroT (.slice none 0 0) := by rw [hW1]; exact Sgmblk.new w zeroT _
  have hB1 := h.grow hg1
  obtain ⟨b, off, rfl, hb, hcell⟩ := h.at_ (by omega)
  have c12 : W1.cell? ⟨b, off + 12, none⟩ = some (.int .u8 (byt l 12 : Int)) := by
    rw [hg1.cell (p := ⟨b, off + 12, none⟩) hb, ← byt_at (show 12 < l.length by omega)]
    exact hcell 12 (by omega)
  have y12 := byt_lt l 12
  have i12 : (12 : Int) < (l.length : Int) := by omega
  have es : shead l = 4 * (byt l 12 / 16) := rfl
  obtain ⟨y, hy⟩ : ∃ y, y = byt l 12 := ⟨_, rfl⟩
  rw [← hy] at c12 y12 es
  obtain ⟨q, hq⟩ : ∃ q, q = y / 16 := ⟨_, rfl⟩
  rw [← hq] at es
  have hq16 : q < 16 := by omega
  have Q1 : (y : Int) / 16 = (q : Int) := by omega
  obtain ⟨m, hm⟩ : ∃ m, m = shead l := ⟨_, rfl⟩
  have Q3 : 4 * (q : Int) = (m : Int) := by omega
  rw [← hm] at h2
  clear hm hq hy es hcell
  go_enter Try.func19, Try.ntmps19
  go_upto_if 15 with fail
  rw [← hW1]
  clear hW1
  go_wp2_with (refine wpList_store_Sgm w W1 rfl _ _ rfl rfl w.heap.size rfl zeroT zeroT (.slice none 0 0) (.slice none 0 0) rfl rfl hk1 hg1 (Nat.le_refl _) ?_; intro w3 hk3 hbut hg3)
  refine bodyPost_ret (results2_Sgm 6 7 rfl _ w3 w.heap.size _ _ rfl hk3) rfl ?_
  exact ⟨rfl, hg3⟩

set_option maxHeartbeats 2000000 in
theorem RGet9_short (s d : Nat) (v : Value) (l : List UInt8) (w : World) (hs : s < 4294967296) (hd4 : d < 4294967296) (h : Byt w v l) (hl : l.length ≤ 1000000) (h1 : 20 ≤ l.length) (h2 : 20 ≤ shead l) (h3 : l.length < shead l) :
    Calls Try.prog 19 #[.int .u32 (s : Int), .int .u32 (d : Int), v] w fun e w' => e = .returned (.tuple #[SgmV zeroT (.slice none 0 0), .int .i64 2]) ∧ Grow w w' := by
  obtain ⟨A, c, rfl, hcl, hcm⟩ := h.form
  obtain ⟨W1, hW1⟩ : ∃ W1, W1 = w.alloc (.cells #[.int .u16 0, .int .u16 0, .int .u32 0, .int .u32 0, .int .u8 0, .int .u16 0, .int .i64 0, .int .i64 0, .slice none 0 0] 26) := ⟨_, rfl⟩
  have hg1 : Grow w W1 := by rw [hW1]; exact Grow.alloc w _
  have hk1 : Sgmblk W1 w.heap.size zeroT (.slice none 0 0) := by rw [hW1]; exact Sgmblk.new w zeroT _
  have hB1 := h.grow hg1
  obtain ⟨b, off, rfl, hb, hcell⟩ := h.at_ (by omega)
  have c12 : W1.cell? ⟨b, off + 12, none⟩ = some (.int .u8 (byt l 12 : Int)) := by
    rw [hg1.cell (p := ⟨b, off + 12, none⟩) hb, ← byt_at (show 12 < l.length by omega)]
    exact hcell 12 (by omega)
  have y12 := byt_lt l 12
  have i12 : (12 : Int) < (l.length : Int) := by omega
  have es : shead l = 4 * (byt l 12 / 16) := rfl
  obtain ⟨y, hy⟩ : ∃ y, y = byt l 12 := ⟨_, rfl⟩
  rw [← hy] at c12 y12 es
  obtain ⟨q, hq⟩ : ∃ q, q = y / 16 := ⟨_, rfl⟩
  rw [← hq] at es
  have hq16 : q < 16 := by omega
  have Q1 : (y : Int) / 16 = (q : Int) := by omega
  obtain ⟨m, hm⟩ : ∃ m, m = shead l := ⟨_, rfl⟩
  have Q3 : 4 * (q : Int) = (m : Int) := by omega
  rw [← hm] at h2 h3
  clear hm hq hy es hcell
  go_enter Try.func19, Try.ntmps19
  go_upto_if 15 with fail
  rw [← hW1]
  clear hW1
  go_wp2_with (refine wpList_store_Sgm w W1 rfl _ _ rfl rfl w.heap.size rfl zeroT zeroT (.slice none 0 0) (.slice none 0 0) rfl rfl hk1 hg1 (Nat.le_refl _) ?_; intro w3 hk3 hbut hg3)
  refine bodyPost_ret (results2_Sgm 6 7 rfl _ w3 w.heap.size _ _ rfl hk3) rfl ?_
  exact ⟨rfl, hg3⟩

set_option maxHeartbeats 2000000 in
theorem RGet9_sum (s d : Nat) (v : Value) (l : List UInt8) (w : World) (hs : s < 4294967296) (hd4 : d < 4294967296) (h : Byt w v l) (hl : l.length ≤ 1000000) (h1 : 20 ≤ l.length) (h2 : 20 ≤ shead l) (h3 : shead l ≤ l.length) (h4 : tsum s d l ≠ 65535) :
    Calls Try.prog 19 #[.int .u32 (s : Int), .int .u32 (d : Int), v] w fun e w' => e = .returned (.tuple #[SgmV zeroT (.slice none 0 0), .int .i64 4]) ∧ Grow w w' := by
  obtain ⟨A, c, rfl, hcl, hcm⟩ := h.form
  obtain ⟨W1, hW1⟩ : ∃ W1, W1 = w.alloc (.cells #[.int .u16 0, .int .u16 0, .int .u32 0, .int .u32 0, .int .u8 0, .int .u16 0, .int .i64 0, .int .i64 0, .slice none 0 0] 26) := ⟨_, rfl⟩
  have hg1 : Grow w W1 := by rw [hW1]; exact Grow.alloc w _
  have hk1 : Sgmblk W1 w.heap.size zeroT (.slice none 0 0) := by rw [hW1]; exact Sgmblk.new w zeroT _
  have hB1 := h.grow hg1
  obtain ⟨b, off, rfl, hb, hcell⟩ := h.at_ (by omega)
  have c12 : W1.cell? ⟨b, off + 12, none⟩ = some (.int .u8 (byt l 12 : Int)) := by
    rw [hg1.cell (p := ⟨b, off + 12, none⟩) hb, ← byt_at (show 12 < l.length by omega)]
    exact hcell 12 (by omega)
  have y12 := byt_lt l 12
  have i12 : (12 : Int) < (l.length : Int) := by omega
  have es : shead l = 4 * (byt l 12 / 16) := rfl
  obtain ⟨y, hy⟩ : ∃ y, y = byt l 12 := ⟨_, rfl⟩
  rw [← hy] at c12 y12 es
  obtain ⟨q, hq⟩ : ∃ q, q = y / 16 := ⟨_, rfl⟩
  rw [← hq] at es
  have hq16 : q < 16 := by omega
  have Q1 : (y : Int) / 16 = (q : Int) := by omega
  obtain ⟨m, hm⟩ : ∃ m, m = shead l := ⟨_, rfl⟩
  have Q3 : 4 * (q : Int) = (m : Int) := by omega
  rw [← hm] at h2 h3
  clear hm hq hy es hcell
  have EC := Lib.hid (of_tsum s d l)
  have hlt5 := tsum_lt s d l
  have hlt : l.length ≤ 140737488351232 := by omega
  obtain ⟨cs, hcs⟩ : ∃ cs, cs = 65535 - tsum s d l := ⟨_, rfl⟩
  rw [← hcs] at EC
  have hc5 : cs ≤ 65535 := by omega
  have hc0 : ((cs : Int) != 0) = true := bne_iff_ne.2 (by omega)
  clear hcs h4 hlt5
  go_enter Try.func19, Try.ntmps19
  go_upto_if 15 with fail
  rw [← hW1]
  clear hW1
  go_wp2_with fail
  refine (ROf_any s d 6 _ l _ hs hd4 (by decide) hB1 hlt).mono ?_
  rw [EC.out]
  rintro e w2 ⟨rfl, hg2⟩
  clear EC
  go_wp2_with (refine wpList_store_Sgm w w2 rfl _ _ rfl rfl w.heap.size rfl zeroT zeroT (.slice none 0 0) (.slice none 0 0) rfl rfl (hk1.grow hg2) (hg1.trans hg2) (Nat.le_refl _) ?_; intro w3 hk3 hbut hg3)
  refine bodyPost_ret (results2_Sgm 6 7 rfl _ w3 w.heap.size _ _ rfl hk3) rfl ?_
  exact ⟨rfl, hg3⟩

set_option maxHeartbeats 2000000 in
theorem RGet9_opts (s d : Nat) (v : Value) (l : List UInt8) (w : World) (hs : s < 4294967296) (hd4 : d < 4294967296) (h : Byt w v l) (hl : l.length ≤ 1000000) (h1 : 20 ≤ l.length) (h2 : 20 ≤ shead l) (h3 : shead l ≤ l.length) (h4 : tsum s d l = 65535) (h5 : (sro l).2.2 ≠ 0) :
    Calls Try.prog 19 #[.int .u32 (s : Int), .int .u32 (d : Int), v] w fun e w' => e = .returned (.tuple #[SgmV zeroT (.slice none 0 0), .int .i64 (sro l).2.2]) ∧ Grow w w' := by
  obtain ⟨A, c, rfl, hcl, hcm⟩ := h.form
  obtain ⟨W1, hW1⟩ : ∃ W1, W1 = w.alloc (.cells #[.int .u16 0, .int .u16 0, .int .u32 0, .int .u32 0, .int .u8 0, .int .u16 0, .int .i64 0, .int .i64 0, .slice none 0 0] 26) := ⟨_, rfl⟩
  have hg1 : Grow w W1 := by rw [hW1]; exact Grow.alloc w _
  have hk1 : Sgmblk W1 w.heap.size zeroT (.slice none 0 0) := by rw [hW1]; exact Sgmblk.new w zeroT _
  have hB1 := h.grow hg1
  obtain ⟨b, off, rfl, hb, hcell⟩ := h.at_ (by omega)
  have c12 : W1.cell? ⟨b, off + 12, none⟩ = some (.int .u8 (byt l 12 : Int)) := by
    rw [hg1.cell (p := ⟨b, off + 12, none⟩) hb, ← byt_at (show 12 < l.length by omega)]
    exact hcell 12 (by omega)
  have y12 := byt_lt l 12
  have i12 : (12 : Int) < (l.length : Int) := by omega
  have es : shead l = 4 * (byt l 12 / 16) := rfl
  obtain ⟨y, hy⟩ : ∃ y, y = byt l 12 := ⟨_, rfl⟩
  rw [← hy] at c12 y12 es
  obtain ⟨q, hq⟩ : ∃ q, q = y / 16 := ⟨_, rfl⟩
  rw [← hq] at es
  have hq16 : q < 16 := by omega
  have Q1 : (y : Int) / 16 = (q : Int) := by omega
  obtain ⟨m, hm⟩ : ∃ m, m = shead l := ⟨_, rfl⟩
  have Q3 : 4 * (q : Int) = (m : Int) := by omega
  obtain ⟨⟨X, Y, E⟩, hro⟩ : ∃ r, r = sro l := ⟨_, rfl⟩
  have hE := (sread_le ((l.take (shead l)).drop 20)).2.2
  have hrd : sread ((l.take (shead l)).drop 20) = (X, Y, E) := hro.symm
  rw [hrd] at hE
  rw [← hro] at h5 ⊢
  simp only at h5 hE ⊢
  rw [← hm] at h2 h3 hrd
  clear hm hq hy es hcell hro
  have EC := Lib.hid (of_tsum s d l)
  rw [h4] at EC
  have hlt : l.length ≤ 140737488351232 := by omega
  have hcut := cutAt2 hB1 (lo := 20) (hi := m) h2 h3
  have hRd : ∀ w', Grow W1 w' → _ := fun w' g => RRead_any _ _ w' (hcut.grow g) (by simp; omega) X Y E hrd
  have i1 : (m : Int) ≤ (l.length : Int) := by omega
  have i2 : m ≤ c := by omega
  have i3 : (20 : Int) ≤ (m : Int) := by omega
  have bE : (E != 0) = true := bne_iff_ne.2 h5
  clear h4 hrd hcut
  go_enter Try.func19, Try.ntmps19
  go_upto_if 15 with fail
  rw [← hW1]
  clear hW1
  go_wp2_with fail
  refine (ROf_any s d 6 _ l _ hs hd4 (by decide) hB1 hlt).mono ?_
  rw [EC.out]
  rintro e w2 ⟨rfl, hg2⟩
  clear EC
  by_cases hc20 : c = 20
  · subst hc20
    obtain rfl : m = 20 := by omega
    rw [if_pos rfl] at hRd
    simp only [Nat.sub_self] at hRd
    go_wp2_with fail
    refine (hRd _ hg2).mono ?_
    rintro e w4 ⟨rfl, hg4⟩
    have hg24 := hg2.trans hg4
    clear hRd
    go_wp2_with (refine wpList_store_Sgm w w4 rfl _ _ rfl rfl w.heap.size rfl zeroT zeroT (.slice none 0 0) (.slice none 0 0) rfl rfl (hk1.grow hg24) (hg1.trans hg24) (Nat.le_refl _) ?_; intro w3 hk3 hbut hg3)
    refine bodyPost_ret (results2_Sgm 6 7 rfl _ w3 w.heap.size _ _ rfl hk3) rfl ?_
    exact ⟨rfl, hg3⟩
  · rw [if_neg hc20] at hRd
    go_wp2_with fail
    refine (hRd _ hg2).mono ?_
    rintro e w4 ⟨rfl, hg4⟩
    have hg24 := hg2.trans hg4
    clear hRd
    go_wp2_with (refine wpList_store_Sgm w w4 rfl _ _ rfl rfl w.heap.size rfl zeroT zeroT (.slice none 0 0) (.slice none 0 0) rfl rfl (hk1.grow hg24) (hg1.trans hg24) (Nat.le_refl _) ?_; intro w3 hk3 hbut hg3)
    refine bodyPost_ret (results2_Sgm 6 7 rfl _ w3 w.heap.size _ _ rfl hk3) rfl ?_
    exact ⟨rfl, hg3⟩
end Go.Proofs.Ytbhdpobmooncpaa
