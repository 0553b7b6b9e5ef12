/- Messages: the contracts of the small functions. -/
import Derived.Test.YtbnnacohkemnhaaIcmNum
import Derived.Test.YtbnnacohkemnhaaIpRead
import Derived.Test.YtbnnacohkemnhaaIpSame
import Derived.Test.YtbnnacohkemnhaaIpGet
import Derived.Deep.LoopGhost
namespace Go.Proofs.Ytbnnacohkemnhaa
set_option linter.unusedVariables false
set_option linter.unusedSimpArgs false
open Go.ChangeShapes Go.WideShapes Go.ChangeAt Go.RowKit

theorem icmCode_any (n : Int) (w : World) (h1 : -9223372036854775808 ≤ n) (h2 : n ≤ 9223372036854775807) :
    Calls Try.prog 11 #[.int .i64 n] w fun e w' => e = .returned (.int .i64 n) ∧ w = w' := by
  go_enter Try.func11, Try.ntmps11
  go_wp2_with fail
  go_ret
  exact ⟨rfl, rfl⟩

set_option maxHeartbeats 400000 in
theorem iget16_any (v : Value) (k : Nat) (l : List UInt8) (w : World) (h : Byt w v l) (hk : k + 2 ≤ l.length) (hs : k ≤ 1000) :
    Calls Try.prog 41 #[v, .int .i64 (k : Int)] w fun e w' => e = .returned (.int .i64 (num l k : Nat)) ∧ w = w' := by
  have h1 := num_lt l k
  have e1 : numAt l (k : Int) 2 = (((num l k : Nat) : Int), 0) := by rw [numAt_ok hk, numOf_2 hk]
  go_enter Try.func41, Try.ntmps41
  go_wp2_with fail
  refine (Get16_any _ _ _ _ h (by omega) (by omega)).mono ?_
  rw [e1]
  rintro e w' ⟨rfl, rfl⟩
  go_wp2_with fail
  go_ret
  exact ⟨rfl, rfl⟩

set_option maxHeartbeats 400000 in
theorem iget32_any (v : Value) (k : Nat) (l : List UInt8) (w : World) (h : Byt w v l) (hk : k + 4 ≤ l.length) (hs : k ≤ 1000) :
    Calls Try.prog 33 #[v, .int .i64 (k : Int)] w fun e w' => e = .returned (.int .u32 (65536 * num l k + num l (k + 2) : Nat)) ∧ w = w' := by
  have h1 := num_lt l k
  have h2 := num_lt l (k + 2)
  have e1 : numAt l (k : Int) 4 = (((65536 * num l k + num l (k + 2) : Nat) : Int), 0) := by rw [numAt_ok hk, numOf_4 hk]
  generalize 65536 * num l k + num l (k + 2) = n at *
  go_enter Try.func33, Try.ntmps33
  go_wp2_with fail
  refine (Get32_any _ _ _ _ h (by omega) (by omega)).mono ?_
  rw [e1]
  rintro e w' ⟨rfl, rfl⟩
  go_wp2_with fail
  go_ret
  exact ⟨rfl, rfl⟩

set_option maxHeartbeats 1000000 in
theorem Error_any (v : Value) (k : Icm) (w : World) (h : isIcm w v k) :
    Calls Try.prog 21 #[v] w fun e w' => e = .returned (.bool (isErr k)) ∧ Grow w w' := by
  obtain ⟨A, c, rfl, hd, hk⟩ := h.form
  unfold isErr
  by_cases h1 : k.kind = 3
  · have e1 : ((k.kind : Int) == 3) = true := by simp; omega
    rw [decide_eq_true (.inl h1)]
    go_enter Try.func21, Try.ntmps21
    go_wp2_with fail
    go_ret
    exact ⟨rfl, Grow.alloc _ _⟩
  · have e1 : ((k.kind : Int) == 3) = false := by simp; omega
    by_cases h2 : k.kind = 11
    · have e2 : ((k.kind : Int) == 11) = true := by simp; omega
      rw [decide_eq_true (.inr h2)]
      go_enter Try.func21, Try.ntmps21
      go_wp2_with fail
      go_ret
      exact ⟨rfl, Grow.alloc _ _⟩
    · have e2 : ((k.kind : Int) == 11) = false := by simp; omega
      rw [decide_eq_false (by omega)]
      go_enter Try.func21, Try.ntmps21
      go_wp2_with fail
      go_ret
      exact ⟨rfl, Grow.alloc _ _⟩

theorem and_15 (n : Nat) (hn : n < 256) : bits .and .u8 (n : Int) 15 = ((n % 16 : Nat) : Int) := by
  show IntKind.u8.wrap ((BitVec.ofInt 8 (n : Int) &&& BitVec.ofInt 8 ((15 : Nat) : Int)).toNat : Int) = _
  rw [BitVec.toNat_and, BitVec.toNat_ofInt, BitVec.toNat_ofInt]
  rw [show ((n : Int) % ((2 ^ 8 : Nat) : Int)).toNat = n by omega, show (((15 : Nat) : Int) % ((2 ^ 8 : Nat) : Int)).toNat = 15 by decide]
  rw [show (15 : Nat) = 2 ^ 4 - 1 from rfl, Nat.and_two_pow_sub_one_eq_mod]
  simp only [IntKind.wrap, IntKind.signed, IntKind.bits]
  simp
  omega

set_option maxHeartbeats 1000000 in
theorem iheader_any (v : Value) (l : List UInt8) (w : World) (h : Byt w v l) :
    Calls Try.prog 39 #[v] w fun e w' => e = .returned (.int .i64 (ahead l : Nat)) ∧ w = w' := by
  obtain ⟨A, c, rfl, hcl, hcm⟩ := h.form
  by_cases h0 : l.length = 0
  · obtain rfl := List.eq_nil_of_length_eq_zero h0
    go_enter Try.func39, Try.ntmps39
    go_wp2_with fail
    go_ret
    exact ⟨rfl, rfl⟩
  obtain ⟨b, off, rfl, hb, hcell⟩ := h.at_ (by omega)
  have c0 : w.cell? ⟨b, off, none⟩ = some (.int .u8 (byt l 0 : Int)) := by
    have := hcell 0 (by omega)
    rwa [byt_at] at this
  have l0 := byt_lt l 0
  have K := and_15 _ l0
  have i0 : (0 : Int) < (l.length : Int) := by omega
  have h0' : ((l.length : Int) == 0) = false := beq_eq_false_iff_ne.2 (by omega)
  unfold ahead
  by_cases h5 : 5 < byt l 0 % 16
  · rw [if_pos h5]
    generalize byt l 0 = x0 at *
    go_enter Try.func39, Try.ntmps39
    go_wp2_with fail
    go_ret
    exact ⟨ret_int (by omega), rfl⟩
  · rw [if_neg h5]
    generalize byt l 0 = x0 at *
    by_cases h6 : x0 % 16 = 5
    · go_enter Try.func39, Try.ntmps39
      go_wp2_with fail
      go_ret
      exact ⟨ret_int (by omega), rfl⟩
    · go_enter Try.func39, Try.ntmps39
      go_wp2_with fail
      go_ret
      exact ⟨rfl, rfl⟩

set_option maxHeartbeats 1000000 in
theorem RAbout_any (v : Value) (l : List UInt8) (w : World) (h : Byt w v l) (hl : l.length ≤ 1000000) :
    Calls Try.prog 20 #[v] w fun e w' => e = .returned (.int .i64 (about l : Nat)) ∧ Grow w w' := by
  obtain ⟨A, c, rfl, hcl, hcm⟩ := h.form
  by_cases h0 : l.length = 0
  · obtain rfl := List.eq_nil_of_length_eq_zero h0
    go_enter Try.func20, Try.ntmps20
    go_wp2_with fail
    go_ret
    exact ⟨rfl, Grow.refl _⟩
  obtain ⟨b, off, rfl, hb, hcell⟩ := h.at_ (by omega)
  have c0 : w.cell? ⟨b, off, none⟩ = some (.int .u8 (byt l 0 : Int)) := by
    have := hcell 0 (by omega)
    rwa [byt_at] at this
  have l0 := byt_lt l 0
  have i0 : (0 : Int) < (l.length : Int) := by omega
  unfold about ahead
  generalize byt l 0 = x0 at *
  by_cases h5 : 5 < x0 % 16
  · rw [if_pos h5]
    by_cases h7 : 4 * (x0 % 16) + 8 ≤ l.length
    · rw [if_pos h7]
      go_enter Try.func20, Try.ntmps20
      go_wp2_with fail
      go_ret
      exact ⟨ret_int (by omega), Grow.refl _⟩
    · rw [if_neg h7]
      go_enter Try.func20, Try.ntmps20
      go_wp2_with fail
      go_ret
      exact ⟨ret_int (by omega), Grow.refl _⟩
  · rw [if_neg h5]
    by_cases h7 : 20 + 8 ≤ l.length
    · rw [if_pos h7]
      go_enter Try.func20, Try.ntmps20
      go_wp2_with fail
      go_ret
      exact ⟨rfl, Grow.refl _⟩
    · rw [if_neg h7]
      go_enter Try.func20, Try.ntmps20
      go_wp2_with fail
      go_ret
      exact ⟨rfl, Grow.refl _⟩

def chead (k : Icm) : Nat := if ccode k = 0 then hdr k.data else 0
theorem chead_bad {k : Icm} {n : Int} (h : ccode k = n) (h0 : n ≠ 0) : chead k = 0 := by unfold chead; rw [h, if_neg h0]
set_option maxHeartbeats 2000000 in
theorem imeasure_any (v : Value) (k : Icm) (w : World) (h : isIcm w v k) (hs : k.data.length ≤ 1000000) :
    Calls Try.prog 40 #[v] w fun e w' => e = .returned (.tuple #[.int .i64 (chead k : Nat), .int .i64 (ccode k)]) ∧ Grow w w' := by
  obtain ⟨A, c, rfl, hd, hk⟩ := h.form
  obtain ⟨hcl, hcm⟩ := hd.len.2
  obtain ⟨W1, hW1⟩ : ∃ W1, W1 = w.alloc (.cells #[.int .u8 (k.kind : Int), .int .u8 (k.code : Int), .int .u32 (k.rest : Int), .slice A k.data.length c] 25) := ⟨_, rfl⟩
  have hg1 : Grow w W1 := by rw [hW1]; exact Grow.alloc w _
  have hB1 : Icmbox W1 w.heap.size k (.slice A k.data.length c) := by rw [hW1]; exact Icmbox.new _ _ _
  have hip := h.grow hg1
  obtain ⟨b0, b1, b2, b3⟩ := hB1
  go_enter Try.func40, Try.ntmps40
  go_wp2_with fail
  rw [← hW1]
  refine (Error_any _ k _ hip).mono ?_
  rintro e w2 ⟨rfl, hg2⟩
  have hg := hg1.trans hg2
  have hs1 : w.heap.size < W1.heap.size := block_of_cell b0
  have b3' := (hg2.cell (p := ⟨w.heap.size, 3, none⟩) hs1).trans b3
  by_cases h1 : isErr k = false
  · have e1 : ccode k = 6 := by unfold ccode; rw [if_pos h1]
    have e3 := chead_bad e1 (by decide)
    rw [h1]
    go_wp2_with fail
    go_ret2
    exact ⟨by first | rfl | (rw [e1, e3]; rfl), hg⟩
  have h1' : isErr k = true := by simpa using h1
  rw [h1']
  by_cases h2 : k.data.length < 28
  · have e1 : ccode k = 2 := by unfold ccode; rw [if_neg h1, if_pos h2]
    have e3 := chead_bad e1 (by decide)
    go_wp2_with fail
    go_ret2
    exact ⟨by first | rfl | (rw [e1, e3]; rfl), hg⟩
  obtain ⟨b, off, rfl, hb, hcell⟩ := hd.at_ (by omega)
  have c0 : w2.cell? ⟨b, off, none⟩ = some (.int .u8 (byt k.data 0 : Int)) := by
    have := hcell 0 (by omega)
    rw [byt_at] at this
    exact (hg.cell (p := ⟨b, off, none⟩) hb).trans this
  have l0 := byt_lt k.data 0
  have i0 : (0 : Int) < (k.data.length : Int) := by omega
  by_cases h3 : byt k.data 0 < 69 ∨ 79 < byt k.data 0
  · have e1 : ccode k = 3 := by unfold ccode; rw [if_neg h1, if_neg h2, if_pos h3]
    have e3 := chead_bad e1 (by decide)
    generalize byt k.data 0 = x0 at *
    rcases h3 with h3 | h3
    · go_wp2_with fail
      go_ret2
      exact ⟨by first | rfl | (rw [e1, e3]; rfl), hg⟩
    · go_wp2_with fail
      go_ret2
      exact ⟨by first | rfl | (rw [e1, e3]; rfl), hg⟩
  have eh : ((hdr k.data : Nat) : Int) = 4 * ((byt k.data 0 : Int) - 64) := by unfold hdr; omega
  by_cases h4 : k.data.length < hdr k.data + 8
  · have e1 : ccode k = 2 := by unfold ccode; rw [if_neg h1, if_neg h2, if_neg h3, if_pos h4]
    have e3 := chead_bad e1 (by decide)
    have h4' : (k.data.length : Int) < 4 * ((byt k.data 0 : Int) - 64) + 8 := by omega
    clear h4
    generalize byt k.data 0 = x0 at *
    go_wp2_with fail
    go_ret2
    exact ⟨by first | rfl | (rw [e1, e3]; rfl), hg⟩
  · have e1 : ccode k = 0 := by unfold ccode; rw [if_neg h1, if_neg h2, if_neg h3, if_neg h4]
    have e2 : chead k = hdr k.data := by unfold chead; rw [if_pos e1]
    have e3 : ((chead k : Nat) : Int) = _ := (congrArg (fun n : Nat => (n : Int)) e2).trans eh
    have h4' : ¬ (k.data.length : Int) < 4 * ((byt k.data 0 : Int) - 64) + 8 := by omega
    clear h4
    generalize byt k.data 0 = x0 at *
    go_wp2_with fail
    go_ret2
    exact ⟨by first | rfl | (rw [e1, e3]; rfl), hg⟩
end Go.Proofs.Ytbnnacohkemnhaa
