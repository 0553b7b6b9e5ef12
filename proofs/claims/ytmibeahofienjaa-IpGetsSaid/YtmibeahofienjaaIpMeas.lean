/- The header measured. -/
import Derived.Test.YtmibeahofienjaaIpRead
namespace Go.Proofs.Ytmibeahofienjaa
set_option linter.unusedVariables false
set_option linter.unusedSimpArgs false
open Go.ChangeShapes Go.WideShapes Go.ChangeAt Go.RowKit

def mhead (l : List UInt8) : Nat := if mcode l = 0 then hdr l else 0
def mall (l : List UInt8) : Nat := if mcode l = 0 then num l 2 else 0
theorem meas_bad {l : List UInt8} {e : Int} (h : mcode l = e) (he : e ≠ 0) : Ending.returned (.tuple #[.int .i64 0, .int .i64 0, .int .i64 e]) = .returned (.tuple #[.int .i64 (mhead l : Nat), .int .i64 (mall l : Nat), .int .i64 (mcode l)]) := by
  unfold mhead mall
  rw [if_neg (by omega), if_neg (by omega), h]
  rfl

set_option maxHeartbeats 2000000 in
theorem measure_any (v : Value) (l : List UInt8) (w : World) (h : Byt w v l) (hl : l.length ≤ 1000000) :
    Calls Try.prog 28 #[v] w fun e w' => e = .returned (.tuple #[.int .i64 (mhead l : Nat), .int .i64 (mall l : Nat), .int .i64 (mcode l)]) ∧ Grow w w' := by
  obtain ⟨A, c, rfl, hc, hcm⟩ := h.form
  by_cases h1 : l.length < 20
  · have e1 : mcode l = 2 := by unfold mcode; rw [if_pos h1]
    rw [← meas_bad e1 (by decide)]
    go_enter Try.func28, Try.ntmps28
    go_wp2_with fail
    go_ret3
    exact ⟨rfl, Grow.refl w⟩
  obtain ⟨b, off, rfl, hb, hcell⟩ := h.at_ (by omega)
  have l0 := byt_lt l 0
  have c0 : w.cell? ⟨b, off, none⟩ = some (.int .u8 (byt l 0 : Int)) := by rw [← byt_at (show 0 < l.length by omega)]; exact hcell 0 (by omega)
  by_cases h2 : byt l 0 < 69 ∨ 79 < byt l 0
  · have e1 : mcode l = 3 := by unfold mcode; rw [if_neg h1, if_pos h2]
    rw [← meas_bad e1 (by decide)]
    generalize byt l 0 = x0 at *
    rcases h2 with h2 | h2
    · go_enter Try.func28, Try.ntmps28
      go_wp2_with fail
      go_ret3
      exact ⟨rfl, Grow.refl w⟩
    · go_enter Try.func28, Try.ntmps28
      go_wp2_with fail
      go_ret3
      exact ⟨rfl, Grow.refl w⟩
  obtain ⟨n0, hn0⟩ : ∃ n0, byt l 0 = n0 + 64 := ⟨byt l 0 - 64, by omega⟩
  have eh : hdr l = 4 * n0 := by unfold hdr; omega
  rw [hn0] at c0
  have c0' : w.cell? ⟨b, off, none⟩ = some (.int .u8 ((n0 : Int) + 64)) := by rw [c0]; rfl
  clear c0
  by_cases h3 : l.length < 4 * n0
  · have e1 : mcode l = 2 := by unfold mcode; rw [if_neg h1, if_neg h2, eh, if_pos h3]
    rw [← meas_bad e1 (by decide)]
    go_enter Try.func28, Try.ntmps28
    go_wp2_with fail
    go_ret3
    exact ⟨rfl, Grow.refl w⟩
  have hbf := h.front (show 4 * n0 ≤ l.length by omega)
  have hbl : (l.take (4 * n0)).length ≤ 281474976710656 := by simp; omega
  by_cases h4 : ones (l.take (4 * n0)) ≠ 65535
  · have e1 : mcode l = 4 := by unfold mcode; rw [if_neg h1, if_neg h2, eh, if_neg h3, if_pos h4]
    rw [← meas_bad e1 (by decide)]
    have h4' : ((ones (l.take (4 * n0)) : Int) == 65535) = false := by simp; omega
    go_enter Try.func28, Try.ntmps28
    go_wp2_with fail
    refine (Right_any _ _ _ hbf hbl).mono ?_
    rw [h4']
    rintro e w1 ⟨rfl, hg1⟩
    go_wp2_with fail
    go_ret3
    exact ⟨rfl, hg1⟩
  have h4' : ((ones (l.take (4 * n0)) : Int) == 65535) = true := by simp; omega
  have l2 := num_lt l 2
  have l6 := num_lt l 6
  have l7 := byt_lt l 7
  have l8 := byt_lt l 6
  have K : bits .and .i64 (num l 6 : Int) 32768 = ((num l 6 / 32768 % 2 * 32768 : Nat) : Int) := and_pow _ 15 l6 (by omega)
  by_cases h5 : num l 2 < 4 * n0
  · clear K
    have e1 : mcode l = 3 := by unfold mcode; rw [if_neg h1, if_neg h2, eh, if_neg h3, if_neg h4, if_pos (.inl h5)]
    rw [← meas_bad e1 (by decide)]
    go_enter Try.func28, Try.ntmps28
    go_wp2_with fail
    refine (Right_any _ _ _ hbf hbl).mono ?_
    rw [h4']
    rintro e w1 ⟨rfl, hg1⟩
    go_wp2_with fail
    refine (get16_any _ 2 _ _ (h.grow hg1) (by omega) (by omega)).mono ?_
    rintro e w' ⟨rfl, rfl⟩
    go_wp2_with fail
    go_ret3
    exact ⟨rfl, hg1⟩
  by_cases h6 : 128 ≤ byt l 6
  · have e1 : mcode l = 3 := by unfold mcode; rw [if_neg h1, if_neg h2, eh, if_neg h3, if_neg h4, if_pos (.inr h6)]
    rw [← meas_bad e1 (by decide)]
    have K6 : bits .and .i64 (num l 6 : Int) 32768 = 32768 := by
      have e6 : num l 6 = 256 * byt l 6 + byt l 7 := rfl
      rw [K, show num l 6 / 32768 % 2 * 32768 = 32768 by omega]
      rfl
    clear K
    go_enter Try.func28, Try.ntmps28
    go_wp2_with fail
    refine (Right_any _ _ _ hbf hbl).mono ?_
    rw [h4']
    rintro e w1 ⟨rfl, hg1⟩
    go_wp2_with fail
    refine (get16_any _ 2 _ _ (h.grow hg1) (by omega) (by omega)).mono ?_
    rintro e w' ⟨rfl, rfl⟩
    go_wp2_with fail
    refine (get16_any _ 6 _ _ (h.grow hg1) (by omega) (by omega)).mono ?_
    rintro e w' ⟨rfl, rfl⟩
    go_wp2_with fail
    go_ret3
    exact ⟨rfl, hg1⟩
  have K6 : bits .and .i64 (num l 6 : Int) 32768 = 0 := by
    have e6 : num l 6 = 256 * byt l 6 + byt l 7 := rfl
    rw [K, show num l 6 / 32768 % 2 * 32768 = 0 by omega]
    rfl
  clear K
  by_cases h7 : l.length < num l 2
  · have e1 : mcode l = 2 := by unfold mcode; rw [if_neg h1, if_neg h2, eh, if_neg h3, if_neg h4, if_neg (by omega), if_pos h7]
    rw [← meas_bad e1 (by decide)]
    go_enter Try.func28, Try.ntmps28
    go_wp2_with fail
    refine (Right_any _ _ _ hbf hbl).mono ?_
    rw [h4']
    rintro e w1 ⟨rfl, hg1⟩
    go_wp2_with fail
    refine (get16_any _ 2 _ _ (h.grow hg1) (by omega) (by omega)).mono ?_
    rintro e w' ⟨rfl, rfl⟩
    go_wp2_with fail
    refine (get16_any _ 6 _ _ (h.grow hg1) (by omega) (by omega)).mono ?_
    rintro e w' ⟨rfl, rfl⟩
    go_wp2_with fail
    go_ret3
    exact ⟨rfl, hg1⟩
  have e1 : mcode l = 0 := by unfold mcode; rw [if_neg h1, if_neg h2, eh, if_neg h3, if_neg h4, if_neg (by omega), if_neg h7]
  have e3 : mhead l = 4 * n0 := by unfold mhead; rw [if_pos e1, eh]
  have e4 : mall l = num l 2 := by unfold mall; rw [if_pos e1]
  rw [e1, e3, e4]
  go_enter Try.func28, Try.ntmps28
  go_wp2_with fail
  refine (Right_any _ _ _ hbf hbl).mono ?_
  rw [h4']
  rintro e w1 ⟨rfl, hg1⟩
  go_wp2_with fail
  refine (get16_any _ 2 _ _ (h.grow hg1) (by omega) (by omega)).mono ?_
  rintro e w' ⟨rfl, rfl⟩
  go_wp2_with fail
  refine (get16_any _ 6 _ _ (h.grow hg1) (by omega) (by omega)).mono ?_
  rintro e w' ⟨rfl, rfl⟩
  go_wp2_with fail
  go_ret3
  exact ⟨by simp, hg1⟩
end Go.Proofs.Ytmibeahofienjaa
