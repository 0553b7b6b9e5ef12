/- Segments: the contracts of the small functions. -/
import Derived.Test.YtbhdpobmooncpaaSegNum
import Derived.Test.YtbhdpobmooncpaaIpRead
import Derived.Test.YtbhdpobmooncpaaIpGet
import Derived.Lib.Hide
import Derived.Deep.DeepCutAuto
namespace Go.Proofs.Ytbhdpobmooncpaa
set_option linter.unusedVariables false
set_option linter.unusedSimpArgs false
open Go.ChangeShapes Go.WideShapes Go.ChangeAt Go.RowKit

theorem segCode_any (n : Int) (w : World) (h1 : -9223372036854775808 ≤ n) (h2 : n ≤ 9223372036854775807) :
    Calls Try.prog 11 #[.int .i64 n] w fun e w' => e = .returned (.int .i64 n) ∧ w = w' := by
  go_enter Try.func11, Try.ntmps11
  go_wp2_with fail
  go_ret
  exact ⟨rfl, rfl⟩

theorem and8_2 : ∀ f : Fin 256, bits .and .u8 ((f.val : Nat) : Int) 2 = ((f.val / 2 % 2 * 2 : Nat) : Int) := by decide +kernel
theorem and8_1 : ∀ f : Fin 256, bits .and .u8 ((f.val : Nat) : Int) 1 = ((f.val % 2 : Nat) : Int) := by decide +kernel
theorem and8_63 : ∀ f : Fin 256, bits .and .u8 ((f.val : Nat) : Int) 63 = ((f.val % 64 : Nat) : Int) := by decide +kernel

set_option maxHeartbeats 1000000 in
theorem sCheck_any (v : Value) (k : Sgm) (w : World) (h : isSgm w v k) :
    Calls Try.prog 12 #[v] w fun e w' => e = .returned (.int .i64 k.check) ∧ Grow w w' := by
  obtain ⟨A, c, rfl, hd, hk⟩ := h.form
  obtain ⟨hcl0, hcm0⟩ := hd.len.2
  unfold maxLen at hcm0
  clear h hd
  by_cases q1 : 63 < k.flags
  · have e1 : k.check = 1 := by unfold Sgm.check; rw [if_pos (by omega)]
    have d1 : decide (63 < (k.flags : Int)) = true := decide_eq_true (by omega)
    rw [e1]
    clear e1
    go_enter Try.func12, Try.ntmps12
    go_wp2_with fail
    go_ret
    exact ⟨rfl, Grow.alloc _ _⟩
  have d1 : decide (63 < (k.flags : Int)) = false := decide_eq_false (by omega)
  by_cases q2 : k.mss < 0
  · have e1 : k.check = 1 := by unfold Sgm.check; rw [if_pos (by omega)]
    have d2 : decide (k.mss < 0) = true := decide_eq_true (by omega)
    rw [e1]
    clear e1
    go_enter Try.func12, Try.ntmps12
    go_wp2_with fail
    go_ret
    exact ⟨rfl, Grow.alloc _ _⟩
  have d2 : decide (k.mss < 0) = false := decide_eq_false (by omega)
  by_cases q3 : 65535 < k.mss
  · have e1 : k.check = 1 := by unfold Sgm.check; rw [if_pos (by omega)]
    have d3 : decide (65535 < k.mss) = true := decide_eq_true (by omega)
    rw [e1]
    clear e1
    go_enter Try.func12, Try.ntmps12
    go_wp2_with fail
    go_ret
    exact ⟨rfl, Grow.alloc _ _⟩
  have d3 : decide (65535 < k.mss) = false := decide_eq_false (by omega)
  by_cases q4 : k.scale < 0
  · have e1 : k.check = 1 := by unfold Sgm.check; rw [if_pos (by omega)]
    have d4 : decide (k.scale < 0) = true := decide_eq_true (by omega)
    rw [e1]
    clear e1
    go_enter Try.func12, Try.ntmps12
    go_wp2_with fail
    go_ret
    exact ⟨rfl, Grow.alloc _ _⟩
  have d4 : decide (k.scale < 0) = false := decide_eq_false (by omega)
  by_cases q5 : 15 < k.scale
  · have e1 : k.check = 1 := by unfold Sgm.check; rw [if_pos (by omega)]
    have d5 : decide (15 < k.scale) = true := decide_eq_true (by omega)
    rw [e1]
    clear e1
    go_enter Try.func12, Try.ntmps12
    go_wp2_with fail
    go_ret
    exact ⟨rfl, Grow.alloc _ _⟩
  have d5 : decide (15 < k.scale) = false := decide_eq_false (by omega)
  by_cases q6 : 65455 < k.data.length
  · have e1 : k.check = 9 := by unfold Sgm.check; rw [if_neg (by omega), if_pos q6]
    have d6 : decide (65455 < (k.data.length : Int)) = true := decide_eq_true (by omega)
    rw [e1]
    clear e1
    go_enter Try.func12, Try.ntmps12
    go_wp2_with fail
    go_ret
    exact ⟨rfl, Grow.alloc _ _⟩
  · have e1 : k.check = 0 := by unfold Sgm.check; rw [if_neg (by omega), if_neg q6]
    have d6 : decide (65455 < (k.data.length : Int)) = false := decide_eq_false (by omega)
    rw [e1]
    clear e1
    go_enter Try.func12, Try.ntmps12
    go_wp2_with fail
    go_ret
    exact ⟨rfl, Grow.alloc _ _⟩

set_option maxHeartbeats 1000000 in
theorem RCheck9_any (v : Value) (k : Sgm) (w : World) (h : isSgm w v k) :
    Calls Try.prog 10 #[v] w fun e w' => e = .returned (.int .i64 k.check) ∧ Grow w w' := by
  obtain ⟨A, c, rfl, hd, hk⟩ := h.form
  obtain ⟨hcl0, hcm0⟩ := hd.len.2
  unfold maxLen at hcm0
  clear h hd
  by_cases q1 : 63 < k.flags
  · have e1 : k.check = 1 := by unfold Sgm.check; rw [if_pos (by omega)]
    have d1 : decide (63 < (k.flags : Int)) = true := decide_eq_true (by omega)
    rw [e1]
    clear e1
    go_enter Try.func10, Try.ntmps10
    go_wp2_with fail
    go_ret
    exact ⟨rfl, Grow.alloc _ _⟩
  have d1 : decide (63 < (k.flags : Int)) = false := decide_eq_false (by omega)
  by_cases q2 : k.mss < 0
  · have e1 : k.check = 1 := by unfold Sgm.check; rw [if_pos (by omega)]
    have d2 : decide (k.mss < 0) = true := decide_eq_true (by omega)
    rw [e1]
    clear e1
    go_enter Try.func10, Try.ntmps10
    go_wp2_with fail
    go_ret
    exact ⟨rfl, Grow.alloc _ _⟩
  have d2 : decide (k.mss < 0) = false := decide_eq_false (by omega)
  by_cases q3 : 65535 < k.mss
  · have e1 : k.check = 1 := by unfold Sgm.check; rw [if_pos (by omega)]
    have d3 : decide (65535 < k.mss) = true := decide_eq_true (by omega)
    rw [e1]
    clear e1
    go_enter Try.func10, Try.ntmps10
    go_wp2_with fail
    go_ret
    exact ⟨rfl, Grow.alloc _ _⟩
  have d3 : decide (65535 < k.mss) = false := decide_eq_false (by omega)
  by_cases q4 : k.scale < 0
  · have e1 : k.check = 1 := by unfold Sgm.check; rw [if_pos (by omega)]
    have d4 : decide (k.scale < 0) = true := decide_eq_true (by omega)
    rw [e1]
    clear e1
    go_enter Try.func10, Try.ntmps10
    go_wp2_with fail
    go_ret
    exact ⟨rfl, Grow.alloc _ _⟩
  have d4 : decide (k.scale < 0) = false := decide_eq_false (by omega)
  by_cases q5 : 15 < k.scale
  · have e1 : k.check = 1 := by unfold Sgm.check; rw [if_pos (by omega)]
    have d5 : decide (15 < k.scale) = true := decide_eq_true (by omega)
    rw [e1]
    clear e1
    go_enter Try.func10, Try.ntmps10
    go_wp2_with fail
    go_ret
    exact ⟨rfl, Grow.alloc _ _⟩
  have d5 : decide (15 < k.scale) = false := decide_eq_false (by omega)
  by_cases q6 : 65455 < k.data.length
  · have e1 : k.check = 9 := by unfold Sgm.check; rw [if_neg (by omega), if_pos q6]
    have d6 : decide (65455 < (k.data.length : Int)) = true := decide_eq_true (by omega)
    rw [e1]
    clear e1
    go_enter Try.func10, Try.ntmps10
    go_wp2_with fail
    go_ret
    exact ⟨rfl, Grow.alloc _ _⟩
  · have e1 : k.check = 0 := by unfold Sgm.check; rw [if_neg (by omega), if_neg q6]
    have d6 : decide (65455 < (k.data.length : Int)) = false := decide_eq_false (by omega)
    rw [e1]
    clear e1
    go_enter Try.func10, Try.ntmps10
    go_wp2_with fail
    go_ret
    exact ⟨rfl, Grow.alloc _ _⟩

set_option maxHeartbeats 1000000 in
theorem sLen_any (v : Value) (k : Sgm) (w : World) (h : isSgm w v k) (hl : k.data.length ≤ 1000000) :
    Calls Try.prog 13 #[v] w fun e w' => e = .returned (.int .i64 k.len) ∧ Grow w w' := by
  obtain ⟨A, c, rfl, hd, hk⟩ := h.form
  have hfl := hk.flags
  have K1 := and8_1 ⟨k.flags, hfl⟩
  have K2 := and8_2 ⟨k.flags, hfl⟩
  simp only at K1 K2
  have el : k.len = (k.data.length : Int) + ((k.flags % 2 : Nat) : Int) + ((k.flags / 2 % 2 : Nat) : Int) := rfl
  rw [el]
  clear h hd el
  rcases Nat.mod_two_eq_zero_or_one k.flags with h1 | h1 <;> rcases Nat.mod_two_eq_zero_or_one (k.flags / 2) with h2 | h2 <;> rw [h1] at K1 ⊢ <;> rw [h2] at K2 ⊢ <;> clear h1 h2 hfl hk
  · go_enter Try.func13, Try.ntmps13
    go_wp2_with fail
    go_ret
    exact ⟨ret_int (by omega), Grow.alloc _ _⟩
  · go_enter Try.func13, Try.ntmps13
    go_wp2_with fail
    go_ret
    exact ⟨ret_int (by omega), Grow.alloc _ _⟩
  · go_enter Try.func13, Try.ntmps13
    go_wp2_with fail
    go_ret
    exact ⟨ret_int (by omega), Grow.alloc _ _⟩
  · go_enter Try.func13, Try.ntmps13
    go_wp2_with fail
    go_ret
    exact ⟨ret_int (by omega), Grow.alloc _ _⟩

set_option maxHeartbeats 1000000 in
theorem RLen9_any (v : Value) (k : Sgm) (w : World) (h : isSgm w v k) (hl : k.data.length ≤ 1000000) :
    Calls Try.prog 14 #[v] w fun e w' => e = .returned (.int .i64 k.len) ∧ Grow w w' := by
  obtain ⟨A, c, rfl, hd, hk⟩ := h.form
  have hfl := hk.flags
  have el : k.len = (k.data.length : Int) + ((k.flags % 2 : Nat) : Int) + ((k.flags / 2 % 2 : Nat) : Int) := rfl
  rw [el]
  clear h hd el
  go_enter Try.func14, Try.ntmps14
  go_wp2_with fail
  go_ret
  exact ⟨ret_int (by omega), Grow.alloc _ _⟩

set_option maxHeartbeats 400000 in
theorem sget16_any (v : Value) (k : Nat) (l : List UInt8) (w : World) (h : Byt w v l) (hk : k + 2 ≤ l.length) (hs : k ≤ 1000) :
    Calls Try.prog 29 #[v, .int .i64 (k : Int)] w fun e w' => e = .returned (.int .i64 (num l k : Nat)) ∧ w = w' := by
  have h1 := num_lt l k
  have e1 : numAt l (k : Int) 2 = (((num l k : Nat) : Int), 0) := by rw [numAt_ok hk, numOf_2 hk]
  go_enter Try.func29, Try.ntmps29
  go_wp2_with fail
  refine (Get16_any _ _ _ _ h (by omega) (by omega)).mono ?_
  rw [e1]
  rintro e w' ⟨rfl, rfl⟩
  go_wp2_with fail
  go_ret
  exact ⟨rfl, rfl⟩

set_option maxHeartbeats 400000 in
theorem sget32_any (v : Value) (k : Nat) (l : List UInt8) (w : World) (h : Byt w v l) (hk : k + 4 ≤ l.length) (hs : k ≤ 1000) :
    Calls Try.prog 30 #[v, .int .i64 (k : Int)] w fun e w' => e = .returned (.int .u32 (65536 * num l k + num l (k + 2) : Nat)) ∧ w = w' := by
  have h1 := num_lt l k
  have h2 := num_lt l (k + 2)
  have e1 : numAt l (k : Int) 4 = (((65536 * num l k + num l (k + 2) : Nat) : Int), 0) := by rw [numAt_ok hk, numOf_4 hk]
  generalize 65536 * num l k + num l (k + 2) = n at *
  go_enter Try.func30, Try.ntmps30
  go_wp2_with fail
  refine (Get32_any _ _ _ _ h (by omega) (by omega)).mono ?_
  rw [e1]
  rintro e w' ⟨rfl, rfl⟩
  go_wp2_with fail
  go_ret
  exact ⟨rfl, rfl⟩

/-- The header's bytes, or none. -/
def stop (l : List UInt8) : Nat := if smcode l = 0 then shead l else 0
theorem stop_bad {l : List UInt8} {n : Int} (h : smcode l = n) (h0 : n ≠ 0) : stop l = 0 := by unfold stop; rw [h, if_neg h0]
theorem stop_good {l : List UInt8} (h : smcode l = 0) : stop l = shead l := by unfold stop; rw [h, if_pos rfl]

set_option maxHeartbeats 1000000 in
theorem smeasure_any (v : Value) (l : List UInt8) (w : World) (h : Byt w v l) (hl : l.length ≤ 1000000) :
    Calls Try.prog 28 #[v] w fun e w' => e = .returned (.tuple #[.int .i64 (stop l : Nat), .int .i64 (smcode l)]) ∧ w = w' := by
  obtain ⟨A, c, rfl, hcl, hcm⟩ := h.form
  by_cases h1 : l.length < 20
  · have e1 : smcode l = 2 := by unfold smcode; rw [if_pos h1]
    have e3 := stop_bad e1 (by decide)
    rw [e1, e3]
    clear e1 e3
    go_enter Try.func28, Try.ntmps28
    go_wp2_with fail
    go_ret2
    exact ⟨rfl, rfl⟩
  obtain ⟨b, off, rfl, hb, hcell⟩ := h.at_ (by omega)
  have c12 : w.cell? ⟨b, off + 12, none⟩ = some (.int .u8 (byt l 12 : Int)) := by rw [← byt_at (show 12 < l.length by omega)]; exact hcell 12 (by omega)
  have y12 := byt_lt l 12
  have i12 : (12 : Int) < (l.length : Int) := by omega
  have es : shead l = 4 * (byt l 12 / 16) := rfl
  obtain ⟨y, hy⟩ : ∃ y, y = byt l 12 := ⟨_, rfl⟩
  rw [← hy] at c12 y12 es
  clear hy hcell
  obtain ⟨q, hq⟩ : ∃ q, q = y / 16 := ⟨_, rfl⟩
  rw [← hq] at es
  have hq16 : q < 16 := by omega
  have Q1 : (y : Int) / 16 = (q : Int) := by omega
  have Q2 : (y : Int).tdiv 16 = (q : Int) := by rw [Int.tdiv_eq_ediv_of_nonneg (by omega)]; exact Q1
  clear hq
  by_cases h2 : 4 * q < 20
  · have e1 : smcode l = 3 := by unfold smcode; rw [if_neg h1, es, if_pos h2]
    have e3 := stop_bad e1 (by decide)
    rw [e1, e3]
    clear e1 e3 es
    go_enter Try.func28, Try.ntmps28
    go_wp2_with fail
    go_ret2
    exact ⟨rfl, rfl⟩
  by_cases h3 : l.length < 4 * q
  · have e1 : smcode l = 2 := by unfold smcode; rw [if_neg h1, es, if_neg h2, if_pos h3]
    have e3 := stop_bad e1 (by decide)
    rw [e1, e3]
    clear e1 e3 es
    go_enter Try.func28, Try.ntmps28
    go_wp2_with fail
    go_ret2
    exact ⟨rfl, rfl⟩
  · have e1 : smcode l = 0 := by unfold smcode; rw [if_neg h1, es, if_neg h2, if_neg h3]
    have e3 := stop_good e1
    rw [e1, e3, es]
    clear e1 e3 es
    go_enter Try.func28, Try.ntmps28
    go_wp2_with fail
    go_ret2
    exact ⟨rfl, rfl⟩

/-- Does this kind of option have this size? -/
def fitsB (a n : Nat) : Bool := if a = 2 then decide (n = 4) else if a = 3 then decide (n = 3) else true
set_option maxHeartbeats 1000000 in
theorem fits_any (a n : Nat) (w : World) (ha : a < 256) (hn : n < 256) :
    Calls Try.prog 47 #[.int .u8 (a : Int), .int .i64 (n : Int)] w fun e w' => e = .returned (.bool (fitsB a n)) ∧ w = w' := by
  unfold fitsB
  by_cases h2 : a = 2
  · rw [if_pos h2]
    subst h2
    by_cases h4 : n = 4
    · rw [decide_eq_true h4]
      subst h4
      go_enter Try.func47, Try.ntmps47
      go_wp2_with fail
      go_ret
      exact ⟨rfl, rfl⟩
    · rw [decide_eq_false h4]
      have b4 : ((n : Int) == 4) = false := beq_eq_false_iff_ne.2 (by omega)
      go_enter Try.func47, Try.ntmps47
      go_wp2_with fail
      go_ret
      exact ⟨rfl, rfl⟩
  rw [if_neg h2]
  have b2 : ((a : Int) == 2) = false := beq_eq_false_iff_ne.2 (by omega)
  by_cases h3 : a = 3
  · rw [if_pos h3]
    subst h3
    by_cases h4 : n = 3
    · rw [decide_eq_true h4]
      subst h4
      go_enter Try.func47, Try.ntmps47
      go_wp2_with fail
      go_ret
      exact ⟨rfl, rfl⟩
    · rw [decide_eq_false h4]
      have b4 : ((n : Int) == 3) = false := beq_eq_false_iff_ne.2 (by omega)
      clear b2 h2
      go_enter Try.func47, Try.ntmps47
      go_wp2_with fail
      go_ret
      exact ⟨rfl, rfl⟩
  rw [if_neg h3]
  have b3 : ((a : Int) == 3) = false := beq_eq_false_iff_ne.2 (by omega)
  go_enter Try.func47, Try.ntmps47
  go_wp2_with fail
  go_ret
  exact ⟨rfl, rfl⟩
theorem osize_fits (l : List UInt8) : osize l = if l.length < 2 ∨ byt l 1 < 2 ∨ l.length < byt l 1 ∨ fitsB (byt l 0) (byt l 1) = false then 0 else byt l 1 := by
  unfold osize fitsB
  by_cases h2 : byt l 0 = 2
  · by_cases h4 : byt l 1 = 4 <;> simp [h2, h4]
  · by_cases h3 : byt l 0 = 3
    · by_cases h4 : byt l 1 = 3 <;> simp [h3, h4]
    · simp [h2, h3]

set_option maxHeartbeats 1000000 in
theorem option_any (v : Value) (l : List UInt8) (w : World) (h : Byt w v l) (hl : l.length ≤ 1000000) :
    Calls Try.prog 36 #[v] w fun e w' => e = .returned (.int .i64 (osize l : Nat)) ∧ w = w' := by
  obtain ⟨A, c, rfl, hcl, hcm⟩ := h.form
  rw [osize_fits]
  by_cases h1 : l.length < 2
  · rw [if_pos (.inl h1)]
    go_enter Try.func36, Try.ntmps36
    go_wp2_with fail
    go_ret
    exact ⟨rfl, rfl⟩
  obtain ⟨b, off, rfl, hb, hcell⟩ := h.at_ (by omega)
  have c0 : w.cell? ⟨b, off, none⟩ = some (.int .u8 (byt l 0 : Int)) := by rw [← byt_at (show 0 < l.length by omega)]; exact hcell 0 (by omega)
  have c1 : w.cell? ⟨b, off + 1, none⟩ = some (.int .u8 (byt l 1 : Int)) := by rw [← byt_at (show 1 < l.length by omega)]; exact hcell 1 (by omega)
  have y0 := byt_lt l 0
  have y1 := byt_lt l 1
  have i0 : 0 < l.length := by omega
  have i1 : (1 : Int) < (l.length : Int) := by omega
  generalize byt l 0 = x at *
  generalize byt l 1 = n at *
  clear hcell
  by_cases h2 : n < 2
  · rw [if_pos (by omega)]
    have d2 : decide ((n : Int) < 2) = true := decide_eq_true (by omega)
    go_enter Try.func36, Try.ntmps36
    go_wp2_with fail
    go_ret
    exact ⟨rfl, rfl⟩
  have d2 : decide ((n : Int) < 2) = false := decide_eq_false (by omega)
  by_cases h3 : l.length < n
  · rw [if_pos (by omega)]
    have d3 : decide ((l.length : Int) < (n : Int)) = true := decide_eq_true (by omega)
    go_enter Try.func36, Try.ntmps36
    go_wp2_with fail
    go_ret
    exact ⟨rfl, rfl⟩
  have d3 : decide ((l.length : Int) < (n : Int)) = false := decide_eq_false (by omega)
  have F := fits_any x n w y0 y1
  cases h4 : fitsB x n
  · rw [if_pos (by simp)]
    rw [h4] at F
    clear h4
    go_enter Try.func36, Try.ntmps36
    go_wp2_with fail
    refine F.mono ?_
    rintro e w' ⟨rfl, rfl⟩
    go_wp2_with fail
    go_ret
    exact ⟨rfl, rfl⟩
  · rw [if_neg (by simp; omega)]
    rw [h4] at F
    clear h4
    go_enter Try.func36, Try.ntmps36
    go_wp2_with fail
    refine F.mono ?_
    rintro e w' ⟨rfl, rfl⟩
    go_wp2_with fail
    go_ret
    exact ⟨rfl, rfl⟩

/-- What an option of kind 2 says, and one of kind 3. -/
def mssL (l : List UInt8) : Nat := if l.length = 0 then 0 else num l 2
def scaleL (l : List UInt8) : Nat := if l.length = 0 then 0 else capS (byt l 2)
set_option maxHeartbeats 400000 in
theorem mssOf_any (v : Value) (l : List UInt8) (w : World) (h : Byt w v l) (hl : l.length = 0 ∨ 4 ≤ l.length) :
    Calls Try.prog 37 #[v] w fun e w' => e = .returned (.int .i64 (mssL l : Nat)) ∧ w = w' := by
  obtain ⟨A, c, rfl, hcl, hcm⟩ := h.form
  have hn := num_lt l 2
  unfold mssL
  rcases hl with hl | hl
  · rw [if_pos hl]
    rw [hl] at *
    go_enter Try.func37, Try.ntmps37
    go_wp2_with fail
    go_ret
    exact ⟨rfl, rfl⟩
  · rw [if_neg (by omega)]
    have b0 : ((l.length : Int) == 0) = false := beq_eq_false_iff_ne.2 (by omega)
    go_enter Try.func37, Try.ntmps37
    go_wp2_with fail
    refine (sget16_any _ 2 l _ h (by omega) (by omega)).mono ?_
    rintro e w' ⟨rfl, rfl⟩
    go_wp2_with fail
    go_ret
    exact ⟨rfl, rfl⟩
set_option maxHeartbeats 400000 in
theorem scaleOf_any (v : Value) (l : List UInt8) (w : World) (h : Byt w v l) (hl : l.length = 0 ∨ 3 ≤ l.length) :
    Calls Try.prog 38 #[v] w fun e w' => e = .returned (.int .i64 (scaleL l : Nat)) ∧ w = w' := by
  obtain ⟨A, c, rfl, hcl, hcm⟩ := h.form
  unfold scaleL
  rcases hl with hl | hl
  · rw [if_pos hl]
    rw [hl] at *
    go_enter Try.func38, Try.ntmps38
    go_wp2_with fail
    go_ret
    exact ⟨rfl, rfl⟩
  · rw [if_neg (by omega)]
    have b0 : ((l.length : Int) == 0) = false := beq_eq_false_iff_ne.2 (by omega)
    obtain ⟨b, off, rfl, hb, hcell⟩ := h.at_ (by omega)
    have c2 : w.cell? ⟨b, off + 2, none⟩ = some (.int .u8 (byt l 2 : Int)) := by rw [← byt_at (show 2 < l.length by omega)]; exact hcell 2 (by omega)
    have y2 := byt_lt l 2
    have i2 : (2 : Int) < (l.length : Int) := by omega
    unfold capS
    generalize byt l 2 = y at *
    by_cases h14 : 14 < y
    · rw [if_pos h14]
      have m1 : min (y : Int) 14 = 14 := by omega
      go_enter Try.func38, Try.ntmps38
      go_wp2_with fail
      go_ret
      exact ⟨ret_int (by omega), rfl⟩
    · rw [if_neg h14]
      have m1 : min (y : Int) 14 = (y : Int) := by omega
      go_enter Try.func38, Try.ntmps38
      go_wp2_with fail
      go_ret
      exact ⟨ret_int (by omega), rfl⟩
end Go.Proofs.Ytbhdpobmooncpaa
