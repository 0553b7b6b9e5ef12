/- The sum with the carry brought round, in numbers: a list of bytes as words, their sum, and what it is modulo 65535. -/
import Derived.Test.YtkofmbnolaiecaaNum
namespace Go.Proofs.Ytkofmbnolaiecaa

/-- The lowest 16 bits. -/
def low (n : Int) : Nat := (n % 65536).toNat
theorem low_lt (n : Int) : low n < 65536 := by unfold low; omega
theorem low_eq (n : Int) : (low n : Int) = n % 65536 := by unfold low; omega
theorem low_nat {n : Nat} (h : n < 65536) : low (n : Int) = n := by unfold low; omega

/-- Added, the carry brought round. -/
def addc (a b : Nat) : Nat := if a + b > 65535 then a + b - 65535 else a + b
theorem addc_le {a b : Nat} (h : a < 65536) (k : b < 65536) : addc a b < 65536 := by unfold addc; split <;> omega

/-- What any sum of words comes to. -/
def ocs (t : Nat) : Nat := if t = 0 then 0 else (t - 1) % 65535 + 1
theorem ocs_le (t : Nat) : ocs t < 65536 := by unfold ocs; split <;> omega
theorem ocs_self {t : Nat} (h : t < 65536) : ocs t = t := by unfold ocs; split <;> omega
theorem ocs_add (t w : Nat) (h : w < 65536) : addc (ocs t) w = ocs (t + w) := by
  unfold addc ocs
  by_cases h0 : t = 0
  · subst h0
    rw [if_pos rfl]
    simp only [Nat.zero_add]
    by_cases hw : w = 0
    · subst hw; rfl
    · rw [if_neg hw, if_neg (by omega)]; omega
  · rw [if_neg h0, if_neg (show ¬ t + w = 0 by omega)]
    split <;> omega
/-- A word replaced by its complement to 65535 with the sum, all comes to 65535. -/
theorem ocs_right (t : Nat) : ocs (t + (65535 - ocs t)) = 65535 := by
  unfold ocs
  by_cases h0 : t = 0
  · subst h0; simp
  · rw [if_neg h0, if_neg (show ¬ t + (65535 - ((t - 1) % 65535 + 1)) = 0 by omega)]
    omega
theorem ocs_turn (t was now : Nat) (hw : was ≤ t) (h1 : was < 65536) (h2 : now < 65536) :
    65535 - addc (addc (ocs t) (65535 - was)) now = 65535 - ocs (t - was + now) ∨
      ((65535 - addc (addc (ocs t) (65535 - was)) now) + (65535 - ocs (t - was + now)) = 65535 ∧ (65535 - addc (addc (ocs t) (65535 - was)) now) * (65535 - ocs (t - was + now)) = 0) := by
  rw [ocs_add _ _ (by omega), ocs_add _ _ h2]
  have e : t + (65535 - was) + now = (t - was + now) + 65535 := by omega
  rw [e]
  generalize t - was + now = u
  by_cases h0 : u = 0
  · subst h0; exact .inr ⟨by decide, by decide⟩
  · refine .inl ?_
    have e2 : ocs (u + 65535) = ocs u := by
      unfold ocs
      rw [if_neg h0, if_neg (by omega)]
      omega
    rw [e2]

/-- A word of the list. -/
def wordAt (l : List UInt8) (k : Nat) : Nat := 256 * (l[2 * k]?.getD 0).toNat + (l[2 * k + 1]?.getD 0).toNat
theorem wordAt_lt (l : List UInt8) (k : Nat) : wordAt l k < 65536 := by
  unfold wordAt
  have := (l[2 * k]?.getD 0).toNat_lt
  have := (l[2 * k + 1]?.getD 0).toNat_lt
  omega
/-- How many words. -/
def nwords (l : List UInt8) : Nat := (l.length + 1) / 2
theorem wordAt_two (l : List UInt8) (k : Nat) (h : 2 * k + 1 < l.length) : wordAt l k = 256 * (l[2 * k]).toNat + (l[2 * k + 1]).toNat := by
  unfold wordAt
  rw [List.getElem?_eq_getElem (by omega), List.getElem?_eq_getElem h]; rfl
theorem wordAt_one (l : List UInt8) (k : Nat) (h : 2 * k < l.length) (h2 : ¬ 2 * k + 1 < l.length) : wordAt l k = 256 * (l[2 * k]).toNat := by
  unfold wordAt
  rw [List.getElem?_eq_getElem h, List.getElem?_eq_none (by omega)]; rfl

/-- The words that came when k rounds are over. -/
def wup (l : List UInt8) (k : Nat) : List Nat := (List.range k).map (wordAt l)
theorem wup_succ (l : List UInt8) (k : Nat) : wup l (k + 1) = wup l k ++ [wordAt l k] := by simp [wup, List.range_succ]
theorem wup_length (l : List UInt8) (k : Nat) : (wup l k).length = k := by simp [wup]
def sumc (ws : List Nat) : Nat := ws.foldl addc 0
theorem sumc_snoc (ws : List Nat) (x : Nat) : sumc (ws ++ [x]) = addc (sumc ws) x := by simp [sumc]
theorem sumc_ocs : ∀ ws : List Nat, (∀ x ∈ ws, x < 65536) → sumc ws = ocs ws.sum := by
  intro ws
  suffices ∀ (ws : List Nat) (t : Nat), (∀ x ∈ ws, x < 65536) → ws.foldl addc (ocs t) = ocs (t + ws.sum) by
    intro h; have := this ws 0 h; simpa [sumc, ocs] using this
  intro ws
  induction ws with
  | nil => intro t _; simp
  | cons x r ih =>
    intro t h
    rw [List.foldl_cons, ocs_add _ _ (h x (by simp)), ih _ (fun y hy => h y (by simp [hy])), List.sum_cons, Nat.add_assoc]
theorem wup_lt (l : List UInt8) (k : Nat) : ∀ x ∈ wup l k, x < 65536 := by
  intro x hx
  simp only [wup, List.mem_map] at hx
  obtain ⟨j, _, rfl⟩ := hx
  exact wordAt_lt l j
theorem sumc_lt (l : List UInt8) (k : Nat) : sumc (wup l k) < 65536 := by rw [sumc_ocs _ (wup_lt l k)]; exact ocs_le _

/-- The number that bytes add up to. -/
def ones (l : List UInt8) : Nat := sumc (wup l (nwords l))
theorem ones_lt (l : List UInt8) : ones l < 65536 := sumc_lt _ _

/-- The words' plain sum. -/
def total : List UInt8 → Nat
  | [] => 0
  | [a] => 256 * a.toNat
  | a :: b :: r => 256 * a.toNat + b.toNat + total r
theorem wordAt_cons (a b : UInt8) (r : List UInt8) (k : Nat) : wordAt (a :: b :: r) (k + 1) = wordAt r k := by
  unfold wordAt
  have e1 : 2 * (k + 1) = 2 * k + 1 + 1 := by omega
  have e2 : 2 * (k + 1) + 1 = 2 * k + 1 + 1 + 1 := by omega
  rw [e2, e1]
  simp only [List.getElem?_cons_succ]
theorem wup_total : ∀ l : List UInt8, (wup l (nwords l)).sum = total l
  | [] => rfl
  | [a] => by simp [wup, nwords, wordAt, total, List.range_succ]
  | a :: b :: r => by
    have e : nwords (a :: b :: r) = nwords r + 1 := by simp only [nwords, List.length_cons]; omega
    have e0 : wordAt (a :: b :: r) 0 = 256 * a.toNat + b.toNat := rfl
    rw [e, wup, List.range_succ_eq_map, List.map_cons, List.map_map, List.sum_cons, e0, total]
    congr 1
    have := wup_total r
    rw [wup] at this
    rw [← this]
    congr 1
theorem ones_ocs (l : List UInt8) : ones l = ocs (total l) := by rw [ones, sumc_ocs _ (wup_lt l _), wup_total]
theorem total_append : ∀ (l m : List UInt8), l.length % 2 = 0 → total (l ++ m) = total l + total m
  | [], m, _ => by simp [total]
  | [a], m, h => by simp at h
  | a :: b :: r, m, h => by
    have := total_append r m (by simp only [List.length_cons] at h; omega)
    simp only [List.cons_append, total, this]; omega
theorem total_two (n : Nat) (h : n < 65536) : total (two (n : Int)) = n := by
  have := numOf_two n h
  simp only [two, numOf, List.foldl_cons, List.foldl_nil] at this
  simp only [two, total]
  omega

theorem and_low (n : Int) : bits .and .i64 n 65535 = (low n : Int) := by
  have h127 : (BitVec.ofInt 64 65535).toNat = 2 ^ 16 - 1 := by decide
  have key : (BitVec.ofInt 64 n &&& BitVec.ofInt 64 65535).toNat = (n % ((2 ^ 64 : Nat) : Int)).toNat % 2 ^ 16 := by
    rw [BitVec.toNat_and, BitVec.toNat_ofInt, h127, Nat.and_two_pow_sub_one_eq_mod]
  show IntKind.i64.wrap ((BitVec.ofInt 64 n &&& BitVec.ofInt 64 65535).toNat : Nat) = _
  rw [key, IntKind.wrap_i64, low_eq]
  omega
theorem or_word (N b : Nat) (hb : b < 256) (hN : N < 256) : bits .or .i64 (N * 256 : Int) (b : Int) = ((256 * N + b : Nat) : Int) := by
  show IntKind.i64.wrap ((BitVec.ofInt 64 (N * 256 : Int) ||| BitVec.ofInt 64 (b : Int)).toNat : Int) = _
  rw [show (N * 256 : Int) = ((N * 256 : Nat) : Int) from by omega, BitVec.toNat_or, ofInt_u64 _ (by omega), ofInt_u64 b (by omega)]
  have h := Nat.two_pow_add_eq_or_of_lt (i := 8) (b := b) (by simpa using hb) N
  rw [show N * 256 = 2 ^ 8 * N from by omega, ← h, IntKind.wrap_i64]
  omega
end Go.Proofs.Ytkofmbnolaiecaa
