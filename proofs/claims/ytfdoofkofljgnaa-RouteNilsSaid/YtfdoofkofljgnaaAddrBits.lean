/- Numbers: the highest bits of an address; sizes of nets. -/
import Derived.Test.YtfdoofkofljgnaaRead
import Derived.Laws.BitsAllLaws
namespace Go.Proofs.Ytfdoofkofljgnaa
set_option linter.unusedVariables false
set_option linter.unusedSimpArgs false

/-- How many addresses a net of so many bits has. -/
def sz (k : Int) : Int := ((2 ^ (32 - k.toNat) : Nat) : Int)
/-- The net that an address lies in. -/
def netOf (a k : Int) : Int := a - a % sz k

theorem nat_keep (x m : Nat) (hx : x < 4294967296) (hm : m ≤ 32) : x &&& (4294967295 - (2 ^ m - 1)) = x - x % 2 ^ m := by
  have e : x - x % 2 ^ m = x / 2 ^ m * 2 ^ m := by
    have := Nat.div_add_mod x (2 ^ m)
    rw [Nat.mul_comm] at this
    omega
  rw [e]
  have hp : 2 ^ m - 1 < 2 ^ 32 := Nat.lt_of_lt_of_le (Nat.sub_lt (Nat.two_pow_pos m) Nat.one_pos) (Nat.pow_le_pow_right (by decide) hm)
  have e2 : 4294967295 - (2 ^ m - 1) = 2 ^ 32 - (2 ^ m - 1 + 1) := by omega
  rw [e2]
  apply Nat.eq_of_testBit_eq
  intro i
  rw [Nat.testBit_and, Nat.testBit_two_pow_sub_succ hp, Nat.testBit_two_pow_sub_one, Nat.testBit_mul_two_pow, Nat.testBit_div_two_pow]
  rcases Nat.lt_or_ge i m with h | h
  · simp [h, Nat.not_le.2 h]
  · rw [show i - m + m = i from by omega]
    rcases Nat.lt_or_ge i 32 with h2 | h2
    · simp [h, h2, Nat.not_lt.2 h]
    · have : x.testBit i = false := Nat.testBit_lt_two_pow (Nat.lt_of_lt_of_le hx (by rw [show (4294967296 : Nat) = 2 ^ 32 from rfl]; exact Nat.pow_le_pow_right (by decide) h2))
      simp [this]

theorem sz_pos (k : Int) : 1 ≤ sz k := by unfold sz; have := Nat.two_pow_pos (32 - k.toNat); omega
theorem sz_le (k : Int) : sz k ≤ 4294967296 := by
  unfold sz
  have : 2 ^ (32 - k.toNat) ≤ 2 ^ 32 := Nat.pow_le_pow_right (by decide) (Nat.sub_le _ _)
  omega
theorem sz_low {k : Int} (h : 0 ≤ k ∧ k ≤ 32) : (4294967295 : Int) / 2 ^ k.toNat = sz k - 1 := by
  obtain ⟨n, rfl⟩ := Int.eq_ofNat_of_zero_le h.1
  have hn : n ≤ 32 := by omega
  unfold sz
  rw [Int.toNat_natCast]
  have all : ∀ n : Fin 33, (4294967295 : Int) / 2 ^ n.val = ((2 ^ (32 - n.val) : Nat) : Int) - 1 := by decide +kernel
  exact all ⟨n, by omega⟩
theorem keep_bits {a k : Int} (ha : 0 ≤ a ∧ a ≤ 4294967295) (h : 0 ≤ k ∧ k ≤ 32) : bits .andNot .u32 a (sz k - 1) = netOf a k := by
  have h1 := sz_pos k
  have h2 := sz_le k
  rw [u32_andNot a _ ha.1 (by omega) (by omega) (by omega)]
  have e : (sz k - 1).toNat = 2 ^ (32 - k.toNat) - 1 := by
    unfold sz
    have := Nat.two_pow_pos (32 - k.toNat)
    omega
  rw [e, nat_keep _ _ (by omega) (by omega)]
  unfold netOf sz
  obtain ⟨n, rfl⟩ := Int.eq_ofNat_of_zero_le ha.1
  rw [Int.toNat_natCast]
  have hm := Nat.mod_le n (2 ^ (32 - k.toNat))
  rw [Int.ofNat_sub hm, Int.natCast_emod]
theorem low_bits {a k : Int} (ha : 0 ≤ a ∧ a ≤ 4294967295) : bits .and .u32 a (sz k - 1) = a % sz k := by
  have h1 := sz_pos k
  have h2 := sz_le k
  rw [u32_and a _ ha.1 (by omega) (by omega) (by omega)]
  have e : (sz k - 1).toNat = 2 ^ (32 - k.toNat) - 1 := by
    unfold sz
    have := Nat.two_pow_pos (32 - k.toNat)
    omega
  rw [e, Nat.and_two_pow_sub_one_eq_mod]
  unfold sz
  obtain ⟨n, rfl⟩ := Int.eq_ofNat_of_zero_le ha.1
  rw [Int.toNat_natCast, Int.natCast_emod]
theorem net_mod (a k : Int) : netOf a k % sz k = 0 := by
  unfold netOf
  have := sz_pos k
  rw [Int.sub_emod, Int.emod_emod_of_dvd _ (Int.dvd_refl _), Int.sub_self, Int.zero_emod]
theorem net_in {a k : Int} (ha : 0 ≤ a ∧ a ≤ 4294967295) : 0 ≤ netOf a k ∧ netOf a k ≤ a := by
  unfold netOf
  have h1 := sz_pos k
  have h2 := Int.emod_nonneg a (show sz k ≠ 0 by omega)
  have h3 := Int.mul_ediv_add_emod a (sz k)
  have h4 := Int.mul_nonneg (show 0 ≤ sz k by omega) (Int.ediv_nonneg ha.1 (show 0 ≤ sz k by omega))
  omega
theorem join_bits {a k : Int} (ha : 0 ≤ a ∧ a ≤ 4294967295) : bits .or .u32 (netOf a k) (sz k - 1) = netOf a k + (sz k - 1) := by
  have h1 := sz_pos k
  have h2 := sz_le k
  have h3 := net_in (k := k) ha
  rw [u32_or _ _ h3.1 (by omega) (by omega) (by omega)]
  have e : (sz k - 1).toNat = 2 ^ (32 - k.toNat) - 1 := by
    unfold sz
    have := Nat.two_pow_pos (32 - k.toNat)
    omega
  have hm : (netOf a k).toNat % 2 ^ (32 - k.toNat) = 0 := by
    have h4 := net_mod a k
    obtain ⟨n, hn⟩ := Int.eq_ofNat_of_zero_le h3.1
    rw [hn] at h4 ⊢
    unfold sz at h4
    rw [Int.toNat_natCast]
    exact_mod_cast h4
  have hp := Nat.two_pow_pos (32 - k.toNat)
  rw [nat_join (32 - k.toNat) _ _ hm (by rw [e]; omega)]
  omega
theorem rows_apart {S : Int} (hS : 0 < S) (p q : Int) : S * p + S ≤ S * q ∨ p = q ∨ S * q + S ≤ S * p := by
  rcases Int.lt_trichotomy p q with h | h | h
  · have := Int.mul_le_mul_of_nonneg_left (show p + 1 ≤ q by omega) (show 0 ≤ S by omega)
    rw [Int.mul_add, Int.mul_one] at this
    exact .inl this
  · exact .inr (.inl h)
  · have := Int.mul_le_mul_of_nonneg_left (show q + 1 ≤ p by omega) (show 0 ≤ S by omega)
    rw [Int.mul_add, Int.mul_one] at this
    exact .inr (.inr this)
theorem row_iff {S : Int} (hS : 0 < S) (b q : Int) : b - b % S = S * q ↔ S * q ≤ b ∧ b ≤ S * q + S - 1 := by
  have h1 := Int.mul_ediv_add_emod b S
  have h2 := Int.emod_nonneg b (show S ≠ 0 by omega)
  have h3 := Int.emod_lt_of_pos b hS
  generalize b % S = r at *
  generalize b / S = p at *
  rcases rows_apart hS p q with h | h | h
  · omega
  · subst h; omega
  · omega
theorem net_row (a k : Int) : netOf a k = sz k * (a / sz k) := by
  unfold netOf
  have h1 := Int.mul_ediv_add_emod a (sz k)
  omega
theorem sz_whole {k : Int} (hk : 0 ≤ k ∧ k ≤ 32) : ∃ T, (4294967296 : Int) = sz k * T := by
  refine ⟨((2 ^ k.toNat : Nat) : Int), ?_⟩
  unfold sz
  rw [← Int.natCast_mul, ← Nat.pow_add, show 32 - k.toNat + k.toNat = 32 from by omega]
  rfl
theorem net_top {a k : Int} (ha : 0 ≤ a ∧ a ≤ 4294967295) (hk : 0 ≤ k ∧ k ≤ 32) : netOf a k + (sz k - 1) ≤ 4294967295 := by
  obtain ⟨T, hT⟩ := sz_whole hk
  have h1 := net_in (k := k) ha
  have hp := sz_pos k
  rw [net_row] at h1 ⊢
  rcases rows_apart (show 0 < sz k by omega) (a / sz k) T with h | h | h
  · omega
  · rw [h] at h1 ⊢; omega
  · omega
theorem net_same {a b k : Int} : netOf b k = netOf a k ↔ netOf a k ≤ b ∧ b ≤ netOf a k + sz k - 1 := by
  rw [net_row a]
  have hp := sz_pos k
  exact row_iff (show 0 < sz k by omega) b _
theorem net_net (a k : Int) : netOf (netOf a k) k = netOf a k := by
  have hp := sz_pos k
  have h1 := (row_iff (show 0 < sz k by omega) (netOf a k) (a / sz k)).2
  rw [net_row a k] at h1 ⊢
  exact h1 (by omega)
/-- A net and its halves. -/
theorem net_halves {a y n : Int} (hn : 0 ≤ n ∧ n ≤ 31) :
    (netOf y n = netOf (netOf a n) n ↔ (netOf y (n + 1) = netOf (netOf a n) (n + 1) ∨ netOf y (n + 1) = netOf (netOf (netOf a n + (sz n - 1)) (n + 1)) (n + 1))) ∧
    ¬ (netOf y (n + 1) = netOf (netOf a n) (n + 1) ∧ netOf y (n + 1) = netOf (netOf (netOf a n + (sz n - 1)) (n + 1)) (n + 1)) := by
  have h3 : sz n = 2 * sz (n + 1) := by
    unfold sz
    have e : 32 - n.toNat = (32 - (n + 1).toNat) + 1 := by omega
    rw [e, Nat.pow_succ]
    omega
  have hp := sz_pos (n + 1)
  have hH : 0 < sz (n + 1) := by omega
  obtain ⟨q, hq⟩ : ∃ q, netOf a n = sz n * q := ⟨_, net_row a n⟩
  have e0 : sz n * q = 2 * (sz (n + 1) * q) := by rw [h3, Int.mul_assoc]
  have e1 : sz (n + 1) * (2 * q) = 2 * (sz (n + 1) * q) := by rw [← Int.mul_assoc, Int.mul_comm (sz (n + 1)) 2, Int.mul_assoc]
  have e2 : sz (n + 1) * (2 * q + 1) = 2 * (sz (n + 1) * q) + sz (n + 1) := by rw [Int.mul_add, Int.mul_one, e1]
  have f1 : netOf (netOf a n) n = sz n * q := (row_iff (by omega) _ q).2 (by omega)
  have f2 : netOf (netOf a n) (n + 1) = sz (n + 1) * (2 * q) := (row_iff hH _ _).2 (by omega)
  have f3 : netOf (netOf a n + (sz n - 1)) (n + 1) = sz (n + 1) * (2 * q + 1) := (row_iff hH _ _).2 (by omega)
  have f4 : netOf (sz (n + 1) * (2 * q + 1)) (n + 1) = sz (n + 1) * (2 * q + 1) := (row_iff hH _ _).2 (by omega)
  rw [f3, f4, f1, f2]
  unfold netOf
  rw [row_iff hH, row_iff hH, row_iff (by omega)]
  omega
end Go.Proofs.Ytfdoofkofljgnaa
