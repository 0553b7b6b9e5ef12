/- Two bytes, four bytes read; the header measured. -/
import Derived.Test.YtbhdpobmooncpaaIpNum
import Derived.Test.YtbhdpobmooncpaaSumLaws
import Derived.Deep.DeepCutAuto
namespace Go.Proofs.Ytbhdpobmooncpaa
set_option linter.unusedVariables false
set_option linter.unusedSimpArgs false
open Go.ChangeShapes Go.WideShapes Go.ChangeAt Go.RowKit

theorem numOf_2 {l : List UInt8} {k : Nat} (h : k + 2 ≤ l.length) : numOf ((l.drop k).take 2) = num l k := by
  have e : (l.drop k).take 2 = [l[k], l[k + 1]] := by
    have h1 := take_snoc l k 1 (by omega)
    have h0 := take_snoc l k 0 (by omega)
    rw [h1, h0]
    simp
  rw [e]
  unfold num
  rw [← byt_at (show k < l.length by omega), ← byt_at (show k + 1 < l.length by omega)]
  simp [numOf]
theorem numOf_4 {l : List UInt8} {k : Nat} (h : k + 4 ≤ l.length) : numOf ((l.drop k).take 4) = 65536 * num l k + num l (k + 2) := by
  have e : (l.drop k).take 4 = (l.drop k).take 2 ++ (l.drop (k + 2)).take 2 := by
    rw [show (4 : Nat) = 2 + 2 from rfl, List.take_add, List.drop_drop]
  rw [e, numOf_append, numOf_2 (by omega), numOf_2 (by omega)]
  have h2 : ((l.drop (k + 2)).take 2).length = 2 := by simp; omega
  rw [h2]
  have : (256 : Nat) ^ 2 = 65536 := by decide
  omega

theorem and_pow (n j : Nat) (hn : n < 65536) (hj : j < 16) : bits .and .i64 (n : Int) ((2 ^ j : Nat) : Int) = ((n / 2 ^ j % 2 * 2 ^ j : Nat) : Int) := by
  have h1 : 2 ^ j ≤ 2 ^ 15 := Nat.pow_le_pow_right (by omega) (by omega)
  have h2 : (2 : Nat) ^ 15 = 32768 := by decide
  show IntKind.i64.wrap ((BitVec.ofInt 64 (n : Int) &&& BitVec.ofInt 64 ((2 ^ j : Nat) : Int)).toNat : Int) = _
  have h3 : n &&& 2 ^ j = n / 2 ^ j % 2 * 2 ^ j := by
    have h5 : n &&& 2 ^ j = if n.testBit j then 2 ^ j else 0 := by
      apply Nat.eq_of_testBit_eq
      intro i
      rw [Nat.testBit_and, Nat.testBit_two_pow]
      by_cases e : j = i
      · subst e
        cases h6 : n.testBit j <;> simp
      · split <;> simp [e, Nat.testBit_two_pow]
    rw [h5, Nat.testBit_eq_decide_div_mod_eq]
    rcases Nat.mod_two_eq_zero_or_one (n / 2 ^ j) with h | h <;> simp [h]
  rw [BitVec.toNat_and, ofInt_u64 n (by omega), ofInt_u64 (2 ^ j) (by omega), h3, IntKind.wrap_i64]
  have h4 : n / 2 ^ j % 2 * 2 ^ j ≤ 1 * 2 ^ j := Nat.mul_le_mul_right _ (by omega)
  generalize n / 2 ^ j % 2 * 2 ^ j = m at *
  omega
theorem and_off (n : Nat) (hn : n < 65536) : bits .and .i64 (n : Int) 8191 = ((n % 8192 : Nat) : Int) := by
  show IntKind.i64.wrap ((BitVec.ofInt 64 (n : Int) &&& BitVec.ofInt 64 ((8191 : Nat) : Int)).toNat : Int) = _
  rw [BitVec.toNat_and, ofInt_u64 n (by omega), ofInt_u64 8191 (by omega), show (8191 : Nat) = 2 ^ 13 - 1 from rfl, Nat.and_two_pow_sub_one_eq_mod, IntKind.wrap_i64]
  omega

end Go.Proofs.Ytbhdpobmooncpaa
