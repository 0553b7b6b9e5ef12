/- Bytes as numbers: plain arithmetic. -/
import Derived.Below
import Derived.Laws.BitsAllLaws
namespace Go.Proofs.Ytkofmbnolaiecaa
set_option linter.unusedVariables false

def numOf (l : List UInt8) : Nat := l.foldl (fun a u => 256 * a + u.toNat) 0
theorem numOf_snoc (l : List UInt8) (u : UInt8) : numOf (l ++ [u]) = 256 * numOf l + u.toNat := by simp [numOf]
theorem numOf_acc (l : List UInt8) : ∀ acc : Nat, l.foldl (fun a u => 256 * a + u.toNat) acc < (acc + 1) * 256 ^ l.length := by
  induction l with
  | nil => intro acc; simp
  | cons u l ih =>
    intro acc
    simp only [List.foldl_cons, List.length_cons, Nat.pow_succ]
    have h1 := ih (256 * acc + u.toNat)
    have hu := u.toNat_lt
    have h2 : (256 * acc + u.toNat + 1) * 256 ^ l.length ≤ (256 * (acc + 1)) * 256 ^ l.length := Nat.mul_le_mul_right _ (by omega)
    have h3 : (256 * (acc + 1)) * 256 ^ l.length = (acc + 1) * (256 ^ l.length * 256) := by
      rw [Nat.mul_comm 256 (acc + 1), Nat.mul_assoc, Nat.mul_comm 256]
    omega
theorem numOf_lt (l : List UInt8) : numOf l < 256 ^ l.length := by have := numOf_acc l 0; simpa [numOf] using this
theorem take_snoc (l : List UInt8) (k i : Nat) (h : k + i < l.length) : (l.drop k).take (i + 1) = (l.drop k).take i ++ [l[k + i]] := by
  rw [List.take_succ_eq_append_getElem (by simp; omega)]
  simp

/-- A byte set in below a number. -/
theorem or_byte (N b : Nat) (hb : b < 256) (hN : N < 16777216) : bits .or .u32 ((N : Int) * 256 % 4294967296) ((b : Int) % 4294967296) = ((256 * N + b : Nat) : Int) := by
  rw [show (N : Int) * 256 % 4294967296 = ((256 * N : Nat) : Int) from by omega, show (b : Int) % 4294967296 = (b : Int) from by omega, u32_or_nat _ _ (by omega) (by omega)]
  congr 1
  have := Nat.two_pow_add_eq_or_of_lt (i := 8) (b := b) (by simpa using hb) N
  simpa using this.symm

/-- The first result of withinCode: an error, or none. -/
def withinCode (n : Nat) (at_ m : Int) : Int := if at_ < 0 ∨ (n : Int) < at_ then 8 else if m < 0 then 1 else if (n : Int) - at_ < m then 2 else 0

/-- The number that m bytes from a place on are, and the error. -/
def numAt (l : List UInt8) (at_ : Int) (m : Nat) : Int × Int :=
  if withinCode l.length at_ m = 0 then (((numOf ((l.drop at_.toNat).take m) : Nat) : Int), 0) else (0, withinCode l.length at_ m)
theorem numAt_ok {l : List UInt8} {k m : Nat} (h : k + m ≤ l.length) : numAt l (k : Int) m = (((numOf ((l.drop k).take m) : Nat) : Int), 0) := by
  unfold numAt
  rw [if_pos (by unfold withinCode; rw [if_neg (by omega), if_neg (by omega), if_neg (by omega)])]
  simp
theorem numAt_bad {l : List UInt8} {at_ : Int} {m : Nat} (h : withinCode l.length at_ m ≠ 0) : numAt l at_ m = (0, withinCode l.length at_ m) := by
  unfold numAt
  rw [if_neg h]
theorem within_zero {n : Nat} {at_ m : Int} (h : withinCode n at_ m = 0) : 0 ≤ at_ ∧ 0 ≤ m ∧ at_ + m ≤ n := by
  unfold withinCode at h
  (repeat' split at h) <;> omega
theorem numOf_lt4 (l : List UInt8) (h : l.length ≤ 4) : numOf l < 4294967296 := by
  have h1 := numOf_lt l
  have h2 : 256 ^ l.length ≤ 256 ^ 4 := Nat.pow_le_pow_right (by omega) h
  have h3 : (256 : Nat) ^ 4 = 4294967296 := by decide
  omega
theorem numOf_lt3 (l : List UInt8) (h : l.length ≤ 3) : numOf l < 16777216 := by
  have h1 := numOf_lt l
  have h2 : 256 ^ l.length ≤ 256 ^ 3 := Nat.pow_le_pow_right (by omega) h
  have h3 : (256 : Nat) ^ 3 = 16777216 := by decide
  omega
theorem numAt_lt (l : List UInt8) (at_ : Int) (m : Nat) (hm : m ≤ 4) : 0 ≤ (numAt l at_ m).1 ∧ (numAt l at_ m).1 < 4294967296 := by
  unfold numAt
  split
  · have := numOf_lt4 ((l.drop at_.toNat).take m) (by simp; omega)
    exact ⟨by simp only []; omega, by simp only []; omega⟩
  · exact ⟨by simp only []; omega, by simp only []; omega⟩

/-- The k least significant bytes of n, the most significant one first. -/
def dig (n : Nat) : Nat → List UInt8
  | 0 => []
  | k + 1 => UInt8.ofNat (n / 256 ^ k) :: dig n k
theorem dig_length (n : Nat) : ∀ k, (dig n k).length = k
  | 0 => rfl
  | k + 1 => by rw [dig, List.length_cons, dig_length n k]

/-- What the page says of a number's two bytes. -/
def two (n : Int) : List UInt8 := [UInt8.ofNat ((n % 65536).toNat / 256), UInt8.ofNat ((n % 65536).toNat % 256)]
theorem ofNat_mod (n : Nat) : UInt8.ofNat (n % 256) = UInt8.ofNat n := by
  apply UInt8.toNat_inj.1
  simp
theorem two_length (n : Int) : (two n).length = 2 := rfl
theorem dig_two (n : Int) : dig (n % 4294967296).toNat 2 = two n := by
  unfold two dig dig dig
  have h1 : (n % 4294967296).toNat % 65536 = (n % 65536).toNat := by omega
  have e1 : UInt8.ofNat ((n % 4294967296).toNat / 256 ^ 1) = UInt8.ofNat ((n % 65536).toNat / 256) := by
    rw [← ofNat_mod, ← ofNat_mod ((n % 65536).toNat / 256)]
    congr 1
    simp only [Nat.pow_one]
    omega
  have e2 : UInt8.ofNat ((n % 4294967296).toNat / 256 ^ 0) = UInt8.ofNat ((n % 65536).toNat % 256) := by
    rw [ofNat_mod, ← ofNat_mod, ← ofNat_mod ((n % 65536).toNat)]
    congr 1
    simp only [Nat.pow_zero, Nat.div_one]
    omega
  rw [e1, e2]
theorem dig_four (n : Nat) (h : n < 4294967296) : dig n 4 = two ((n / 65536 : Nat) : Int) ++ two ((n % 65536 : Nat) : Int) := by
  have e : ∀ a b : Nat, a % 256 = b % 256 → UInt8.ofNat a = UInt8.ofNat b := fun a b h => by rw [← ofNat_mod, ← ofNat_mod b, h]
  have p3 : (256 : Nat) ^ 3 = 16777216 := by decide
  have p2 : (256 : Nat) ^ 2 = 65536 := by decide
  have h1 : (((n / 65536 : Nat) : Int) % 65536).toNat = n / 65536 := by omega
  have h2 : (((n % 65536 : Nat) : Int) % 65536).toNat = n % 65536 := by omega
  unfold two
  rw [h1, h2]
  simp only [dig, p3, p2, Nat.pow_one, Nat.pow_zero, List.cons_append, List.nil_append]
  rw [e (n / 16777216) (n / 65536 / 256) (by omega), e (n / 65536) (n / 65536 % 256) (by omega), e (n / 256) (n % 65536 / 256) (by omega), e (n / 1) (n % 65536 % 256) (by omega)]

theorem set_dig (n m j : Nat) (h : j < m) : (List.replicate (m - j) (0 : UInt8) ++ dig n j).set (m - 1 - j) (UInt8.ofNat (n / 256 ^ j)) = List.replicate (m - (j + 1)) 0 ++ dig n (j + 1) := by
  rw [show m - j = (m - (j + 1)) + 1 from by omega, List.replicate_succ', List.append_assoc, List.set_append, if_neg (by simp; omega)]
  rw [List.length_replicate, show m - 1 - j - (m - (j + 1)) = 0 from by omega]
  simp [dig]
theorem shr_byte (n j : Nat) : (n : Int) / 2 ^ (8 * j) % 256 = ((UInt8.ofNat (n / 256 ^ j)).toNat : Int) := by
  have h : (2 : Int) ^ (8 * j) = ((256 ^ j : Nat) : Int) := by
    rw [Int.pow_mul, Int.natCast_pow]
    rfl
  rw [h, UInt8.toNat_ofNat']
  omega
theorem numOf_two (n : Nat) (h : n < 65536) : numOf (two (n : Int)) = n := by
  simp only [numOf, two, List.foldl_cons, List.foldl_nil, UInt8.toNat_ofNat']
  omega
theorem numOf_append (a b : List UInt8) : numOf (a ++ b) = numOf a * 256 ^ b.length + numOf b := by
  have key : ∀ (b : List UInt8) (acc : Nat), b.foldl (fun a u => 256 * a + u.toNat) acc = acc * 256 ^ b.length + b.foldl (fun a u => 256 * a + u.toNat) 0 := by
    intro b
    induction b with
    | nil => intro acc; simp
    | cons u b ih =>
      intro acc
      simp only [List.foldl_cons, List.length_cons]
      rw [ih (256 * acc + u.toNat), ih (256 * 0 + u.toNat), Nat.pow_succ]
      simp only [Nat.mul_zero, Nat.zero_add, Nat.add_mul]
      rw [show 256 * acc * 256 ^ b.length = acc * (256 ^ b.length * 256) from by rw [Nat.mul_comm 256 acc, Nat.mul_assoc, Nat.mul_comm 256]]
      omega
  unfold numOf
  rw [List.foldl_append, key b]
theorem numOf_four (n : Nat) (h : n < 4294967296) : numOf (dig n 4) = n := by
  rw [dig_four n h, numOf_append, numOf_two _ (by omega), numOf_two _ (by omega), two_length]
  have : (256 : Nat) ^ 2 = 65536 := by decide
  omega
/-- What was written is read. -/
theorem numAt_two (l : List UInt8) (n m : Nat) (hn : n < 65536) : numAt (l ++ two (n : Int) ++ dig m 4) (l.length : Int) 2 = ((n : Int), 0) := by
  rw [numAt_ok (by simp [two_length]), List.append_assoc, List.drop_left, List.take_left' (two_length _), numOf_two n hn]
theorem numAt_four (l : List UInt8) (n m : Nat) (hm : m < 4294967296) : numAt (l ++ two (n : Int) ++ dig m 4) ((l.length : Int) + 2) 4 = ((m : Int), 0) := by
  have e : (l.length : Int) + 2 = ((l.length + 2 : Nat) : Int) := by omega
  have hl : (l ++ two (n : Int)).length = l.length + 2 := by rw [List.length_append, two_length]
  rw [e, numAt_ok (by simp [two_length, dig_length]), ← hl, List.drop_left, List.take_of_length_le (by rw [dig_length]; omega), numOf_four m hm]
end Go.Proofs.Ytkofmbnolaiecaa
