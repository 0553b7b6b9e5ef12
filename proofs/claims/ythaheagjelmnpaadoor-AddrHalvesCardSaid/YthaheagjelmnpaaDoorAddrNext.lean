/- Reading addresses: next, address. -/
import Derived.Test.YthaheagjelmnpaaDoorAddrScan
import Derived.Test.YthaheagjelmnpaaDoorAddrBits
namespace Go.Proofs.YthaheagjelmnpaaDoor
set_option linter.unusedVariables false
set_option linter.unusedSimpArgs false
open Go.ChangeShapes Go.WideShapes Go.ChangeAt Go.RowKit

set_option maxHeartbeats 800000 in
theorem next_any (s : ByteArray) (p mark most : Nat) (hlt : p < s.size) (hs : s.size ≤ 140737488351232) (hm : most ≤ 1000) (hk : (s[p]'hlt).toNat = mark) (N K : Nat) (hr : readOn most (s.data.toList.drop (p + 1)) 0 0 = (N, K)) (w : World) :
    Calls Tryd.prog 24 #[.string s, .int .i64 (p : Int), .int .u8 (mark : Int), .int .i64 (most : Int)] w fun e w' => e = .returned (readV (p + 1) N K) ∧ w = w' := by
  have hN : Hid (∀ w, Calls Tryd.prog 26 #[.string s, .int .i64 ((p : Int) + 1), .int .i64 (most : Int)] w fun e w' => e = .returned (readV (p + 1) N K) ∧ w = w') := fun w => number_any s (p + 1) most hlt hs hm N K hr w
  clear hr
  have b1 : ((p : Int) == (s.size : Int)) = false := by simp; omega
  go_enter Tryd.func24, Tryd.ntmps24
  go_wp2_with fail
  refine (hN.out _).mono ?_
  rintro e w' ⟨rfl, rfl⟩
  unfold readV
  go_wp2_with fail
  go_ret3
  exact ⟨rfl, rfl⟩

/-- Behind the number, nothing is read on. -/
def Stops (most n : Nat) (R : List UInt8) : Prop := ∀ c r, R = c :: r → c.toNat < 48 ∨ 57 < c.toNat ∨ most < n * 10 + (c.toNat - 48)
theorem read_stop {most n k : Nat} {R : List UInt8} (h : Stops most n R) : readOn most R n k = (n, k) := by
  cases R with
  | nil => rfl
  | cons c r =>
    have h := h c r rfl
    rw [readOn, if_neg (by omega)]
theorem read_digit {most d n k : Nat} {r : List UInt8} (hd : d ≤ 9) (h0 : n = 0 → k = 0) (hm : n * 10 + d ≤ most) : readOn most (UInt8.ofNat (48 + d) :: r) n k = readOn most r (n * 10 + d) (k + 1) := by
  have e : (UInt8.ofNat (48 + d)).toNat = 48 + d := by rw [UInt8.toNat_ofNat']; omega
  rw [readOn, e, if_pos ⟨by omega, by omega, h0, by omega⟩, show 48 + d - 48 = d from by omega]
theorem itoa_two {q : Nat} (h : 10 ≤ q) (h2 : q < 100) : Lib.itoa (q : Int) = [UInt8.ofNat (48 + q / 10), UInt8.ofNat (48 + q % 10)] := by
  rw [itoa_big (by omega), itoa_one (by omega)]; rfl
theorem itoa_three {q : Nat} (h : 100 ≤ q) (h2 : q < 1000) : Lib.itoa (q : Int) = [UInt8.ofNat (48 + q / 100), UInt8.ofNat (48 + q / 10 % 10), UInt8.ofNat (48 + q % 10)] := by
  rw [itoa_big (by omega), itoa_two (by omega) (by omega), Nat.div_div_eq_div_mul]; rfl
theorem read_itoa {most n : Nat} {R : List UInt8} (hm : n ≤ most) (h : n < 1000) (hs : Stops most n R) : readOn most (Lib.itoa (n : Int) ++ R) 0 0 = (n, (Lib.itoa (n : Int)).length) := by
  rcases Nat.lt_or_ge n 10 with h1 | h1
  · rw [itoa_one h1]
    show readOn most (_ :: R) 0 0 = _
    rw [read_digit (by omega) (by omega) (by omega), Nat.zero_mul, Nat.zero_add]
    exact read_stop hs
  · rcases Nat.lt_or_ge n 100 with h2 | h2
    · rw [itoa_two h1 h2]
      show readOn most (_ :: _ :: R) 0 0 = _
      rw [read_digit (by omega) (by omega) (by omega), read_digit (by omega) (by omega) (by omega)]
      have e : (0 * 10 + n / 10) * 10 + n % 10 = n := by omega
      rw [e]
      exact read_stop hs
    · rw [itoa_three h2 h]
      show readOn most (_ :: _ :: _ :: R) 0 0 = _
      rw [read_digit (by omega) (by omega) (by omega), read_digit (by omega) (by omega) (by omega), read_digit (by omega) (by omega) (by omega)]
      have e : ((0 * 10 + n / 100) * 10 + n / 10 % 10) * 10 + n % 10 = n := by omega
      rw [e]
      exact read_stop hs
theorem itoa_pos (n : Nat) (h : n < 1000) : 1 ≤ (Lib.itoa (n : Int)).length ∧ (Lib.itoa (n : Int)).length ≤ 3 := by
  rcases Nat.lt_or_ge n 10 with h1 | h1
  · rw [itoa_one h1]; simp
  · rcases Nat.lt_or_ge n 100 with h2 | h2
    · rw [itoa_two h1 h2]; simp
    · rw [itoa_three h2 h]; simp

/-- Four numbers with dots. -/
def quad (b0 b1 b2 b3 : Nat) : List UInt8 := Lib.itoa (b0 : Int) ++ 46 :: (Lib.itoa (b1 : Int) ++ 46 :: (Lib.itoa (b2 : Int) ++ 46 :: Lib.itoa (b3 : Int)))

theorem str_get {A B : List UInt8} {c : UInt8} {p : Nat} (hp : p = A.length) (h : p < (str (A ++ c :: B)).size) : (str (A ++ c :: B))[p]'h = c := by
  subst hp
  show (str (A ++ c :: B)).data[A.length] = c
  simp [str]
theorem str_drop (L : List UInt8) (n : Nat) : (str L).data.toList.drop n = L.drop n := by simp [str]

/-- next, at a text that is put together. -/
theorem next_at (A D R : List UInt8) (mark most n p : Nat) (hp : p = A.length) (hD : D = Lib.itoa (n : Int)) (hmk : mark ≤ 255) (hm : most ≤ 255) (hn : n ≤ most) (hst : Stops most n R) (s : ByteArray) (hs : s = str (A ++ UInt8.ofNat mark :: (D ++ R))) (hz : s.size ≤ 140737488351232) (w : World) :
    Calls Tryd.prog 24 #[.string s, .int .i64 (p : Int), .int .u8 (mark : Int), .int .i64 (most : Int)] w fun e w' => e = .returned (readV (p + 1) n D.length) ∧ w = w' := by
  subst hs
  have hlt : p < (str (A ++ UInt8.ofNat mark :: (D ++ R))).size := by rw [str_size, hp]; simp
  refine next_any _ p mark most hlt hz (by omega) ?_ n D.length ?_ w
  · rw [str_get hp hlt, UInt8.toNat_ofNat']; omega
  · rw [str_drop, hp, List.drop_append, List.drop_eq_nil_of_le (by omega), List.nil_append, show A.length + 1 - A.length = 1 from by omega]
    show readOn most (D ++ R) 0 0 = _
    rw [hD]
    exact read_itoa hn (by omega) hst
end Go.Proofs.YthaheagjelmnpaaDoor
