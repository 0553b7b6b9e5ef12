/- Bytes as numbers: plain arithmetic. -/
import Derived.Below
import Derived.Laws.BitsAllLaws
import Derived.Test.YtmnemkeieaflhaaRows
import Derived.Test.YtmnemkeieaflhaaC01
import Derived.WalkKit
import Derived.ProofKit
import Derived.OpenShut
import Derived.ShutString
import Derived.ChangeOld
import Derived.BigQuiet
import Derived.Deep.QuietTactic
import Derived.WalkSpells
import Derived.WalkLawsBesides
import Derived.Outline
import Derived.Lib.Hide
import Derived.Deep.DeepFit
import Derived.Deep.RegionLaw
namespace Go.Proofs.Ytmnemkeieaflhaa
set_option linter.unusedVariables false

def numOf (l : List UInt8) : Nat := l.foldl (fun a u => 256 * a + u.toNat) 0
theorem numOf_snoc (l : List UInt8) (u : UInt8) : numOf (l ++ [u]) = 256 * numOf l + u.toNat := by simp [numOf]
theorem numOf_acc (l : List UInt8) : ∀ acc : Nat, l.foldl (fun a u => 256 * a + u.toNat) acc < (acc + 1) * 256 ^ l.length := by
  induction l with
  | nil => intro acc; simp
  | cons u l ih =>
    intro acc
    simp only [List.foldl_cons, List.length_cons, Nat.pow_succ]
    have h1 := ih (256 * acc + u.toNat)
    have hu := u.toNat_lt
    have h2 : (256 * acc + u.toNat + 1) * 256 ^ l.length ≤ (256 * (acc + 1)) * 256 ^ l.length := Nat.mul_le_mul_right _ (by omega)
    have h3 : (256 * (acc + 1)) * 256 ^ l.length = (acc + 1) * (256 ^ l.length * 256) := by
      rw [Nat.mul_comm 256 (acc + 1), Nat.mul_assoc, Nat.mul_comm 256]
    omega
theorem numOf_lt (l : List UInt8) : numOf l < 256 ^ l.length := by have := numOf_acc l 0; simpa [numOf] using this
theorem take_snoc (l : List UInt8) (k i : Nat) (h : k + i < l.length) : (l.drop k).take (i + 1) = (l.drop k).take i ++ [l[k + i]] := by
  rw [List.take_succ_eq_append_getElem (by simp; omega)]
  simp

/-- A byte set in below a number. -/
theorem or_byte (N b : Nat) (hb : b < 256) (hN : N < 16777216) : bits .or .u32 ((N : Int) * 256 % 4294967296) ((b : Int) % 4294967296) = ((256 * N + b : Nat) : Int) := by
  rw [show (N : Int) * 256 % 4294967296 = ((256 * N : Nat) : Int) from by omega, show (b : Int) % 4294967296 = (b : Int) from by omega, u32_or_nat _ _ (by omega) (by omega)]
  congr 1
  have := Nat.two_pow_add_eq_or_of_lt (i := 8) (b := b) (by simpa using hb) N
  simpa using this.symm

/-- The first result of withinCode: an error, or none. -/
def withinCode (n : Nat) (at_ m : Int) : Int := if at_ < 0 ∨ (n : Int) < at_ then 8 else if m < 0 then 1 else if (n : Int) - at_ < m then 2 else 0

/-- The number that m bytes from a place on are, and the error. -/
def numAt (l : List UInt8) (at_ : Int) (m : Nat) : Int × Int :=
  if withinCode l.length at_ m = 0 then (((numOf ((l.drop at_.toNat).take m) : Nat) : Int), 0) else (0, withinCode l.length at_ m)
theorem numAt_ok {l : List UInt8} {k m : Nat} (h : k + m ≤ l.length) : numAt l (k : Int) m = (((numOf ((l.drop k).take m) : Nat) : Int), 0) := by
  unfold numAt
  rw [if_pos (by unfold withinCode; rw [if_neg (by omega), if_neg (by omega), if_neg (by omega)])]
  simp
theorem numAt_bad {l : List UInt8} {at_ : Int} {m : Nat} (h : withinCode l.length at_ m ≠ 0) : numAt l at_ m = (0, withinCode l.length at_ m) := by
  unfold numAt
  rw [if_neg h]
theorem within_zero {n : Nat} {at_ m : Int} (h : withinCode n at_ m = 0) : 0 ≤ at_ ∧ 0 ≤ m ∧ at_ + m ≤ n := by
  unfold withinCode at h
  (repeat' split at h) <;> omega
theorem numOf_lt4 (l : List UInt8) (h : l.length ≤ 4) : numOf l < 4294967296 := by
  have h1 := numOf_lt l
  have h2 : 256 ^ l.length ≤ 256 ^ 4 := Nat.pow_le_pow_right (by omega) h
  have h3 : (256 : Nat) ^ 4 = 4294967296 := by decide
  omega
theorem numOf_lt3 (l : List UInt8) (h : l.length ≤ 3) : numOf l < 16777216 := by
  have h1 := numOf_lt l
  have h2 : 256 ^ l.length ≤ 256 ^ 3 := Nat.pow_le_pow_right (by omega) h
  have h3 : (256 : Nat) ^ 3 = 16777216 := by decide
  omega
theorem numAt_lt (l : List UInt8) (at_ : Int) (m : Nat) (hm : m ≤ 4) : 0 ≤ (numAt l at_ m).1 ∧ (numAt l at_ m).1 < 4294967296 := by
  unfold numAt
  split
  · have := numOf_lt4 ((l.drop at_.toNat).take m) (by simp; omega)
    exact ⟨by simp only []; omega, by simp only []; omega⟩
  · exact ⟨by simp only []; omega, by simp only []; omega⟩

/-- The k least significant bytes of n, the most significant one first. -/
def dig (n : Nat) : Nat → List UInt8
  | 0 => []
  | k + 1 => UInt8.ofNat (n / 256 ^ k) :: dig n k
theorem dig_length (n : Nat) : ∀ k, (dig n k).length = k
  | 0 => rfl
  | k + 1 => by rw [dig, List.length_cons, dig_length n k]

/-- What the page says of a number's two bytes. -/
def two (n : Int) : List UInt8 := [UInt8.ofNat ((n % 65536).toNat / 256), UInt8.ofNat ((n % 65536).toNat % 256)]
theorem ofNat_mod (n : Nat) : UInt8.ofNat (n % 256) = UInt8.ofNat n := by
  apply UInt8.toNat_inj.1
  simp
theorem two_length (n : Int) : (two n).length = 2 := rfl
theorem dig_two (n : Int) : dig (n % 4294967296).toNat 2 = two n := by
  unfold two dig dig dig
  have h1 : (n % 4294967296).toNat % 65536 = (n % 65536).toNat := by omega
  have e1 : UInt8.ofNat ((n % 4294967296).toNat / 256 ^ 1) = UInt8.ofNat ((n % 65536).toNat / 256) := by
    rw [← ofNat_mod, ← ofNat_mod ((n % 65536).toNat / 256)]
    congr 1
    simp only [Nat.pow_one]
    omega
  have e2 : UInt8.ofNat ((n % 4294967296).toNat / 256 ^ 0) = UInt8.ofNat ((n % 65536).toNat % 256) := by
    rw [ofNat_mod, ← ofNat_mod, ← ofNat_mod ((n % 65536).toNat)]
    congr 1
    simp only [Nat.pow_zero, Nat.div_one]
    omega
  rw [e1, e2]
theorem dig_four (n : Nat) (h : n < 4294967296) : dig n 4 = two ((n / 65536 : Nat) : Int) ++ two ((n % 65536 : Nat) : Int) := by
  have e : ∀ a b : Nat, a % 256 = b % 256 → UInt8.ofNat a = UInt8.ofNat b := fun a b h => by rw [← ofNat_mod, ← ofNat_mod b, h]
  have p3 : (256 : Nat) ^ 3 = 16777216 := by decide
  have p2 : (256 : Nat) ^ 2 = 65536 := by decide
  have h1 : (((n / 65536 : Nat) : Int) % 65536).toNat = n / 65536 := by omega
  have h2 : (((n % 65536 : Nat) : Int) % 65536).toNat = n % 65536 := by omega
  unfold two
  rw [h1, h2]
  simp only [dig, p3, p2, Nat.pow_one, Nat.pow_zero, List.cons_append, List.nil_append]
  rw [e (n / 16777216) (n / 65536 / 256) (by omega), e (n / 65536) (n / 65536 % 256) (by omega), e (n / 256) (n % 65536 / 256) (by omega), e (n / 1) (n % 65536 % 256) (by omega)]

theorem set_dig (n m j : Nat) (h : j < m) : (List.replicate (m - j) (0 : UInt8) ++ dig n j).set (m - 1 - j) (UInt8.ofNat (n / 256 ^ j)) = List.replicate (m - (j + 1)) 0 ++ dig n (j + 1) := by
  rw [show m - j = (m - (j + 1)) + 1 from by omega, List.replicate_succ', List.append_assoc, List.set_append, if_neg (by simp; omega)]
  rw [List.length_replicate, show m - 1 - j - (m - (j + 1)) = 0 from by omega]
  simp [dig]
theorem shr_byte (n j : Nat) : (n : Int) / 2 ^ (8 * j) % 256 = ((UInt8.ofNat (n / 256 ^ j)).toNat : Int) := by
  have h : (2 : Int) ^ (8 * j) = ((256 ^ j : Nat) : Int) := by
    rw [Int.pow_mul, Int.natCast_pow]
    rfl
  rw [h, UInt8.toNat_ofNat']
  omega
theorem numOf_two (n : Nat) (h : n < 65536) : numOf (two (n : Int)) = n := by
  simp only [numOf, two, List.foldl_cons, List.foldl_nil, UInt8.toNat_ofNat']
  omega
theorem numOf_append (a b : List UInt8) : numOf (a ++ b) = numOf a * 256 ^ b.length + numOf b := by
  have key : ∀ (b : List UInt8) (acc : Nat), b.foldl (fun a u => 256 * a + u.toNat) acc = acc * 256 ^ b.length + b.foldl (fun a u => 256 * a + u.toNat) 0 := by
    intro b
    induction b with
    | nil => intro acc; simp
    | cons u b ih =>
      intro acc
      simp only [List.foldl_cons, List.length_cons]
      rw [ih (256 * acc + u.toNat), ih (256 * 0 + u.toNat), Nat.pow_succ]
      simp only [Nat.mul_zero, Nat.zero_add, Nat.add_mul]
      rw [show 256 * acc * 256 ^ b.length = acc * (256 ^ b.length * 256) from by rw [Nat.mul_comm 256 acc, Nat.mul_assoc, Nat.mul_comm 256]]
      omega
  unfold numOf
  rw [List.foldl_append, key b]
theorem numOf_four (n : Nat) (h : n < 4294967296) : numOf (dig n 4) = n := by
  rw [dig_four n h, numOf_append, numOf_two _ (by omega), numOf_two _ (by omega), two_length]
  have : (256 : Nat) ^ 2 = 65536 := by decide
  omega
/-- What was written is read. -/
theorem numAt_two (l : List UInt8) (n m : Nat) (hn : n < 65536) : numAt (l ++ two (n : Int) ++ dig m 4) (l.length : Int) 2 = ((n : Int), 0) := by
  rw [numAt_ok (by simp [two_length]), List.append_assoc, List.drop_left, List.take_left' (two_length _), numOf_two n hn]
theorem numAt_four (l : List UInt8) (n m : Nat) (hm : m < 4294967296) : numAt (l ++ two (n : Int) ++ dig m 4) ((l.length : Int) + 2) 4 = ((m : Int), 0) := by
  have e : (l.length : Int) + 2 = ((l.length + 2 : Nat) : Int) := by omega
  have hl : (l ++ two (n : Int)).length = l.length + 2 := by rw [List.length_append, two_length]
  rw [e, numAt_ok (by simp [two_length, dig_length]), ← hl, List.drop_left, List.take_of_length_le (by rw [dig_length]; omega), numOf_four m hm]
end Go.Proofs.Ytmnemkeieaflhaa
namespace Go.Proofs.Ytmnemkeieaflhaa
set_option linter.unusedVariables false
open Go.ChangeShapes Go.WideShapes Go.ChangeAt Go.RowKit

end Go.Proofs.Ytmnemkeieaflhaa
/- Joined, written, cut, filled up: the contracts of the functions that make memory. -/
namespace Go.Proofs.Ytmnemkeieaflhaa
set_option linter.unusedVariables false
open Go.ChangeShapes Go.WideShapes Go.ChangeAt Go.RowKit

theorem infoByte : (Try.prog.info? 5).map (fun i => (i.zero, i.size, i.bytes)) = some (some (.int .u8 0), 1, 1) := by kernel_rfl

/-- A row of bytes of the call's own. -/
def Own (w : World) (base : Nat) (v : Value) (l : List UInt8) : Prop := w.ownsRow base 5 1 v l.length (l.map bv)
theorem Own.byt {w : World} {base : Nat} {v : Value} {l : List UInt8} (h : Own w base v l) : Byt w v l := Byt.of_own h

theorem Own.lit (w : World) (cs : Array Value) (l : List UInt8) (h : cs.toList = l.map bv) (hm : l.length ≤ maxLen) : Own (w.alloc (.cells cs 5)) w.heap.size (.slice (some ⟨w.heap.size, 0, none⟩) l.length l.length) l := by
  have hs : cs.size = l.length := by rw [← Array.length_toList, h, List.length_map]
  refine ⟨by simp, .inr ⟨w.heap.size, l.length, cs, rfl, Nat.le_refl _, heap_alloc_new w _, Nat.le_refl _, hm, by omega, ?_⟩⟩
  rw [h, Nat.mul_one]
  exact List.take_of_length_le (by simp)
theorem ownsRow_grow {w w' : World} {base : Nat} {e : TypeId} {size : Nat} {v : Value} {n : Nat} {xs : List Value} (h : w.ownsRow base e size v n xs) (g : Grow w w') : w'.ownsRow base e size v n xs := by
  refine ⟨h.1, ?_⟩
  rcases h.2 with h2 | ⟨b, cap, cur, hv, hb, hh, r⟩
  · exact .inl h2
  · have hlt : b < w.heap.size := by
      rcases Nat.lt_or_ge b w.heap.size with h' | h'
      · exact h'
      · rw [Array.getElem?_eq_none h'] at hh; cases hh
    exact .inr ⟨b, cap, cur, hv, hb, (Below.block g b hlt).trans hh, r⟩
theorem Own.grow {w w' : World} {base : Nat} {v : Value} {l : List UInt8} (h : Own w base v l) (g : Grow w w') : Own w' base v l := ownsRow_grow h g
theorem own_block {w : World} {base : Nat} {e : TypeId} {size : Nat} {v : Value} {n : Nat} {xs : List Value} (h : w.ownsRow base e size v n xs) : ∀ k, v.ownBlock = some k → base ≤ k := by
  intro k hk
  rcases h.2 with ⟨rfl, _⟩ | ⟨g, cap, cur, rfl, hb, _⟩
  · simp [Value.ownBlock] at hk
  · simp [Value.ownBlock] at hk; omega
theorem u64_of (n : Int) : 0 ≤ IntKind.u64.wrap n ∧ IntKind.u64.wrap n % 65536 = n % 65536 := by
  have h : IntKind.u64.wrap n = n % 18446744073709551616 := by simp [IntKind.wrap, IntKind.signed, IntKind.bits]
  rw [h]
  constructor <;> omega

/-- The length of all of them. -/
def lens (ls : List (List UInt8)) : Nat := (ls.map List.length).sum
theorem lens_snoc (ls : List (List UInt8)) (j : Nat) (h : j < ls.length) : lens (ls.take (j + 1)) = lens (ls.take j) + ls[j].length := by
  rw [List.take_succ_eq_append_getElem h]
  simp only [lens, List.map_append, List.map_cons, List.map_nil, List.sum_append, List.sum_cons, List.sum_nil, Nat.add_zero]
theorem lens_le (ls : List (List UInt8)) (j : Nat) : lens (ls.take j) ≤ lens ls := by
  have h := congrArg lens (List.take_append_drop j ls)
  simp only [lens, List.map_append, List.sum_append] at h ⊢
  omega
theorem lens_flatten (ls : List (List UInt8)) : ls.flatten.length = lens ls := by simp [lens, List.length_flatten]

/-- What is cut out: the bytes, and the error. -/
def cutAt (l : List UInt8) (at_ n : Int) : List UInt8 := if withinCode l.length at_ n = 0 then (l.take (at_ + n).toNat).drop at_.toNat else []

theorem padAt_len (l : List UInt8) (k : Nat) : (l ++ List.replicate k (0 : UInt8)).length = l.length + k := by simp

def padOf (l : List UInt8) (unit : Int) : List UInt8 := if unit < 1 ∨ 64 < unit then [] else l ++ List.replicate ((unit.toNat - l.length % unit.toNat) % unit.toNat) 0
def padCode (unit : Int) : Int := if unit < 1 ∨ 64 < unit then 1 else 0

end Go.Proofs.Ytmnemkeieaflhaa
/- Packets as values; the contracts of the small functions: how long, may it be, its flags. -/
namespace Go.Proofs.Ytmnemkeieaflhaa
set_option linter.unusedVariables false
set_option linter.unusedSimpArgs false
open Go.ChangeShapes Go.WideShapes Go.ChangeAt Go.RowKit

structure Pkt where
  tos : Nat
  ident : Nat
  whole : Bool
  more : Bool
  off : Int
  ttl : Nat
  proto : Nat
  src : Nat
  dst : Nat
  opts : List UInt8
  data : List UInt8

/-- Each field in its type. -/
structure Pkt.Ok (k : Pkt) : Prop where
  tos : k.tos < 256
  ident : k.ident < 65536
  off1 : -9223372036854775808 ≤ k.off
  off2 : k.off ≤ 9223372036854775807
  ttl : k.ttl < 256
  proto : k.proto < 256
  src : k.src < 4294967296
  dst : k.dst < 4294967296

@[reducible] def ipV (k : Pkt) (vo vd : Value) : Value := .agg #[.int .u8 (k.tos : Int), .int .u16 (k.ident : Int), .bool k.whole, .bool k.more, .int .i64 k.off, .int .u8 (k.ttl : Int), .int .u8 (k.proto : Int), .int .u32 (k.src : Int), .int .u32 (k.dst : Int), vo, vd]
/-- The value v reads as the packet k. -/
def Ip (w : World) (v : Value) (k : Pkt) : Prop := ∃ vo vd, v = ipV k vo vd ∧ Byt w vo k.opts ∧ Byt w vd k.data ∧ k.Ok
theorem Ip.grow {w w' : World} {v : Value} {k : Pkt} (h : Ip w v k) (g : Grow w w') : Ip w' v k := by
  obtain ⟨vo, vd, e, h1, h2, h3⟩ := h
  exact ⟨vo, vd, e, h1.grow g, h2.grow g, h3⟩
theorem Ip.form {w : World} {v : Value} {k : Pkt} (h : Ip w v k) : ∃ A c B d, v = ipV k (.slice A k.opts.length c) (.slice B k.data.length d) ∧ Byt w (.slice A k.opts.length c) k.opts ∧ Byt w (.slice B k.data.length d) k.data ∧ k.Ok := by
  obtain ⟨vo, vd, e, h1, h2, h3⟩ := h
  obtain ⟨A, c, rfl, hc, hm⟩ := h1.form
  obtain ⟨B, d, rfl, hd, hn⟩ := h2.form
  exact ⟨A, c, B, d, e, h1, h2, h3⟩

/-- Of a length that any machine holds. -/
def Pkt.Small (k : Pkt) : Prop := k.opts.length ≤ 1000000 ∧ k.data.length ≤ 1000000

def Pkt.len (k : Pkt) : Nat := 20 + k.opts.length + k.data.length
def Pkt.check (k : Pkt) : Int := if k.off < 0 ∨ 8191 < k.off ∨ 40 < k.opts.length ∨ k.opts.length % 4 ≠ 0 then 1 else if 65535 < k.len then 9 else 0
def Pkt.flag (k : Pkt) : Int := (if k.whole then 16384 else 0) + (if k.more then 8192 else 0)

set_option maxHeartbeats 400000 in
theorem Len_any (v : Value) (k : Pkt) (w : World) (h : Ip w v k) (hs : k.Small) :
    Calls Try.prog 49 #[v] w fun e w' => e = .returned (.int .i64 (k.len : Nat)) ∧ Grow w w' := by
  obtain ⟨A, c, B, d, rfl, ho, hd, hk⟩ := h.form
  obtain ⟨hs1, hs2⟩ := hs
  go_enter Try.func49, Try.ntmps49
  go_wp2_with fail
  go_ret
  exact ⟨ret_int (by unfold Pkt.len; omega), Grow.alloc _ _⟩

set_option maxHeartbeats 400000 in
theorem RLen_any (v : Value) (k : Pkt) (w : World) (h : Ip w v k) (hs : k.Small) :
    Calls Try.prog 37 #[v] w fun e w' => e = .returned (.int .i64 (k.len : Nat)) ∧ Grow w w' := by
  obtain ⟨A, c, B, d, rfl, ho, hd, hk⟩ := h.form
  obtain ⟨hs1, hs2⟩ := hs
  go_enter Try.func37, Try.ntmps37
  go_wp2_with fail
  go_ret
  exact ⟨ret_int (by unfold Pkt.len; omega), Grow.alloc _ _⟩

set_option maxHeartbeats 1000000 in
theorem RCheck_ip (v : Value) (k : Pkt) (w : World) (h : Ip w v k) (hs : k.Small) :
    Calls Try.prog 39 #[v] w fun e w' => e = .returned (.int .i64 k.check) ∧ Grow w w' := by
  obtain ⟨A, c, B, d, rfl, ho, hd, hk⟩ := h.form
  have hsm := hs
  obtain ⟨hs1, hs2⟩ := hs
  have k1 := hk.off1
  have k2 := hk.off2
  have hg1 := Grow.alloc w (.cells #[.int .u8 (k.tos : Int), .int .u16 (k.ident : Int), .bool k.whole, .bool k.more, .int .i64 k.off, .int .u8 (k.ttl : Int), .int .u8 (k.proto : Int), .int .u32 (k.src : Int), .int .u32 (k.dst : Int), .slice A k.opts.length c, .slice B k.data.length d] 38)
  have hip := h.grow hg1
  unfold Pkt.check
  by_cases h1 : k.off < 0
  · rw [if_pos (.inl h1)]
    go_enter Try.func39, Try.ntmps39
    go_wp2_with fail
    go_ret
    exact ⟨rfl, hg1⟩
  by_cases h2 : 8191 < k.off
  · rw [if_pos (.inr (.inl h2))]
    go_enter Try.func39, Try.ntmps39
    go_wp2_with fail
    go_ret
    exact ⟨rfl, hg1⟩
  by_cases h3 : 40 < k.opts.length
  · rw [if_pos (.inr (.inr (.inl h3)))]
    go_enter Try.func39, Try.ntmps39
    go_wp2_with fail
    go_ret
    exact ⟨rfl, hg1⟩
  by_cases h4 : k.opts.length % 4 ≠ 0
  · rw [if_pos (.inr (.inr (.inr h4)))]
    have h5 : ((k.opts.length : Int) % 4 != 0) = true := by simp; omega
    go_enter Try.func39, Try.ntmps39
    go_wp2_with fail
    go_ret
    exact ⟨rfl, hg1⟩
  rw [if_neg (by omega)]
  have h6 : ((k.opts.length : Int) % 4 != 0) = false := by simp; omega
  have hlen : k.len ≤ 2000020 := by unfold Pkt.len; omega
  by_cases h5 : 65535 < k.len
  · rw [if_pos h5]
    go_enter Try.func39, Try.ntmps39
    go_wp2_with fail
    refine (RLen_any _ _ _ hip hsm).mono ?_
    rintro e w1 ⟨rfl, hg2⟩
    go_wp2_with fail
    go_ret
    exact ⟨rfl, hg1.trans hg2⟩
  · rw [if_neg h5]
    go_enter Try.func39, Try.ntmps39
    go_wp2_with fail
    refine (RLen_any _ _ _ hip hsm).mono ?_
    rintro e w1 ⟨rfl, hg2⟩
    go_wp2_with fail
    go_ret
    exact ⟨rfl, hg1.trans hg2⟩

set_option maxHeartbeats 400000 in
theorem Long_any (v : Value) (k : Pkt) (w : World) (h : Ip w v k) :
    Calls Try.prog 23 #[v] w fun e w' => e = .returned (.bool (decide (100 < k.opts.length ∨ 70000 < k.data.length))) ∧ Grow w w' := by
  obtain ⟨A, c, B, d, rfl, ho, hd, hk⟩ := h.form
  have l1 := ho.len.2
  have l2 := hd.len.2
  unfold maxLen at l1 l2
  by_cases h1 : 100 < k.opts.length
  · rw [decide_eq_true (.inl h1)]
    go_enter Try.func23, Try.ntmps23
    go_wp2_with fail
    go_ret
    exact ⟨rfl, Grow.alloc _ _⟩
  · by_cases h2 : 70000 < k.data.length
    · rw [decide_eq_true (.inr h2)]
      go_enter Try.func23, Try.ntmps23
      go_wp2_with fail
      go_ret
      exact ⟨ret_bool (by simp; omega), Grow.alloc _ _⟩
    · rw [decide_eq_false (by omega)]
      go_enter Try.func23, Try.ntmps23
      go_wp2_with fail
      go_ret
      exact ⟨ret_bool (by simp; omega), Grow.alloc _ _⟩

end Go.Proofs.Ytmnemkeieaflhaa
/- The sum with the carry brought round, in numbers: a list of bytes as words, their sum, and what it is modulo 65535. -/
namespace Go.Proofs.Ytmnemkeieaflhaa

/-- The lowest 16 bits. -/
def low (n : Int) : Nat := (n % 65536).toNat
theorem low_lt (n : Int) : low n < 65536 := by unfold low; omega
theorem low_eq (n : Int) : (low n : Int) = n % 65536 := by unfold low; omega
theorem low_nat {n : Nat} (h : n < 65536) : low (n : Int) = n := by unfold low; omega

/-- Added, the carry brought round. -/
def addc (a b : Nat) : Nat := if a + b > 65535 then a + b - 65535 else a + b
theorem addc_le {a b : Nat} (h : a < 65536) (k : b < 65536) : addc a b < 65536 := by unfold addc; split <;> omega

/-- What any sum of words comes to. -/
def ocs (t : Nat) : Nat := if t = 0 then 0 else (t - 1) % 65535 + 1
theorem ocs_le (t : Nat) : ocs t < 65536 := by unfold ocs; split <;> omega
theorem ocs_self {t : Nat} (h : t < 65536) : ocs t = t := by unfold ocs; split <;> omega
theorem ocs_add (t w : Nat) (h : w < 65536) : addc (ocs t) w = ocs (t + w) := by
  unfold addc ocs
  by_cases h0 : t = 0
  · subst h0
    rw [if_pos rfl]
    simp only [Nat.zero_add]
    by_cases hw : w = 0
    · subst hw; rfl
    · rw [if_neg hw, if_neg (by omega)]; omega
  · rw [if_neg h0, if_neg (show ¬ t + w = 0 by omega)]
    split <;> omega
/-- A word replaced by its complement to 65535 with the sum, all comes to 65535. -/
theorem ocs_right (t : Nat) : ocs (t + (65535 - ocs t)) = 65535 := by
  unfold ocs
  by_cases h0 : t = 0
  · subst h0; simp
  · rw [if_neg h0, if_neg (show ¬ t + (65535 - ((t - 1) % 65535 + 1)) = 0 by omega)]
    omega
theorem ocs_turn (t was now : Nat) (hw : was ≤ t) (h1 : was < 65536) (h2 : now < 65536) :
    65535 - addc (addc (ocs t) (65535 - was)) now = 65535 - ocs (t - was + now) ∨
      ((65535 - addc (addc (ocs t) (65535 - was)) now) + (65535 - ocs (t - was + now)) = 65535 ∧ (65535 - addc (addc (ocs t) (65535 - was)) now) * (65535 - ocs (t - was + now)) = 0) := by
  rw [ocs_add _ _ (by omega), ocs_add _ _ h2]
  have e : t + (65535 - was) + now = (t - was + now) + 65535 := by omega
  rw [e]
  generalize t - was + now = u
  by_cases h0 : u = 0
  · subst h0; exact .inr ⟨by decide, by decide⟩
  · refine .inl ?_
    have e2 : ocs (u + 65535) = ocs u := by
      unfold ocs
      rw [if_neg h0, if_neg (by omega)]
      omega
    rw [e2]

/-- A word of the list. -/
def wordAt (l : List UInt8) (k : Nat) : Nat := 256 * (l[2 * k]?.getD 0).toNat + (l[2 * k + 1]?.getD 0).toNat
theorem wordAt_lt (l : List UInt8) (k : Nat) : wordAt l k < 65536 := by
  unfold wordAt
  have := (l[2 * k]?.getD 0).toNat_lt
  have := (l[2 * k + 1]?.getD 0).toNat_lt
  omega
/-- How many words. -/
def nwords (l : List UInt8) : Nat := (l.length + 1) / 2
theorem wordAt_two (l : List UInt8) (k : Nat) (h : 2 * k + 1 < l.length) : wordAt l k = 256 * (l[2 * k]).toNat + (l[2 * k + 1]).toNat := by
  unfold wordAt
  rw [List.getElem?_eq_getElem (by omega), List.getElem?_eq_getElem h]; rfl
theorem wordAt_one (l : List UInt8) (k : Nat) (h : 2 * k < l.length) (h2 : ¬ 2 * k + 1 < l.length) : wordAt l k = 256 * (l[2 * k]).toNat := by
  unfold wordAt
  rw [List.getElem?_eq_getElem h, List.getElem?_eq_none (by omega)]; rfl

/-- The words that came when k rounds are over. -/
def wup (l : List UInt8) (k : Nat) : List Nat := (List.range k).map (wordAt l)
theorem wup_succ (l : List UInt8) (k : Nat) : wup l (k + 1) = wup l k ++ [wordAt l k] := by simp [wup, List.range_succ]
theorem wup_length (l : List UInt8) (k : Nat) : (wup l k).length = k := by simp [wup]
def sumc (ws : List Nat) : Nat := ws.foldl addc 0
theorem sumc_snoc (ws : List Nat) (x : Nat) : sumc (ws ++ [x]) = addc (sumc ws) x := by simp [sumc]
theorem sumc_ocs : ∀ ws : List Nat, (∀ x ∈ ws, x < 65536) → sumc ws = ocs ws.sum := by
  intro ws
  suffices ∀ (ws : List Nat) (t : Nat), (∀ x ∈ ws, x < 65536) → ws.foldl addc (ocs t) = ocs (t + ws.sum) by
    intro h; have := this ws 0 h; simpa [sumc, ocs] using this
  intro ws
  induction ws with
  | nil => intro t _; simp
  | cons x r ih =>
    intro t h
    rw [List.foldl_cons, ocs_add _ _ (h x (by simp)), ih _ (fun y hy => h y (by simp [hy])), List.sum_cons, Nat.add_assoc]
theorem wup_lt (l : List UInt8) (k : Nat) : ∀ x ∈ wup l k, x < 65536 := by
  intro x hx
  simp only [wup, List.mem_map] at hx
  obtain ⟨j, _, rfl⟩ := hx
  exact wordAt_lt l j
theorem sumc_lt (l : List UInt8) (k : Nat) : sumc (wup l k) < 65536 := by rw [sumc_ocs _ (wup_lt l k)]; exact ocs_le _

/-- The number that bytes add up to. -/
def ones (l : List UInt8) : Nat := sumc (wup l (nwords l))
theorem ones_lt (l : List UInt8) : ones l < 65536 := sumc_lt _ _

/-- The words' plain sum. -/
def total : List UInt8 → Nat
  | [] => 0
  | [a] => 256 * a.toNat
  | a :: b :: r => 256 * a.toNat + b.toNat + total r
theorem wordAt_cons (a b : UInt8) (r : List UInt8) (k : Nat) : wordAt (a :: b :: r) (k + 1) = wordAt r k := by
  unfold wordAt
  have e1 : 2 * (k + 1) = 2 * k + 1 + 1 := by omega
  have e2 : 2 * (k + 1) + 1 = 2 * k + 1 + 1 + 1 := by omega
  rw [e2, e1]
  simp only [List.getElem?_cons_succ]
theorem wup_total : ∀ l : List UInt8, (wup l (nwords l)).sum = total l
  | [] => rfl
  | [a] => by simp [wup, nwords, wordAt, total, List.range_succ]
  | a :: b :: r => by
    have e : nwords (a :: b :: r) = nwords r + 1 := by simp only [nwords, List.length_cons]; omega
    have e0 : wordAt (a :: b :: r) 0 = 256 * a.toNat + b.toNat := rfl
    rw [e, wup, List.range_succ_eq_map, List.map_cons, List.map_map, List.sum_cons, e0, total]
    congr 1
    have := wup_total r
    rw [wup] at this
    rw [← this]
    congr 1
theorem ones_ocs (l : List UInt8) : ones l = ocs (total l) := by rw [ones, sumc_ocs _ (wup_lt l _), wup_total]
theorem total_append : ∀ (l m : List UInt8), l.length % 2 = 0 → total (l ++ m) = total l + total m
  | [], m, _ => by simp [total]
  | [a], m, h => by simp at h
  | a :: b :: r, m, h => by
    have := total_append r m (by simp only [List.length_cons] at h; omega)
    simp only [List.cons_append, total, this]; omega
theorem total_two (n : Nat) (h : n < 65536) : total (two (n : Int)) = n := by
  have := numOf_two n h
  simp only [two, numOf, List.foldl_cons, List.foldl_nil] at this
  simp only [two, total]
  omega

theorem and_low (n : Int) : bits .and .i64 n 65535 = (low n : Int) := by
  have h127 : (BitVec.ofInt 64 65535).toNat = 2 ^ 16 - 1 := by decide
  have key : (BitVec.ofInt 64 n &&& BitVec.ofInt 64 65535).toNat = (n % ((2 ^ 64 : Nat) : Int)).toNat % 2 ^ 16 := by
    rw [BitVec.toNat_and, BitVec.toNat_ofInt, h127, Nat.and_two_pow_sub_one_eq_mod]
  show IntKind.i64.wrap ((BitVec.ofInt 64 n &&& BitVec.ofInt 64 65535).toNat : Nat) = _
  rw [key, IntKind.wrap_i64, low_eq]
  omega
theorem or_word (N b : Nat) (hb : b < 256) (hN : N < 256) : bits .or .i64 (N * 256 : Int) (b : Int) = ((256 * N + b : Nat) : Int) := by
  show IntKind.i64.wrap ((BitVec.ofInt 64 (N * 256 : Int) ||| BitVec.ofInt 64 (b : Int)).toNat : Int) = _
  rw [show (N * 256 : Int) = ((N * 256 : Nat) : Int) from by omega, BitVec.toNat_or, ofInt_u64 _ (by omega), ofInt_u64 b (by omega)]
  have h := Nat.two_pow_add_eq_or_of_lt (i := 8) (b := b) (by simpa using hb) N
  rw [show N * 256 = 2 ^ 8 * N from by omega, ← h, IntKind.wrap_i64]
  omega
end Go.Proofs.Ytmnemkeieaflhaa
/- Contracts: numbers added with the carry brought round, a check sum turned, and the sum of bytes as the document's own answer has it. -/
namespace Go.Proofs.Ytmnemkeieaflhaa
set_option linter.unusedVariables false
set_option linter.unusedSimpArgs false
open Go.ChangeShapes Go.WideShapes Go.ChangeAt Go.RowKit

attribute [local go_sem] and_low

/-- A check sum, turned. -/
def turn (a b c : Int) : Nat := 65535 - addc (addc (65535 - low a) (65535 - low b)) (low c)
theorem low_wrap (n : Int) : low (wrap64 n) = low n := by unfold low wrap64; omega
theorem low_sub (n : Int) : low (65535 - n) = 65535 - low n := by unfold low; omega
theorem turn_lt (a b c : Int) : turn a b c < 65536 := by unfold turn; omega
attribute [local go_sem] low_wrap low_sub

theorem ones_all {l : List UInt8} {k : Nat} (h1 : k ≤ nwords l) (h2 : ¬ 2 * k < l.length) : sumc (wup l k) = ones l := by
  have : k = nwords l := by unfold nwords at *; omega
  rw [this]; rfl

end Go.Proofs.Ytmnemkeieaflhaa
/- Packets and bytes, in numbers: what is written, what is read, and that the one undoes the other. -/
namespace Go.Proofs.Ytmnemkeieaflhaa
set_option linter.unusedVariables false
set_option linter.unusedSimpArgs false

/-- A byte of the list, as a number; two of them. -/
def byt (l : List UInt8) (i : Nat) : Nat := (l[i]?.getD 0).toNat
def num (l : List UInt8) (i : Nat) : Nat := 256 * byt l i + byt l (i + 1)
theorem byt_lt (l : List UInt8) (i : Nat) : byt l i < 256 := (l[i]?.getD 0).toNat_lt
theorem num_lt (l : List UInt8) (i : Nat) : num l i < 65536 := by
  have := byt_lt l i
  have := byt_lt l (i + 1)
  unfold num
  omega
theorem byt_at {l : List UInt8} {i : Nat} (h : i < l.length) : l[i].toNat = byt l i := by unfold byt; simp [h]

def Pkt.pre (k : Pkt) : List UInt8 := [UInt8.ofNat (69 + k.opts.length / 4), UInt8.ofNat k.tos] ++ two (k.len : Nat) ++ two (k.ident : Nat) ++ two (k.off + k.flag) ++ [UInt8.ofNat k.ttl, UInt8.ofNat k.proto]
def Pkt.post (k : Pkt) : List UInt8 := dig k.src 4 ++ dig k.dst 4 ++ k.opts
def Pkt.bare (k : Pkt) : List UInt8 := k.pre ++ [0, 0] ++ k.post
def Pkt.csum (k : Pkt) : Nat := 65535 - ones k.bare
def Pkt.head (k : Pkt) : List UInt8 := k.pre ++ two (k.csum : Nat) ++ k.post
def Pkt.bytes (k : Pkt) : List UInt8 := k.head ++ k.data
theorem pre_length (k : Pkt) : k.pre.length = 10 := by simp [Pkt.pre, two]
theorem post_length (k : Pkt) : k.post.length = 8 + k.opts.length := by simp [Pkt.post, dig_length]; omega
theorem bare_length (k : Pkt) : k.bare.length = 20 + k.opts.length := by simp [Pkt.bare, pre_length, post_length]; omega
theorem head_length (k : Pkt) : k.head.length = 20 + k.opts.length := by simp [Pkt.head, pre_length, post_length, two_length]; omega
theorem bytes_length (k : Pkt) : k.bytes.length = k.len := by rw [Pkt.bytes, List.length_append, head_length, Pkt.len]

/-- The header's bytes, by its first byte; the error; the packet. -/
def hdr (l : List UInt8) : Nat := 4 * (byt l 0 - 64)
def mcode (l : List UInt8) : Int :=
  if l.length < 20 then 2 else if byt l 0 < 69 ∨ 79 < byt l 0 then 3 else if l.length < hdr l then 2 else if ones (l.take (hdr l)) ≠ 65535 then 4
  else if num l 2 < hdr l ∨ 128 ≤ byt l 6 then 3 else if l.length < num l 2 then 2 else 0
def got (l : List UInt8) : Pkt where
  tos := byt l 1
  ident := num l 4
  whole := decide (byt l 6 / 64 % 2 = 1)
  more := decide (byt l 6 / 32 % 2 = 1)
  off := ((num l 6 % 8192 : Nat) : Int)
  ttl := byt l 8
  proto := byt l 9
  src := 65536 * num l 12 + num l 14
  dst := 65536 * num l 16 + num l 18
  opts := (l.take (hdr l)).drop 20
  data := (l.take (num l 2)).drop (hdr l)
def zeroP : Pkt := ⟨0, 0, false, false, 0, 0, 0, 0, 0, [], []⟩
theorem zero_ok : zeroP.Ok := ⟨by decide, by decide, by decide, by decide, by decide, by decide, by decide, by decide⟩
theorem got_ok (l : List UInt8) : (got l).Ok := by
  have := num_lt l 6
  have := num_lt l 12
  have := num_lt l 14
  have := num_lt l 16
  have := num_lt l 18
  refine ⟨byt_lt l 1, num_lt l 4, ?_, ?_, byt_lt l 8, byt_lt l 9, ?_, ?_⟩ <;> simp only [got] <;> omega
def res (l : List UInt8) : Pkt := if mcode l = 0 then got l else zeroP
theorem res_ok (l : List UInt8) : (res l).Ok := by
  unfold res
  split
  · exact got_ok l
  · exact zero_ok

/-- What is known where a list is a packet. -/
structure Good (l : List UInt8) : Prop where
  len : 20 ≤ l.length
  first1 : 69 ≤ byt l 0
  first2 : byt l 0 ≤ 79
  hdr : hdr l ≤ l.length
  right : ones (l.take (Go.Proofs.Ytmnemkeieaflhaa.hdr l)) = 65535
  all1 : Go.Proofs.Ytmnemkeieaflhaa.hdr l ≤ num l 2
  high : byt l 6 < 128
  all2 : num l 2 ≤ l.length
theorem good_iff (l : List UInt8) : mcode l = 0 ↔ Good l := by
  unfold mcode
  constructor
  · intro h
    by_cases h1 : l.length < 20
    · rw [if_pos h1] at h; cases h
    rw [if_neg h1] at h
    by_cases h2 : byt l 0 < 69 ∨ 79 < byt l 0
    · rw [if_pos h2] at h; cases h
    rw [if_neg h2] at h
    by_cases h3 : l.length < hdr l
    · rw [if_pos h3] at h; cases h
    rw [if_neg h3] at h
    by_cases h4 : ones (l.take (hdr l)) ≠ 65535
    · rw [if_pos h4] at h; cases h
    rw [if_neg h4] at h
    by_cases h5 : num l 2 < hdr l ∨ 128 ≤ byt l 6
    · rw [if_pos h5] at h; cases h
    rw [if_neg h5] at h
    by_cases h6 : l.length < num l 2
    · rw [if_pos h6] at h; cases h
    exact ⟨by omega, by omega, by omega, by omega, by omega, by omega, by omega, by omega⟩
  · rintro ⟨h1, h2, h3, h4, h5, h6, h7, h8⟩
    rw [if_neg (by omega), if_neg (by omega), if_neg (by omega), if_neg (by omega), if_neg (by omega), if_neg (by omega)]

/-- Twenty bytes and what is behind them. -/
def H20 (x0 x1 x2 x3 x4 x5 x6 x7 x8 x9 x10 x11 x12 x13 x14 x15 x16 x17 x18 x19 : UInt8) (r : List UInt8) : List UInt8 :=
  x0 :: x1 :: x2 :: x3 :: x4 :: x5 :: x6 :: x7 :: x8 :: x9 :: x10 :: x11 :: x12 :: x13 :: x14 :: x15 :: x16 :: x17 :: x18 :: x19 :: r
theorem cons_of {l : List UInt8} {n : Nat} (h : n + 1 ≤ l.length) : ∃ x r, l = x :: r ∧ n ≤ r.length := by
  cases l with
  | nil => simp at h
  | cons x r => exact ⟨x, r, rfl, by simpa using h⟩
theorem h20 {l : List UInt8} (h : 20 ≤ l.length) : ∃ x0 x1 x2 x3 x4 x5 x6 x7 x8 x9 x10 x11 x12 x13 x14 x15 x16 x17 x18 x19 r, l = H20 x0 x1 x2 x3 x4 x5 x6 x7 x8 x9 x10 x11 x12 x13 x14 x15 x16 x17 x18 x19 r := by
  obtain ⟨x0, l0, rfl, h0⟩ := cons_of h
  obtain ⟨x1, l1, rfl, h1⟩ := cons_of h0
  obtain ⟨x2, l2, rfl, h2⟩ := cons_of h1
  obtain ⟨x3, l3, rfl, h3⟩ := cons_of h2
  obtain ⟨x4, l4, rfl, h4⟩ := cons_of h3
  obtain ⟨x5, l5, rfl, h5⟩ := cons_of h4
  obtain ⟨x6, l6, rfl, h6⟩ := cons_of h5
  obtain ⟨x7, l7, rfl, h7⟩ := cons_of h6
  obtain ⟨x8, l8, rfl, h8⟩ := cons_of h7
  obtain ⟨x9, l9, rfl, h9⟩ := cons_of h8
  obtain ⟨x10, l10, rfl, h10⟩ := cons_of h9
  obtain ⟨x11, l11, rfl, h11⟩ := cons_of h10
  obtain ⟨x12, l12, rfl, h12⟩ := cons_of h11
  obtain ⟨x13, l13, rfl, h13⟩ := cons_of h12
  obtain ⟨x14, l14, rfl, h14⟩ := cons_of h13
  obtain ⟨x15, l15, rfl, h15⟩ := cons_of h14
  obtain ⟨x16, l16, rfl, h16⟩ := cons_of h15
  obtain ⟨x17, l17, rfl, h17⟩ := cons_of h16
  obtain ⟨x18, l18, rfl, h18⟩ := cons_of h17
  obtain ⟨x19, r, rfl, h19⟩ := cons_of h18
  exact ⟨x0, x1, x2, x3, x4, x5, x6, x7, x8, x9, x10, x11, x12, x13, x14, x15, x16, x17, x18, x19, r, rfl⟩

section
variable (x0 x1 x2 x3 x4 x5 x6 x7 x8 x9 x10 x11 x12 x13 x14 x15 x16 x17 x18 x19 : UInt8) (r : List UInt8)
theorem h20_length : (H20 x0 x1 x2 x3 x4 x5 x6 x7 x8 x9 x10 x11 x12 x13 x14 x15 x16 x17 x18 x19 r).length = 20 + r.length := by simp [H20]; omega
theorem byt0 : byt (H20 x0 x1 x2 x3 x4 x5 x6 x7 x8 x9 x10 x11 x12 x13 x14 x15 x16 x17 x18 x19 r) 0 = x0.toNat := rfl
theorem byt1 : byt (H20 x0 x1 x2 x3 x4 x5 x6 x7 x8 x9 x10 x11 x12 x13 x14 x15 x16 x17 x18 x19 r) 1 = x1.toNat := rfl
theorem byt2 : byt (H20 x0 x1 x2 x3 x4 x5 x6 x7 x8 x9 x10 x11 x12 x13 x14 x15 x16 x17 x18 x19 r) 2 = x2.toNat := rfl
theorem byt3 : byt (H20 x0 x1 x2 x3 x4 x5 x6 x7 x8 x9 x10 x11 x12 x13 x14 x15 x16 x17 x18 x19 r) 3 = x3.toNat := rfl
theorem byt4 : byt (H20 x0 x1 x2 x3 x4 x5 x6 x7 x8 x9 x10 x11 x12 x13 x14 x15 x16 x17 x18 x19 r) 4 = x4.toNat := rfl
theorem byt5 : byt (H20 x0 x1 x2 x3 x4 x5 x6 x7 x8 x9 x10 x11 x12 x13 x14 x15 x16 x17 x18 x19 r) 5 = x5.toNat := rfl
theorem byt6 : byt (H20 x0 x1 x2 x3 x4 x5 x6 x7 x8 x9 x10 x11 x12 x13 x14 x15 x16 x17 x18 x19 r) 6 = x6.toNat := rfl
theorem byt7 : byt (H20 x0 x1 x2 x3 x4 x5 x6 x7 x8 x9 x10 x11 x12 x13 x14 x15 x16 x17 x18 x19 r) 7 = x7.toNat := rfl
theorem byt8 : byt (H20 x0 x1 x2 x3 x4 x5 x6 x7 x8 x9 x10 x11 x12 x13 x14 x15 x16 x17 x18 x19 r) 8 = x8.toNat := rfl
theorem byt9 : byt (H20 x0 x1 x2 x3 x4 x5 x6 x7 x8 x9 x10 x11 x12 x13 x14 x15 x16 x17 x18 x19 r) 9 = x9.toNat := rfl
theorem byt10 : byt (H20 x0 x1 x2 x3 x4 x5 x6 x7 x8 x9 x10 x11 x12 x13 x14 x15 x16 x17 x18 x19 r) 10 = x10.toNat := rfl
theorem byt11 : byt (H20 x0 x1 x2 x3 x4 x5 x6 x7 x8 x9 x10 x11 x12 x13 x14 x15 x16 x17 x18 x19 r) 11 = x11.toNat := rfl
theorem byt12 : byt (H20 x0 x1 x2 x3 x4 x5 x6 x7 x8 x9 x10 x11 x12 x13 x14 x15 x16 x17 x18 x19 r) 12 = x12.toNat := rfl
theorem byt13 : byt (H20 x0 x1 x2 x3 x4 x5 x6 x7 x8 x9 x10 x11 x12 x13 x14 x15 x16 x17 x18 x19 r) 13 = x13.toNat := rfl
theorem byt14 : byt (H20 x0 x1 x2 x3 x4 x5 x6 x7 x8 x9 x10 x11 x12 x13 x14 x15 x16 x17 x18 x19 r) 14 = x14.toNat := rfl
theorem byt15 : byt (H20 x0 x1 x2 x3 x4 x5 x6 x7 x8 x9 x10 x11 x12 x13 x14 x15 x16 x17 x18 x19 r) 15 = x15.toNat := rfl
theorem byt16 : byt (H20 x0 x1 x2 x3 x4 x5 x6 x7 x8 x9 x10 x11 x12 x13 x14 x15 x16 x17 x18 x19 r) 16 = x16.toNat := rfl
theorem byt17 : byt (H20 x0 x1 x2 x3 x4 x5 x6 x7 x8 x9 x10 x11 x12 x13 x14 x15 x16 x17 x18 x19 r) 17 = x17.toNat := rfl
theorem byt18 : byt (H20 x0 x1 x2 x3 x4 x5 x6 x7 x8 x9 x10 x11 x12 x13 x14 x15 x16 x17 x18 x19 r) 18 = x18.toNat := rfl
theorem byt19 : byt (H20 x0 x1 x2 x3 x4 x5 x6 x7 x8 x9 x10 x11 x12 x13 x14 x15 x16 x17 x18 x19 r) 19 = x19.toNat := rfl
theorem h20_take (h : Nat) (hh : 20 ≤ h) : (H20 x0 x1 x2 x3 x4 x5 x6 x7 x8 x9 x10 x11 x12 x13 x14 x15 x16 x17 x18 x19 r).take h = H20 x0 x1 x2 x3 x4 x5 x6 x7 x8 x9 x10 x11 x12 x13 x14 x15 x16 x17 x18 x19 (r.take (h - 20)) := by
  obtain ⟨j, rfl⟩ : ∃ j, h = j + 20 := ⟨h - 20, by omega⟩
  simp [H20]
theorem h20_drop (h : Nat) (hh : 20 ≤ h) : (H20 x0 x1 x2 x3 x4 x5 x6 x7 x8 x9 x10 x11 x12 x13 x14 x15 x16 x17 x18 x19 r).drop h = r.drop (h - 20) := by
  obtain ⟨j, rfl⟩ : ∃ j, h = j + 20 := ⟨h - 20, by omega⟩
  simp [H20]
theorem h20_total : total (H20 x0 x1 x2 x3 x4 x5 x6 x7 x8 x9 x10 x11 x12 x13 x14 x15 x16 x17 x18 x19 r) = 256 * x0.toNat + x1.toNat + (256 * x2.toNat + x3.toNat) + (256 * x4.toNat + x5.toNat) + (256 * x6.toNat + x7.toNat) + (256 * x8.toNat + x9.toNat) + (256 * x10.toNat + x11.toNat) + (256 * x12.toNat + x13.toNat) + (256 * x14.toNat + x15.toNat) + (256 * x16.toNat + x17.toNat) + (256 * x18.toNat + x19.toNat) + total r := by
  simp only [H20, total]
  omega
end
end Go.Proofs.Ytmnemkeieaflhaa
/- append onto a row of bytes of the call's own, as one step of a walk. -/
namespace Go.Proofs.Ytmnemkeieaflhaa
set_option linter.unusedVariables false
set_option linter.unusedSimpArgs false
open Go.RowKit

theorem wpList_app (w₀ w : World) {ops : Array Oper} {rest : List Oper} {o : Oper} {a : Act} {Q : Exit → Act → World → Prop} (hgd : o.guard = none) (s x : Operand)
    (ho : o.op = .call { callee := .builtin .append, args := #[s, x], argTypes := #[36, 36] })
    (v u : Value) (l m : List UInt8) (hs : a.eval s = v) (hx : a.eval x = u) (hown : Own w w₀.heap.size v l) (hg : Grow w₀ w) (hr : Byt w u m) (hl : l.length + m.length ≤ 140737488355328)
    (h : ∀ v' w', Own w' w₀.heap.size v' (l ++ m) → Grow w₀ w' → wpList Try.prog ops Q rest (a.put o.dst v') w') : wpList Try.prog ops Q (o :: rest) a w := by
  have f2 : Hid ((m.map bv).length = m.length) := Lib.hid (by simp)
  have hb := hg.size
  refine wpList_append_rd _ hgd s x 36 ho w₀.heap.size 5 (.int .u8 0) 1 Try.underlying36 infoByte rfl v l.length m.length _ hs hown u _ hx hr f2 (bv_one _) (by omega) (by unfold maxLen; omega) hb ?_
  intro v' w' hown' hgr hat
  refine h v' w' ?_ (hg.grown hgr hb fun k hk => own_block hown k hk)
  unfold Own
  rw [List.length_append, List.map_append]
  exact hown'

theorem Own.base {w : World} {b b' : Nat} {v : Value} {l : List UInt8} (h : Own w b v l) (hb : b' ≤ b) : Own w b' v l := by
  obtain ⟨h1, h2⟩ := h
  refine ⟨h1, ?_⟩
  rcases h2 with h2 | ⟨g, cap, cur, e1, e2, r⟩
  · exact .inl h2
  · exact .inr ⟨g, cap, cur, e1, by omega, r⟩
theorem Own.empty (w : World) : Own (w.alloc (.cells #[] 5)) w.heap.size (.slice (some ⟨w.heap.size, 0, none⟩) 0 0) [] := Own.lit w #[] [] rfl (by unfold maxLen; simp)

theorem heap_setCell_own {w : World} {g k : Nat} {cs : Array Value} {t : TypeId} (h : w.heap[g]? = some (.cells cs t (0, 0))) (u : Value) : (w.setCell ⟨g, k, none⟩ u).heap[g]? = some (.cells (cs.setIfInBounds k u) t (0, 0)) := by
  simp [World.setCell, Array.getElem?_modify, h]
/-- A row of the call's own that is not empty: its block, its cells, and that they may be written. -/
theorem Own.row {w : World} {base : Nat} {v : Value} {l : List UInt8} (h : Own w base v l) (hl : 0 < l.length) : ∃ g cap, v = .slice (some ⟨g, 0, none⟩) l.length cap ∧ base ≤ g ∧ g < w.heap.size ∧ l.length ≤ cap ∧ cap ≤ maxLen ∧
    ∀ j (hj : j < l.length), w.cell? ⟨g, j, none⟩ = some (.int .u8 ((l[j]).toNat : Int)) ∧ w.frozen? ⟨g, j, none⟩ = false := by
  obtain ⟨h1, h2⟩ := h
  rcases h2 with ⟨_, hx⟩ | ⟨g, cap, cur, e1, e2, hh, hn, hm, hc, ht⟩
  · simp at hx; subst hx; simp at hl
  · have hlt : g < w.heap.size := (Array.getElem?_eq_some_iff.1 hh).1
    refine ⟨g, cap, e1, e2, hlt, hn, hm, fun j hj => ⟨?_, ?_⟩⟩
    · have e := congrArg (fun q => q[j]?) ht
      simp only [List.getElem?_take, List.getElem?_map, List.getElem?_eq_getElem hj, Option.map_some] at e
      rw [if_pos (by omega)] at e
      unfold World.cell?
      rw [hh]
      simp only [Array.getElem?_toList] at e
      simpa [bv] using e
    · unfold World.frozen?
      rw [hh]
      simp
theorem Own.set {w : World} {base g n cap : Nat} {l : List UInt8} (h : Own w base (.slice (some ⟨g, 0, none⟩) n cap) l) (k : Nat) (u : UInt8) (y : Int) (hy : y = (u.toNat : Int)) : Own (w.setCell ⟨g, k, none⟩ (.int .u8 y)) base (.slice (some ⟨g, 0, none⟩) n cap) (l.set k u) := by
  subst hy
  obtain ⟨h1, h2⟩ := h
  refine ⟨by simp, ?_⟩
  rcases h2 with ⟨e, _⟩ | ⟨g', cap', cur, e1, e2, hh, hn, hm, hc, ht⟩
  · cases e
  · cases e1
    refine .inr ⟨g, cap, _, by rw [List.length_set], e2, heap_setCell_own hh _, by rw [List.length_set]; exact hn, hm, by rw [Array.size_setIfInBounds]; exact hc, ?_⟩
    rw [List.length_set, Array.toList_setIfInBounds, List.take_set, ht, List.map_set]
    rfl

/-- The same, as one step of a region that draws its order. -/
theorem step_app (w₀ w : World) {ops : Array Oper} {o : Oper} {a : Act} {K : Act → World → Prop} {Q : Exit → Act → World → Prop} {E : Prop} (hgd : o.guard = none) (s x : Operand)
    (ho : o.op = .call { callee := .builtin .append, args := #[s, x], argTypes := #[36, 36] })
    (v u : Value) (l m : List UInt8) (hs : a.eval s = v) (hx : a.eval x = u) (hown : Own w w₀.heap.size v l) (hg : Grow w₀ w) (hr : Byt w u m) (hl : l.length + m.length ≤ 140737488355328)
    (h : ∀ v' w', Own w' w₀.heap.size v' (l ++ m) → Grow w₀ w' → K (a.put o.dst v') w') :
    if Region.wanted o (yielded ops a.tmps) = true then Oper.wp Try.prog o a w K Q else E := by
  have hw : Region.wanted o (yielded ops a.tmps) = true := by simp [Region.wanted, hgd]
  rw [if_pos hw]
  have f2 : (m.map bv).length = m.length := by simp
  have hb := hg.size
  have q : (l.map bv).length = l.length := by simp
  obtain ⟨v', w', hrun, h2, h3, h4⟩ := run_append_rd (P := Try.prog) w w₀.heap.size 36 o.type 5 (.int .u8 0) 1 Try.underlying36 infoByte rfl v (l.map bv) (by rw [q]; exact hown) u (m.map bv) hr (bv_one _) (by rw [q, f2]; omega) (by rw [q, f2]; unfold maxLen; omega) hb
  unfold Oper.wp execOp
  simp only [ho, resolve, invoke, builtin, Sem.run_bind, Sem.run_pure, Result.andThen_ok, List.map_toArray, List.map_cons, List.map_nil, hs, hx, hrun]
  refine h v' w' ?_ (hg.grown h3 hb fun k hk => own_block hown k hk)
  unfold Own
  rw [← List.map_append, List.length_map] at h2
  exact h2
end Go.Proofs.Ytmnemkeieaflhaa
