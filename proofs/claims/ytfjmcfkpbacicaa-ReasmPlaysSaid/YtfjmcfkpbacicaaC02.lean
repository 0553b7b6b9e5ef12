/- The sum with the carry brought round, in numbers: a list of bytes as words, their sum, and what it is modulo 65535. -/
import Derived.Test.YtfjmcfkpbacicaaC01
import Derived.Deep.RegionLaw
import Derived.Tactics
import Derived.Deep.DeepCutAuto
import Derived.Laws.CopyOwn
import Derived.RangeFuncNested
import Derived.RangeFuncBound
import Derived.RangeFuncCalls
import Derived.RangeFuncLeaves
import Derived.RangeFuncBox
import Derived.Shelf.Abstract
import Derived.Shelf.RegionOpen
import Derived.OwnWalkIn
import Derived.TacticsInMore
import Derived.LoopNIn
import Derived.LoopIn
import Derived.Deep.DeepFit
import Derived.Laws.Tables
namespace Go.Proofs.Ytfjmcfkpbacicaa

/-- The lowest 16 bits. -/
def low (n : Int) : Nat := (n % 65536).toNat
theorem low_lt (n : Int) : low n < 65536 := by unfold low; omega
theorem low_eq (n : Int) : (low n : Int) = n % 65536 := by unfold low; omega
theorem low_nat {n : Nat} (h : n < 65536) : low (n : Int) = n := by unfold low; omega

/-- Added, the carry brought round. -/
def addc (a b : Nat) : Nat := if a + b > 65535 then a + b - 65535 else a + b
theorem addc_le {a b : Nat} (h : a < 65536) (k : b < 65536) : addc a b < 65536 := by unfold addc; split <;> omega

/-- What any sum of words comes to. -/
def ocs (t : Nat) : Nat := if t = 0 then 0 else (t - 1) % 65535 + 1
theorem ocs_le (t : Nat) : ocs t < 65536 := by unfold ocs; split <;> omega
theorem ocs_self {t : Nat} (h : t < 65536) : ocs t = t := by unfold ocs; split <;> omega
theorem ocs_add (t w : Nat) (h : w < 65536) : addc (ocs t) w = ocs (t + w) := by
  unfold addc ocs
  by_cases h0 : t = 0
  · subst h0
    rw [if_pos rfl]
    simp only [Nat.zero_add]
    by_cases hw : w = 0
    · subst hw; rfl
    · rw [if_neg hw, if_neg (by omega)]; omega
  · rw [if_neg h0, if_neg (show ¬ t + w = 0 by omega)]
    split <;> omega
/-- A word replaced by its complement to 65535 with the sum, all comes to 65535. -/
theorem ocs_right (t : Nat) : ocs (t + (65535 - ocs t)) = 65535 := by
  unfold ocs
  by_cases h0 : t = 0
  · subst h0; simp
  · rw [if_neg h0, if_neg (show ¬ t + (65535 - ((t - 1) % 65535 + 1)) = 0 by omega)]
    omega
theorem ocs_turn (t was now : Nat) (hw : was ≤ t) (h1 : was < 65536) (h2 : now < 65536) :
    65535 - addc (addc (ocs t) (65535 - was)) now = 65535 - ocs (t - was + now) ∨
      ((65535 - addc (addc (ocs t) (65535 - was)) now) + (65535 - ocs (t - was + now)) = 65535 ∧ (65535 - addc (addc (ocs t) (65535 - was)) now) * (65535 - ocs (t - was + now)) = 0) := by
  rw [ocs_add _ _ (by omega), ocs_add _ _ h2]
  have e : t + (65535 - was) + now = (t - was + now) + 65535 := by omega
  rw [e]
  generalize t - was + now = u
  by_cases h0 : u = 0
  · subst h0; exact .inr ⟨by decide, by decide⟩
  · refine .inl ?_
    have e2 : ocs (u + 65535) = ocs u := by
      unfold ocs
      rw [if_neg h0, if_neg (by omega)]
      omega
    rw [e2]

/-- A word of the list. -/
def wordAt (l : List UInt8) (k : Nat) : Nat := 256 * (l[2 * k]?.getD 0).toNat + (l[2 * k + 1]?.getD 0).toNat
theorem wordAt_lt (l : List UInt8) (k : Nat) : wordAt l k < 65536 := by
  unfold wordAt
  have := (l[2 * k]?.getD 0).toNat_lt
  have := (l[2 * k + 1]?.getD 0).toNat_lt
  omega
/-- How many words. -/
def nwords (l : List UInt8) : Nat := (l.length + 1) / 2
theorem wordAt_two (l : List UInt8) (k : Nat) (h : 2 * k + 1 < l.length) : wordAt l k = 256 * (l[2 * k]).toNat + (l[2 * k + 1]).toNat := by
  unfold wordAt
  rw [List.getElem?_eq_getElem (by omega), List.getElem?_eq_getElem h]; rfl
theorem wordAt_one (l : List UInt8) (k : Nat) (h : 2 * k < l.length) (h2 : ¬ 2 * k + 1 < l.length) : wordAt l k = 256 * (l[2 * k]).toNat := by
  unfold wordAt
  rw [List.getElem?_eq_getElem h, List.getElem?_eq_none (by omega)]; rfl

/-- The words that came when k rounds are over. -/
def wup (l : List UInt8) (k : Nat) : List Nat := (List.range k).map (wordAt l)
theorem wup_succ (l : List UInt8) (k : Nat) : wup l (k + 1) = wup l k ++ [wordAt l k] := by simp [wup, List.range_succ]
theorem wup_length (l : List UInt8) (k : Nat) : (wup l k).length = k := by simp [wup]
def sumc (ws : List Nat) : Nat := ws.foldl addc 0
theorem sumc_snoc (ws : List Nat) (x : Nat) : sumc (ws ++ [x]) = addc (sumc ws) x := by simp [sumc]
theorem sumc_ocs : ∀ ws : List Nat, (∀ x ∈ ws, x < 65536) → sumc ws = ocs ws.sum := by
  intro ws
  suffices ∀ (ws : List Nat) (t : Nat), (∀ x ∈ ws, x < 65536) → ws.foldl addc (ocs t) = ocs (t + ws.sum) by
    intro h; have := this ws 0 h; simpa [sumc, ocs] using this
  intro ws
  induction ws with
  | nil => intro t _; simp
  | cons x r ih =>
    intro t h
    rw [List.foldl_cons, ocs_add _ _ (h x (by simp)), ih _ (fun y hy => h y (by simp [hy])), List.sum_cons, Nat.add_assoc]
theorem wup_lt (l : List UInt8) (k : Nat) : ∀ x ∈ wup l k, x < 65536 := by
  intro x hx
  simp only [wup, List.mem_map] at hx
  obtain ⟨j, _, rfl⟩ := hx
  exact wordAt_lt l j
theorem sumc_lt (l : List UInt8) (k : Nat) : sumc (wup l k) < 65536 := by rw [sumc_ocs _ (wup_lt l k)]; exact ocs_le _

/-- The number that bytes add up to. -/
def ones (l : List UInt8) : Nat := sumc (wup l (nwords l))
theorem ones_lt (l : List UInt8) : ones l < 65536 := sumc_lt _ _

/-- The words' plain sum. -/
def total : List UInt8 → Nat
  | [] => 0
  | [a] => 256 * a.toNat
  | a :: b :: r => 256 * a.toNat + b.toNat + total r
theorem wordAt_cons (a b : UInt8) (r : List UInt8) (k : Nat) : wordAt (a :: b :: r) (k + 1) = wordAt r k := by
  unfold wordAt
  have e1 : 2 * (k + 1) = 2 * k + 1 + 1 := by omega
  have e2 : 2 * (k + 1) + 1 = 2 * k + 1 + 1 + 1 := by omega
  rw [e2, e1]
  simp only [List.getElem?_cons_succ]
theorem wup_total : ∀ l : List UInt8, (wup l (nwords l)).sum = total l
  | [] => rfl
  | [a] => by simp [wup, nwords, wordAt, total, List.range_succ]
  | a :: b :: r => by
    have e : nwords (a :: b :: r) = nwords r + 1 := by simp only [nwords, List.length_cons]; omega
    have e0 : wordAt (a :: b :: r) 0 = 256 * a.toNat + b.toNat := rfl
    rw [e, wup, List.range_succ_eq_map, List.map_cons, List.map_map, List.sum_cons, e0, total]
    congr 1
    have := wup_total r
    rw [wup] at this
    rw [← this]
    congr 1
theorem ones_ocs (l : List UInt8) : ones l = ocs (total l) := by rw [ones, sumc_ocs _ (wup_lt l _), wup_total]
theorem total_append : ∀ (l m : List UInt8), l.length % 2 = 0 → total (l ++ m) = total l + total m
  | [], m, _ => by simp [total]
  | [a], m, h => by simp at h
  | a :: b :: r, m, h => by
    have := total_append r m (by simp only [List.length_cons] at h; omega)
    simp only [List.cons_append, total, this]; omega
theorem total_two (n : Nat) (h : n < 65536) : total (two (n : Int)) = n := by
  have := numOf_two n h
  simp only [two, numOf, List.foldl_cons, List.foldl_nil] at this
  simp only [two, total]
  omega

theorem and_low (n : Int) : bits .and .i64 n 65535 = (low n : Int) := by
  have h127 : (BitVec.ofInt 64 65535).toNat = 2 ^ 16 - 1 := by decide
  have key : (BitVec.ofInt 64 n &&& BitVec.ofInt 64 65535).toNat = (n % ((2 ^ 64 : Nat) : Int)).toNat % 2 ^ 16 := by
    rw [BitVec.toNat_and, BitVec.toNat_ofInt, h127, Nat.and_two_pow_sub_one_eq_mod]
  show IntKind.i64.wrap ((BitVec.ofInt 64 n &&& BitVec.ofInt 64 65535).toNat : Nat) = _
  rw [key, IntKind.wrap_i64, low_eq]
  omega
theorem or_word (N b : Nat) (hb : b < 256) (hN : N < 256) : bits .or .i64 (N * 256 : Int) (b : Int) = ((256 * N + b : Nat) : Int) := by
  show IntKind.i64.wrap ((BitVec.ofInt 64 (N * 256 : Int) ||| BitVec.ofInt 64 (b : Int)).toNat : Int) = _
  rw [show (N * 256 : Int) = ((N * 256 : Nat) : Int) from by omega, BitVec.toNat_or, ofInt_u64 _ (by omega), ofInt_u64 b (by omega)]
  have h := Nat.two_pow_add_eq_or_of_lt (i := 8) (b := b) (by simpa using hb) N
  rw [show N * 256 = 2 ^ 8 * N from by omega, ← h, IntKind.wrap_i64]
  omega
end Go.Proofs.Ytfjmcfkpbacicaa
/- Contracts: numbers added with the carry brought round, a check sum turned, and the sum of bytes as the document's own answer has it. -/
namespace Go.Proofs.Ytfjmcfkpbacicaa
set_option linter.unusedVariables false
set_option linter.unusedSimpArgs false
open Go.ChangeShapes Go.WideShapes Go.ChangeAt Go.RowKit

attribute [local go_sem] and_low

/-- A check sum, turned. -/
def turn (a b c : Int) : Nat := 65535 - addc (addc (65535 - low a) (65535 - low b)) (low c)
theorem low_wrap (n : Int) : low (wrap64 n) = low n := by unfold low wrap64; omega
theorem low_sub (n : Int) : low (65535 - n) = 65535 - low n := by unfold low; omega
theorem turn_lt (a b c : Int) : turn a b c < 65536 := by unfold turn; omega
attribute [local go_sem] low_wrap low_sub

theorem ones_all {l : List UInt8} {k : Nat} (h1 : k ≤ nwords l) (h2 : ¬ 2 * k < l.length) : sumc (wup l k) = ones l := by
  have : k = nwords l := by unfold nwords at *; omega
  rw [this]; rfl

end Go.Proofs.Ytfjmcfkpbacicaa
/- Packets and bytes, in numbers: what is written, what is read, and that the one undoes the other. -/
namespace Go.Proofs.Ytfjmcfkpbacicaa
set_option linter.unusedVariables false
set_option linter.unusedSimpArgs false

/-- A byte of the list, as a number; two of them. -/
def byt (l : List UInt8) (i : Nat) : Nat := (l[i]?.getD 0).toNat
def num (l : List UInt8) (i : Nat) : Nat := 256 * byt l i + byt l (i + 1)
theorem byt_lt (l : List UInt8) (i : Nat) : byt l i < 256 := (l[i]?.getD 0).toNat_lt
theorem num_lt (l : List UInt8) (i : Nat) : num l i < 65536 := by
  have := byt_lt l i
  have := byt_lt l (i + 1)
  unfold num
  omega
theorem byt_at {l : List UInt8} {i : Nat} (h : i < l.length) : l[i].toNat = byt l i := by unfold byt; simp [h]

def Pkt.pre (k : Pkt) : List UInt8 := [UInt8.ofNat (69 + k.opts.length / 4), UInt8.ofNat k.tos] ++ two (k.len : Nat) ++ two (k.ident : Nat) ++ two (k.off + k.flag) ++ [UInt8.ofNat k.ttl, UInt8.ofNat k.proto]
def Pkt.post (k : Pkt) : List UInt8 := dig k.src 4 ++ dig k.dst 4 ++ k.opts
def Pkt.bare (k : Pkt) : List UInt8 := k.pre ++ [0, 0] ++ k.post
def Pkt.csum (k : Pkt) : Nat := 65535 - ones k.bare
def Pkt.head (k : Pkt) : List UInt8 := k.pre ++ two (k.csum : Nat) ++ k.post
def Pkt.bytes (k : Pkt) : List UInt8 := k.head ++ k.data
theorem pre_length (k : Pkt) : k.pre.length = 10 := by simp [Pkt.pre, two]
theorem post_length (k : Pkt) : k.post.length = 8 + k.opts.length := by simp [Pkt.post, dig_length]; omega
theorem bare_length (k : Pkt) : k.bare.length = 20 + k.opts.length := by simp [Pkt.bare, pre_length, post_length]; omega
theorem head_length (k : Pkt) : k.head.length = 20 + k.opts.length := by simp [Pkt.head, pre_length, post_length, two_length]; omega
theorem bytes_length (k : Pkt) : k.bytes.length = k.len := by rw [Pkt.bytes, List.length_append, head_length, Pkt.len]

/-- The header's bytes, by its first byte; the error; the packet. -/
def hdr (l : List UInt8) : Nat := 4 * (byt l 0 - 64)
def mcode (l : List UInt8) : Int :=
  if l.length < 20 then 2 else if byt l 0 < 69 ∨ 79 < byt l 0 then 3 else if l.length < hdr l then 2 else if ones (l.take (hdr l)) ≠ 65535 then 4
  else if num l 2 < hdr l ∨ 128 ≤ byt l 6 then 3 else if l.length < num l 2 then 2 else 0
def got (l : List UInt8) : Pkt where
  tos := byt l 1
  ident := num l 4
  whole := decide (byt l 6 / 64 % 2 = 1)
  more := decide (byt l 6 / 32 % 2 = 1)
  off := ((num l 6 % 8192 : Nat) : Int)
  ttl := byt l 8
  proto := byt l 9
  src := 65536 * num l 12 + num l 14
  dst := 65536 * num l 16 + num l 18
  opts := (l.take (hdr l)).drop 20
  data := (l.take (num l 2)).drop (hdr l)
def zeroP : Pkt := ⟨0, 0, false, false, 0, 0, 0, 0, 0, [], []⟩
theorem zero_ok : zeroP.Ok := ⟨by decide, by decide, by decide, by decide, by decide, by decide, by decide, by decide⟩
theorem got_ok (l : List UInt8) : (got l).Ok := by
  have := num_lt l 6
  have := num_lt l 12
  have := num_lt l 14
  have := num_lt l 16
  have := num_lt l 18
  refine ⟨byt_lt l 1, num_lt l 4, ?_, ?_, byt_lt l 8, byt_lt l 9, ?_, ?_⟩ <;> simp only [got] <;> omega
def res (l : List UInt8) : Pkt := if mcode l = 0 then got l else zeroP
theorem res_ok (l : List UInt8) : (res l).Ok := by
  unfold res
  split
  · exact got_ok l
  · exact zero_ok

/-- What is known where a list is a packet. -/
structure Good (l : List UInt8) : Prop where
  len : 20 ≤ l.length
  first1 : 69 ≤ byt l 0
  first2 : byt l 0 ≤ 79
  hdr : hdr l ≤ l.length
  right : ones (l.take (Go.Proofs.Ytfjmcfkpbacicaa.hdr l)) = 65535
  all1 : Go.Proofs.Ytfjmcfkpbacicaa.hdr l ≤ num l 2
  high : byt l 6 < 128
  all2 : num l 2 ≤ l.length
theorem good_iff (l : List UInt8) : mcode l = 0 ↔ Good l := by
  unfold mcode
  constructor
  · intro h
    by_cases h1 : l.length < 20
    · rw [if_pos h1] at h; cases h
    rw [if_neg h1] at h
    by_cases h2 : byt l 0 < 69 ∨ 79 < byt l 0
    · rw [if_pos h2] at h; cases h
    rw [if_neg h2] at h
    by_cases h3 : l.length < hdr l
    · rw [if_pos h3] at h; cases h
    rw [if_neg h3] at h
    by_cases h4 : ones (l.take (hdr l)) ≠ 65535
    · rw [if_pos h4] at h; cases h
    rw [if_neg h4] at h
    by_cases h5 : num l 2 < hdr l ∨ 128 ≤ byt l 6
    · rw [if_pos h5] at h; cases h
    rw [if_neg h5] at h
    by_cases h6 : l.length < num l 2
    · rw [if_pos h6] at h; cases h
    exact ⟨by omega, by omega, by omega, by omega, by omega, by omega, by omega, by omega⟩
  · rintro ⟨h1, h2, h3, h4, h5, h6, h7, h8⟩
    rw [if_neg (by omega), if_neg (by omega), if_neg (by omega), if_neg (by omega), if_neg (by omega), if_neg (by omega)]

/-- Twenty bytes and what is behind them. -/
def H20 (x0 x1 x2 x3 x4 x5 x6 x7 x8 x9 x10 x11 x12 x13 x14 x15 x16 x17 x18 x19 : UInt8) (r : List UInt8) : List UInt8 :=
  x0 :: x1 :: x2 :: x3 :: x4 :: x5 :: x6 :: x7 :: x8 :: x9 :: x10 :: x11 :: x12 :: x13 :: x14 :: x15 :: x16 :: x17 :: x18 :: x19 :: r
theorem cons_of {l : List UInt8} {n : Nat} (h : n + 1 ≤ l.length) : ∃ x r, l = x :: r ∧ n ≤ r.length := by
  cases l with
  | nil => simp at h
  | cons x r => exact ⟨x, r, rfl, by simpa using h⟩
theorem h20 {l : List UInt8} (h : 20 ≤ l.length) : ∃ x0 x1 x2 x3 x4 x5 x6 x7 x8 x9 x10 x11 x12 x13 x14 x15 x16 x17 x18 x19 r, l = H20 x0 x1 x2 x3 x4 x5 x6 x7 x8 x9 x10 x11 x12 x13 x14 x15 x16 x17 x18 x19 r := by
  obtain ⟨x0, l0, rfl, h0⟩ := cons_of h
  obtain ⟨x1, l1, rfl, h1⟩ := cons_of h0
  obtain ⟨x2, l2, rfl, h2⟩ := cons_of h1
  obtain ⟨x3, l3, rfl, h3⟩ := cons_of h2
  obtain ⟨x4, l4, rfl, h4⟩ := cons_of h3
  obtain ⟨x5, l5, rfl, h5⟩ := cons_of h4
  obtain ⟨x6, l6, rfl, h6⟩ := cons_of h5
  obtain ⟨x7, l7, rfl, h7⟩ := cons_of h6
  obtain ⟨x8, l8, rfl, h8⟩ := cons_of h7
  obtain ⟨x9, l9, rfl, h9⟩ := cons_of h8
  obtain ⟨x10, l10, rfl, h10⟩ := cons_of h9
  obtain ⟨x11, l11, rfl, h11⟩ := cons_of h10
  obtain ⟨x12, l12, rfl, h12⟩ := cons_of h11
  obtain ⟨x13, l13, rfl, h13⟩ := cons_of h12
  obtain ⟨x14, l14, rfl, h14⟩ := cons_of h13
  obtain ⟨x15, l15, rfl, h15⟩ := cons_of h14
  obtain ⟨x16, l16, rfl, h16⟩ := cons_of h15
  obtain ⟨x17, l17, rfl, h17⟩ := cons_of h16
  obtain ⟨x18, l18, rfl, h18⟩ := cons_of h17
  obtain ⟨x19, r, rfl, h19⟩ := cons_of h18
  exact ⟨x0, x1, x2, x3, x4, x5, x6, x7, x8, x9, x10, x11, x12, x13, x14, x15, x16, x17, x18, x19, r, rfl⟩

section
variable (x0 x1 x2 x3 x4 x5 x6 x7 x8 x9 x10 x11 x12 x13 x14 x15 x16 x17 x18 x19 : UInt8) (r : List UInt8)
theorem h20_length : (H20 x0 x1 x2 x3 x4 x5 x6 x7 x8 x9 x10 x11 x12 x13 x14 x15 x16 x17 x18 x19 r).length = 20 + r.length := by simp [H20]; omega
theorem byt0 : byt (H20 x0 x1 x2 x3 x4 x5 x6 x7 x8 x9 x10 x11 x12 x13 x14 x15 x16 x17 x18 x19 r) 0 = x0.toNat := rfl
theorem byt1 : byt (H20 x0 x1 x2 x3 x4 x5 x6 x7 x8 x9 x10 x11 x12 x13 x14 x15 x16 x17 x18 x19 r) 1 = x1.toNat := rfl
theorem byt2 : byt (H20 x0 x1 x2 x3 x4 x5 x6 x7 x8 x9 x10 x11 x12 x13 x14 x15 x16 x17 x18 x19 r) 2 = x2.toNat := rfl
theorem byt3 : byt (H20 x0 x1 x2 x3 x4 x5 x6 x7 x8 x9 x10 x11 x12 x13 x14 x15 x16 x17 x18 x19 r) 3 = x3.toNat := rfl
theorem byt4 : byt (H20 x0 x1 x2 x3 x4 x5 x6 x7 x8 x9 x10 x11 x12 x13 x14 x15 x16 x17 x18 x19 r) 4 = x4.toNat := rfl
theorem byt5 : byt (H20 x0 x1 x2 x3 x4 x5 x6 x7 x8 x9 x10 x11 x12 x13 x14 x15 x16 x17 x18 x19 r) 5 = x5.toNat := rfl
theorem byt6 : byt (H20 x0 x1 x2 x3 x4 x5 x6 x7 x8 x9 x10 x11 x12 x13 x14 x15 x16 x17 x18 x19 r) 6 = x6.toNat := rfl
theorem byt7 : byt (H20 x0 x1 x2 x3 x4 x5 x6 x7 x8 x9 x10 x11 x12 x13 x14 x15 x16 x17 x18 x19 r) 7 = x7.toNat := rfl
theorem byt8 : byt (H20 x0 x1 x2 x3 x4 x5 x6 x7 x8 x9 x10 x11 x12 x13 x14 x15 x16 x17 x18 x19 r) 8 = x8.toNat := rfl
theorem byt9 : byt (H20 x0 x1 x2 x3 x4 x5 x6 x7 x8 x9 x10 x11 x12 x13 x14 x15 x16 x17 x18 x19 r) 9 = x9.toNat := rfl
theorem byt10 : byt (H20 x0 x1 x2 x3 x4 x5 x6 x7 x8 x9 x10 x11 x12 x13 x14 x15 x16 x17 x18 x19 r) 10 = x10.toNat := rfl
theorem byt11 : byt (H20 x0 x1 x2 x3 x4 x5 x6 x7 x8 x9 x10 x11 x12 x13 x14 x15 x16 x17 x18 x19 r) 11 = x11.toNat := rfl
theorem byt12 : byt (H20 x0 x1 x2 x3 x4 x5 x6 x7 x8 x9 x10 x11 x12 x13 x14 x15 x16 x17 x18 x19 r) 12 = x12.toNat := rfl
theorem byt13 : byt (H20 x0 x1 x2 x3 x4 x5 x6 x7 x8 x9 x10 x11 x12 x13 x14 x15 x16 x17 x18 x19 r) 13 = x13.toNat := rfl
theorem byt14 : byt (H20 x0 x1 x2 x3 x4 x5 x6 x7 x8 x9 x10 x11 x12 x13 x14 x15 x16 x17 x18 x19 r) 14 = x14.toNat := rfl
theorem byt15 : byt (H20 x0 x1 x2 x3 x4 x5 x6 x7 x8 x9 x10 x11 x12 x13 x14 x15 x16 x17 x18 x19 r) 15 = x15.toNat := rfl
theorem byt16 : byt (H20 x0 x1 x2 x3 x4 x5 x6 x7 x8 x9 x10 x11 x12 x13 x14 x15 x16 x17 x18 x19 r) 16 = x16.toNat := rfl
theorem byt17 : byt (H20 x0 x1 x2 x3 x4 x5 x6 x7 x8 x9 x10 x11 x12 x13 x14 x15 x16 x17 x18 x19 r) 17 = x17.toNat := rfl
theorem byt18 : byt (H20 x0 x1 x2 x3 x4 x5 x6 x7 x8 x9 x10 x11 x12 x13 x14 x15 x16 x17 x18 x19 r) 18 = x18.toNat := rfl
theorem byt19 : byt (H20 x0 x1 x2 x3 x4 x5 x6 x7 x8 x9 x10 x11 x12 x13 x14 x15 x16 x17 x18 x19 r) 19 = x19.toNat := rfl
theorem h20_take (h : Nat) (hh : 20 ≤ h) : (H20 x0 x1 x2 x3 x4 x5 x6 x7 x8 x9 x10 x11 x12 x13 x14 x15 x16 x17 x18 x19 r).take h = H20 x0 x1 x2 x3 x4 x5 x6 x7 x8 x9 x10 x11 x12 x13 x14 x15 x16 x17 x18 x19 (r.take (h - 20)) := by
  obtain ⟨j, rfl⟩ : ∃ j, h = j + 20 := ⟨h - 20, by omega⟩
  simp [H20]
theorem h20_drop (h : Nat) (hh : 20 ≤ h) : (H20 x0 x1 x2 x3 x4 x5 x6 x7 x8 x9 x10 x11 x12 x13 x14 x15 x16 x17 x18 x19 r).drop h = r.drop (h - 20) := by
  obtain ⟨j, rfl⟩ : ∃ j, h = j + 20 := ⟨h - 20, by omega⟩
  simp [H20]
theorem h20_total : total (H20 x0 x1 x2 x3 x4 x5 x6 x7 x8 x9 x10 x11 x12 x13 x14 x15 x16 x17 x18 x19 r) = 256 * x0.toNat + x1.toNat + (256 * x2.toNat + x3.toNat) + (256 * x4.toNat + x5.toNat) + (256 * x6.toNat + x7.toNat) + (256 * x8.toNat + x9.toNat) + (256 * x10.toNat + x11.toNat) + (256 * x12.toNat + x13.toNat) + (256 * x14.toNat + x15.toNat) + (256 * x16.toNat + x17.toNat) + (256 * x18.toNat + x19.toNat) + total r := by
  simp only [H20, total]
  omega
end
end Go.Proofs.Ytfjmcfkpbacicaa
/- append onto a row of bytes of the call's own, as one step of a walk. -/
namespace Go.Proofs.Ytfjmcfkpbacicaa
set_option linter.unusedVariables false
set_option linter.unusedSimpArgs false
open Go.RowKit

theorem wpList_app (w₀ w : World) {ops : Array Oper} {rest : List Oper} {o : Oper} {a : Act} {Q : Exit → Act → World → Prop} (hgd : o.guard = none) (s x : Operand)
    (ho : o.op = .call { callee := .builtin .append, args := #[s, x], argTypes := #[36, 36] })
    (v u : Value) (l m : List UInt8) (hs : a.eval s = v) (hx : a.eval x = u) (hown : Own w w₀.heap.size v l) (hg : Grow w₀ w) (hr : Byt w u m) (hl : l.length + m.length ≤ 140737488355328)
    (h : ∀ v' w', Own w' w₀.heap.size v' (l ++ m) → Grow w₀ w' → wpList Try.prog ops Q rest (a.put o.dst v') w') : wpList Try.prog ops Q (o :: rest) a w := by
  have f2 : Hid ((m.map bv).length = m.length) := Lib.hid (by simp)
  have hb := hg.size
  refine wpList_append_rd _ hgd s x 36 ho w₀.heap.size 5 (.int .u8 0) 1 Try.underlying36 infoByte rfl v l.length m.length _ hs hown u _ hx hr f2 (bv_one _) (by omega) (by unfold maxLen; omega) hb ?_
  intro v' w' hown' hgr hat
  refine h v' w' ?_ (hg.grown hgr hb fun k hk => own_block hown k hk)
  unfold Own
  rw [List.length_append, List.map_append]
  exact hown'

theorem Own.base {w : World} {b b' : Nat} {v : Value} {l : List UInt8} (h : Own w b v l) (hb : b' ≤ b) : Own w b' v l := by
  obtain ⟨h1, h2⟩ := h
  refine ⟨h1, ?_⟩
  rcases h2 with h2 | ⟨g, cap, cur, e1, e2, r⟩
  · exact .inl h2
  · exact .inr ⟨g, cap, cur, e1, by omega, r⟩
theorem Own.empty (w : World) : Own (w.alloc (.cells #[] 5)) w.heap.size (.slice (some ⟨w.heap.size, 0, none⟩) 0 0) [] := Own.lit w #[] [] rfl (by unfold maxLen; simp)

theorem heap_setCell_own {w : World} {g k : Nat} {cs : Array Value} {t : TypeId} (h : w.heap[g]? = some (.cells cs t (0, 0))) (u : Value) : (w.setCell ⟨g, k, none⟩ u).heap[g]? = some (.cells (cs.setIfInBounds k u) t (0, 0)) := by
  simp [World.setCell, Array.getElem?_modify, h]
/-- A row of the call's own that is not empty: its block, its cells, and that they may be written. -/
theorem Own.row {w : World} {base : Nat} {v : Value} {l : List UInt8} (h : Own w base v l) (hl : 0 < l.length) : ∃ g cap, v = .slice (some ⟨g, 0, none⟩) l.length cap ∧ base ≤ g ∧ g < w.heap.size ∧ l.length ≤ cap ∧ cap ≤ maxLen ∧
    ∀ j (hj : j < l.length), w.cell? ⟨g, j, none⟩ = some (.int .u8 ((l[j]).toNat : Int)) ∧ w.frozen? ⟨g, j, none⟩ = false := by
  obtain ⟨h1, h2⟩ := h
  rcases h2 with ⟨_, hx⟩ | ⟨g, cap, cur, e1, e2, hh, hn, hm, hc, ht⟩
  · simp at hx; subst hx; simp at hl
  · have hlt : g < w.heap.size := (Array.getElem?_eq_some_iff.1 hh).1
    refine ⟨g, cap, e1, e2, hlt, hn, hm, fun j hj => ⟨?_, ?_⟩⟩
    · have e := congrArg (fun q => q[j]?) ht
      simp only [List.getElem?_take, List.getElem?_map, List.getElem?_eq_getElem hj, Option.map_some] at e
      rw [if_pos (by omega)] at e
      unfold World.cell?
      rw [hh]
      simp only [Array.getElem?_toList] at e
      simpa [bv] using e
    · unfold World.frozen?
      rw [hh]
      simp
theorem Own.set {w : World} {base g n cap : Nat} {l : List UInt8} (h : Own w base (.slice (some ⟨g, 0, none⟩) n cap) l) (k : Nat) (u : UInt8) (y : Int) (hy : y = (u.toNat : Int)) : Own (w.setCell ⟨g, k, none⟩ (.int .u8 y)) base (.slice (some ⟨g, 0, none⟩) n cap) (l.set k u) := by
  subst hy
  obtain ⟨h1, h2⟩ := h
  refine ⟨by simp, ?_⟩
  rcases h2 with ⟨e, _⟩ | ⟨g', cap', cur, e1, e2, hh, hn, hm, hc, ht⟩
  · cases e
  · cases e1
    refine .inr ⟨g, cap, _, by rw [List.length_set], e2, heap_setCell_own hh _, by rw [List.length_set]; exact hn, hm, by rw [Array.size_setIfInBounds]; exact hc, ?_⟩
    rw [List.length_set, Array.toList_setIfInBounds, List.take_set, ht, List.map_set]
    rfl

/-- The same, as one step of a region that draws its order. -/
theorem step_app (w₀ w : World) {ops : Array Oper} {o : Oper} {a : Act} {K : Act → World → Prop} {Q : Exit → Act → World → Prop} {E : Prop} (hgd : o.guard = none) (s x : Operand)
    (ho : o.op = .call { callee := .builtin .append, args := #[s, x], argTypes := #[36, 36] })
    (v u : Value) (l m : List UInt8) (hs : a.eval s = v) (hx : a.eval x = u) (hown : Own w w₀.heap.size v l) (hg : Grow w₀ w) (hr : Byt w u m) (hl : l.length + m.length ≤ 140737488355328)
    (h : ∀ v' w', Own w' w₀.heap.size v' (l ++ m) → Grow w₀ w' → K (a.put o.dst v') w') :
    if Region.wanted o (yielded ops a.tmps) = true then Oper.wp Try.prog o a w K Q else E := by
  have hw : Region.wanted o (yielded ops a.tmps) = true := by simp [Region.wanted, hgd]
  rw [if_pos hw]
  have f2 : (m.map bv).length = m.length := by simp
  have hb := hg.size
  have q : (l.map bv).length = l.length := by simp
  obtain ⟨v', w', hrun, h2, h3, h4⟩ := run_append_rd (P := Try.prog) w w₀.heap.size 36 o.type 5 (.int .u8 0) 1 Try.underlying36 infoByte rfl v (l.map bv) (by rw [q]; exact hown) u (m.map bv) hr (bv_one _) (by rw [q, f2]; omega) (by rw [q, f2]; unfold maxLen; omega) hb
  unfold Oper.wp execOp
  simp only [ho, resolve, invoke, builtin, Sem.run_bind, Sem.run_pure, Result.andThen_ok, List.map_toArray, List.map_cons, List.map_nil, hs, hx, hrun]
  refine h v' w' ?_ (hg.grown h3 hb fun k hk => own_block hown k hk)
  unfold Own
  rw [← List.map_append, List.length_map] at h2
  exact h2
end Go.Proofs.Ytfjmcfkpbacicaa
/- A REGION THAT DRAWS ITS ORDER AND THEN GOES ON IN THE TEXT's ORDER: its first m operations by facts that stay (Loose), in whatever order; the others wait for them and for one another (the phase of the stores), and are walked as any list of operations. Nothing here is trusted. -/
namespace Go.Proofs.Ytfjmcfkpbacicaa
set_option linter.unusedVariables false
open Go.RowKit

section
variable {P : Program} {ops : Array Oper} {Q : Exit → Act → World → Prop} {md : Region.Mode}

/-- Of the first m each is waited for by a later one, up to the one at m; from there on each waits for the one ahead of it. -/
def phaseOk (md : Region.Mode) (ops : Array Oper) (m : Nat) : Bool :=
  decide (m < ops.size) && ((List.range m).all fun j => ops.toList.zipIdx.any fun (o, i) => decide (j < i) && decide (i ≤ m) && (bindsOn md o).contains j) &&
  (ops.toList.zipIdx.all fun (o, i) => decide (i ≤ m) || (bindsOn md o).contains (i - 1))

theorem phase_lt {m : Nat} (h : phaseOk md ops m = true) : m < ops.size := by
  unfold phaseOk at h
  simp only [Bool.and_eq_true, decide_eq_true_eq] at h
  exact h.1.1
theorem phase_at {m : Nat} (h : phaseOk md ops m = true) {j : Nat} (hj : j < m) : ∃ i o, ops[i]? = some o ∧ j < i ∧ i ≤ m ∧ j ∈ bindsOn md o := by
  unfold phaseOk at h
  simp only [Bool.and_eq_true] at h
  have h1 := List.all_eq_true.1 h.1.2 j (List.mem_range.2 hj)
  rw [List.any_eq_true] at h1
  obtain ⟨⟨o, i⟩, hm, hc⟩ := h1
  rw [List.mem_zipIdx_iff_getElem?] at hm
  simp only [Bool.and_eq_true, decide_eq_true_eq, List.contains_iff_mem] at hc
  exact ⟨i, o, by simpa using hm, hc.1.1, hc.1.2, hc.2⟩
theorem phase_seq {m : Nat} (h : phaseOk md ops m = true) {i : Nat} {o : Oper} (ho : ops[i]? = some o) (hi : m < i) : i - 1 ∈ bindsOn md o := by
  unfold phaseOk at h
  simp only [Bool.and_eq_true] at h
  have h1 := List.all_eq_true.1 h.2 (o, i) (by rw [List.mem_zipIdx_iff_getElem?]; simpa using ho)
  simp only [Bool.or_eq_true, decide_eq_true_eq, List.contains_iff_mem] at h1
  exact h1.resolve_left (by omega)

theorem dep_listed {listed : Array Bool} {o : Oper} (hall : ∀ e ∈ o.after, Region.binds md e = true → listed.getD e.on false = true) : ∀ j ∈ bindsOn md o, listed.getD j true = true ∧ j < listed.size := by
  intro j hj
  unfold bindsOn at hj
  obtain ⟨e, he, rfl⟩ := List.mem_map.1 hj
  obtain ⟨he1, he2⟩ := List.mem_filter.1 he
  have h1 := hall e (by simpa using he1) he2
  have hs' : e.on < listed.size := by
    rcases Nat.lt_or_ge e.on listed.size with h' | h'
    · exact h'
    · simp [Array.getElem?_eq_none h'] at h1
  exact ⟨by simpa [hs'] using h1, hs'⟩

/-- All up to k have come, no other: the rest comes in the text's order. -/
theorem wpAny_seq {m size : Nat} (hk : looseOk md ops size = true) (hp : phaseOk md ops m = true) : ∀ (fuel : Nat) (listed : Array Bool) (k : Nat) (a : Act) (w : World), m ≤ k → k ≤ ops.size → ops.size - k ≤ fuel → listed.size = ops.size →
    (∀ j, j < ops.size → listed.getD j true = decide (j < k)) → wpList P ops Q (ops.toList.drop k) a w → wpAny P md ops Q fuel listed a w := by
  intro fuel
  induction fuel with
  | zero =>
    intro listed k a w hmk hkm hf hsz hl h
    obtain rfl : k = ops.size := by omega
    refine ⟨?_, ?_⟩
    · rw [List.eq_nil_iff_forall_not_mem]
      intro j hj
      obtain ⟨h0, o, ho, _⟩ := mem_ready.1 hj
      have hj := (Array.getElem?_eq_some_iff.1 ho).1
      rw [hl j hj] at h0
      simp [hj] at h0
    · rw [List.drop_of_length_le (by simp)] at h
      exact h
  | succ fuel ih =>
    intro listed k a w hmk hkm hf hsz hl h
    rcases Nat.lt_or_ge k ops.size with hlt | hge
    · have hdrop : ops.toList.drop k = ops[k] :: ops.toList.drop (k + 1) := by
        rw [List.drop_eq_getElem_cons (by simpa using hlt)]
        simp
      rw [hdrop] at h
      have hset : ∀ j, j < ops.size → (listed.setIfInBounds k true).getD j true = decide (j < k + 1) := fun j hj => by
        by_cases e : j = k
        · subst e
          have : j < listed.size := by omega
          simp [this]
        · rw [getD_set_ne true (Ne.symm e), hl j hj]
          by_cases h' : j < k
          · rw [decide_eq_true h', decide_eq_true (by omega)]
          · rw [decide_eq_false h', decide_eq_false (by omega)]
      have next : ∀ a w, wpList P ops Q (ops.toList.drop (k + 1)) a w → wpAny P md ops Q fuel (listed.setIfInBounds k true) a w := fun a w h' =>
        ih _ (k + 1) a w (by omega) (by omega) (by omega) (by simpa using hsz) hset h'
      refine ⟨fun hr => ?_, fun i hi => ?_⟩
      · exfalso
        have h1 := all_listed hk hr k hlt
        rw [hl k hlt] at h1
        simp at h1
      · obtain ⟨h0, o, ho, hall⟩ := mem_ready.1 hi
        have hilt : i < ops.size := (Array.getElem?_eq_some_iff.1 ho).1
        have hik : k ≤ i := by
          rw [hl i hilt] at h0
          simpa using h0
        have : i = k := by
          rcases Nat.lt_or_ge k i with h' | h'
          · have hd := (dep_listed hall _ (phase_seq hp ho (by omega))).1
            rw [hl (i - 1) (by omega)] at hd
            simp at hd
            omega
          · omega
        subst this
        unfold wpOp
        rw [ho]
        rw [show ops[i] = o from by rw [Array.getElem?_eq_getElem hilt] at ho; exact Option.some.inj ho] at h
        simp only [wpList] at h
        show if Region.wanted o (yielded ops a.tmps) = true then _ else _
        split
        · rename_i hw
          rw [if_pos hw] at h
          exact h.imp (Oper.wp_mono next) id
        · rename_i hw
          rw [if_neg hw] at h
          exact next _ _ h
    · obtain rfl : k = ops.size := by omega
      rw [List.drop_of_length_le (by simp)] at h
      refine ⟨fun _ => h, fun i hi => ?_⟩
      obtain ⟨h0, o, ho, _⟩ := mem_ready.1 hi
      have hilt := (Array.getElem?_eq_some_iff.1 ho).1
      rw [hl i hilt] at h0
      simp [hilt] at h0

theorem wpAny_phase {a₀ : Act} {w₀ : World} {F : Nat → Value → World → Prop} {m : Nat} (hp : phaseOk md ops m = true) (hk : looseOk md ops a₀.tmps.size = true)
    (hF : ∀ i v w w', Grow w w' → F i v w → F i v w') (hs : looseSteps P md ops (fun x => fillAct x (ops.toList.take m) a₀) w₀ F 0 (ops.toList.take m))
    (fin : ∀ (x : Tmp → Value) (w : World), Grow w₀ w → (∀ (j : Nat) o', j < m → ops[j]? = some o' → F j (leftBy x o') w) → wpList P ops Q (ops.toList.drop m) (fillAct x (ops.toList.take m) a₀) w) :
    ∀ (fuel : Nat) (listed : Array Bool) (x : Tmp → Value) (w : World), unl listed ops.size ≤ fuel → ops.size - m ≤ fuel → listed.size = ops.size → Grow w₀ w →
      (∀ j, m ≤ j → j < ops.size → listed.getD j true = false) → (∀ (i : Nat) o, ops[i]? = some o → listed.getD i true = true → ∀ j ∈ bindsOn md o, listed.getD j true = true) →
      (∀ i o, ops[i]? = some o → listed.getD i true = true → F i (leftBy x o) w) → wpAny P md ops Q fuel listed (fillAct x (ops.toList.take m) a₀) w := by
  have hlt := phase_lt hp
  intro fuel
  induction fuel with
  | zero =>
    intro listed x w hu hf hsz hg hm0 hcl hf'
    have h1 := unl_zero listed ops.size (by omega) m (by omega)
    rw [hm0 m (Nat.le_refl _) hlt] at h1
    cases h1
  | succ fuel ih =>
    intro listed x w hu hfu hsz hg hm0 hcl hf
    by_cases hall0 : ∀ j, j < m → listed.getD j true = true
    · refine wpAny_seq hk hp (fuel + 1) listed m _ w (Nat.le_refl _) (by omega) (by omega) hsz (fun j hj => ?_) (fin x w hg fun j o' hj ho' => hf j o' ho' (hall0 j hj))
      by_cases h' : j < m
      · rw [hall0 j h', decide_eq_true h']
      · rw [hm0 j (by omega) hj, decide_eq_false h']
    · have hfuel : ops.size - m ≤ fuel := by
        have h1 : ∀ (n : Nat), n ≤ ops.size → n - m ≤ unl listed n := by
          intro n
          induction n with
          | zero => intro _; simp
          | succ n ihn =>
            intro hn
            have := ihn (by omega)
            simp only [unl]
            by_cases h' : m ≤ n
            · rw [if_neg (by rw [hm0 n h' (by omega)]; simp)]
              omega
            · split <;> omega
        have h2 : ∃ j, j < m ∧ listed.getD j true = false := by
          rcases Classical.not_forall.1 hall0 with ⟨j, hj⟩
          rcases Classical.not_imp.1 hj with ⟨h3, h4⟩
          exact ⟨j, h3, by simpa using h4⟩
        obtain ⟨j, hj, hjl⟩ := h2
        have h3 : ∀ (n : Nat), n ≤ ops.size → j < n → n - m + 1 ≤ unl listed n := by
          intro n
          induction n with
          | zero => intro _ h; omega
          | succ n ihn =>
            intro hn hjn
            simp only [unl]
            by_cases e : j = n
            · subst e
              have := h1 j (by omega)
              rw [if_neg (by rw [hjl]; simp)]
              omega
            · have := ihn (by omega) (by omega)
              by_cases h' : m ≤ n
              · rw [if_neg (by rw [hm0 n h' (by omega)]; simp)]
                omega
              · split <;> omega
        have := h3 ops.size (Nat.le_refl _) (by omega)
        omega
      refine ⟨fun hr => ?_, fun i hi => ?_⟩
      · have := all_listed hk hr m hlt
        rw [hm0 m (Nat.le_refl _) hlt] at this
        cases this
      · obtain ⟨h0, o, ho, hall⟩ := mem_ready.1 hi
        have hilt : i < ops.size := (Array.getElem?_eq_some_iff.1 ho).1
        have hdepl : ∀ j ∈ bindsOn md o, listed.getD j true = true := fun j hj => (dep_listed hall j hj).1
        have him : i < m := by
          rcases Nat.lt_or_ge i m with h' | h'
          · exact h'
          · exfalso
            have e : i = m := by
              rcases Nat.lt_or_ge m i with h2 | h2
              · have h3 := hdepl _ (phase_seq hp ho h2)
                rw [hm0 (i - 1) (by omega) (by omega)] at h3
                cases h3
              · omega
            subst e
            apply hall0
            have key : ∀ (n j : Nat), j + n = i → 0 < n → listed.getD j true = true := by
              intro n
              induction n using Nat.strongRecOn with
              | _ n ihn =>
                intro j hj hn
                obtain ⟨i', o', ho', hji, him', hb⟩ := phase_at hp (j := j) (by omega)
                rcases Nat.lt_or_ge i' i with h1 | h1
                · exact hcl i' o' ho' (ihn (i - i') (by omega) i' (by omega) (by omega)) j hb
                · obtain rfl : i' = i := by omega
                  rw [ho] at ho'
                  cases ho'
                  exact hdepl j hb
            exact fun j hj => key (i - j) j (by omega) (by omega)
        have hst := looseSteps_at (ops.toList.take m) 0 hs i o (by rw [List.getElem?_take, if_pos (by omega)]; simpa using ho)
        rw [Nat.zero_add] at hst
        have hdeps : ∀ j ∈ bindsOn md o, ∀ o', ops[j]? = some o' → F j (leftBy x o') w := fun j hj o' ho' => hf j o' ho' (hdepl j hj)
        have hm1 : ∀ j, m ≤ j → j < ops.size → (listed.setIfInBounds i true).getD j true = false := fun j h1 h2 => by rw [getD_set_ne true (by omega)]; exact hm0 j h1 h2
        have hcl1 : ∀ (i' : Nat) o', ops[i']? = some o' → (listed.setIfInBounds i true).getD i' true = true → ∀ j ∈ bindsOn md o', (listed.setIfInBounds i true).getD j true = true := by
          intro i' o' ho' hl j hj
          have up : listed.getD j true = true → (listed.setIfInBounds i true).getD j true = true := fun h => by
            by_cases e : i = j
            · subst e
              have : i < listed.size := by omega
              simp [this]
            · rw [getD_set_ne true e]; exact h
          by_cases e : i = i'
          · subst e
            rw [ho] at ho'
            cases ho'
            exact up (hdepl j hj)
          · rw [getD_set_ne true e] at hl
            exact up (hcl i' o' ho' hl j hj)
        have hmem : o ∈ ops.toList.take m := by
          have h1 : (ops.toList.take m)[i]? = some o := by rw [List.getElem?_take, if_pos him]; simpa using ho
          exact List.mem_of_getElem? h1
        have next : ∀ v w', Grow w w' → F i (leftAs o v) w' → wpAny P md ops Q fuel (listed.setIfInBounds i true) ((fillAct x (ops.toList.take m) a₀).put o.dst v) w' := by
          intro v w' hg' hv
          have hun := unl_set listed i h0 ops.size hilt
          cases hd : o.dst with
          | none =>
            refine ih _ x w' (by omega) hfuel (by simpa using hsz) (hg.trans hg') hm1 hcl1 fun j o' ho' hl => ?_
            by_cases hij : i = j
            · subst hij
              rw [ho] at ho'
              cases ho'
              simpa [leftBy, leftAs, hd] using hv
            · rw [getD_set_ne true hij] at hl
              exact hF _ _ _ _ hg' (hf j o' ho' hl)
          | some d =>
            obtain ⟨hds, hdn⟩ := looseOk_slot hk ho hd
            rw [fillAct_put x (ops.toList.take m) a₀ d v ⟨o, hmem, hd⟩ hds]
            refine ih _ _ w' (by omega) hfuel (by simpa using hsz) (hg.trans hg') hm1 hcl1 fun j o' ho' hl => ?_
            by_cases hij : i = j
            · subst hij
              rw [ho] at ho'
              cases ho'
              simpa [leftBy, leftAs, hd] using hv
            · rw [getD_set_ne true hij] at hl
              have hne := hdn j o' ho' hij
              have : leftBy (fun t => if t = d then v else x t) o' = leftBy x o' := by
                unfold leftBy
                cases hd' : o'.dst with
                | none => rfl
                | some d' =>
                  have : d' ≠ d := fun e => hne (by rw [hd', e])
                  simp [this]
              rw [this]
              exact hF _ _ _ _ hg' (hf j o' ho' hl)
        have h1 := hst x w hg hdeps (fun v w' => wpAny P md ops Q fuel (listed.setIfInBounds i true) ((fillAct x (ops.toList.take m) a₀).put o.dst v) w') next
        unfold wpOp
        rw [ho]
        show if Region.wanted o (yielded ops (fillAct x (ops.toList.take m) a₀).tmps) = true then _ else _
        split
        · rename_i hw
          rw [if_pos hw] at h1
          exact .inl (wp_of_loose (fun _ _ h => h) h1)
        · rename_i hw
          rw [if_neg hw] at h1
          exact h1

/-- **A region that draws its order, up to its m-th operation; behind them the text's order.** -/
theorem wp_region_phase {id : Nat} {a : Act} {w : World} {A : (Tmp → Value) → Act} (F : Nat → Value → World → Prop) (m : Nat) (hm : P.follows .mixedOrders = true) (hp : phaseOk .any ops m = true) (hk : looseOk .any ops a.tmps.size = true)
    (hF : ∀ i v w w', Grow w w' → F i v w → F i v w') (hA : ∀ x, fillAct x (ops.toList.take m) a = A x) (hs : looseSteps P .any ops A w F 0 (ops.toList.take m))
    (fin : ∀ (x : Tmp → Value) (w' : World), Grow w w' → (∀ (j : Nat) o', j < m → ops[j]? = some o' → F j (leftBy x o') w') → wpList P ops Q (ops.toList.drop m) (A x) w') :
    (Code.region id ops true).wp P Q a w := by
  obtain rfl : (fun x => fillAct x (ops.toList.take m) a) = A := funext hA
  refine wp_region_any hm ?_
  have hlt := phase_lt hp
  have hrep : ∀ j, j < ops.size → (Array.replicate ops.size false).getD j true = false := fun j hj => by simp [hj]
  have h := wpAny_phase (Q := Q) hp hk hF hs fin ops.size (Array.replicate ops.size false) (fun t => a.tmps.getD t undef) w.drew ?_ (by omega) (by simp) (Grow.drew w) (fun j _ hj => hrep j hj) ?_ ?_
  · rw [fillAct_own a (ops.toList.take m) fun o ho d hd => ?_] at h
    · exact h
    · obtain ⟨i, hi⟩ := List.getElem?_of_mem (List.mem_of_mem_take ho)
      exact (looseOk_slot hk (i := i) (by simpa using hi) hd).1
  · have : ∀ n, unl (Array.replicate ops.size false) n ≤ n := fun n => by
      induction n with
      | zero => exact Nat.le_refl _
      | succ n ih => simp only [unl]; split <;> omega
    exact this _
  · intro i o ho hl
    rw [hrep i (Array.getElem?_eq_some_iff.1 ho).1] at hl
    cases hl
  · intro i o ho hl
    rw [hrep i (Array.getElem?_eq_some_iff.1 ho).1] at hl
    cases hl
end
end Go.Proofs.Ytfjmcfkpbacicaa
/- Facts that stay, for regions that draw their order: a slice of bytes, a slice of such, a row of the call's own, texts. -/
namespace Go.Proofs.Ytfjmcfkpbacicaa
set_option linter.unusedVariables false
set_option linter.unusedSimpArgs false
open Go.ChangeShapes Go.WideShapes Go.ChangeAt Go.RowKit

def isB (l : List UInt8) (v : Value) (w : World) : Prop := Byt w v l
theorem isB_stays (l : List UInt8) : stays (isB l) := fun _ _ _ hg h => Byt.grow h hg
def isBs (ls : List (List UInt8)) (v : Value) (w : World) : Prop := Byts w v ls
theorem isBs_stays (ls : List (List UInt8)) : stays (isBs ls) := fun _ _ _ hg h => Byts.grow h hg
def strV (l : List UInt8) : Value := .string ⟨l.toArray⟩
theorem str1 {w : World} {v : Value} {l : List UInt8} (h : Byt w v l) : (convert 36 9 v).run Try.prog w = .ok (strV l) w := h.str _ _ 5 Try.underlying36 Try.underlying5 Try.underlying9

/-- The row behind a copy of two bytes. -/
def lay (l : List UInt8) (k : Nat) (m : List UInt8) : List UInt8 := l.take k ++ (m ++ l.drop (k + m.length))
theorem lay_length (l : List UInt8) (k : Nat) (m : List UInt8) (h : k + m.length ≤ l.length) : (lay l k m).length = l.length := by simp [lay]; omega

/-- A row of the call's own: its block's cells, whatever lies behind the row. -/
theorem Own.cells {w : World} {base : Nat} {v : Value} {l : List UInt8} (h : Own w base v l) (hl : 0 < l.length) : ∃ g cap zs, v = .slice (some ⟨g, 0, none⟩) l.length cap ∧ base ≤ g ∧ l.length ≤ cap ∧ cap ≤ maxLen ∧ w.heap[g]? = some (.cells (l.map bv ++ zs).toArray 5 (0, 0)) ∧ (l.map bv ++ zs).length = cap := by
  obtain ⟨h1, h2⟩ := h
  rcases h2 with ⟨_, hx⟩ | ⟨g, cap, cur, e1, e2, hh, hn, hm, hc, ht⟩
  · simp at hx; subst hx; simp at hl
  · refine ⟨g, cap, cur.toList.drop l.length, e1, e2, hn, hm, ?_, ?_⟩
    · rw [Nat.mul_one] at ht
      rw [← ht, List.take_append_drop]
      simpa using hh
    · rw [Nat.mul_one] at ht
      rw [← ht, List.take_append_drop]
      simpa using hc
theorem Own.of_cells {w : World} {base g cap : Nat} {l : List UInt8} {zs : List Value} (hb : base ≤ g) (hn : l.length ≤ cap) (hm : cap ≤ maxLen) (hh : w.heap[g]? = some (.cells (l.map bv ++ zs).toArray 5 (0, 0))) (hc : (l.map bv ++ zs).length = cap) : Own w base (.slice (some ⟨g, 0, none⟩) l.length cap) l := by
  refine ⟨by simp, .inr ⟨g, cap, (l.map bv ++ zs).toArray, rfl, hb, hh, hn, hm, by simpa using hc, ?_⟩⟩
  rw [Nat.mul_one]
  simp
end Go.Proofs.Ytfjmcfkpbacicaa
/- What a law's frame hands to its walk. -/
namespace Go.Proofs.Ytfjmcfkpbacicaa
set_option linter.unusedVariables false
open Go.RowKit

theorem block_of_cell {w : World} {p : Addr} {v : Value} (h : w.cell? p = some v) : p.block < w.heap.size := by
  rcases Nat.lt_or_ge p.block w.heap.size with h' | h'
  · exact h'
  · unfold World.cell? at h
    rw [Array.getElem?_eq_none h'] at h
    simp at h
theorem add_at {b off : Nat} (j : Nat) : (⟨b, off, none⟩ : Addr).add j = ⟨b, off + j, none⟩ := by unfold Addr.add; split <;> simp_all

/-- A slice of bytes that came in. -/
theorem Byt.of_ints {w : World} {x : Addr} {l c : Nat} {zs : List Int} (hl : l ≤ c) (hm : c ≤ maxLen) (hz : zs.length = c) (hcell : ∀ i, i < zs.length → w.cell? (x.add i) = some (.int .u8 (zs.getD i 0)))
    (hwz : ∀ n ∈ zs, (Lit.int .u8 n).wf = true) : ∃ bs, Byt w (.slice (some x) l c) bs ∧ bs.length = l := by
  have e1 : ∀ n ∈ zs, (((UInt8.ofNat n.toNat).toNat : Nat) : Int) = n := by
    intro n hn
    have h := hwz n hn
    simp [Lit.wf, IntKind.min, IntKind.max, IntKind.signed, IntKind.bits] at h
    rw [UInt8.toNat_ofNat']
    omega
  refine ⟨(zs.take l).map fun n => UInt8.ofNat n.toNat, ?_, by simp; omega⟩
  refine Rd.mk_ (by simp; omega) hl hm fun hp => ?_
  obtain ⟨b, off, spot⟩ := x
  have h0 := hcell 0 (by omega)
  have hs : spot = none := by simpa [Addr.add] using World.cell?_spot h0
  subst hs
  refine ⟨b, off, rfl, block_of_cell (p := ⟨b, off, none⟩) (by simpa [Addr.add] using h0), fun j hj => ?_⟩
  have hj' : j < zs.length := by simp at hj; omega
  rw [← add_at, hcell j hj']
  simp only [List.getElem_map, List.getElem_take, bv]
  rw [e1 _ (List.getElem_mem hj')]
  simp [List.getD, List.getElem?_eq_getElem hj']
end Go.Proofs.Ytfjmcfkpbacicaa
/- The words of bytes, visited by an iterator, and the sum over them: a range over a function. -/
namespace Go.Proofs.Ytfjmcfkpbacicaa
set_option linter.unusedVariables false
set_option linter.unusedSimpArgs false
open Go.RowKit Go.Shelf
attribute [local go_sem] Oper.semAt_some

abbrev W16 := { x : Nat // x < 65536 }
@[reducible] def wv (x : W16) : Array Value := #[.int .i64 (x.1 : Int)]
/-- What a round keeps: what lay below m, and the captured box. -/
def KB (m Bs : Nat) (W W' : World) : Prop := Below m W W' ∧ W'.cell? ⟨Bs, 0, none⟩ = W.cell? ⟨Bs, 0, none⟩
theorem KB.refl (m Bs : Nat) (W : World) : KB m Bs W W := ⟨Below.refl _ _, rfl⟩
theorem KB.trans {m Bs : Nat} {A B C : World} (h : KB m Bs A B) (k : KB m Bs B C) : KB m Bs A C := ⟨h.1.trans k.1, k.2.trans h.2⟩
theorem KB.cell {m Bs : Nat} {A B : World} (h : KB m Bs A B) {p : Addr} (hp : p.block < m) : B.cell? p = A.cell? p := h.1.cell hp
def wupF (l : List UInt8) (k : Nat) : List W16 := (List.range k).map fun j => ⟨wordAt l j, wordAt_lt l j⟩
theorem wupF_succ (l : List UInt8) (k : Nat) : wupF l (k + 1) = wupF l k ++ [⟨wordAt l k, wordAt_lt l k⟩] := by simp [wupF, List.range_succ]
theorem wupF_length (l : List UInt8) (k : Nat) : (wupF l k).length = k := by simp [wupF]
theorem wupF_val (l : List UInt8) (k : Nat) : (wupF l k).map (·.1) = wup l k := by simp [wupF, wup]

def sumW (pre : List W16) : Nat := sumc (pre.map (·.1))
theorem sumW_snoc (pre : List W16) (x : W16) : sumW (pre ++ [x]) = addc (sumW pre) x.1 := by simp [sumW, sumc_snoc]
theorem sumW_lt (pre : List W16) : sumW pre < 65536 := by
  rw [sumW, sumc_ocs]
  · exact ocs_le _
  · intro y hy
    simp only [List.mem_map] at hy
    obtain ⟨z, _, rfl⟩ := hy
    exact z.2
theorem sumW_all (l : List UInt8) : sumW (wupF l (nwords l)) = ones l := by rw [sumW, wupF_val]; rfl

end Go.Proofs.Ytfjmcfkpbacicaa
/- The laws' own walks, layer sum. -/
namespace Go.Proofs.Ytfjmcfkpbacicaa
set_option linter.unusedVariables false
set_option linter.unusedSimpArgs false
open Go.ChangeShapes Go.WideShapes Go.ChangeAt Go.RowKit

end Go.Proofs.Ytfjmcfkpbacicaa
/- Two bytes written over; the header; the packet as bytes. -/
namespace Go.Proofs.Ytfjmcfkpbacicaa
set_option linter.unusedVariables false
set_option linter.unusedSimpArgs false
open Go.ChangeShapes Go.WideShapes Go.ChangeAt Go.RowKit

theorem splice_lay (l m : List UInt8) (zs : List Value) (k : Nat) (hk : k + m.length ≤ l.length) : splice (l.map bv ++ zs) k (m.map bv) = (lay l k m).map bv ++ zs := by
  unfold splice lay
  rw [List.take_append_of_le_length (by simp; omega), List.drop_append_of_le_length (by simp; omega)]
  simp [List.map_take, List.map_drop]

/-- A packet's cells, in a block of their own. -/
def Boxd (w : World) (b : Nat) (k : Pkt) (vo vd : Value) : Prop :=
  w.cell? ⟨b, 0, none⟩ = some (.int .u8 (k.tos : Int)) ∧ w.cell? ⟨b, 1, none⟩ = some (.int .u16 (k.ident : Int)) ∧ w.cell? ⟨b, 2, none⟩ = some (.bool k.whole) ∧ w.cell? ⟨b, 3, none⟩ = some (.bool k.more) ∧ w.cell? ⟨b, 4, none⟩ = some (.int .i64 k.off) ∧ w.cell? ⟨b, 5, none⟩ = some (.int .u8 (k.ttl : Int)) ∧ w.cell? ⟨b, 6, none⟩ = some (.int .u8 (k.proto : Int)) ∧ w.cell? ⟨b, 7, none⟩ = some (.int .u32 (k.src : Int)) ∧ w.cell? ⟨b, 8, none⟩ = some (.int .u32 (k.dst : Int)) ∧ w.cell? ⟨b, 9, none⟩ = some (vo) ∧ w.cell? ⟨b, 10, none⟩ = some (vd)
theorem cell_lt {w : World} {p : Addr} {v : Value} (h : w.cell? p = some v) : p.block < w.heap.size := block_of_cell h
theorem Boxd.grow {w w' : World} {b : Nat} {k : Pkt} {vo vd : Value} (h : Boxd w b k vo vd) (g : Grow w w') : Boxd w' b k vo vd := by
  obtain ⟨c0, c1, c2, c3, c4, c5, c6, c7, c8, c9, c10⟩ := h
  have hlt : b < w.heap.size := cell_lt c0
  exact ⟨(g.cell (p := ⟨b, 0, none⟩) hlt).trans c0, (g.cell (p := ⟨b, 1, none⟩) hlt).trans c1, (g.cell (p := ⟨b, 2, none⟩) hlt).trans c2, (g.cell (p := ⟨b, 3, none⟩) hlt).trans c3, (g.cell (p := ⟨b, 4, none⟩) hlt).trans c4, (g.cell (p := ⟨b, 5, none⟩) hlt).trans c5, (g.cell (p := ⟨b, 6, none⟩) hlt).trans c6, (g.cell (p := ⟨b, 7, none⟩) hlt).trans c7, (g.cell (p := ⟨b, 8, none⟩) hlt).trans c8, (g.cell (p := ⟨b, 9, none⟩) hlt).trans c9, (g.cell (p := ⟨b, 10, none⟩) hlt).trans c10⟩
theorem Boxd.new (w : World) (k : Pkt) (vo vd : Value) : Boxd (w.alloc (.cells #[.int .u8 (k.tos : Int), .int .u16 (k.ident : Int), .bool k.whole, .bool k.more, .int .i64 k.off, .int .u8 (k.ttl : Int), .int .u8 (k.proto : Int), .int .u32 (k.src : Int), .int .u32 (k.dst : Int), vo, vd] 38)) w.heap.size k vo vd := by
  unfold Boxd World.cell?
  rw [heap_alloc_new]
  exact ⟨rfl, rfl, rfl, rfl, rfl, rfl, rfl, rfl, rfl, rfl, rfl⟩

end Go.Proofs.Ytfjmcfkpbacicaa
/- A packet laid into its block, and read there. -/
namespace Go.Proofs.Ytfjmcfkpbacicaa
set_option linter.unusedVariables false
set_option linter.unusedSimpArgs false
open Go.ChangeShapes Go.WideShapes Go.ChangeAt Go.RowKit

/-- The block g holds the packet. -/
def Blk (w : World) (g : Nat) (k : Pkt) (vo vd : Value) : Prop := w.heap[g]? = some (.cells #[.int .u8 (k.tos : Int), .int .u16 (k.ident : Int), .bool k.whole, .bool k.more, .int .i64 k.off, .int .u8 (k.ttl : Int), .int .u8 (k.proto : Int), .int .u32 (k.src : Int), .int .u32 (k.dst : Int), vo, vd] 38 (0, 0))
theorem Blk.boxd {w : World} {g : Nat} {k : Pkt} {vo vd : Value} (h : Blk w g k vo vd) : Boxd w g k vo vd := by
  unfold Boxd World.cell?
  unfold Blk at h
  rw [h]
  exact ⟨rfl, rfl, rfl, rfl, rfl, rfl, rfl, rfl, rfl, rfl, rfl⟩
theorem Blk.lt {w : World} {g : Nat} {k : Pkt} {vo vd : Value} (h : Blk w g k vo vd) : g < w.heap.size := (Array.getElem?_eq_some_iff.1 h).1
theorem Blk.grow {w w' : World} {g : Nat} {k : Pkt} {vo vd : Value} (h : Blk w g k vo vd) (gr : Grow w w') : Blk w' g k vo vd := (Below.block gr g h.lt).trans h
theorem Blk.new (w : World) (k : Pkt) (vo vd : Value) : Blk (w.alloc (.cells #[.int .u8 (k.tos : Int), .int .u16 (k.ident : Int), .bool k.whole, .bool k.more, .int .i64 k.off, .int .u8 (k.ttl : Int), .int .u8 (k.proto : Int), .int .u32 (k.src : Int), .int .u32 (k.dst : Int), vo, vd] 38)) w.heap.size k vo vd := heap_alloc_new w _
theorem Blk.frozen {w : World} {g : Nat} {k : Pkt} {vo vd : Value} (h : Blk w g k vo vd) (i : Nat) : w.frozen? ⟨g, i, none⟩ = false := by
  unfold Blk at h
  unfold World.frozen?
  rw [h]
  simp
/-- All blocks but g are as they were. -/
def But (g : Nat) (w w' : World) : Prop := w'.heap.size = w.heap.size ∧ ∀ b, b ≠ g → w'.heap[b]? = w.heap[b]?
theorem Own.but {w w' : World} {g base : Nat} {v : Value} {l : List UInt8} (h : Own w base v l) (hb : But g w w') (hg : g < base) : Own w' base v l := by
  refine ⟨h.1, ?_⟩
  rcases h.2 with h2 | ⟨b, cap, cur, hv, hbb, hh, r⟩
  · exact .inl h2
  · exact .inr ⟨b, cap, cur, hv, hbb, (hb.2 b (by omega)).trans hh, r⟩
theorem Own.one {w : World} {base : Nat} {v : Value} {l : List UInt8} (h : Own w base v l) : v.oneCell' = true := by
  rcases h.2 with ⟨rfl, _⟩ | ⟨b, cap, cur, rfl, _⟩ <;> rfl
theorem Byt.one {w : World} {v : Value} {l : List UInt8} (h : Byt w v l) : v.oneCell' = true := by
  obtain ⟨A, c, rfl, _, _⟩ := h.form
  rfl

/-- *p = packet, as one step of a walk. -/
theorem wpList_store_ip (w₀ w : World) {ops : Array Oper} {rest : List Oper} {o : Oper} {a : Act} {Q : Exit → Act → World → Prop} (hgd : o.guard = none) (x y : Operand) (ho : o.op = .store 38 x y) (hdst : o.dst = none)
    (g : Nat) (hx : a.eval x = .pointer (some ⟨g, 0, none⟩)) (k k₀ : Pkt) (vo vd vo₀ vd₀ : Value) (hy : a.eval y = ipV k vo vd) (h1 : vo.oneCell' = true) (h2 : vd.oneCell' = true) (hb : Blk w g k₀ vo₀ vd₀)
    (hgr : Grow w₀ w) (hg : w₀.heap.size ≤ g) (h : ∀ w', Blk w' g k vo vd → But g w w' → Grow w₀ w' → wpList Try.prog ops Q rest a w') : wpList Try.prog ops Q (o :: rest) a w := by
  refine wpList_store_row hgd 38 x y ho g #[.int .u8 (k.tos : Int), .int .u16 (k.ident : Int), .bool k.whole, .bool k.more, .int .i64 k.off, .int .u8 (k.ttl : Int), .int .u8 (k.proto : Int), .int .u32 (k.src : Int), .int .u32 (k.dst : Int), vo, vd] hx hy 38 _ hb (by kernel_rfl) rfl ?_ ?_
  · rw [Array.all_eq_true_iff_forall_mem]
    intro z hz
    simp only [List.mem_toArray, List.mem_cons, List.not_mem_nil, or_false] at hz
    rcases hz with rfl | rfl | rfl | rfl | rfl | rfl | rfl | rfl | rfl | rfl | rfl <;> first | rfl | exact h1 | exact h2
  · have e : a.put o.dst undef = a := by rw [hdst]; rfl
    rw [e]
    refine h _ (setRow_heap w g _ _ _ _ hb) ⟨by simp [World.setRow], fun b hne => setRow_other w g b _ hne⟩ (below_setRow hgr hg _)

set_option maxHeartbeats 400000 in
/-- A packet and a number, handed back out of the packet's block. -/
theorem results_ip {fn : Func} (h : fn.results = #[.cell 2 38, .tmp 3]) (tmps : Array Value) (w : World) (g : Nat) (k : Pkt) (vo vd : Value) (ht : tmps.getD 2 undef = .pointer (some ⟨g, 0, none⟩)) (hb : Blk w g k vo vd) :
    (results fn tmps).run Try.prog w = .ok (.tuple #[ipV k vo vd, tmps.getD 3 undef]) w := by
  obtain ⟨b0, b1, b2, b3, b4, b5, b6, b7, b8, b9, b10⟩ := hb.boxd
  have ht' : tmps[2]?.getD undef = .pointer (some ⟨g, 0, none⟩) := by simpa using ht
  simp only [results, h, go_sem]
  simp [ht', b0, b1, b2, b3, b4, b5, b6, b7, b8, b9, b10, go_sem]

def isO (b : Nat) (l : List UInt8) (v : Value) (w : World) : Prop := Own w b v l
theorem isO_stays {b : Nat} (l : List UInt8) : stays (isO b l) := fun _ _ _ hg h => Own.grow h hg
end Go.Proofs.Ytfjmcfkpbacicaa
