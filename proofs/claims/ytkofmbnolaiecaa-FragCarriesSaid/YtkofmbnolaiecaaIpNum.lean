/- Packets and bytes, in numbers: what is written, what is read, and that the one undoes the other. -/
import Derived.Test.YtkofmbnolaiecaaIp
import Derived.Test.YtkofmbnolaiecaaSum
namespace Go.Proofs.Ytkofmbnolaiecaa
set_option linter.unusedVariables false
set_option linter.unusedSimpArgs false

/-- A byte of the list, as a number; two of them. -/
def byt (l : List UInt8) (i : Nat) : Nat := (l[i]?.getD 0).toNat
def num (l : List UInt8) (i : Nat) : Nat := 256 * byt l i + byt l (i + 1)
theorem byt_lt (l : List UInt8) (i : Nat) : byt l i < 256 := (l[i]?.getD 0).toNat_lt
theorem num_lt (l : List UInt8) (i : Nat) : num l i < 65536 := by
  have := byt_lt l i
  have := byt_lt l (i + 1)
  unfold num
  omega
theorem byt_at {l : List UInt8} {i : Nat} (h : i < l.length) : l[i].toNat = byt l i := by unfold byt; simp [h]

def Pkt.pre (k : Pkt) : List UInt8 := [UInt8.ofNat (69 + k.opts.length / 4), UInt8.ofNat k.tos] ++ two (k.len : Nat) ++ two (k.ident : Nat) ++ two (k.off + k.flag) ++ [UInt8.ofNat k.ttl, UInt8.ofNat k.proto]
def Pkt.post (k : Pkt) : List UInt8 := dig k.src 4 ++ dig k.dst 4 ++ k.opts
def Pkt.bare (k : Pkt) : List UInt8 := k.pre ++ [0, 0] ++ k.post
def Pkt.csum (k : Pkt) : Nat := 65535 - ones k.bare
def Pkt.head (k : Pkt) : List UInt8 := k.pre ++ two (k.csum : Nat) ++ k.post
def Pkt.bytes (k : Pkt) : List UInt8 := k.head ++ k.data
theorem pre_length (k : Pkt) : k.pre.length = 10 := by simp [Pkt.pre, two]
theorem post_length (k : Pkt) : k.post.length = 8 + k.opts.length := by simp [Pkt.post, dig_length]; omega
theorem bare_length (k : Pkt) : k.bare.length = 20 + k.opts.length := by simp [Pkt.bare, pre_length, post_length]; omega
theorem head_length (k : Pkt) : k.head.length = 20 + k.opts.length := by simp [Pkt.head, pre_length, post_length, two_length]; omega
theorem bytes_length (k : Pkt) : k.bytes.length = k.len := by rw [Pkt.bytes, List.length_append, head_length, Pkt.len]

/-- The header's bytes, by its first byte; the error; the packet. -/
def hdr (l : List UInt8) : Nat := 4 * (byt l 0 - 64)
def mcode (l : List UInt8) : Int :=
  if l.length < 20 then 2 else if byt l 0 < 69 ∨ 79 < byt l 0 then 3 else if l.length < hdr l then 2 else if ones (l.take (hdr l)) ≠ 65535 then 4
  else if num l 2 < hdr l ∨ 128 ≤ byt l 6 then 3 else if l.length < num l 2 then 2 else 0
def got (l : List UInt8) : Pkt where
  tos := byt l 1
  ident := num l 4
  whole := decide (byt l 6 / 64 % 2 = 1)
  more := decide (byt l 6 / 32 % 2 = 1)
  off := ((num l 6 % 8192 : Nat) : Int)
  ttl := byt l 8
  proto := byt l 9
  src := 65536 * num l 12 + num l 14
  dst := 65536 * num l 16 + num l 18
  opts := (l.take (hdr l)).drop 20
  data := (l.take (num l 2)).drop (hdr l)
def zeroP : Pkt := ⟨0, 0, false, false, 0, 0, 0, 0, 0, [], []⟩
theorem zero_ok : zeroP.Ok := ⟨by decide, by decide, by decide, by decide, by decide, by decide, by decide, by decide⟩
theorem got_ok (l : List UInt8) : (got l).Ok := by
  have := num_lt l 6
  have := num_lt l 12
  have := num_lt l 14
  have := num_lt l 16
  have := num_lt l 18
  refine ⟨byt_lt l 1, num_lt l 4, ?_, ?_, byt_lt l 8, byt_lt l 9, ?_, ?_⟩ <;> simp only [got] <;> omega
def res (l : List UInt8) : Pkt := if mcode l = 0 then got l else zeroP
theorem res_ok (l : List UInt8) : (res l).Ok := by
  unfold res
  split
  · exact got_ok l
  · exact zero_ok

/-- What is known where a list is a packet. -/
structure Good (l : List UInt8) : Prop where
  len : 20 ≤ l.length
  first1 : 69 ≤ byt l 0
  first2 : byt l 0 ≤ 79
  hdr : hdr l ≤ l.length
  right : ones (l.take (Go.Proofs.Ytkofmbnolaiecaa.hdr l)) = 65535
  all1 : Go.Proofs.Ytkofmbnolaiecaa.hdr l ≤ num l 2
  high : byt l 6 < 128
  all2 : num l 2 ≤ l.length
theorem good_iff (l : List UInt8) : mcode l = 0 ↔ Good l := by
  unfold mcode
  constructor
  · intro h
    by_cases h1 : l.length < 20
    · rw [if_pos h1] at h; cases h
    rw [if_neg h1] at h
    by_cases h2 : byt l 0 < 69 ∨ 79 < byt l 0
    · rw [if_pos h2] at h; cases h
    rw [if_neg h2] at h
    by_cases h3 : l.length < hdr l
    · rw [if_pos h3] at h; cases h
    rw [if_neg h3] at h
    by_cases h4 : ones (l.take (hdr l)) ≠ 65535
    · rw [if_pos h4] at h; cases h
    rw [if_neg h4] at h
    by_cases h5 : num l 2 < hdr l ∨ 128 ≤ byt l 6
    · rw [if_pos h5] at h; cases h
    rw [if_neg h5] at h
    by_cases h6 : l.length < num l 2
    · rw [if_pos h6] at h; cases h
    exact ⟨by omega, by omega, by omega, by omega, by omega, by omega, by omega, by omega⟩
  · rintro ⟨h1, h2, h3, h4, h5, h6, h7, h8⟩
    rw [if_neg (by omega), if_neg (by omega), if_neg (by omega), if_neg (by omega), if_neg (by omega), if_neg (by omega)]

/-- Twenty bytes and what is behind them. -/
def H20 (x0 x1 x2 x3 x4 x5 x6 x7 x8 x9 x10 x11 x12 x13 x14 x15 x16 x17 x18 x19 : UInt8) (r : List UInt8) : List UInt8 :=
  x0 :: x1 :: x2 :: x3 :: x4 :: x5 :: x6 :: x7 :: x8 :: x9 :: x10 :: x11 :: x12 :: x13 :: x14 :: x15 :: x16 :: x17 :: x18 :: x19 :: r
theorem cons_of {l : List UInt8} {n : Nat} (h : n + 1 ≤ l.length) : ∃ x r, l = x :: r ∧ n ≤ r.length := by
  cases l with
  | nil => simp at h
  | cons x r => exact ⟨x, r, rfl, by simpa using h⟩
theorem h20 {l : List UInt8} (h : 20 ≤ l.length) : ∃ x0 x1 x2 x3 x4 x5 x6 x7 x8 x9 x10 x11 x12 x13 x14 x15 x16 x17 x18 x19 r, l = H20 x0 x1 x2 x3 x4 x5 x6 x7 x8 x9 x10 x11 x12 x13 x14 x15 x16 x17 x18 x19 r := by
  obtain ⟨x0, l0, rfl, h0⟩ := cons_of h
  obtain ⟨x1, l1, rfl, h1⟩ := cons_of h0
  obtain ⟨x2, l2, rfl, h2⟩ := cons_of h1
  obtain ⟨x3, l3, rfl, h3⟩ := cons_of h2
  obtain ⟨x4, l4, rfl, h4⟩ := cons_of h3
  obtain ⟨x5, l5, rfl, h5⟩ := cons_of h4
  obtain ⟨x6, l6, rfl, h6⟩ := cons_of h5
  obtain ⟨x7, l7, rfl, h7⟩ := cons_of h6
  obtain ⟨x8, l8, rfl, h8⟩ := cons_of h7
  obtain ⟨x9, l9, rfl, h9⟩ := cons_of h8
  obtain ⟨x10, l10, rfl, h10⟩ := cons_of h9
  obtain ⟨x11, l11, rfl, h11⟩ := cons_of h10
  obtain ⟨x12, l12, rfl, h12⟩ := cons_of h11
  obtain ⟨x13, l13, rfl, h13⟩ := cons_of h12
  obtain ⟨x14, l14, rfl, h14⟩ := cons_of h13
  obtain ⟨x15, l15, rfl, h15⟩ := cons_of h14
  obtain ⟨x16, l16, rfl, h16⟩ := cons_of h15
  obtain ⟨x17, l17, rfl, h17⟩ := cons_of h16
  obtain ⟨x18, l18, rfl, h18⟩ := cons_of h17
  obtain ⟨x19, r, rfl, h19⟩ := cons_of h18
  exact ⟨x0, x1, x2, x3, x4, x5, x6, x7, x8, x9, x10, x11, x12, x13, x14, x15, x16, x17, x18, x19, r, rfl⟩

section
variable (x0 x1 x2 x3 x4 x5 x6 x7 x8 x9 x10 x11 x12 x13 x14 x15 x16 x17 x18 x19 : UInt8) (r : List UInt8)
theorem h20_length : (H20 x0 x1 x2 x3 x4 x5 x6 x7 x8 x9 x10 x11 x12 x13 x14 x15 x16 x17 x18 x19 r).length = 20 + r.length := by simp [H20]; omega
theorem byt0 : byt (H20 x0 x1 x2 x3 x4 x5 x6 x7 x8 x9 x10 x11 x12 x13 x14 x15 x16 x17 x18 x19 r) 0 = x0.toNat := rfl
theorem byt1 : byt (H20 x0 x1 x2 x3 x4 x5 x6 x7 x8 x9 x10 x11 x12 x13 x14 x15 x16 x17 x18 x19 r) 1 = x1.toNat := rfl
theorem byt2 : byt (H20 x0 x1 x2 x3 x4 x5 x6 x7 x8 x9 x10 x11 x12 x13 x14 x15 x16 x17 x18 x19 r) 2 = x2.toNat := rfl
theorem byt3 : byt (H20 x0 x1 x2 x3 x4 x5 x6 x7 x8 x9 x10 x11 x12 x13 x14 x15 x16 x17 x18 x19 r) 3 = x3.toNat := rfl
theorem byt4 : byt (H20 x0 x1 x2 x3 x4 x5 x6 x7 x8 x9 x10 x11 x12 x13 x14 x15 x16 x17 x18 x19 r) 4 = x4.toNat := rfl
theorem byt5 : byt (H20 x0 x1 x2 x3 x4 x5 x6 x7 x8 x9 x10 x11 x12 x13 x14 x15 x16 x17 x18 x19 r) 5 = x5.toNat := rfl
theorem byt6 : byt (H20 x0 x1 x2 x3 x4 x5 x6 x7 x8 x9 x10 x11 x12 x13 x14 x15 x16 x17 x18 x19 r) 6 = x6.toNat := rfl
theorem byt7 : byt (H20 x0 x1 x2 x3 x4 x5 x6 x7 x8 x9 x10 x11 x12 x13 x14 x15 x16 x17 x18 x19 r) 7 = x7.toNat := rfl
theorem byt8 : byt (H20 x0 x1 x2 x3 x4 x5 x6 x7 x8 x9 x10 x11 x12 x13 x14 x15 x16 x17 x18 x19 r) 8 = x8.toNat := rfl
theorem byt9 : byt (H20 x0 x1 x2 x3 x4 x5 x6 x7 x8 x9 x10 x11 x12 x13 x14 x15 x16 x17 x18 x19 r) 9 = x9.toNat := rfl
theorem byt10 : byt (H20 x0 x1 x2 x3 x4 x5 x6 x7 x8 x9 x10 x11 x12 x13 x14 x15 x16 x17 x18 x19 r) 10 = x10.toNat := rfl
theorem byt11 : byt (H20 x0 x1 x2 x3 x4 x5 x6 x7 x8 x9 x10 x11 x12 x13 x14 x15 x16 x17 x18 x19 r) 11 = x11.toNat := rfl
theorem byt12 : byt (H20 x0 x1 x2 x3 x4 x5 x6 x7 x8 x9 x10 x11 x12 x13 x14 x15 x16 x17 x18 x19 r) 12 = x12.toNat := rfl
theorem byt13 : byt (H20 x0 x1 x2 x3 x4 x5 x6 x7 x8 x9 x10 x11 x12 x13 x14 x15 x16 x17 x18 x19 r) 13 = x13.toNat := rfl
theorem byt14 : byt (H20 x0 x1 x2 x3 x4 x5 x6 x7 x8 x9 x10 x11 x12 x13 x14 x15 x16 x17 x18 x19 r) 14 = x14.toNat := rfl
theorem byt15 : byt (H20 x0 x1 x2 x3 x4 x5 x6 x7 x8 x9 x10 x11 x12 x13 x14 x15 x16 x17 x18 x19 r) 15 = x15.toNat := rfl
theorem byt16 : byt (H20 x0 x1 x2 x3 x4 x5 x6 x7 x8 x9 x10 x11 x12 x13 x14 x15 x16 x17 x18 x19 r) 16 = x16.toNat := rfl
theorem byt17 : byt (H20 x0 x1 x2 x3 x4 x5 x6 x7 x8 x9 x10 x11 x12 x13 x14 x15 x16 x17 x18 x19 r) 17 = x17.toNat := rfl
theorem byt18 : byt (H20 x0 x1 x2 x3 x4 x5 x6 x7 x8 x9 x10 x11 x12 x13 x14 x15 x16 x17 x18 x19 r) 18 = x18.toNat := rfl
theorem byt19 : byt (H20 x0 x1 x2 x3 x4 x5 x6 x7 x8 x9 x10 x11 x12 x13 x14 x15 x16 x17 x18 x19 r) 19 = x19.toNat := rfl
theorem h20_take (h : Nat) (hh : 20 ≤ h) : (H20 x0 x1 x2 x3 x4 x5 x6 x7 x8 x9 x10 x11 x12 x13 x14 x15 x16 x17 x18 x19 r).take h = H20 x0 x1 x2 x3 x4 x5 x6 x7 x8 x9 x10 x11 x12 x13 x14 x15 x16 x17 x18 x19 (r.take (h - 20)) := by
  obtain ⟨j, rfl⟩ : ∃ j, h = j + 20 := ⟨h - 20, by omega⟩
  simp [H20]
theorem h20_drop (h : Nat) (hh : 20 ≤ h) : (H20 x0 x1 x2 x3 x4 x5 x6 x7 x8 x9 x10 x11 x12 x13 x14 x15 x16 x17 x18 x19 r).drop h = r.drop (h - 20) := by
  obtain ⟨j, rfl⟩ : ∃ j, h = j + 20 := ⟨h - 20, by omega⟩
  simp [H20]
theorem h20_total : total (H20 x0 x1 x2 x3 x4 x5 x6 x7 x8 x9 x10 x11 x12 x13 x14 x15 x16 x17 x18 x19 r) = 256 * x0.toNat + x1.toNat + (256 * x2.toNat + x3.toNat) + (256 * x4.toNat + x5.toNat) + (256 * x6.toNat + x7.toNat) + (256 * x8.toNat + x9.toNat) + (256 * x10.toNat + x11.toNat) + (256 * x12.toNat + x13.toNat) + (256 * x14.toNat + x15.toNat) + (256 * x16.toNat + x17.toNat) + (256 * x18.toNat + x19.toNat) + total r := by
  simp only [H20, total]
  omega
end
end Go.Proofs.Ytkofmbnolaiecaa
