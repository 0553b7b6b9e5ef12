/- Packets as values; the contracts of the small functions: how long, may it be, its flags. -/
import Derived.Test.YtkofmbnolaiecaaJoin
namespace Go.Proofs.Ytkofmbnolaiecaa
set_option linter.unusedVariables false
set_option linter.unusedSimpArgs false
open Go.ChangeShapes Go.WideShapes Go.ChangeAt Go.RowKit

structure Pkt where
  tos : Nat
  ident : Nat
  whole : Bool
  more : Bool
  off : Int
  ttl : Nat
  proto : Nat
  src : Nat
  dst : Nat
  opts : List UInt8
  data : List UInt8

/-- Each field in its type. -/
structure Pkt.Ok (k : Pkt) : Prop where
  tos : k.tos < 256
  ident : k.ident < 65536
  off1 : -9223372036854775808 ≤ k.off
  off2 : k.off ≤ 9223372036854775807
  ttl : k.ttl < 256
  proto : k.proto < 256
  src : k.src < 4294967296
  dst : k.dst < 4294967296

@[reducible] def ipV (k : Pkt) (vo vd : Value) : Value := .agg #[.int .u8 (k.tos : Int), .int .u16 (k.ident : Int), .bool k.whole, .bool k.more, .int .i64 k.off, .int .u8 (k.ttl : Int), .int .u8 (k.proto : Int), .int .u32 (k.src : Int), .int .u32 (k.dst : Int), vo, vd]
/-- The value v reads as the packet k. -/
def Ip (w : World) (v : Value) (k : Pkt) : Prop := ∃ vo vd, v = ipV k vo vd ∧ Byt w vo k.opts ∧ Byt w vd k.data ∧ k.Ok
theorem Ip.grow {w w' : World} {v : Value} {k : Pkt} (h : Ip w v k) (g : Grow w w') : Ip w' v k := by
  obtain ⟨vo, vd, e, h1, h2, h3⟩ := h
  exact ⟨vo, vd, e, h1.grow g, h2.grow g, h3⟩
theorem Ip.form {w : World} {v : Value} {k : Pkt} (h : Ip w v k) : ∃ A c B d, v = ipV k (.slice A k.opts.length c) (.slice B k.data.length d) ∧ Byt w (.slice A k.opts.length c) k.opts ∧ Byt w (.slice B k.data.length d) k.data ∧ k.Ok := by
  obtain ⟨vo, vd, e, h1, h2, h3⟩ := h
  obtain ⟨A, c, rfl, hc, hm⟩ := h1.form
  obtain ⟨B, d, rfl, hd, hn⟩ := h2.form
  exact ⟨A, c, B, d, e, h1, h2, h3⟩

/-- Of a length that any machine holds. -/
def Pkt.Small (k : Pkt) : Prop := k.opts.length ≤ 1000000 ∧ k.data.length ≤ 1000000

def Pkt.len (k : Pkt) : Nat := 20 + k.opts.length + k.data.length
def Pkt.check (k : Pkt) : Int := if k.off < 0 ∨ 8191 < k.off ∨ 40 < k.opts.length ∨ k.opts.length % 4 ≠ 0 then 1 else if 65535 < k.len then 9 else 0
def Pkt.flag (k : Pkt) : Int := (if k.whole then 16384 else 0) + (if k.more then 8192 else 0)

set_option maxHeartbeats 400000 in
theorem Len_any (v : Value) (k : Pkt) (w : World) (h : Ip w v k) (hs : k.Small) :
    Calls Try.prog 17 #[v] w fun e w' => e = .returned (.int .i64 (k.len : Nat)) ∧ Grow w w' := by
  obtain ⟨A, c, B, d, rfl, ho, hd, hk⟩ := h.form
  obtain ⟨hs1, hs2⟩ := hs
  go_enter Try.func17, Try.ntmps17
  go_wp2_with fail
  go_ret
  exact ⟨ret_int (by unfold Pkt.len; omega), Grow.alloc _ _⟩

set_option maxHeartbeats 400000 in
theorem RLen_any (v : Value) (k : Pkt) (w : World) (h : Ip w v k) (hs : k.Small) :
    Calls Try.prog 15 #[v] w fun e w' => e = .returned (.int .i64 (k.len : Nat)) ∧ Grow w w' := by
  obtain ⟨A, c, B, d, rfl, ho, hd, hk⟩ := h.form
  obtain ⟨hs1, hs2⟩ := hs
  go_enter Try.func15, Try.ntmps15
  go_wp2_with fail
  go_ret
  exact ⟨ret_int (by unfold Pkt.len; omega), Grow.alloc _ _⟩

set_option maxHeartbeats 1000000 in
theorem Check_ip (v : Value) (k : Pkt) (w : World) (h : Ip w v k) (hs : k.Small) :
    Calls Try.prog 24 #[v] w fun e w' => e = .returned (.int .i64 k.check) ∧ Grow w w' := by
  obtain ⟨A, c, B, d, rfl, ho, hd, hk⟩ := h.form
  have hsm := hs
  obtain ⟨hs1, hs2⟩ := hs
  have k1 := hk.off1
  have k2 := hk.off2
  have hg1 := Grow.alloc w (.cells #[.int .u8 (k.tos : Int), .int .u16 (k.ident : Int), .bool k.whole, .bool k.more, .int .i64 k.off, .int .u8 (k.ttl : Int), .int .u8 (k.proto : Int), .int .u32 (k.src : Int), .int .u32 (k.dst : Int), .slice A k.opts.length c, .slice B k.data.length d] 27)
  have hip := h.grow hg1
  unfold Pkt.check
  by_cases h1 : k.off < 0
  · rw [if_pos (.inl h1)]
    go_enter Try.func24, Try.ntmps24
    go_wp2_with fail
    go_ret
    exact ⟨rfl, hg1⟩
  by_cases h2 : 8191 < k.off
  · rw [if_pos (.inr (.inl h2))]
    go_enter Try.func24, Try.ntmps24
    go_wp2_with fail
    go_ret
    exact ⟨rfl, hg1⟩
  by_cases h3 : 40 < k.opts.length
  · rw [if_pos (.inr (.inr (.inl h3)))]
    go_enter Try.func24, Try.ntmps24
    go_wp2_with fail
    go_ret
    exact ⟨rfl, hg1⟩
  by_cases h4 : k.opts.length % 4 ≠ 0
  · rw [if_pos (.inr (.inr (.inr h4)))]
    have h5 : ((k.opts.length : Int) % 4 != 0) = true := by simp; omega
    go_enter Try.func24, Try.ntmps24
    go_wp2_with fail
    go_ret
    exact ⟨rfl, hg1⟩
  rw [if_neg (by omega)]
  have h6 : ((k.opts.length : Int) % 4 != 0) = false := by simp; omega
  have hlen : k.len ≤ 2000020 := by unfold Pkt.len; omega
  by_cases h5 : 65535 < k.len
  · rw [if_pos h5]
    go_enter Try.func24, Try.ntmps24
    go_wp2_with fail
    refine (Len_any _ _ _ hip hsm).mono ?_
    rintro e w1 ⟨rfl, hg2⟩
    go_wp2_with fail
    go_ret
    exact ⟨rfl, hg1.trans hg2⟩
  · rw [if_neg h5]
    go_enter Try.func24, Try.ntmps24
    go_wp2_with fail
    refine (Len_any _ _ _ hip hsm).mono ?_
    rintro e w1 ⟨rfl, hg2⟩
    go_wp2_with fail
    go_ret
    exact ⟨rfl, hg1.trans hg2⟩

set_option maxHeartbeats 1000000 in
theorem RCheck_ip (v : Value) (k : Pkt) (w : World) (h : Ip w v k) (hs : k.Small) :
    Calls Try.prog 20 #[v] w fun e w' => e = .returned (.int .i64 k.check) ∧ Grow w w' := by
  obtain ⟨A, c, B, d, rfl, ho, hd, hk⟩ := h.form
  have hsm := hs
  obtain ⟨hs1, hs2⟩ := hs
  have k1 := hk.off1
  have k2 := hk.off2
  have hg1 := Grow.alloc w (.cells #[.int .u8 (k.tos : Int), .int .u16 (k.ident : Int), .bool k.whole, .bool k.more, .int .i64 k.off, .int .u8 (k.ttl : Int), .int .u8 (k.proto : Int), .int .u32 (k.src : Int), .int .u32 (k.dst : Int), .slice A k.opts.length c, .slice B k.data.length d] 27)
  have hip := h.grow hg1
  unfold Pkt.check
  by_cases h1 : k.off < 0
  · rw [if_pos (.inl h1)]
    go_enter Try.func20, Try.ntmps20
    go_wp2_with fail
    go_ret
    exact ⟨rfl, hg1⟩
  by_cases h2 : 8191 < k.off
  · rw [if_pos (.inr (.inl h2))]
    go_enter Try.func20, Try.ntmps20
    go_wp2_with fail
    go_ret
    exact ⟨rfl, hg1⟩
  by_cases h3 : 40 < k.opts.length
  · rw [if_pos (.inr (.inr (.inl h3)))]
    go_enter Try.func20, Try.ntmps20
    go_wp2_with fail
    go_ret
    exact ⟨rfl, hg1⟩
  by_cases h4 : k.opts.length % 4 ≠ 0
  · rw [if_pos (.inr (.inr (.inr h4)))]
    have h5 : ((k.opts.length : Int) % 4 != 0) = true := by simp; omega
    go_enter Try.func20, Try.ntmps20
    go_wp2_with fail
    go_ret
    exact ⟨rfl, hg1⟩
  rw [if_neg (by omega)]
  have h6 : ((k.opts.length : Int) % 4 != 0) = false := by simp; omega
  have hlen : k.len ≤ 2000020 := by unfold Pkt.len; omega
  by_cases h5 : 65535 < k.len
  · rw [if_pos h5]
    go_enter Try.func20, Try.ntmps20
    go_wp2_with fail
    refine (RLen_any _ _ _ hip hsm).mono ?_
    rintro e w1 ⟨rfl, hg2⟩
    go_wp2_with fail
    go_ret
    exact ⟨rfl, hg1.trans hg2⟩
  · rw [if_neg h5]
    go_enter Try.func20, Try.ntmps20
    go_wp2_with fail
    refine (RLen_any _ _ _ hip hsm).mono ?_
    rintro e w1 ⟨rfl, hg2⟩
    go_wp2_with fail
    go_ret
    exact ⟨rfl, hg1.trans hg2⟩

set_option maxHeartbeats 400000 in
theorem Long_any (v : Value) (k : Pkt) (w : World) (h : Ip w v k) :
    Calls Try.prog 6 #[v] w fun e w' => e = .returned (.bool (decide (100 < k.opts.length ∨ 70000 < k.data.length))) ∧ Grow w w' := by
  obtain ⟨A, c, B, d, rfl, ho, hd, hk⟩ := h.form
  have l1 := ho.len.2
  have l2 := hd.len.2
  unfold maxLen at l1 l2
  by_cases h1 : 100 < k.opts.length
  · rw [decide_eq_true (.inl h1)]
    go_enter Try.func6, Try.ntmps6
    go_wp2_with fail
    go_ret
    exact ⟨rfl, Grow.alloc _ _⟩
  · by_cases h2 : 70000 < k.data.length
    · rw [decide_eq_true (.inr h2)]
      go_enter Try.func6, Try.ntmps6
      go_wp2_with fail
      go_ret
      exact ⟨ret_bool (by simp; omega), Grow.alloc _ _⟩
    · rw [decide_eq_false (by omega)]
      go_enter Try.func6, Try.ntmps6
      go_wp2_with fail
      go_ret
      exact ⟨ret_bool (by simp; omega), Grow.alloc _ _⟩

end Go.Proofs.Ytkofmbnolaiecaa
