/- Packets as values; the contracts of the small functions: how long, may it be, its flags. -/
import Derived.Test.YtbhdpobmooncpaaJoin
namespace Go.Proofs.Ytbhdpobmooncpaa
set_option linter.unusedVariables false
set_option linter.unusedSimpArgs false
open Go.ChangeShapes Go.WideShapes Go.ChangeAt Go.RowKit

structure Pkt where
  tos : Nat
  ident : Nat
  whole : Bool
  more : Bool
  off : Int
  ttl : Nat
  proto : Nat
  src : Nat
  dst : Nat
  opts : List UInt8
  data : List UInt8

/-- Each field in its type. -/
structure Pkt.Ok (k : Pkt) : Prop where
  tos : k.tos < 256
  ident : k.ident < 65536
  off1 : -9223372036854775808 ≤ k.off
  off2 : k.off ≤ 9223372036854775807
  ttl : k.ttl < 256
  proto : k.proto < 256
  src : k.src < 4294967296
  dst : k.dst < 4294967296

@[reducible] def ipV (k : Pkt) (vo vd : Value) : Value := .agg #[.int .u8 (k.tos : Int), .int .u16 (k.ident : Int), .bool k.whole, .bool k.more, .int .i64 k.off, .int .u8 (k.ttl : Int), .int .u8 (k.proto : Int), .int .u32 (k.src : Int), .int .u32 (k.dst : Int), vo, vd]
/-- The value v reads as the packet k. -/
def Ip (w : World) (v : Value) (k : Pkt) : Prop := ∃ vo vd, v = ipV k vo vd ∧ Byt w vo k.opts ∧ Byt w vd k.data ∧ k.Ok
theorem Ip.grow {w w' : World} {v : Value} {k : Pkt} (h : Ip w v k) (g : Grow w w') : Ip w' v k := by
  obtain ⟨vo, vd, e, h1, h2, h3⟩ := h
  exact ⟨vo, vd, e, h1.grow g, h2.grow g, h3⟩
theorem Ip.form {w : World} {v : Value} {k : Pkt} (h : Ip w v k) : ∃ A c B d, v = ipV k (.slice A k.opts.length c) (.slice B k.data.length d) ∧ Byt w (.slice A k.opts.length c) k.opts ∧ Byt w (.slice B k.data.length d) k.data ∧ k.Ok := by
  obtain ⟨vo, vd, e, h1, h2, h3⟩ := h
  obtain ⟨A, c, rfl, hc, hm⟩ := h1.form
  obtain ⟨B, d, rfl, hd, hn⟩ := h2.form
  exact ⟨A, c, B, d, e, h1, h2, h3⟩

/-- Of a length that any machine holds. -/
def Pkt.Small (k : Pkt) : Prop := k.opts.length ≤ 1000000 ∧ k.data.length ≤ 1000000

def Pkt.len (k : Pkt) : Nat := 20 + k.opts.length + k.data.length
def Pkt.check (k : Pkt) : Int := if k.off < 0 ∨ 8191 < k.off ∨ 40 < k.opts.length ∨ k.opts.length % 4 ≠ 0 then 1 else if 65535 < k.len then 9 else 0
def Pkt.flag (k : Pkt) : Int := (if k.whole then 16384 else 0) + (if k.more then 8192 else 0)

end Go.Proofs.Ytbhdpobmooncpaa
