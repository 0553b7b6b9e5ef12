/- Are two packets the same: as the program asks it, and as the document's own answer does. -/
import Derived.Test.YtbhdpobmooncpaaIpFacts
namespace Go.Proofs.Ytbhdpobmooncpaa
set_option linter.unusedVariables false
set_option linter.unusedSimpArgs false
open Go.ChangeShapes Go.WideShapes Go.ChangeAt Go.RowKit

set_option maxHeartbeats 400000 in
theorem Equal_any (u v : Value) (a b : List UInt8) (w : World) (h : Byt w u a) (k : Byt w v b) :
    Calls Try.prog 34 #[u, v] w fun e w' => e = .returned (.bool (a == b)) ∧ w = w' := by
  have c1 := str1 h
  have c2 := str1 k
  obtain ⟨A, n, rfl, _, _⟩ := h.form
  obtain ⟨B, m, rfl, _, _⟩ := k.form
  unfold strV at *
  go_enter Try.func34, Try.ntmps34
  go_wp2_with fail
  go_ret
  exact ⟨rfl, rfl⟩

def Pkt.same (k q : Pkt) : Bool := ((k.tos : Int) == (q.tos : Int)) && ((k.ident : Int) == (q.ident : Int)) && (k.whole == q.whole) && (k.more == q.more) && (k.off == q.off) && ((k.ttl : Int) == (q.ttl : Int)) && ((k.proto : Int) == (q.proto : Int)) && ((k.src : Int) == (q.src : Int)) && ((k.dst : Int) == (q.dst : Int)) && (k.opts == q.opts) && (k.data == q.data)
theorem same_iff (k q : Pkt) : k.same q = true ↔ k = q := by
  obtain ⟨a1, a2, a3, a4, a5, a6, a7, a8, a9, a10, a11⟩ := k
  obtain ⟨b1, b2, b3, b4, b5, b6, b7, b8, b9, b10, b11⟩ := q
  simp only [Pkt.same, Bool.and_eq_true, beq_iff_eq, Pkt.mk.injEq, Int.natCast_inj, and_assoc]
end Go.Proofs.Ytbhdpobmooncpaa
