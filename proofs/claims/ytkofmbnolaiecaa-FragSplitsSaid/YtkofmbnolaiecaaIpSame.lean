/- Are two packets the same: as the program asks it, and as the document's own answer does. -/
import Derived.Test.YtkofmbnolaiecaaIpFacts
namespace Go.Proofs.Ytkofmbnolaiecaa
set_option linter.unusedVariables false
set_option linter.unusedSimpArgs false
open Go.ChangeShapes Go.WideShapes Go.ChangeAt Go.RowKit

def Pkt.same (k q : Pkt) : Bool := ((k.tos : Int) == (q.tos : Int)) && ((k.ident : Int) == (q.ident : Int)) && (k.whole == q.whole) && (k.more == q.more) && (k.off == q.off) && ((k.ttl : Int) == (q.ttl : Int)) && ((k.proto : Int) == (q.proto : Int)) && ((k.src : Int) == (q.src : Int)) && ((k.dst : Int) == (q.dst : Int)) && (k.opts == q.opts) && (k.data == q.data)
theorem same_iff (k q : Pkt) : k.same q = true ↔ k = q := by
  obtain ⟨a1, a2, a3, a4, a5, a6, a7, a8, a9, a10, a11⟩ := k
  obtain ⟨b1, b2, b3, b4, b5, b6, b7, b8, b9, b10, b11⟩ := q
  simp only [Pkt.same, Bool.and_eq_true, beq_iff_eq, Pkt.mk.injEq, Int.natCast_inj, and_assoc]
end Go.Proofs.Ytkofmbnolaiecaa
