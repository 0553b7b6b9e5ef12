/- Two of api.Seg: are they the same, in numbers. -/
import Derived.Test.YtbhdpobmooncpaaSegS
import Derived.Test.YtbhdpobmooncpaaIpSame
namespace Go.Proofs.Ytbhdpobmooncpaa
set_option linter.unusedVariables false
set_option linter.unusedSimpArgs false
open Go.ChangeShapes Go.WideShapes Go.ChangeAt Go.RowKit

def Sgm.same (k q : Sgm) : Bool := ((k.src : Int) == (q.src : Int)) && ((k.dst : Int) == (q.dst : Int)) && ((k.seq : Int) == (q.seq : Int)) && ((k.ack : Int) == (q.ack : Int)) && ((k.flags : Int) == (q.flags : Int)) && ((k.win : Int) == (q.win : Int)) && (k.mss == q.mss) && (k.scale == q.scale) && (k.data == q.data)
theorem Sgm.same_iff (k q : Sgm) : k.same q = true ↔ k = q := by
  obtain ⟨a1, a2, a3, a4, a5, a6, a7, a8, a9⟩ := k
  obtain ⟨b1, b2, b3, b4, b5, b6, b7, b8, b9⟩ := q
  simp only [Sgm.same, Bool.and_eq_true, beq_iff_eq, Sgm.mk.injEq, Int.natCast_inj, and_assoc]
theorem Sgm.same_self (k : Sgm) : k.same k = true := (Sgm.same_iff k k).2 rfl
end Go.Proofs.Ytbhdpobmooncpaa
