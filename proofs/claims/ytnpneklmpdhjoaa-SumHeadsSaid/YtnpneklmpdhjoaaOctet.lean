/- The laws' own walks. -/
import Derived.Test.YtnpneklmpdhjoaaWit
import Derived.Test.YtnpneklmpdhjoaaJoin
import Derived.Deep.DeepFit
namespace Go.Proofs.Ytnpneklmpdhjoaa
set_option linter.unusedVariables false
open Go.ChangeShapes Go.WideShapes Go.ChangeAt Go.RowKit

theorem str_eq (l m : List UInt8) (h : l = m) : ((⟨l.toArray⟩ : ByteArray).toList == (⟨m.toArray⟩ : ByteArray).toList) = true := by subst h; simp

theorem str1 {w : World} {v : Value} {l : List UInt8} (h : Byt w v l) : (convert 22 9 v).run Try.prog w = .ok (.string ⟨l.toArray⟩) w :=
  h.str 22 9 5 Try.underlying22 Try.underlying5 Try.underlying9

def isB (l : List UInt8) (v : Value) (w : World) : Prop := Byt w v l
theorem isB_stays (l : List UInt8) : stays (isB l) := fun _ _ _ hg h => Byt.grow h hg
def strV (l : List UInt8) : Value := .string ⟨l.toArray⟩
theorem add_strV (t : TypeId) (a b : List UInt8) (w : World) (h : a.length + b.length ≤ 9223372036854775807) : (binOp .add t (strV a) (strV b)).run Try.prog w = .ok (strV (a ++ b)) w := by
  unfold strV
  rw [binOp_string_add]
  have hs : ¬ ((((⟨a.toArray⟩ : ByteArray).size + (⟨b.toArray⟩ : ByteArray).size : Nat) : Int) > IntKind.i64.max) := by
    simp only [ByteArray.size, List.size_toArray, IntKind.max, IntKind.signed, IntKind.bits]
    omega
  simp only [Op.stringOp]
  rw [if_neg hs, Sem.run_pure]
  congr 2
theorem eql_strV (t : TypeId) (a : List UInt8) (w : World) : (binOp .eql t (strV a) (strV a)).run Try.prog w = .ok (.bool true) w := by
  unfold strV
  rw [binOp_string_eql, Sem.run_pure]
  simp

end Go.Proofs.Ytnpneklmpdhjoaa
