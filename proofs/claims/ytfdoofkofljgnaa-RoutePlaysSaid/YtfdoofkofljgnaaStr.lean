/- Texts of bytes; the reference's Number. -/
import Derived.Test.YtfdoofkofljgnaaRows
import Derived.Test.YtfdoofkofljgnaaRead
import Derived.Test.YtfdoofkofljgnaaNum
import Derived.WalkKit
import Derived.ProofKit
import Derived.OpenShut
import Derived.ShutString
import Derived.ChangeOld
import Derived.Below
import Derived.BigQuiet
import Derived.Deep.QuietTactic
import Derived.WalkSpells
import Derived.WalkLawsBesides
import Derived.Outline
import Derived.Lib.Hide
import Derived.Lib.ItoaLen
import Derived.Lib.ItoaMem
import Derived.Deep.LoopGhost
import Derived.Deep.DeepCutAuto
namespace Go.Proofs.Ytfdoofkofljgnaa
set_option linter.unusedVariables false
set_option linter.unusedSimpArgs false
open Go.ChangeShapes Go.WideShapes Go.ChangeAt Go.RowKit

/-- A list of bytes as a text. -/
def str (l : List UInt8) : ByteArray := ⟨l.toArray⟩
theorem str_size (l : List UInt8) : (str l).size = l.length := by unfold str; rw [ByteArray.size]; simp
theorem str_add (a b : List UInt8) : str a ++ str b = str (a ++ b) := by
  apply ByteArray.ext
  show ((⟨a.toArray⟩ : ByteArray) ++ ⟨b.toArray⟩).data = _
  rw [ByteArray.data_append]
  simp [str]
theorem str_self (s : ByteArray) : str s.data.toList = s := by apply ByteArray.ext; simp [str]
theorem digits_at : ∀ d : Fin 10, (⟨#[48, 49, 50, 51, 52, 53, 54, 55, 56, 57]⟩ : ByteArray).extract d.val (d.val + 1) = str [UInt8.ofNat (48 + d.val)] := by decide +kernel
theorem digit_at {d : Nat} (h : d < 10) : (⟨#[48, 49, 50, 51, 52, 53, 54, 55, 56, 57]⟩ : ByteArray).extract d (d + 1) = str [UInt8.ofNat (48 + d)] := digits_at ⟨d, h⟩

theorem itoa_big {q : Nat} (h : ¬ q < 10) : Lib.itoa (q : Int) = Lib.itoa ((q / 10 : Nat) : Int) ++ [UInt8.ofNat (48 + q % 10)] := by
  rw [Lib.itoa_nonneg, Lib.itoa_nonneg, Lib.decDigits, dif_neg h]
theorem itoa_nbig {q : Nat} (h : ¬ q < 10) : Lib.itoa (-(q : Int)) = Lib.itoa (-((q / 10 : Nat) : Int)) ++ [UInt8.ofNat (48 + q % 10)] := by
  rw [Lib.itoa_neg _ (by omega), Lib.itoa_neg _ (by omega), Lib.decDigits, dif_neg h]
  rfl
theorem itoa_one {q : Nat} (h : q < 10) : Lib.itoa (q : Int) = [UInt8.ofNat (48 + q)] := by rw [Lib.itoa_nonneg, Lib.decDigits_one h]
theorem itoa_none {q : Nat} (h : q < 10) (h1 : 1 ≤ q) : Lib.itoa (-(q : Int)) = [45] ++ [UInt8.ofNat (48 + q)] := by rw [Lib.itoa_neg _ h1, Lib.decDigits_one h]; rfl

theorem leaves_draws {P : Program} {f : FuncId} {args : Array Value} {w : World} {n : Nat} {v : Value}
    (h : Calls P f args (w.drewN n) fun e w' => e = .returned v ∧ ∃ m, w' = (w.drewN n).drewN m) :
    Calls P f args (w.drewN n) fun e w'' => e = .returned v ∧ ∃ m, w'' = w.drewN m :=
  h.mono fun _ _ ⟨he, m, hm⟩ => ⟨he, n + m, by rw [hm, World.drewN_drewN]⟩

end Go.Proofs.Ytfdoofkofljgnaa
