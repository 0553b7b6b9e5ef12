/-
  No cell of these rows narrows 'for every input' (looked for: loops, veiled, ifaces, maps, wideKeys, modest, calm, conditions, laid).
  DERIVED. THE GIVEN ROWS OF THIS SEAT. 3 by the template 'for every input the law returns true; each argument reads behind the call as it read before'; 0 by the template 'total and deterministic' (their statements: YteohepgpghmioaaTotals.lean).
  GIVEN WITH THE SEED: the statements are not yours to turn. If you find one false, say at which input.
  Laid BY PROGRAM, IN A SANDBOX (cutbox-rows.mjs): the forced cells as the released guide's own fill.sh prints them over the translation 7c26cc5210c22a03… (all of the seat's roots in one cut). By AI agents, Wed Nov 11 2026. No macro, syntax, notation, axiom, sorry.
-/
import Derived.Test.YteohepgpghmioaaChecked
import GoSem.Claim
import GoSem.ClaimJoined
import GoSem.ClaimMapViews
import Derived.JoinedTies
import Derived.KernelRfl
namespace Go.Proofs.Yteohepgpghmioaa
/- THE CELL 'sum', in the pinned program and in every row, IS THE sha256 OF THE DUMP (.gsa) THAT YteohepgpghmioaaProg.lean LOADS. Nothing in Lean hashes anything: it is a label: what it is worth is what the hold of that sum in a sandbox is worth. -/
noncomputable def Try.pinned : Pinned := { name := "yteohepgpghmioaa", sum := "7c26cc5210c22a039dfde0c47d0fe810a6e16eb410a15da25caf2f652ba93265", checked := Try.checked }
namespace Rows
def none {H : Type} : Left H := { results := [], args := [] }

/-- 'towropelaw15.HosePlays': WHATEVER THE INPUT: true; the input reads as it did. -/
def hosePlaysSpec : ChangeSpec := { name := "hosePlays", fn := fun _ => fun
  | [d1, d2] => { results := [.lit (.bool true)], args := [d1, d2] }
  | _ => none }
def hosePlaysRow : OpenClaim := { program := "yteohepgpghmioaa", sum := "7c26cc5210c22a039dfde0c47d0fe810a6e16eb410a15da25caf2f652ba93265", func := "towrope/towropelaw15.HosePlays", spec := "hosePlays", apart := false }
def HosePlaysSaid : Prop := hosePlaysRow.holds Try.pinned (OpenSpec.ofChange hosePlaysSpec)

/-- ITS FALSE NEIGHBOUR: 'it returns false'. Refute it at one input. -/
def hosePlaysWrong : ChangeSpec := { name := "hosePlays", fn := fun _ => fun
  | [d1, d2] => { results := [.lit (.bool false)], args := [d1, d2] }
  | _ => none }
def HosePlaysWrongFalsely : Prop := hosePlaysRow.holds Try.pinned (OpenSpec.ofChange hosePlaysWrong)

/-- 'towropelaw15.HoseOrder': WHATEVER THE INPUT: true; the input reads as it did. -/
def hoseOrderSpec : ChangeSpec := { name := "hoseOrder", fn := fun _ => fun
  | [d1, d2, d3] => { results := [.lit (.bool true)], args := [d1, d2, d3] }
  | _ => none }
def hoseOrderRow : OpenClaim := { program := "yteohepgpghmioaa", sum := "7c26cc5210c22a039dfde0c47d0fe810a6e16eb410a15da25caf2f652ba93265", func := "towrope/towropelaw15.HoseOrder", spec := "hoseOrder", apart := false }
def HoseOrderSaid : Prop := hoseOrderRow.holds Try.pinned (OpenSpec.ofChange hoseOrderSpec)

/-- ITS FALSE NEIGHBOUR: 'it returns false'. Refute it at one input. -/
def hoseOrderWrong : ChangeSpec := { name := "hoseOrder", fn := fun _ => fun
  | [d1, d2, d3] => { results := [.lit (.bool false)], args := [d1, d2, d3] }
  | _ => none }
def HoseOrderWrongFalsely : Prop := hoseOrderRow.holds Try.pinned (OpenSpec.ofChange hoseOrderWrong)

/-- 'towropelaw15.HoseNils': WHATEVER THE INPUT: true; the input reads as it did. -/
def hoseNilsSpec : ChangeSpec := { name := "hoseNils", fn := fun _ => fun
  | [d] => { results := [.lit (.bool true)], args := [d] }
  | _ => none }
def hoseNilsRow : OpenClaim := { program := "yteohepgpghmioaa", sum := "7c26cc5210c22a039dfde0c47d0fe810a6e16eb410a15da25caf2f652ba93265", func := "towrope/towropelaw15.HoseNils", spec := "hoseNils", apart := false }
def HoseNilsSaid : Prop := hoseNilsRow.holds Try.pinned (OpenSpec.ofChange hoseNilsSpec)

/-- ITS FALSE NEIGHBOUR: 'it returns false'. Refute it at one input. -/
def hoseNilsWrong : ChangeSpec := { name := "hoseNils", fn := fun _ => fun
  | [d] => { results := [.lit (.bool false)], args := [d] }
  | _ => none }
def HoseNilsWrongFalsely : Prop := hoseNilsRow.holds Try.pinned (OpenSpec.ofChange hoseNilsWrong)

/- THE SECOND FORM. 'bulk': how many values and letters a reading holds, each counted each time it is reached (what is shared counts as often as it is met; a slice's spare places count too). A statement '..UptoSaid' is the law's where the arguments, and the package variables that the reading takes, are together of bulk at most 1048576: NARROWER than '..Said'. Prove '..Said' where nothing that the law and all that it calls make is longer than what came in: it says more and counts as full. Else prove '..UptoSaid'. A law counts once. -/
mutual
def uptoBulk {H : Type} : DataW H → Nat
  | .lit (.string bytes) => bytes.length + 1
  | .lit _ => 1
  | .nil => 1
  | .ptr d => uptoBulk d + 1
  | .slice elems spare => uptoBulkAll elems + uptoBulkAll spare + 1
  | .agg parts => uptoBulkAll parts + 1
  | .iface _ d => uptoBulk d + 1
  | .map entries => uptoBulkEntries entries + 1
  | .held _ => 1
def uptoBulkAll {H : Type} : List (DataW H) → Nat
  | [] => 0
  | d :: r => uptoBulk d + uptoBulkAll r
def uptoBulkEntries {H : Type} : List (Lit × DataW H) → Nat
  | [] => 0
  | x :: r => uptoBulkEntry x + uptoBulkEntries r
def uptoBulkEntry {H : Type} : Lit × DataW H → Nat
  | (.string bytes, d) => bytes.length + uptoBulk d + 1
  | (_, d) => uptoBulk d + 1
 end
def uptoSmall : (H : Type) → List (DataW H) → Bool := fun _ ds => decide (uptoBulkAll ds ≤ 1048576)
def OpenSpec.upto (s : _root_.Go.ChangeSpec) : _root_.Go.OpenSpec := { _root_.Go.OpenSpec.ofChange s with cond := some uptoSmall }

/-- 'towropelaw15.HosePlays', WHERE WHAT IT READS IS OF BULK AT MOST 1048576: true; the input reads as it did. -/
def hosePlaysUptoRow : OpenClaim := { program := "yteohepgpghmioaa", sum := "7c26cc5210c22a039dfde0c47d0fe810a6e16eb410a15da25caf2f652ba93265", func := "towrope/towropelaw15.HosePlays", spec := "hosePlays", apart := false, narrowed := true }
def HosePlaysUptoSaid : Prop := hosePlaysUptoRow.holds Try.pinned (OpenSpec.upto hosePlaysSpec)

/-- 'towropelaw15.HoseOrder', WHERE WHAT IT READS IS OF BULK AT MOST 1048576: true; the input reads as it did. -/
def hoseOrderUptoRow : OpenClaim := { program := "yteohepgpghmioaa", sum := "7c26cc5210c22a039dfde0c47d0fe810a6e16eb410a15da25caf2f652ba93265", func := "towrope/towropelaw15.HoseOrder", spec := "hoseOrder", apart := false, narrowed := true }
def HoseOrderUptoSaid : Prop := hoseOrderUptoRow.holds Try.pinned (OpenSpec.upto hoseOrderSpec)

/-- 'towropelaw15.HoseNils', WHERE WHAT IT READS IS OF BULK AT MOST 1048576: true; the input reads as it did. -/
def hoseNilsUptoRow : OpenClaim := { program := "yteohepgpghmioaa", sum := "7c26cc5210c22a039dfde0c47d0fe810a6e16eb410a15da25caf2f652ba93265", func := "towrope/towropelaw15.HoseNils", spec := "hoseNils", apart := false, narrowed := true }
def HoseNilsUptoSaid : Prop := hoseNilsUptoRow.holds Try.pinned (OpenSpec.upto hoseNilsSpec)

end Rows
end Go.Proofs.Yteohepgpghmioaa
