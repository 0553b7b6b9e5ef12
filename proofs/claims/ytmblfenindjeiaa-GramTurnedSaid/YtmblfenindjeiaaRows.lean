/-
  No cell of these rows narrows 'for every input' (looked for: loops, veiled, ifaces, maps, wideKeys, modest, calm, conditions, laid).
  DERIVED. THE GIVEN ROWS OF THIS SEAT. 3 by the template 'for every input the law returns true; each argument reads behind the call as it read before'; 0 by the template 'total and deterministic' (their statements: YtmblfenindjeiaaTotals.lean).
  GIVEN WITH THE SEED: the statements are not yours to turn. If you find one false, say at which input.
  Laid BY PROGRAM, IN A SANDBOX (cutbox-rows.mjs): the forced cells as the released guide's own fill.sh prints them over the translation 9fa07ec651dcee1c… (all of the seat's roots in one cut). By AI agents, Wed Nov 11 2026. No macro, syntax, notation, axiom, sorry.
-/
import Derived.Test.YtmblfenindjeiaaChecked
import GoSem.Claim
import GoSem.ClaimJoined
import GoSem.ClaimMapViews
import Derived.JoinedTies
import Derived.KernelRfl
namespace Go.Proofs.Ytmblfenindjeiaa
/- THE CELL 'sum', in the pinned program and in every row, IS THE sha256 OF THE DUMP (.gsa) THAT YtmblfenindjeiaaProg.lean LOADS. Nothing in Lean hashes anything: it is a label: what it is worth is what the hold of that sum in a sandbox is worth. -/
noncomputable def Try.pinned : Pinned := { name := "ytmblfenindjeiaa", sum := "9fa07ec651dcee1c7ebc3bb1c0f34f5c9092947edfa9fe3ce0feed6bd317f332", checked := Try.checked }
namespace Rows
def none {H : Type} : Left H := { results := [], args := [] }

/-- 'towropelaw08.GramPuts': WHATEVER THE INPUT: true; the input reads as it did. -/
def gramPutsSpec : ChangeSpec := { name := "gramPuts", fn := fun _ => fun
  | [d1, d2, d3, d4] => { results := [.lit (.bool true)], args := [d1, d2, d3, d4] }
  | _ => none }
def gramPutsRow : OpenClaim := { program := "ytmblfenindjeiaa", sum := "9fa07ec651dcee1c7ebc3bb1c0f34f5c9092947edfa9fe3ce0feed6bd317f332", func := "towrope/towropelaw08.GramPuts", spec := "gramPuts", unfollowed := true, recurses := true, apart := false }
def GramPutsSaid : Prop := gramPutsRow.holds Try.pinned (OpenSpec.ofChange gramPutsSpec)

/-- ITS FALSE NEIGHBOUR: 'it returns false'. Refute it at one input. -/
def gramPutsWrong : ChangeSpec := { name := "gramPuts", fn := fun _ => fun
  | [d1, d2, d3, d4] => { results := [.lit (.bool false)], args := [d1, d2, d3, d4] }
  | _ => none }
def GramPutsWrongFalsely : Prop := gramPutsRow.holds Try.pinned (OpenSpec.ofChange gramPutsWrong)

/-- 'towropelaw08.GramGets': WHATEVER THE INPUT: true; the input reads as it did. -/
def gramGetsSpec : ChangeSpec := { name := "gramGets", fn := fun _ => fun
  | [d1, d2, d3] => { results := [.lit (.bool true)], args := [d1, d2, d3] }
  | _ => none }
def gramGetsRow : OpenClaim := { program := "ytmblfenindjeiaa", sum := "9fa07ec651dcee1c7ebc3bb1c0f34f5c9092947edfa9fe3ce0feed6bd317f332", func := "towrope/towropelaw08.GramGets", spec := "gramGets", unfollowed := true, recurses := true, apart := false }
def GramGetsSaid : Prop := gramGetsRow.holds Try.pinned (OpenSpec.ofChange gramGetsSpec)

/-- ITS FALSE NEIGHBOUR: 'it returns false'. Refute it at one input. -/
def gramGetsWrong : ChangeSpec := { name := "gramGets", fn := fun _ => fun
  | [d1, d2, d3] => { results := [.lit (.bool false)], args := [d1, d2, d3] }
  | _ => none }
def GramGetsWrongFalsely : Prop := gramGetsRow.holds Try.pinned (OpenSpec.ofChange gramGetsWrong)

/-- 'towropelaw08.GramTurned': WHATEVER THE INPUT: true; the input reads as it did. -/
def gramTurnedSpec : ChangeSpec := { name := "gramTurned", fn := fun _ => fun
  | [d1, d2, d3, d4, d5] => { results := [.lit (.bool true)], args := [d1, d2, d3, d4, d5] }
  | _ => none }
def gramTurnedRow : OpenClaim := { program := "ytmblfenindjeiaa", sum := "9fa07ec651dcee1c7ebc3bb1c0f34f5c9092947edfa9fe3ce0feed6bd317f332", func := "towrope/towropelaw08.GramTurned", spec := "gramTurned", unfollowed := true, recurses := true, apart := false }
def GramTurnedSaid : Prop := gramTurnedRow.holds Try.pinned (OpenSpec.ofChange gramTurnedSpec)

/-- ITS FALSE NEIGHBOUR: 'it returns false'. Refute it at one input. -/
def gramTurnedWrong : ChangeSpec := { name := "gramTurned", fn := fun _ => fun
  | [d1, d2, d3, d4, d5] => { results := [.lit (.bool false)], args := [d1, d2, d3, d4, d5] }
  | _ => none }
def GramTurnedWrongFalsely : Prop := gramTurnedRow.holds Try.pinned (OpenSpec.ofChange gramTurnedWrong)

/- THE SECOND FORM. 'bulk': how many values and letters a reading holds, each counted each time it is reached (what is shared counts as often as it is met; a slice's spare places count too). A statement '..UptoSaid' is the law's where the arguments, and the package variables that the reading takes, are together of bulk at most 1048576: NARROWER than '..Said'. Prove '..Said' where nothing that the law and all that it calls make is longer than what came in: it says more and counts as full. Else prove '..UptoSaid'. A law counts once. -/
mutual
def uptoBulk {H : Type} : DataW H → Nat
  | .lit (.string bytes) => bytes.length + 1
  | .lit _ => 1
  | .nil => 1
  | .ptr d => uptoBulk d + 1
  | .slice elems spare => uptoBulkAll elems + uptoBulkAll spare + 1
  | .agg parts => uptoBulkAll parts + 1
  | .iface _ d => uptoBulk d + 1
  | .map entries => uptoBulkEntries entries + 1
  | .held _ => 1
def uptoBulkAll {H : Type} : List (DataW H) → Nat
  | [] => 0
  | d :: r => uptoBulk d + uptoBulkAll r
def uptoBulkEntries {H : Type} : List (Lit × DataW H) → Nat
  | [] => 0
  | x :: r => uptoBulkEntry x + uptoBulkEntries r
def uptoBulkEntry {H : Type} : Lit × DataW H → Nat
  | (.string bytes, d) => bytes.length + uptoBulk d + 1
  | (_, d) => uptoBulk d + 1
 end
def uptoSmall : (H : Type) → List (DataW H) → Bool := fun _ ds => decide (uptoBulkAll ds ≤ 1048576)
def OpenSpec.upto (s : _root_.Go.ChangeSpec) : _root_.Go.OpenSpec := { _root_.Go.OpenSpec.ofChange s with cond := some uptoSmall }

/-- 'towropelaw08.GramPuts', WHERE WHAT IT READS IS OF BULK AT MOST 1048576: true; the input reads as it did. -/
def gramPutsUptoRow : OpenClaim := { program := "ytmblfenindjeiaa", sum := "9fa07ec651dcee1c7ebc3bb1c0f34f5c9092947edfa9fe3ce0feed6bd317f332", func := "towrope/towropelaw08.GramPuts", spec := "gramPuts", unfollowed := true, recurses := true, apart := false, narrowed := true }
def GramPutsUptoSaid : Prop := gramPutsUptoRow.holds Try.pinned (OpenSpec.upto gramPutsSpec)

/-- 'towropelaw08.GramGets', WHERE WHAT IT READS IS OF BULK AT MOST 1048576: true; the input reads as it did. -/
def gramGetsUptoRow : OpenClaim := { program := "ytmblfenindjeiaa", sum := "9fa07ec651dcee1c7ebc3bb1c0f34f5c9092947edfa9fe3ce0feed6bd317f332", func := "towrope/towropelaw08.GramGets", spec := "gramGets", unfollowed := true, recurses := true, apart := false, narrowed := true }
def GramGetsUptoSaid : Prop := gramGetsUptoRow.holds Try.pinned (OpenSpec.upto gramGetsSpec)

/-- 'towropelaw08.GramTurned', WHERE WHAT IT READS IS OF BULK AT MOST 1048576: true; the input reads as it did. -/
def gramTurnedUptoRow : OpenClaim := { program := "ytmblfenindjeiaa", sum := "9fa07ec651dcee1c7ebc3bb1c0f34f5c9092947edfa9fe3ce0feed6bd317f332", func := "towrope/towropelaw08.GramTurned", spec := "gramTurned", unfollowed := true, recurses := true, apart := false, narrowed := true }
def GramTurnedUptoSaid : Prop := gramTurnedUptoRow.holds Try.pinned (OpenSpec.upto gramTurnedSpec)

end Rows
end Go.Proofs.Ytmblfenindjeiaa
