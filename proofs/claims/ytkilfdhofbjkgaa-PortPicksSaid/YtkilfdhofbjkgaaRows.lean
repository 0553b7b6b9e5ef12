/-
  No cell of these rows narrows 'for every input' (looked for: loops, veiled, ifaces, maps, wideKeys, modest, calm, conditions, laid).
  DERIVED. THE GIVEN ROWS OF THIS SEAT. 3 by the template 'for every input the law returns true; each argument reads behind the call as it read before'; 0 by the template 'total and deterministic' (their statements: YtkilfdhofbjkgaaTotals.lean).
  GIVEN WITH THE SEED: the statements are not yours to turn. If you find one false, say at which input.
  Laid BY PROGRAM, IN A SANDBOX (cutbox-rows.mjs): the forced cells as the released guide's own fill.sh prints them over the translation deb987afdaec1c85… (all of the seat's roots in one cut). By AI agents, Wed Nov 11 2026. No macro, syntax, notation, axiom, sorry.
-/
import Derived.Test.YtkilfdhofbjkgaaChecked
import GoSem.Claim
import GoSem.ClaimJoined
import GoSem.ClaimMapViews
import Derived.JoinedTies
import Derived.KernelRfl
namespace Go.Proofs.Ytkilfdhofbjkgaa
/- THE CELL 'sum', in the pinned program and in every row, IS THE sha256 OF THE DUMP (.gsa) THAT YtkilfdhofbjkgaaProg.lean LOADS. Nothing in Lean hashes anything: it is a label: what it is worth is what the hold of that sum in a sandbox is worth. -/
noncomputable def Try.pinned : Pinned := { name := "ytkilfdhofbjkgaa", sum := "deb987afdaec1c85209b6edd07bc0f8bcbc96d569372051e3e0a990091d60b99", checked := Try.checked }
namespace Rows
def none {H : Type} : Left H := { results := [], args := [] }

/-- 'towropelaw18.PortPlays': WHATEVER THE INPUT: true; the input reads as it did. -/
def portPlaysSpec : ChangeSpec := { name := "portPlays", fn := fun _ => fun
  | [d1, d2, d3] => { results := [.lit (.bool true)], args := [d1, d2, d3] }
  | _ => none }
def portPlaysRow : OpenClaim := { program := "ytkilfdhofbjkgaa", sum := "deb987afdaec1c85209b6edd07bc0f8bcbc96d569372051e3e0a990091d60b99", func := "towrope/towropelaw18.PortPlays", spec := "portPlays", plainKeys := false, apart := false }
def PortPlaysSaid : Prop := portPlaysRow.holds Try.pinned (OpenSpec.ofChange portPlaysSpec)

/-- ITS FALSE NEIGHBOUR: 'it returns false'. Refute it at one input. -/
def portPlaysWrong : ChangeSpec := { name := "portPlays", fn := fun _ => fun
  | [d1, d2, d3] => { results := [.lit (.bool false)], args := [d1, d2, d3] }
  | _ => none }
def PortPlaysWrongFalsely : Prop := portPlaysRow.holds Try.pinned (OpenSpec.ofChange portPlaysWrong)

/-- 'towropelaw18.PortPicks': WHATEVER THE INPUT: true; the input reads as it did. -/
def portPicksSpec : ChangeSpec := { name := "portPicks", fn := fun _ => fun
  | [d1, d2, d3] => { results := [.lit (.bool true)], args := [d1, d2, d3] }
  | _ => none }
def portPicksRow : OpenClaim := { program := "ytkilfdhofbjkgaa", sum := "deb987afdaec1c85209b6edd07bc0f8bcbc96d569372051e3e0a990091d60b99", func := "towrope/towropelaw18.PortPicks", spec := "portPicks", plainKeys := false, apart := false }
def PortPicksSaid : Prop := portPicksRow.holds Try.pinned (OpenSpec.ofChange portPicksSpec)

/-- ITS FALSE NEIGHBOUR: 'it returns false'. Refute it at one input. -/
def portPicksWrong : ChangeSpec := { name := "portPicks", fn := fun _ => fun
  | [d1, d2, d3] => { results := [.lit (.bool false)], args := [d1, d2, d3] }
  | _ => none }
def PortPicksWrongFalsely : Prop := portPicksRow.holds Try.pinned (OpenSpec.ofChange portPicksWrong)

/-- 'towropelaw18.PortNils': WHATEVER THE INPUT: true; the input reads as it did. -/
def portNilsSpec : ChangeSpec := { name := "portNils", fn := fun _ => fun
  | [d] => { results := [.lit (.bool true)], args := [d] }
  | _ => none }
def portNilsRow : OpenClaim := { program := "ytkilfdhofbjkgaa", sum := "deb987afdaec1c85209b6edd07bc0f8bcbc96d569372051e3e0a990091d60b99", func := "towrope/towropelaw18.PortNils", spec := "portNils", plainKeys := false, apart := false }
def PortNilsSaid : Prop := portNilsRow.holds Try.pinned (OpenSpec.ofChange portNilsSpec)

/-- ITS FALSE NEIGHBOUR: 'it returns false'. Refute it at one input. -/
def portNilsWrong : ChangeSpec := { name := "portNils", fn := fun _ => fun
  | [d] => { results := [.lit (.bool false)], args := [d] }
  | _ => none }
def PortNilsWrongFalsely : Prop := portNilsRow.holds Try.pinned (OpenSpec.ofChange portNilsWrong)

/- THE SECOND FORM. 'bulk': how many values and letters a reading holds, each counted each time it is reached (what is shared counts as often as it is met; a slice's spare places count too). A statement '..UptoSaid' is the law's where the arguments, and the package variables that the reading takes, are together of bulk at most 1048576: NARROWER than '..Said'. Prove '..Said' where nothing that the law and all that it calls make is longer than what came in: it says more and counts as full. Else prove '..UptoSaid'. A law counts once. -/
mutual
def uptoBulk {H : Type} : DataW H → Nat
  | .lit (.string bytes) => bytes.length + 1
  | .lit _ => 1
  | .nil => 1
  | .ptr d => uptoBulk d + 1
  | .slice elems spare => uptoBulkAll elems + uptoBulkAll spare + 1
  | .agg parts => uptoBulkAll parts + 1
  | .iface _ d => uptoBulk d + 1
  | .map entries => uptoBulkEntries entries + 1
  | .held _ => 1
def uptoBulkAll {H : Type} : List (DataW H) → Nat
  | [] => 0
  | d :: r => uptoBulk d + uptoBulkAll r
def uptoBulkEntries {H : Type} : List (Lit × DataW H) → Nat
  | [] => 0
  | x :: r => uptoBulkEntry x + uptoBulkEntries r
def uptoBulkEntry {H : Type} : Lit × DataW H → Nat
  | (.string bytes, d) => bytes.length + uptoBulk d + 1
  | (_, d) => uptoBulk d + 1
 end
def uptoSmall : (H : Type) → List (DataW H) → Bool := fun _ ds => decide (uptoBulkAll ds ≤ 1048576)
def OpenSpec.upto (s : _root_.Go.ChangeSpec) : _root_.Go.OpenSpec := { _root_.Go.OpenSpec.ofChange s with cond := some uptoSmall }

/-- 'towropelaw18.PortPlays', WHERE WHAT IT READS IS OF BULK AT MOST 1048576: true; the input reads as it did. -/
def portPlaysUptoRow : OpenClaim := { program := "ytkilfdhofbjkgaa", sum := "deb987afdaec1c85209b6edd07bc0f8bcbc96d569372051e3e0a990091d60b99", func := "towrope/towropelaw18.PortPlays", spec := "portPlays", plainKeys := false, apart := false, narrowed := true }
def PortPlaysUptoSaid : Prop := portPlaysUptoRow.holds Try.pinned (OpenSpec.upto portPlaysSpec)

/-- 'towropelaw18.PortPicks', WHERE WHAT IT READS IS OF BULK AT MOST 1048576: true; the input reads as it did. -/
def portPicksUptoRow : OpenClaim := { program := "ytkilfdhofbjkgaa", sum := "deb987afdaec1c85209b6edd07bc0f8bcbc96d569372051e3e0a990091d60b99", func := "towrope/towropelaw18.PortPicks", spec := "portPicks", plainKeys := false, apart := false, narrowed := true }
def PortPicksUptoSaid : Prop := portPicksUptoRow.holds Try.pinned (OpenSpec.upto portPicksSpec)

/-- 'towropelaw18.PortNils', WHERE WHAT IT READS IS OF BULK AT MOST 1048576: true; the input reads as it did. -/
def portNilsUptoRow : OpenClaim := { program := "ytkilfdhofbjkgaa", sum := "deb987afdaec1c85209b6edd07bc0f8bcbc96d569372051e3e0a990091d60b99", func := "towrope/towropelaw18.PortNils", spec := "portNils", plainKeys := false, apart := false, narrowed := true }
def PortNilsUptoSaid : Prop := portNilsUptoRow.holds Try.pinned (OpenSpec.upto portNilsSpec)

end Rows
end Go.Proofs.Ytkilfdhofbjkgaa
