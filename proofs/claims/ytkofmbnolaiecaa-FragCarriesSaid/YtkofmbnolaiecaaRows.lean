/-
  No cell of these rows narrows 'for every input' (looked for: loops, veiled, ifaces, maps, wideKeys, modest, calm, conditions, laid).
  DERIVED. THE GIVEN ROWS OF THIS SEAT. 3 by the template 'for every input the law returns true; each argument reads behind the call as it read before'; 0 by the template 'total and deterministic' (their statements: YtkofmbnolaiecaaTotals.lean).
  GIVEN WITH THE SEED: the statements are not yours to turn. If you find one false, say at which input.
  Laid BY PROGRAM, IN A SANDBOX (cutbox-rows.mjs): the forced cells as the released guide's own fill.sh prints them over the translation 631a45fba3fa7190… (all of the seat's roots in one cut). By AI agents, Wed Nov 11 2026. No macro, syntax, notation, axiom, sorry.
-/
import Derived.Test.YtkofmbnolaiecaaChecked
import GoSem.Claim
import GoSem.ClaimJoined
import GoSem.ClaimMapViews
import Derived.JoinedTies
import Derived.KernelRfl
namespace Go.Proofs.Ytkofmbnolaiecaa
/- THE CELL 'sum', in the pinned program and in every row, IS THE sha256 OF THE DUMP (.gsa) THAT YtkofmbnolaiecaaProg.lean LOADS. Nothing in Lean hashes anything: it is a label: what it is worth is what the hold of that sum in a sandbox is worth. -/
noncomputable def Try.pinned : Pinned := { name := "ytkofmbnolaiecaa", sum := "631a45fba3fa719045608152d8160c995958b97244189eba2debfeefcc469850", checked := Try.checked }
namespace Rows
def none {H : Type} : Left H := { results := [], args := [] }

/-- 'towropelaw11.FragSplits': WHATEVER THE INPUT: true; the input reads as it did. -/
def fragSplitsSpec : ChangeSpec := { name := "fragSplits", fn := fun _ => fun
  | [d1, d2] => { results := [.lit (.bool true)], args := [d1, d2] }
  | _ => none }
def fragSplitsRow : OpenClaim := { program := "ytkofmbnolaiecaa", sum := "631a45fba3fa719045608152d8160c995958b97244189eba2debfeefcc469850", func := "towrope/towropelaw11.FragSplits", spec := "fragSplits", apart := false }
def FragSplitsSaid : Prop := fragSplitsRow.holds Try.pinned (OpenSpec.ofChange fragSplitsSpec)

/-- ITS FALSE NEIGHBOUR: 'it returns false'. Refute it at one input. -/
def fragSplitsWrong : ChangeSpec := { name := "fragSplits", fn := fun _ => fun
  | [d1, d2] => { results := [.lit (.bool false)], args := [d1, d2] }
  | _ => none }
def FragSplitsWrongFalsely : Prop := fragSplitsRow.holds Try.pinned (OpenSpec.ofChange fragSplitsWrong)

/-- 'towropelaw11.FragCarries': WHATEVER THE INPUT: true; the input reads as it did. -/
def fragCarriesSpec : ChangeSpec := { name := "fragCarries", fn := fun _ => fun
  | [d] => { results := [.lit (.bool true)], args := [d] }
  | _ => none }
def fragCarriesRow : OpenClaim := { program := "ytkofmbnolaiecaa", sum := "631a45fba3fa719045608152d8160c995958b97244189eba2debfeefcc469850", func := "towrope/towropelaw11.FragCarries", spec := "fragCarries", apart := false }
def FragCarriesSaid : Prop := fragCarriesRow.holds Try.pinned (OpenSpec.ofChange fragCarriesSpec)

/-- ITS FALSE NEIGHBOUR: 'it returns false'. Refute it at one input. -/
def fragCarriesWrong : ChangeSpec := { name := "fragCarries", fn := fun _ => fun
  | [d] => { results := [.lit (.bool false)], args := [d] }
  | _ => none }
def FragCarriesWrongFalsely : Prop := fragCarriesRow.holds Try.pinned (OpenSpec.ofChange fragCarriesWrong)

/-- 'towropelaw11.FragHolds': WHATEVER THE INPUT: true; the input reads as it did. -/
def fragHoldsSpec : ChangeSpec := { name := "fragHolds", fn := fun _ => fun
  | [d1, d2] => { results := [.lit (.bool true)], args := [d1, d2] }
  | _ => none }
def fragHoldsRow : OpenClaim := { program := "ytkofmbnolaiecaa", sum := "631a45fba3fa719045608152d8160c995958b97244189eba2debfeefcc469850", func := "towrope/towropelaw11.FragHolds", spec := "fragHolds", apart := false }
def FragHoldsSaid : Prop := fragHoldsRow.holds Try.pinned (OpenSpec.ofChange fragHoldsSpec)

/-- ITS FALSE NEIGHBOUR: 'it returns false'. Refute it at one input. -/
def fragHoldsWrong : ChangeSpec := { name := "fragHolds", fn := fun _ => fun
  | [d1, d2] => { results := [.lit (.bool false)], args := [d1, d2] }
  | _ => none }
def FragHoldsWrongFalsely : Prop := fragHoldsRow.holds Try.pinned (OpenSpec.ofChange fragHoldsWrong)

/- THE SECOND FORM. 'bulk': how many values and letters a reading holds, each counted each time it is reached (what is shared counts as often as it is met; a slice's spare places count too). A statement '..UptoSaid' is the law's where the arguments, and the package variables that the reading takes, are together of bulk at most 1048576: NARROWER than '..Said'. Prove '..Said' where nothing that the law and all that it calls make is longer than what came in: it says more and counts as full. Else prove '..UptoSaid'. A law counts once. -/
mutual
def uptoBulk {H : Type} : DataW H → Nat
  | .lit (.string bytes) => bytes.length + 1
  | .lit _ => 1
  | .nil => 1
  | .ptr d => uptoBulk d + 1
  | .slice elems spare => uptoBulkAll elems + uptoBulkAll spare + 1
  | .agg parts => uptoBulkAll parts + 1
  | .iface _ d => uptoBulk d + 1
  | .map entries => uptoBulkEntries entries + 1
  | .held _ => 1
def uptoBulkAll {H : Type} : List (DataW H) → Nat
  | [] => 0
  | d :: r => uptoBulk d + uptoBulkAll r
def uptoBulkEntries {H : Type} : List (Lit × DataW H) → Nat
  | [] => 0
  | x :: r => uptoBulkEntry x + uptoBulkEntries r
def uptoBulkEntry {H : Type} : Lit × DataW H → Nat
  | (.string bytes, d) => bytes.length + uptoBulk d + 1
  | (_, d) => uptoBulk d + 1
 end
def uptoSmall : (H : Type) → List (DataW H) → Bool := fun _ ds => decide (uptoBulkAll ds ≤ 1048576)
def OpenSpec.upto (s : _root_.Go.ChangeSpec) : _root_.Go.OpenSpec := { _root_.Go.OpenSpec.ofChange s with cond := some uptoSmall }

/-- 'towropelaw11.FragSplits', WHERE WHAT IT READS IS OF BULK AT MOST 1048576: true; the input reads as it did. -/
def fragSplitsUptoRow : OpenClaim := { program := "ytkofmbnolaiecaa", sum := "631a45fba3fa719045608152d8160c995958b97244189eba2debfeefcc469850", func := "towrope/towropelaw11.FragSplits", spec := "fragSplits", apart := false, narrowed := true }
def FragSplitsUptoSaid : Prop := fragSplitsUptoRow.holds Try.pinned (OpenSpec.upto fragSplitsSpec)

/-- 'towropelaw11.FragCarries', WHERE WHAT IT READS IS OF BULK AT MOST 1048576: true; the input reads as it did. -/
def fragCarriesUptoRow : OpenClaim := { program := "ytkofmbnolaiecaa", sum := "631a45fba3fa719045608152d8160c995958b97244189eba2debfeefcc469850", func := "towrope/towropelaw11.FragCarries", spec := "fragCarries", apart := false, narrowed := true }
def FragCarriesUptoSaid : Prop := fragCarriesUptoRow.holds Try.pinned (OpenSpec.upto fragCarriesSpec)

/-- 'towropelaw11.FragHolds', WHERE WHAT IT READS IS OF BULK AT MOST 1048576: true; the input reads as it did. -/
def fragHoldsUptoRow : OpenClaim := { program := "ytkofmbnolaiecaa", sum := "631a45fba3fa719045608152d8160c995958b97244189eba2debfeefcc469850", func := "towrope/towropelaw11.FragHolds", spec := "fragHolds", apart := false, narrowed := true }
def FragHoldsUptoSaid : Prop := fragHoldsUptoRow.holds Try.pinned (OpenSpec.upto fragHoldsSpec)

end Rows
end Go.Proofs.Ytkofmbnolaiecaa
