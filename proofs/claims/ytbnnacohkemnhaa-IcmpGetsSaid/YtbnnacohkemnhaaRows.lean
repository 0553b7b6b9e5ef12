/-
  No cell of these rows narrows 'for every input' (looked for: loops, veiled, ifaces, maps, wideKeys, modest, calm, conditions, laid).
  DERIVED. THE GIVEN ROWS OF THIS SEAT. 6 by the template 'for every input the law returns true; each argument reads behind the call as it read before'; 0 by the template 'total and deterministic' (their statements: YtbnnacohkemnhaaTotals.lean).
  GIVEN WITH THE SEED: the statements are not yours to turn. If you find one false, say at which input.
  Laid BY PROGRAM, IN A SANDBOX (cutbox-rows.mjs): the forced cells as the released guide's own fill.sh prints them over the translation f2c8c7754fd4c7ef… (all of the seat's roots in one cut). By AI agents, Wed Nov 11 2026. No macro, syntax, notation, axiom, sorry.
-/
import Derived.Test.YtbnnacohkemnhaaChecked
import GoSem.Claim
import GoSem.ClaimJoined
import GoSem.ClaimMapViews
import Derived.JoinedTies
import Derived.KernelRfl
namespace Go.Proofs.Ytbnnacohkemnhaa
/- THE CELL 'sum', in the pinned program and in every row, IS THE sha256 OF THE DUMP (.gsa) THAT YtbnnacohkemnhaaProg.lean LOADS. Nothing in Lean hashes anything: it is a label: what it is worth is what the hold of that sum in a sandbox is worth. -/
noncomputable def Try.pinned : Pinned := { name := "ytbnnacohkemnhaa", sum := "f2c8c7754fd4c7efc61a6ffda5e829058756fbe384d7fec5f4c500134cd08016", checked := Try.checked }
namespace Rows
def none {H : Type} : Left H := { results := [], args := [] }

/-- 'towropelaw07.IcmpPuts': WHATEVER THE INPUT: true; the input reads as it did. -/
def icmpPutsSpec : ChangeSpec := { name := "icmpPuts", fn := fun _ => fun
  | [d] => { results := [.lit (.bool true)], args := [d] }
  | _ => none }
def icmpPutsRow : OpenClaim := { program := "ytbnnacohkemnhaa", sum := "f2c8c7754fd4c7efc61a6ffda5e829058756fbe384d7fec5f4c500134cd08016", func := "towrope/towropelaw07.IcmpPuts", spec := "icmpPuts", unfollowed := true, recurses := true, apart := false }
def IcmpPutsSaid : Prop := icmpPutsRow.holds Try.pinned (OpenSpec.ofChange icmpPutsSpec)

/-- ITS FALSE NEIGHBOUR: 'it returns false'. Refute it at one input. -/
def icmpPutsWrong : ChangeSpec := { name := "icmpPuts", fn := fun _ => fun
  | [d] => { results := [.lit (.bool false)], args := [d] }
  | _ => none }
def IcmpPutsWrongFalsely : Prop := icmpPutsRow.holds Try.pinned (OpenSpec.ofChange icmpPutsWrong)

/-- 'towropelaw07.IcmpGets': WHATEVER THE INPUT: true; the input reads as it did. -/
def icmpGetsSpec : ChangeSpec := { name := "icmpGets", fn := fun _ => fun
  | [d] => { results := [.lit (.bool true)], args := [d] }
  | _ => none }
def icmpGetsRow : OpenClaim := { program := "ytbnnacohkemnhaa", sum := "f2c8c7754fd4c7efc61a6ffda5e829058756fbe384d7fec5f4c500134cd08016", func := "towrope/towropelaw07.IcmpGets", spec := "icmpGets", unfollowed := true, recurses := true, apart := false }
def IcmpGetsSaid : Prop := icmpGetsRow.holds Try.pinned (OpenSpec.ofChange icmpGetsSpec)

/-- ITS FALSE NEIGHBOUR: 'it returns false'. Refute it at one input. -/
def icmpGetsWrong : ChangeSpec := { name := "icmpGets", fn := fun _ => fun
  | [d] => { results := [.lit (.bool false)], args := [d] }
  | _ => none }
def IcmpGetsWrongFalsely : Prop := icmpGetsRow.holds Try.pinned (OpenSpec.ofChange icmpGetsWrong)

/-- 'towropelaw07.IcmpEchoes': WHATEVER THE INPUT: true; the input reads as it did. -/
def icmpEchoesSpec : ChangeSpec := { name := "icmpEchoes", fn := fun _ => fun
  | [d1, d2, d3] => { results := [.lit (.bool true)], args := [d1, d2, d3] }
  | _ => none }
def icmpEchoesRow : OpenClaim := { program := "ytbnnacohkemnhaa", sum := "f2c8c7754fd4c7efc61a6ffda5e829058756fbe384d7fec5f4c500134cd08016", func := "towrope/towropelaw07.IcmpEchoes", spec := "icmpEchoes", unfollowed := true, recurses := true, apart := false }
def IcmpEchoesSaid : Prop := icmpEchoesRow.holds Try.pinned (OpenSpec.ofChange icmpEchoesSpec)

/-- ITS FALSE NEIGHBOUR: 'it returns false'. Refute it at one input. -/
def icmpEchoesWrong : ChangeSpec := { name := "icmpEchoes", fn := fun _ => fun
  | [d1, d2, d3] => { results := [.lit (.bool false)], args := [d1, d2, d3] }
  | _ => none }
def IcmpEchoesWrongFalsely : Prop := icmpEchoesRow.holds Try.pinned (OpenSpec.ofChange icmpEchoesWrong)

/-- 'towropelaw07.IcmpCauses': WHATEVER THE INPUT: true; the input reads as it did. -/
def icmpCausesSpec : ChangeSpec := { name := "icmpCauses", fn := fun _ => fun
  | [d1, d2, d3, d4] => { results := [.lit (.bool true)], args := [d1, d2, d3, d4] }
  | _ => none }
def icmpCausesRow : OpenClaim := { program := "ytbnnacohkemnhaa", sum := "f2c8c7754fd4c7efc61a6ffda5e829058756fbe384d7fec5f4c500134cd08016", func := "towrope/towropelaw07.IcmpCauses", spec := "icmpCauses", unfollowed := true, recurses := true, apart := false }
def IcmpCausesSaid : Prop := icmpCausesRow.holds Try.pinned (OpenSpec.ofChange icmpCausesSpec)

/-- ITS FALSE NEIGHBOUR: 'it returns false'. Refute it at one input. -/
def icmpCausesWrong : ChangeSpec := { name := "icmpCauses", fn := fun _ => fun
  | [d1, d2, d3, d4] => { results := [.lit (.bool false)], args := [d1, d2, d3, d4] }
  | _ => none }
def IcmpCausesWrongFalsely : Prop := icmpCausesRow.holds Try.pinned (OpenSpec.ofChange icmpCausesWrong)

/-- 'towropelaw07.IcmpBack': WHATEVER THE INPUT: true; the input reads as it did. -/
def icmpBackSpec : ChangeSpec := { name := "icmpBack", fn := fun _ => fun
  | [d1, d2] => { results := [.lit (.bool true)], args := [d1, d2] }
  | _ => none }
def icmpBackRow : OpenClaim := { program := "ytbnnacohkemnhaa", sum := "f2c8c7754fd4c7efc61a6ffda5e829058756fbe384d7fec5f4c500134cd08016", func := "towrope/towropelaw07.IcmpBack", spec := "icmpBack", unfollowed := true, recurses := true, apart := false }
def IcmpBackSaid : Prop := icmpBackRow.holds Try.pinned (OpenSpec.ofChange icmpBackSpec)

/-- ITS FALSE NEIGHBOUR: 'it returns false'. Refute it at one input. -/
def icmpBackWrong : ChangeSpec := { name := "icmpBack", fn := fun _ => fun
  | [d1, d2] => { results := [.lit (.bool false)], args := [d1, d2] }
  | _ => none }
def IcmpBackWrongFalsely : Prop := icmpBackRow.holds Try.pinned (OpenSpec.ofChange icmpBackWrong)

/-- 'towropelaw07.IcmpTurned': WHATEVER THE INPUT: true; the input reads as it did. -/
def icmpTurnedSpec : ChangeSpec := { name := "icmpTurned", fn := fun _ => fun
  | [d1, d2, d3] => { results := [.lit (.bool true)], args := [d1, d2, d3] }
  | _ => none }
def icmpTurnedRow : OpenClaim := { program := "ytbnnacohkemnhaa", sum := "f2c8c7754fd4c7efc61a6ffda5e829058756fbe384d7fec5f4c500134cd08016", func := "towrope/towropelaw07.IcmpTurned", spec := "icmpTurned", unfollowed := true, recurses := true, apart := false }
def IcmpTurnedSaid : Prop := icmpTurnedRow.holds Try.pinned (OpenSpec.ofChange icmpTurnedSpec)

/-- ITS FALSE NEIGHBOUR: 'it returns false'. Refute it at one input. -/
def icmpTurnedWrong : ChangeSpec := { name := "icmpTurned", fn := fun _ => fun
  | [d1, d2, d3] => { results := [.lit (.bool false)], args := [d1, d2, d3] }
  | _ => none }
def IcmpTurnedWrongFalsely : Prop := icmpTurnedRow.holds Try.pinned (OpenSpec.ofChange icmpTurnedWrong)

/- THE SECOND FORM. 'bulk': how many values and letters a reading holds, each counted each time it is reached (what is shared counts as often as it is met; a slice's spare places count too). A statement '..UptoSaid' is the law's where the arguments, and the package variables that the reading takes, are together of bulk at most 1048576: NARROWER than '..Said'. Prove '..Said' where nothing that the law and all that it calls make is longer than what came in: it says more and counts as full. Else prove '..UptoSaid'. A law counts once. -/
mutual
def uptoBulk {H : Type} : DataW H → Nat
  | .lit (.string bytes) => bytes.length + 1
  | .lit _ => 1
  | .nil => 1
  | .ptr d => uptoBulk d + 1
  | .slice elems spare => uptoBulkAll elems + uptoBulkAll spare + 1
  | .agg parts => uptoBulkAll parts + 1
  | .iface _ d => uptoBulk d + 1
  | .map entries => uptoBulkEntries entries + 1
  | .held _ => 1
def uptoBulkAll {H : Type} : List (DataW H) → Nat
  | [] => 0
  | d :: r => uptoBulk d + uptoBulkAll r
def uptoBulkEntries {H : Type} : List (Lit × DataW H) → Nat
  | [] => 0
  | x :: r => uptoBulkEntry x + uptoBulkEntries r
def uptoBulkEntry {H : Type} : Lit × DataW H → Nat
  | (.string bytes, d) => bytes.length + uptoBulk d + 1
  | (_, d) => uptoBulk d + 1
 end
def uptoSmall : (H : Type) → List (DataW H) → Bool := fun _ ds => decide (uptoBulkAll ds ≤ 1048576)
def OpenSpec.upto (s : _root_.Go.ChangeSpec) : _root_.Go.OpenSpec := { _root_.Go.OpenSpec.ofChange s with cond := some uptoSmall }

/-- 'towropelaw07.IcmpPuts', WHERE WHAT IT READS IS OF BULK AT MOST 1048576: true; the input reads as it did. -/
def icmpPutsUptoRow : OpenClaim := { program := "ytbnnacohkemnhaa", sum := "f2c8c7754fd4c7efc61a6ffda5e829058756fbe384d7fec5f4c500134cd08016", func := "towrope/towropelaw07.IcmpPuts", spec := "icmpPuts", unfollowed := true, recurses := true, apart := false, narrowed := true }
def IcmpPutsUptoSaid : Prop := icmpPutsUptoRow.holds Try.pinned (OpenSpec.upto icmpPutsSpec)

/-- 'towropelaw07.IcmpGets', WHERE WHAT IT READS IS OF BULK AT MOST 1048576: true; the input reads as it did. -/
def icmpGetsUptoRow : OpenClaim := { program := "ytbnnacohkemnhaa", sum := "f2c8c7754fd4c7efc61a6ffda5e829058756fbe384d7fec5f4c500134cd08016", func := "towrope/towropelaw07.IcmpGets", spec := "icmpGets", unfollowed := true, recurses := true, apart := false, narrowed := true }
def IcmpGetsUptoSaid : Prop := icmpGetsUptoRow.holds Try.pinned (OpenSpec.upto icmpGetsSpec)

/-- 'towropelaw07.IcmpEchoes', WHERE WHAT IT READS IS OF BULK AT MOST 1048576: true; the input reads as it did. -/
def icmpEchoesUptoRow : OpenClaim := { program := "ytbnnacohkemnhaa", sum := "f2c8c7754fd4c7efc61a6ffda5e829058756fbe384d7fec5f4c500134cd08016", func := "towrope/towropelaw07.IcmpEchoes", spec := "icmpEchoes", unfollowed := true, recurses := true, apart := false, narrowed := true }
def IcmpEchoesUptoSaid : Prop := icmpEchoesUptoRow.holds Try.pinned (OpenSpec.upto icmpEchoesSpec)

/-- 'towropelaw07.IcmpCauses', WHERE WHAT IT READS IS OF BULK AT MOST 1048576: true; the input reads as it did. -/
def icmpCausesUptoRow : OpenClaim := { program := "ytbnnacohkemnhaa", sum := "f2c8c7754fd4c7efc61a6ffda5e829058756fbe384d7fec5f4c500134cd08016", func := "towrope/towropelaw07.IcmpCauses", spec := "icmpCauses", unfollowed := true, recurses := true, apart := false, narrowed := true }
def IcmpCausesUptoSaid : Prop := icmpCausesUptoRow.holds Try.pinned (OpenSpec.upto icmpCausesSpec)

/-- 'towropelaw07.IcmpBack', WHERE WHAT IT READS IS OF BULK AT MOST 1048576: true; the input reads as it did. -/
def icmpBackUptoRow : OpenClaim := { program := "ytbnnacohkemnhaa", sum := "f2c8c7754fd4c7efc61a6ffda5e829058756fbe384d7fec5f4c500134cd08016", func := "towrope/towropelaw07.IcmpBack", spec := "icmpBack", unfollowed := true, recurses := true, apart := false, narrowed := true }
def IcmpBackUptoSaid : Prop := icmpBackUptoRow.holds Try.pinned (OpenSpec.upto icmpBackSpec)

/-- 'towropelaw07.IcmpTurned', WHERE WHAT IT READS IS OF BULK AT MOST 1048576: true; the input reads as it did. -/
def icmpTurnedUptoRow : OpenClaim := { program := "ytbnnacohkemnhaa", sum := "f2c8c7754fd4c7efc61a6ffda5e829058756fbe384d7fec5f4c500134cd08016", func := "towrope/towropelaw07.IcmpTurned", spec := "icmpTurned", unfollowed := true, recurses := true, apart := false, narrowed := true }
def IcmpTurnedUptoSaid : Prop := icmpTurnedUptoRow.holds Try.pinned (OpenSpec.upto icmpTurnedSpec)

end Rows
end Go.Proofs.Ytbnnacohkemnhaa
