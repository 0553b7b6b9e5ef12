/-
  No cell of these rows narrows 'for every input' (looked for: loops, veiled, ifaces, maps, wideKeys, modest, calm, conditions, laid).
  DERIVED. THE GIVEN ROWS OF THIS SEAT. 5 by the template 'for every input the law returns true; each argument reads behind the call as it read before'; 0 by the template 'total and deterministic' (their statements: YtdcgkamcffhgjaaTotals.lean).
  GIVEN WITH THE SEED: the statements are not yours to turn. If you find one false, say at which input.
  Laid BY PROGRAM, IN A SANDBOX (cutbox-rows.mjs): the forced cells as the released guide's own fill.sh prints them over the translation df494cd8b09fc8ae… (all of the seat's roots in one cut). By AI agents, Wed Nov 11 2026. No macro, syntax, notation, axiom, sorry.
-/
import Derived.Test.YtdcgkamcffhgjaaChecked
import GoSem.Claim
import GoSem.ClaimJoined
import GoSem.ClaimMapViews
import Derived.JoinedTies
import Derived.KernelRfl
namespace Go.Proofs.Ytdcgkamcffhgjaa
/- THE CELL 'sum', in the pinned program and in every row, IS THE sha256 OF THE DUMP (.gsa) THAT YtdcgkamcffhgjaaProg.lean LOADS. Nothing in Lean hashes anything: it is a label: what it is worth is what the hold of that sum in a sandbox is worth. -/
noncomputable def Try.pinned : Pinned := { name := "ytdcgkamcffhgjaa", sum := "df494cd8b09fc8ae6d29ad7de2e43440d58703198eb571b783195242ecaf966e", checked := Try.checked }
namespace Rows
def none {H : Type} : Left H := { results := [], args := [] }

/-- 'towropelaw03.SeqPairs': WHATEVER THE INPUT: true; the input reads as it did. -/
def seqPairsSpec : ChangeSpec := { name := "seqPairs", fn := fun _ => fun
  | [d1, d2, d3] => { results := [.lit (.bool true)], args := [d1, d2, d3] }
  | _ => none }
def seqPairsRow : OpenClaim := { program := "ytdcgkamcffhgjaa", sum := "df494cd8b09fc8ae6d29ad7de2e43440d58703198eb571b783195242ecaf966e", func := "towrope/towropelaw03.SeqPairs", spec := "seqPairs", unfollowed := true, recurses := true, apart := false }
def SeqPairsSaid : Prop := seqPairsRow.holds Try.pinned (OpenSpec.ofChange seqPairsSpec)

/-- ITS FALSE NEIGHBOUR: 'it returns false'. Refute it at one input. -/
def seqPairsWrong : ChangeSpec := { name := "seqPairs", fn := fun _ => fun
  | [d1, d2, d3] => { results := [.lit (.bool false)], args := [d1, d2, d3] }
  | _ => none }
def SeqPairsWrongFalsely : Prop := seqPairsRow.holds Try.pinned (OpenSpec.ofChange seqPairsWrong)

/-- 'towropelaw03.SeqAccepts': WHATEVER THE INPUT: true; the input reads as it did. -/
def seqAcceptsSpec : ChangeSpec := { name := "seqAccepts", fn := fun _ => fun
  | [d1, d2, d3, d4] => { results := [.lit (.bool true)], args := [d1, d2, d3, d4] }
  | _ => none }
def seqAcceptsRow : OpenClaim := { program := "ytdcgkamcffhgjaa", sum := "df494cd8b09fc8ae6d29ad7de2e43440d58703198eb571b783195242ecaf966e", func := "towrope/towropelaw03.SeqAccepts", spec := "seqAccepts", unfollowed := true, recurses := true, apart := false }
def SeqAcceptsSaid : Prop := seqAcceptsRow.holds Try.pinned (OpenSpec.ofChange seqAcceptsSpec)

/-- ITS FALSE NEIGHBOUR: 'it returns false'. Refute it at one input. -/
def seqAcceptsWrong : ChangeSpec := { name := "seqAccepts", fn := fun _ => fun
  | [d1, d2, d3, d4] => { results := [.lit (.bool false)], args := [d1, d2, d3, d4] }
  | _ => none }
def SeqAcceptsWrongFalsely : Prop := seqAcceptsRow.holds Try.pinned (OpenSpec.ofChange seqAcceptsWrong)

/-- 'towropelaw03.SeqTrims': WHATEVER THE INPUT: true; the input reads as it did. -/
def seqTrimsSpec : ChangeSpec := { name := "seqTrims", fn := fun _ => fun
  | [d1, d2, d3, d4, d5] => { results := [.lit (.bool true)], args := [d1, d2, d3, d4, d5] }
  | _ => none }
def seqTrimsRow : OpenClaim := { program := "ytdcgkamcffhgjaa", sum := "df494cd8b09fc8ae6d29ad7de2e43440d58703198eb571b783195242ecaf966e", func := "towrope/towropelaw03.SeqTrims", spec := "seqTrims", unfollowed := true, recurses := true, apart := false }
def SeqTrimsSaid : Prop := seqTrimsRow.holds Try.pinned (OpenSpec.ofChange seqTrimsSpec)

/-- ITS FALSE NEIGHBOUR: 'it returns false'. Refute it at one input. -/
def seqTrimsWrong : ChangeSpec := { name := "seqTrims", fn := fun _ => fun
  | [d1, d2, d3, d4, d5] => { results := [.lit (.bool false)], args := [d1, d2, d3, d4, d5] }
  | _ => none }
def SeqTrimsWrongFalsely : Prop := seqTrimsRow.holds Try.pinned (OpenSpec.ofChange seqTrimsWrong)

/-- 'towropelaw03.SeqLaws': WHATEVER THE INPUT: true; the input reads as it did. -/
def seqLawsSpec : ChangeSpec := { name := "seqLaws", fn := fun _ => fun
  | [d1, d2, d3, d4] => { results := [.lit (.bool true)], args := [d1, d2, d3, d4] }
  | _ => none }
def seqLawsRow : OpenClaim := { program := "ytdcgkamcffhgjaa", sum := "df494cd8b09fc8ae6d29ad7de2e43440d58703198eb571b783195242ecaf966e", func := "towrope/towropelaw03.SeqLaws", spec := "seqLaws", unfollowed := true, recurses := true, apart := false }
def SeqLawsSaid : Prop := seqLawsRow.holds Try.pinned (OpenSpec.ofChange seqLawsSpec)

/-- ITS FALSE NEIGHBOUR: 'it returns false'. Refute it at one input. -/
def seqLawsWrong : ChangeSpec := { name := "seqLaws", fn := fun _ => fun
  | [d1, d2, d3, d4] => { results := [.lit (.bool false)], args := [d1, d2, d3, d4] }
  | _ => none }
def SeqLawsWrongFalsely : Prop := seqLawsRow.holds Try.pinned (OpenSpec.ofChange seqLawsWrong)

/-- 'towropelaw03.SeqHalves': WHATEVER THE INPUT: true; the input reads as it did. -/
def seqHalvesSpec : ChangeSpec := { name := "seqHalves", fn := fun _ => fun
  | [d1, d2, d3] => { results := [.lit (.bool true)], args := [d1, d2, d3] }
  | _ => none }
def seqHalvesRow : OpenClaim := { program := "ytdcgkamcffhgjaa", sum := "df494cd8b09fc8ae6d29ad7de2e43440d58703198eb571b783195242ecaf966e", func := "towrope/towropelaw03.SeqHalves", spec := "seqHalves", unfollowed := true, recurses := true, apart := false }
def SeqHalvesSaid : Prop := seqHalvesRow.holds Try.pinned (OpenSpec.ofChange seqHalvesSpec)

/-- ITS FALSE NEIGHBOUR: 'it returns false'. Refute it at one input. -/
def seqHalvesWrong : ChangeSpec := { name := "seqHalves", fn := fun _ => fun
  | [d1, d2, d3] => { results := [.lit (.bool false)], args := [d1, d2, d3] }
  | _ => none }
def SeqHalvesWrongFalsely : Prop := seqHalvesRow.holds Try.pinned (OpenSpec.ofChange seqHalvesWrong)

/- THE SECOND FORM. 'bulk': how many values and letters a reading holds, each counted each time it is reached (what is shared counts as often as it is met; a slice's spare places count too). A statement '..UptoSaid' is the law's where the arguments, and the package variables that the reading takes, are together of bulk at most 1048576: NARROWER than '..Said'. Prove '..Said' where nothing that the law and all that it calls make is longer than what came in: it says more and counts as full. Else prove '..UptoSaid'. A law counts once. -/
mutual
def uptoBulk {H : Type} : DataW H → Nat
  | .lit (.string bytes) => bytes.length + 1
  | .lit _ => 1
  | .nil => 1
  | .ptr d => uptoBulk d + 1
  | .slice elems spare => uptoBulkAll elems + uptoBulkAll spare + 1
  | .agg parts => uptoBulkAll parts + 1
  | .iface _ d => uptoBulk d + 1
  | .map entries => uptoBulkEntries entries + 1
  | .held _ => 1
def uptoBulkAll {H : Type} : List (DataW H) → Nat
  | [] => 0
  | d :: r => uptoBulk d + uptoBulkAll r
def uptoBulkEntries {H : Type} : List (Lit × DataW H) → Nat
  | [] => 0
  | x :: r => uptoBulkEntry x + uptoBulkEntries r
def uptoBulkEntry {H : Type} : Lit × DataW H → Nat
  | (.string bytes, d) => bytes.length + uptoBulk d + 1
  | (_, d) => uptoBulk d + 1
 end
def uptoSmall : (H : Type) → List (DataW H) → Bool := fun _ ds => decide (uptoBulkAll ds ≤ 1048576)
def OpenSpec.upto (s : _root_.Go.ChangeSpec) : _root_.Go.OpenSpec := { _root_.Go.OpenSpec.ofChange s with cond := some uptoSmall }

/-- 'towropelaw03.SeqPairs', WHERE WHAT IT READS IS OF BULK AT MOST 1048576: true; the input reads as it did. -/
def seqPairsUptoRow : OpenClaim := { program := "ytdcgkamcffhgjaa", sum := "df494cd8b09fc8ae6d29ad7de2e43440d58703198eb571b783195242ecaf966e", func := "towrope/towropelaw03.SeqPairs", spec := "seqPairs", unfollowed := true, recurses := true, apart := false, narrowed := true }
def SeqPairsUptoSaid : Prop := seqPairsUptoRow.holds Try.pinned (OpenSpec.upto seqPairsSpec)

/-- 'towropelaw03.SeqAccepts', WHERE WHAT IT READS IS OF BULK AT MOST 1048576: true; the input reads as it did. -/
def seqAcceptsUptoRow : OpenClaim := { program := "ytdcgkamcffhgjaa", sum := "df494cd8b09fc8ae6d29ad7de2e43440d58703198eb571b783195242ecaf966e", func := "towrope/towropelaw03.SeqAccepts", spec := "seqAccepts", unfollowed := true, recurses := true, apart := false, narrowed := true }
def SeqAcceptsUptoSaid : Prop := seqAcceptsUptoRow.holds Try.pinned (OpenSpec.upto seqAcceptsSpec)

/-- 'towropelaw03.SeqTrims', WHERE WHAT IT READS IS OF BULK AT MOST 1048576: true; the input reads as it did. -/
def seqTrimsUptoRow : OpenClaim := { program := "ytdcgkamcffhgjaa", sum := "df494cd8b09fc8ae6d29ad7de2e43440d58703198eb571b783195242ecaf966e", func := "towrope/towropelaw03.SeqTrims", spec := "seqTrims", unfollowed := true, recurses := true, apart := false, narrowed := true }
def SeqTrimsUptoSaid : Prop := seqTrimsUptoRow.holds Try.pinned (OpenSpec.upto seqTrimsSpec)

/-- 'towropelaw03.SeqLaws', WHERE WHAT IT READS IS OF BULK AT MOST 1048576: true; the input reads as it did. -/
def seqLawsUptoRow : OpenClaim := { program := "ytdcgkamcffhgjaa", sum := "df494cd8b09fc8ae6d29ad7de2e43440d58703198eb571b783195242ecaf966e", func := "towrope/towropelaw03.SeqLaws", spec := "seqLaws", unfollowed := true, recurses := true, apart := false, narrowed := true }
def SeqLawsUptoSaid : Prop := seqLawsUptoRow.holds Try.pinned (OpenSpec.upto seqLawsSpec)

/-- 'towropelaw03.SeqHalves', WHERE WHAT IT READS IS OF BULK AT MOST 1048576: true; the input reads as it did. -/
def seqHalvesUptoRow : OpenClaim := { program := "ytdcgkamcffhgjaa", sum := "df494cd8b09fc8ae6d29ad7de2e43440d58703198eb571b783195242ecaf966e", func := "towrope/towropelaw03.SeqHalves", spec := "seqHalves", unfollowed := true, recurses := true, apart := false, narrowed := true }
def SeqHalvesUptoSaid : Prop := seqHalvesUptoRow.holds Try.pinned (OpenSpec.upto seqHalvesSpec)

end Rows
end Go.Proofs.Ytdcgkamcffhgjaa
