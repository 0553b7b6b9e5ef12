/-
  No cell of these rows narrows 'for every input' (looked for: loops, veiled, ifaces, maps, wideKeys, modest, calm, conditions, laid).
  DERIVED. THE GIVEN ROWS OF THIS SEAT. 4 by the template 'for every input the law returns true; each argument reads behind the call as it read before'; 0 by the template 'total and deterministic' (their statements: YtfjmcfkpbacicaaTotals.lean).
  GIVEN WITH THE SEED: the statements are not yours to turn. If you find one false, say at which input.
  Laid BY PROGRAM, IN A SANDBOX (cutbox-rows.mjs): the forced cells as the released guide's own fill.sh prints them over the translation 88c75a485fa188ee… (all of the seat's roots in one cut). By AI agents, Wed Nov 11 2026. No macro, syntax, notation, axiom, sorry.
-/
import Derived.Test.YtfjmcfkpbacicaaChecked
import GoSem.Claim
import GoSem.ClaimJoined
import GoSem.ClaimMapViews
import Derived.JoinedTies
import Derived.KernelRfl
namespace Go.Proofs.Ytfjmcfkpbacicaa
/- THE CELL 'sum', in the pinned program and in every row, IS THE sha256 OF THE DUMP (.gsa) THAT YtfjmcfkpbacicaaProg.lean LOADS. Nothing in Lean hashes anything: it is a label: what it is worth is what the hold of that sum in a sandbox is worth. -/
noncomputable def Try.pinned : Pinned := { name := "ytfjmcfkpbacicaa", sum := "88c75a485fa188eeccb058effaa7fd7152ed326314b344a1ebc5d8fc0f3fe9c2", checked := Try.checked }
namespace Rows
def none {H : Type} : Left H := { results := [], args := [] }

/-- 'towropelaw12.ReasmPlays': WHATEVER THE INPUT: true; the input reads as it did. -/
def reasmPlaysSpec : ChangeSpec := { name := "reasmPlays", fn := fun _ => fun
  | [d1, d2, d3] => { results := [.lit (.bool true)], args := [d1, d2, d3] }
  | _ => none }
def reasmPlaysRow : OpenClaim := { program := "ytfjmcfkpbacicaa", sum := "88c75a485fa188eeccb058effaa7fd7152ed326314b344a1ebc5d8fc0f3fe9c2", func := "towrope/towropelaw12.ReasmPlays", spec := "reasmPlays", inPlace := ["slices.overlaps[towrope/reasm.row]"], unfollowed := true, recurses := true, plainKeys := false, apart := false }
def ReasmPlaysSaid : Prop := reasmPlaysRow.holds Try.pinned (OpenSpec.ofChange reasmPlaysSpec)

/-- ITS FALSE NEIGHBOUR: 'it returns false'. Refute it at one input. -/
def reasmPlaysWrong : ChangeSpec := { name := "reasmPlays", fn := fun _ => fun
  | [d1, d2, d3] => { results := [.lit (.bool false)], args := [d1, d2, d3] }
  | _ => none }
def ReasmPlaysWrongFalsely : Prop := reasmPlaysRow.holds Try.pinned (OpenSpec.ofChange reasmPlaysWrong)

/-- 'towropelaw12.ReasmWhole': WHATEVER THE INPUT: true; the input reads as it did. -/
def reasmWholeSpec : ChangeSpec := { name := "reasmWhole", fn := fun _ => fun
  | [d1, d2, d3] => { results := [.lit (.bool true)], args := [d1, d2, d3] }
  | _ => none }
def reasmWholeRow : OpenClaim := { program := "ytfjmcfkpbacicaa", sum := "88c75a485fa188eeccb058effaa7fd7152ed326314b344a1ebc5d8fc0f3fe9c2", func := "towrope/towropelaw12.ReasmWhole", spec := "reasmWhole", inPlace := ["slices.overlaps[towrope/reasm.row]"], unfollowed := true, recurses := true, plainKeys := false, apart := false }
def ReasmWholeSaid : Prop := reasmWholeRow.holds Try.pinned (OpenSpec.ofChange reasmWholeSpec)

/-- ITS FALSE NEIGHBOUR: 'it returns false'. Refute it at one input. -/
def reasmWholeWrong : ChangeSpec := { name := "reasmWhole", fn := fun _ => fun
  | [d1, d2, d3] => { results := [.lit (.bool false)], args := [d1, d2, d3] }
  | _ => none }
def ReasmWholeWrongFalsely : Prop := reasmWholeRow.holds Try.pinned (OpenSpec.ofChange reasmWholeWrong)

/-- 'towropelaw12.ReasmNils': WHATEVER THE INPUT: true; the input reads as it did. -/
def reasmNilsSpec : ChangeSpec := { name := "reasmNils", fn := fun _ => fun
  | [d1, d2] => { results := [.lit (.bool true)], args := [d1, d2] }
  | _ => none }
def reasmNilsRow : OpenClaim := { program := "ytfjmcfkpbacicaa", sum := "88c75a485fa188eeccb058effaa7fd7152ed326314b344a1ebc5d8fc0f3fe9c2", func := "towrope/towropelaw12.ReasmNils", spec := "reasmNils", inPlace := ["slices.overlaps[towrope/reasm.row]"], unfollowed := true, recurses := true, plainKeys := false, apart := false }
def ReasmNilsSaid : Prop := reasmNilsRow.holds Try.pinned (OpenSpec.ofChange reasmNilsSpec)

/-- ITS FALSE NEIGHBOUR: 'it returns false'. Refute it at one input. -/
def reasmNilsWrong : ChangeSpec := { name := "reasmNils", fn := fun _ => fun
  | [d1, d2] => { results := [.lit (.bool false)], args := [d1, d2] }
  | _ => none }
def ReasmNilsWrongFalsely : Prop := reasmNilsRow.holds Try.pinned (OpenSpec.ofChange reasmNilsWrong)

/-- 'towropelaw12.ReasmTwice': WHATEVER THE INPUT: true; the input reads as it did. -/
def reasmTwiceSpec : ChangeSpec := { name := "reasmTwice", fn := fun _ => fun
  | [d1, d2, d3, d4] => { results := [.lit (.bool true)], args := [d1, d2, d3, d4] }
  | _ => none }
def reasmTwiceRow : OpenClaim := { program := "ytfjmcfkpbacicaa", sum := "88c75a485fa188eeccb058effaa7fd7152ed326314b344a1ebc5d8fc0f3fe9c2", func := "towrope/towropelaw12.ReasmTwice", spec := "reasmTwice", inPlace := ["slices.overlaps[towrope/reasm.row]"], unfollowed := true, recurses := true, plainKeys := false, apart := false }
def ReasmTwiceSaid : Prop := reasmTwiceRow.holds Try.pinned (OpenSpec.ofChange reasmTwiceSpec)

/-- ITS FALSE NEIGHBOUR: 'it returns false'. Refute it at one input. -/
def reasmTwiceWrong : ChangeSpec := { name := "reasmTwice", fn := fun _ => fun
  | [d1, d2, d3, d4] => { results := [.lit (.bool false)], args := [d1, d2, d3, d4] }
  | _ => none }
def ReasmTwiceWrongFalsely : Prop := reasmTwiceRow.holds Try.pinned (OpenSpec.ofChange reasmTwiceWrong)

/- THE SECOND FORM. 'bulk': how many values and letters a reading holds, each counted each time it is reached (what is shared counts as often as it is met; a slice's spare places count too). A statement '..UptoSaid' is the law's where the arguments, and the package variables that the reading takes, are together of bulk at most 1048576: NARROWER than '..Said'. Prove '..Said' where nothing that the law and all that it calls make is longer than what came in: it says more and counts as full. Else prove '..UptoSaid'. A law counts once. -/
mutual
def uptoBulk {H : Type} : DataW H → Nat
  | .lit (.string bytes) => bytes.length + 1
  | .lit _ => 1
  | .nil => 1
  | .ptr d => uptoBulk d + 1
  | .slice elems spare => uptoBulkAll elems + uptoBulkAll spare + 1
  | .agg parts => uptoBulkAll parts + 1
  | .iface _ d => uptoBulk d + 1
  | .map entries => uptoBulkEntries entries + 1
  | .held _ => 1
def uptoBulkAll {H : Type} : List (DataW H) → Nat
  | [] => 0
  | d :: r => uptoBulk d + uptoBulkAll r
def uptoBulkEntries {H : Type} : List (Lit × DataW H) → Nat
  | [] => 0
  | x :: r => uptoBulkEntry x + uptoBulkEntries r
def uptoBulkEntry {H : Type} : Lit × DataW H → Nat
  | (.string bytes, d) => bytes.length + uptoBulk d + 1
  | (_, d) => uptoBulk d + 1
 end
def uptoSmall : (H : Type) → List (DataW H) → Bool := fun _ ds => decide (uptoBulkAll ds ≤ 1048576)
def OpenSpec.upto (s : _root_.Go.ChangeSpec) : _root_.Go.OpenSpec := { _root_.Go.OpenSpec.ofChange s with cond := some uptoSmall }

/-- 'towropelaw12.ReasmPlays', WHERE WHAT IT READS IS OF BULK AT MOST 1048576: true; the input reads as it did. -/
def reasmPlaysUptoRow : OpenClaim := { program := "ytfjmcfkpbacicaa", sum := "88c75a485fa188eeccb058effaa7fd7152ed326314b344a1ebc5d8fc0f3fe9c2", func := "towrope/towropelaw12.ReasmPlays", spec := "reasmPlays", inPlace := ["slices.overlaps[towrope/reasm.row]"], unfollowed := true, recurses := true, plainKeys := false, apart := false, narrowed := true }
def ReasmPlaysUptoSaid : Prop := reasmPlaysUptoRow.holds Try.pinned (OpenSpec.upto reasmPlaysSpec)

/-- 'towropelaw12.ReasmWhole', WHERE WHAT IT READS IS OF BULK AT MOST 1048576: true; the input reads as it did. -/
def reasmWholeUptoRow : OpenClaim := { program := "ytfjmcfkpbacicaa", sum := "88c75a485fa188eeccb058effaa7fd7152ed326314b344a1ebc5d8fc0f3fe9c2", func := "towrope/towropelaw12.ReasmWhole", spec := "reasmWhole", inPlace := ["slices.overlaps[towrope/reasm.row]"], unfollowed := true, recurses := true, plainKeys := false, apart := false, narrowed := true }
def ReasmWholeUptoSaid : Prop := reasmWholeUptoRow.holds Try.pinned (OpenSpec.upto reasmWholeSpec)

/-- 'towropelaw12.ReasmNils', WHERE WHAT IT READS IS OF BULK AT MOST 1048576: true; the input reads as it did. -/
def reasmNilsUptoRow : OpenClaim := { program := "ytfjmcfkpbacicaa", sum := "88c75a485fa188eeccb058effaa7fd7152ed326314b344a1ebc5d8fc0f3fe9c2", func := "towrope/towropelaw12.ReasmNils", spec := "reasmNils", inPlace := ["slices.overlaps[towrope/reasm.row]"], unfollowed := true, recurses := true, plainKeys := false, apart := false, narrowed := true }
def ReasmNilsUptoSaid : Prop := reasmNilsUptoRow.holds Try.pinned (OpenSpec.upto reasmNilsSpec)

/-- 'towropelaw12.ReasmTwice', WHERE WHAT IT READS IS OF BULK AT MOST 1048576: true; the input reads as it did. -/
def reasmTwiceUptoRow : OpenClaim := { program := "ytfjmcfkpbacicaa", sum := "88c75a485fa188eeccb058effaa7fd7152ed326314b344a1ebc5d8fc0f3fe9c2", func := "towrope/towropelaw12.ReasmTwice", spec := "reasmTwice", inPlace := ["slices.overlaps[towrope/reasm.row]"], unfollowed := true, recurses := true, plainKeys := false, apart := false, narrowed := true }
def ReasmTwiceUptoSaid : Prop := reasmTwiceUptoRow.holds Try.pinned (OpenSpec.upto reasmTwiceSpec)

end Rows
end Go.Proofs.Ytfjmcfkpbacicaa
