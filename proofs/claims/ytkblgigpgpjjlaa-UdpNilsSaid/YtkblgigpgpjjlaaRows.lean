/-
  No cell of these rows narrows 'for every input' (looked for: loops, veiled, ifaces, maps, wideKeys, modest, calm, conditions, laid).
  DERIVED. THE GIVEN ROWS OF THIS SEAT. 3 by the template 'for every input the law returns true; each argument reads behind the call as it read before'; 0 by the template 'total and deterministic' (their statements: YtkblgigpgpjjlaaTotals.lean).
  GIVEN WITH THE SEED: the statements are not yours to turn. If you find one false, say at which input.
  Laid BY PROGRAM, IN A SANDBOX (cutbox-rows.mjs): the forced cells as the released guide's own fill.sh prints them over the translation 8dd54166682cdb98… (all of the seat's roots in one cut). By AI agents, Wed Nov 11 2026. No macro, syntax, notation, axiom, sorry.
-/
import Derived.Test.YtkblgigpgpjjlaaChecked
import GoSem.Claim
import GoSem.ClaimJoined
import GoSem.ClaimMapViews
import Derived.JoinedTies
import Derived.KernelRfl
namespace Go.Proofs.Ytkblgigpgpjjlaa
/- THE CELL 'sum', in the pinned program and in every row, IS THE sha256 OF THE DUMP (.gsa) THAT YtkblgigpgpjjlaaProg.lean LOADS. Nothing in Lean hashes anything: it is a label: what it is worth is what the hold of that sum in a sandbox is worth. -/
noncomputable def Try.pinned : Pinned := { name := "ytkblgigpgpjjlaa", sum := "8dd54166682cdb9838634825d83cb50dfd7ca3be8bc6654c85fea2df806171af", checked := Try.checked }
namespace Rows
def none {H : Type} : Left H := { results := [], args := [] }

/-- 'towropelaw19.UdpPlays': WHATEVER THE INPUT: true; the input reads as it did. -/
def udpPlaysSpec : ChangeSpec := { name := "udpPlays", fn := fun _ => fun
  | [d1, d2, d3] => { results := [.lit (.bool true)], args := [d1, d2, d3] }
  | _ => none }
def udpPlaysRow : OpenClaim := { program := "ytkblgigpgpjjlaa", sum := "8dd54166682cdb9838634825d83cb50dfd7ca3be8bc6654c85fea2df806171af", func := "towrope/towropelaw19.UdpPlays", spec := "udpPlays", unfollowed := true, recurses := true, apart := false }
def UdpPlaysSaid : Prop := udpPlaysRow.holds Try.pinned (OpenSpec.ofChange udpPlaysSpec)

/-- ITS FALSE NEIGHBOUR: 'it returns false'. Refute it at one input. -/
def udpPlaysWrong : ChangeSpec := { name := "udpPlays", fn := fun _ => fun
  | [d1, d2, d3] => { results := [.lit (.bool false)], args := [d1, d2, d3] }
  | _ => none }
def UdpPlaysWrongFalsely : Prop := udpPlaysRow.holds Try.pinned (OpenSpec.ofChange udpPlaysWrong)

/-- 'towropelaw19.UdpOrder': WHATEVER THE INPUT: true; the input reads as it did. -/
def udpOrderSpec : ChangeSpec := { name := "udpOrder", fn := fun _ => fun
  | [d1, d2, d3] => { results := [.lit (.bool true)], args := [d1, d2, d3] }
  | _ => none }
def udpOrderRow : OpenClaim := { program := "ytkblgigpgpjjlaa", sum := "8dd54166682cdb9838634825d83cb50dfd7ca3be8bc6654c85fea2df806171af", func := "towrope/towropelaw19.UdpOrder", spec := "udpOrder", apart := false }
def UdpOrderSaid : Prop := udpOrderRow.holds Try.pinned (OpenSpec.ofChange udpOrderSpec)

/-- ITS FALSE NEIGHBOUR: 'it returns false'. Refute it at one input. -/
def udpOrderWrong : ChangeSpec := { name := "udpOrder", fn := fun _ => fun
  | [d1, d2, d3] => { results := [.lit (.bool false)], args := [d1, d2, d3] }
  | _ => none }
def UdpOrderWrongFalsely : Prop := udpOrderRow.holds Try.pinned (OpenSpec.ofChange udpOrderWrong)

/-- 'towropelaw19.UdpNils': WHATEVER THE INPUT: true; the input reads as it did. -/
def udpNilsSpec : ChangeSpec := { name := "udpNils", fn := fun _ => fun
  | [d] => { results := [.lit (.bool true)], args := [d] }
  | _ => none }
def udpNilsRow : OpenClaim := { program := "ytkblgigpgpjjlaa", sum := "8dd54166682cdb9838634825d83cb50dfd7ca3be8bc6654c85fea2df806171af", func := "towrope/towropelaw19.UdpNils", spec := "udpNils", unfollowed := true, recurses := true, apart := false }
def UdpNilsSaid : Prop := udpNilsRow.holds Try.pinned (OpenSpec.ofChange udpNilsSpec)

/-- ITS FALSE NEIGHBOUR: 'it returns false'. Refute it at one input. -/
def udpNilsWrong : ChangeSpec := { name := "udpNils", fn := fun _ => fun
  | [d] => { results := [.lit (.bool false)], args := [d] }
  | _ => none }
def UdpNilsWrongFalsely : Prop := udpNilsRow.holds Try.pinned (OpenSpec.ofChange udpNilsWrong)

/- THE SECOND FORM. 'bulk': how many values and letters a reading holds, each counted each time it is reached (what is shared counts as often as it is met; a slice's spare places count too). A statement '..UptoSaid' is the law's where the arguments, and the package variables that the reading takes, are together of bulk at most 1048576: NARROWER than '..Said'. Prove '..Said' where nothing that the law and all that it calls make is longer than what came in: it says more and counts as full. Else prove '..UptoSaid'. A law counts once. -/
mutual
def uptoBulk {H : Type} : DataW H → Nat
  | .lit (.string bytes) => bytes.length + 1
  | .lit _ => 1
  | .nil => 1
  | .ptr d => uptoBulk d + 1
  | .slice elems spare => uptoBulkAll elems + uptoBulkAll spare + 1
  | .agg parts => uptoBulkAll parts + 1
  | .iface _ d => uptoBulk d + 1
  | .map entries => uptoBulkEntries entries + 1
  | .held _ => 1
def uptoBulkAll {H : Type} : List (DataW H) → Nat
  | [] => 0
  | d :: r => uptoBulk d + uptoBulkAll r
def uptoBulkEntries {H : Type} : List (Lit × DataW H) → Nat
  | [] => 0
  | x :: r => uptoBulkEntry x + uptoBulkEntries r
def uptoBulkEntry {H : Type} : Lit × DataW H → Nat
  | (.string bytes, d) => bytes.length + uptoBulk d + 1
  | (_, d) => uptoBulk d + 1
 end
def uptoSmall : (H : Type) → List (DataW H) → Bool := fun _ ds => decide (uptoBulkAll ds ≤ 1048576)
def OpenSpec.upto (s : _root_.Go.ChangeSpec) : _root_.Go.OpenSpec := { _root_.Go.OpenSpec.ofChange s with cond := some uptoSmall }

/-- 'towropelaw19.UdpPlays', WHERE WHAT IT READS IS OF BULK AT MOST 1048576: true; the input reads as it did. -/
def udpPlaysUptoRow : OpenClaim := { program := "ytkblgigpgpjjlaa", sum := "8dd54166682cdb9838634825d83cb50dfd7ca3be8bc6654c85fea2df806171af", func := "towrope/towropelaw19.UdpPlays", spec := "udpPlays", unfollowed := true, recurses := true, apart := false, narrowed := true }
def UdpPlaysUptoSaid : Prop := udpPlaysUptoRow.holds Try.pinned (OpenSpec.upto udpPlaysSpec)

/-- 'towropelaw19.UdpOrder', WHERE WHAT IT READS IS OF BULK AT MOST 1048576: true; the input reads as it did. -/
def udpOrderUptoRow : OpenClaim := { program := "ytkblgigpgpjjlaa", sum := "8dd54166682cdb9838634825d83cb50dfd7ca3be8bc6654c85fea2df806171af", func := "towrope/towropelaw19.UdpOrder", spec := "udpOrder", apart := false, narrowed := true }
def UdpOrderUptoSaid : Prop := udpOrderUptoRow.holds Try.pinned (OpenSpec.upto udpOrderSpec)

/-- 'towropelaw19.UdpNils', WHERE WHAT IT READS IS OF BULK AT MOST 1048576: true; the input reads as it did. -/
def udpNilsUptoRow : OpenClaim := { program := "ytkblgigpgpjjlaa", sum := "8dd54166682cdb9838634825d83cb50dfd7ca3be8bc6654c85fea2df806171af", func := "towrope/towropelaw19.UdpNils", spec := "udpNils", unfollowed := true, recurses := true, apart := false, narrowed := true }
def UdpNilsUptoSaid : Prop := udpNilsUptoRow.holds Try.pinned (OpenSpec.upto udpNilsSpec)

end Rows
end Go.Proofs.Ytkblgigpgpjjlaa
