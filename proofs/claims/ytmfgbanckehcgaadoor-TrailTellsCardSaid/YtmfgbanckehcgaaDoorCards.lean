/-
  DERIVED. GIVEN WITH THE SEED: THE CARDS: each row of YtmfgbanckehcgaaDoorRows.lean that lists a variable, with what it lists TIED to the program's text (the seventh form; the later family's looks); each row that meets fmt, with fmt's text TOLD by the authors' own Lean function (tested against real Go, not proved from fmt's source: count such statements apart). THE CARD IS WHAT COUNTS. Prove the row's statement (the work); the ties are given (YtmfgbanckehcgaaDoorTie.lean); close each card by the builder's one call (the guide's Derived/Test/ToyasCard.lean, 'card_holds'). Laid BY PROGRAM, IN A SANDBOX (cutbox-door.mjs). By AI agents, Wed Nov 11 2026. No macro, syntax, notation, axiom, sorry.
-/
import Derived.Test.YtmfgbanckehcgaaDoorRows
import GoSem.ClaimSeven
namespace Go.Proofs.YtmfgbanckehcgaaDoor
namespace Rows

/-- THE TIED CARD OF 'towropelaw04.TrailTells'. -/
def trailTellsCard : Claim7 := { stood := { row := trailTellsRow, standIns := [], harness := (true, "32db558cd1c2e70f65b30b48e890743971f1d39cd0fc91b84fc8501594d2ba97"), looks := true }, kinds := [], alts := [], laidByText := true, laidKinds := [.data, .data, .data, .handle], laidTests := true, laidLooks := .later }
def TrailTellsCardSaid : Prop := Claim7.holds Tryd.pinned (.plain (OpenSpec.ofChange trailTellsSpec)) trailTellsCard

/-- THE TIED CARD OF 'towropelaw04.TrailInner'. -/
def trailInnerCard : Claim7 := { stood := { row := trailInnerRow, standIns := [], harness := (true, "32db558cd1c2e70f65b30b48e890743971f1d39cd0fc91b84fc8501594d2ba97"), looks := true }, kinds := [], alts := [], laidByText := true, laidKinds := [.data, .data, .data, .handle], laidTests := true, laidLooks := .later }
def TrailInnerCardSaid : Prop := Claim7.holds Tryd.pinned (.plain (OpenSpec.ofChange trailInnerSpec)) trailInnerCard

/-- THE TIED CARD OF 'towropelaw04.TrailRes'. -/
def trailResCard : Claim7 := { stood := { row := trailResRow, standIns := [], harness := (true, "32db558cd1c2e70f65b30b48e890743971f1d39cd0fc91b84fc8501594d2ba97"), looks := true }, kinds := [], alts := [], laidByText := true, laidKinds := [.data, .data, .data, .handle], laidTests := true, laidLooks := .later }
def TrailResCardSaid : Prop := Claim7.holds Tryd.pinned (.plain (OpenSpec.ofChange trailResSpec)) trailResCard

/-- THE TIED CARD OF 'towropelaw04.TrailFirst'. -/
def trailFirstCard : Claim7 := { stood := { row := trailFirstRow, standIns := [], harness := (true, "32db558cd1c2e70f65b30b48e890743971f1d39cd0fc91b84fc8501594d2ba97"), looks := true }, kinds := [], alts := [], laidByText := true, laidKinds := [.data, .data, .data, .handle], laidTests := true, laidLooks := .later }
def TrailFirstCardSaid : Prop := Claim7.holds Tryd.pinned (.plain (OpenSpec.ofChange trailFirstSpec)) trailFirstCard

/-- THE SECOND FORM's CARD OF 'towropelaw04.TrailTells'. -/
def trailTellsUptoCard : Claim7 := { stood := { row := trailTellsUptoRow, standIns := [], harness := (true, "32db558cd1c2e70f65b30b48e890743971f1d39cd0fc91b84fc8501594d2ba97"), looks := true }, kinds := [], alts := [], laidByText := true, laidKinds := [.data, .data, .data, .handle], laidTests := true, laidLooks := .later }
def TrailTellsUptoCardSaid : Prop := Claim7.holds Tryd.pinned (.plain (OpenSpec.upto trailTellsSpec)) trailTellsUptoCard

/-- THE SECOND FORM's CARD OF 'towropelaw04.TrailInner'. -/
def trailInnerUptoCard : Claim7 := { stood := { row := trailInnerUptoRow, standIns := [], harness := (true, "32db558cd1c2e70f65b30b48e890743971f1d39cd0fc91b84fc8501594d2ba97"), looks := true }, kinds := [], alts := [], laidByText := true, laidKinds := [.data, .data, .data, .handle], laidTests := true, laidLooks := .later }
def TrailInnerUptoCardSaid : Prop := Claim7.holds Tryd.pinned (.plain (OpenSpec.upto trailInnerSpec)) trailInnerUptoCard

/-- THE SECOND FORM's CARD OF 'towropelaw04.TrailRes'. -/
def trailResUptoCard : Claim7 := { stood := { row := trailResUptoRow, standIns := [], harness := (true, "32db558cd1c2e70f65b30b48e890743971f1d39cd0fc91b84fc8501594d2ba97"), looks := true }, kinds := [], alts := [], laidByText := true, laidKinds := [.data, .data, .data, .handle], laidTests := true, laidLooks := .later }
def TrailResUptoCardSaid : Prop := Claim7.holds Tryd.pinned (.plain (OpenSpec.upto trailResSpec)) trailResUptoCard

/-- THE SECOND FORM's CARD OF 'towropelaw04.TrailFirst'. -/
def trailFirstUptoCard : Claim7 := { stood := { row := trailFirstUptoRow, standIns := [], harness := (true, "32db558cd1c2e70f65b30b48e890743971f1d39cd0fc91b84fc8501594d2ba97"), looks := true }, kinds := [], alts := [], laidByText := true, laidKinds := [.data, .data, .data, .handle], laidTests := true, laidLooks := .later }
def TrailFirstUptoCardSaid : Prop := Claim7.holds Tryd.pinned (.plain (OpenSpec.upto trailFirstSpec)) trailFirstUptoCard
end Rows
end Go.Proofs.YtmfgbanckehcgaaDoor
