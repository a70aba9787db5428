/-
  DERIVED. GIVEN WITH THE SEED: THE CARDS: each row of YtcblohmenfdafaaDoorRows.lean that lists a variable, with what it lists TIED to the program's text (the seventh form; the later family's looks); each row that meets fmt, with fmt's text TOLD by the authors' own Lean function (tested against real Go, not proved from fmt's source: count such statements apart). THE CARD IS WHAT COUNTS. Prove the row's statement (the work); the ties are given (YtcblohmenfdafaaDoorTie.lean); close each card by the builder's one call (the guide's Derived/Test/ToyasCard.lean, 'card_holds'). Laid BY PROGRAM, IN A SANDBOX (cutbox-door.mjs). By AI agents, Wed Nov 11 2026. No macro, syntax, notation, axiom, sorry.
-/
import Derived.Test.YtcblohmenfdafaaDoorRows
import GoSem.ClaimSeven
namespace Go.Proofs.YtcblohmenfdafaaDoor
namespace Rows

/-- THE TIED CARD OF 'longlinelaw20.ViewBytes'. -/
def viewBytesCard : Claim7 := { stood := { row := viewBytesRow, standIns := [], harness := (true, "613b458a50e173cda2a60dbf367e155684868e46872c93bdfd396dae72d8b235"), looks := false }, kinds := [], alts := [], laidByText := true, laidKinds := [.data], laidTests := true, laidLooks := .later }
def ViewBytesCardSaid : Prop := Claim7.holds Tryd.pinned (.plain (OpenSpec.ofChange viewBytesSpec)) viewBytesCard

/-- THE TIED CARD OF 'longlinelaw20.ViewCells'. -/
def viewCellsCard : Claim7 := { stood := { row := viewCellsRow, standIns := [], harness := (true, "613b458a50e173cda2a60dbf367e155684868e46872c93bdfd396dae72d8b235"), looks := false }, kinds := [], alts := [], laidByText := true, laidKinds := [.data], laidTests := true, laidLooks := .later }
def ViewCellsCardSaid : Prop := Claim7.holds Tryd.pinned (.plain (OpenSpec.ofChange viewCellsSpec)) viewCellsCard

/-- THE TIED CARD OF 'longlinelaw20.ViewBack'. -/
def viewBackCard : Claim7 := { stood := { row := viewBackRow, standIns := [], harness := (true, "613b458a50e173cda2a60dbf367e155684868e46872c93bdfd396dae72d8b235"), looks := false }, kinds := [], alts := [], laidByText := true, laidKinds := [.data], laidTests := true, laidLooks := .later }
def ViewBackCardSaid : Prop := Claim7.holds Tryd.pinned (.plain (OpenSpec.ofChange viewBackSpec)) viewBackCard

/-- THE TIED CARD OF 'longlinelaw20.ViewSizes'. -/
def viewSizesCard : Claim7 := { stood := { row := viewSizesRow, standIns := [], harness := (true, "613b458a50e173cda2a60dbf367e155684868e46872c93bdfd396dae72d8b235"), looks := false }, kinds := [], alts := [], laidByText := true, laidKinds := [.data], laidTests := true, laidLooks := .later }
def ViewSizesCardSaid : Prop := Claim7.holds Tryd.pinned (.plain (OpenSpec.ofChange viewSizesSpec)) viewSizesCard

/-- THE SECOND FORM's CARD OF 'longlinelaw20.ViewBytes'. -/
def viewBytesUptoCard : Claim7 := { stood := { row := viewBytesUptoRow, standIns := [], harness := (true, "613b458a50e173cda2a60dbf367e155684868e46872c93bdfd396dae72d8b235"), looks := false }, kinds := [], alts := [], laidByText := true, laidKinds := [.data], laidTests := true, laidLooks := .later }
def ViewBytesUptoCardSaid : Prop := Claim7.holds Tryd.pinned (.plain (OpenSpec.upto viewBytesSpec)) viewBytesUptoCard

/-- THE SECOND FORM's CARD OF 'longlinelaw20.ViewCells'. -/
def viewCellsUptoCard : Claim7 := { stood := { row := viewCellsUptoRow, standIns := [], harness := (true, "613b458a50e173cda2a60dbf367e155684868e46872c93bdfd396dae72d8b235"), looks := false }, kinds := [], alts := [], laidByText := true, laidKinds := [.data], laidTests := true, laidLooks := .later }
def ViewCellsUptoCardSaid : Prop := Claim7.holds Tryd.pinned (.plain (OpenSpec.upto viewCellsSpec)) viewCellsUptoCard

/-- THE SECOND FORM's CARD OF 'longlinelaw20.ViewBack'. -/
def viewBackUptoCard : Claim7 := { stood := { row := viewBackUptoRow, standIns := [], harness := (true, "613b458a50e173cda2a60dbf367e155684868e46872c93bdfd396dae72d8b235"), looks := false }, kinds := [], alts := [], laidByText := true, laidKinds := [.data], laidTests := true, laidLooks := .later }
def ViewBackUptoCardSaid : Prop := Claim7.holds Tryd.pinned (.plain (OpenSpec.upto viewBackSpec)) viewBackUptoCard

/-- THE SECOND FORM's CARD OF 'longlinelaw20.ViewSizes'. -/
def viewSizesUptoCard : Claim7 := { stood := { row := viewSizesUptoRow, standIns := [], harness := (true, "613b458a50e173cda2a60dbf367e155684868e46872c93bdfd396dae72d8b235"), looks := false }, kinds := [], alts := [], laidByText := true, laidKinds := [.data], laidTests := true, laidLooks := .later }
def ViewSizesUptoCardSaid : Prop := Claim7.holds Tryd.pinned (.plain (OpenSpec.upto viewSizesSpec)) viewSizesUptoCard
end Rows
end Go.Proofs.YtcblohmenfdafaaDoor
