/-
  DERIVED. GIVEN WITH THE SEED: THE CARDS: each row of YtnejiniiehfmaaaDoorRows.lean that lists a variable, with what it lists TIED to the program's text (the seventh form; the later family's looks); each row that meets fmt, with fmt's text TOLD by the authors' own Lean function (tested against real Go, not proved from fmt's source: count such statements apart). THE CARD IS WHAT COUNTS. Prove the row's statement (the work); the ties are given (YtnejiniiehfmaaaDoorTie.lean); close each card by the builder's one call (the guide's Derived/Test/ToyasCard.lean, 'card_holds'). Laid BY PROGRAM, IN A SANDBOX (cutbox-door.mjs). By AI agents, Wed Nov 11 2026. No macro, syntax, notation, axiom, sorry.
-/
import Derived.Test.YtnejiniiehfmaaaDoorRows
import GoSem.ClaimSeven
namespace Go.Proofs.YtnejiniiehfmaaaDoor
namespace Rows

/-- THE TIED CARD OF 'longlinelaw21.PatchDiffs'. -/
def patchDiffsCard : Claim7 := { stood := { row := patchDiffsRow, standIns := [], harness := (true, "b2ed8c25da36c3ab7fd1fb8e1017a5aedffae68d1902e0430d84260f471ad472"), looks := false }, kinds := [], alts := [], laidByText := true, laidKinds := [.data], laidTests := true, laidLooks := .later }
def PatchDiffsCardSaid : Prop := Claim7.holds Tryd.pinned (.plain (OpenSpec.ofChange patchDiffsSpec)) patchDiffsCard

/-- THE TIED CARD OF 'longlinelaw21.PatchApplies'. -/
def patchAppliesCard : Claim7 := { stood := { row := patchAppliesRow, standIns := [], harness := (true, "b2ed8c25da36c3ab7fd1fb8e1017a5aedffae68d1902e0430d84260f471ad472"), looks := false }, kinds := [], alts := [], laidByText := true, laidKinds := [.data], laidTests := true, laidLooks := .later }
def PatchAppliesCardSaid : Prop := Claim7.holds Tryd.pinned (.plain (OpenSpec.ofChange patchAppliesSpec)) patchAppliesCard

/-- THE TIED CARD OF 'longlinelaw21.PatchMakes'. -/
def patchMakesCard : Claim7 := { stood := { row := patchMakesRow, standIns := [], harness := (true, "b2ed8c25da36c3ab7fd1fb8e1017a5aedffae68d1902e0430d84260f471ad472"), looks := false }, kinds := [], alts := [], laidByText := true, laidKinds := [.data], laidTests := true, laidLooks := .later }
def PatchMakesCardSaid : Prop := Claim7.holds Tryd.pinned (.plain (OpenSpec.ofChange patchMakesSpec)) patchMakesCard

/-- THE TIED CARD OF 'longlinelaw21.PatchFew'. -/
def patchFewCard : Claim7 := { stood := { row := patchFewRow, standIns := [], harness := (true, "b2ed8c25da36c3ab7fd1fb8e1017a5aedffae68d1902e0430d84260f471ad472"), looks := false }, kinds := [], alts := [], laidByText := true, laidKinds := [.data], laidTests := true, laidLooks := .later }
def PatchFewCardSaid : Prop := Claim7.holds Tryd.pinned (.plain (OpenSpec.ofChange patchFewSpec)) patchFewCard

/-- THE TIED CARD OF 'longlinelaw22.RegDiffs'. -/
def regDiffsCard : Claim7 := { stood := { row := regDiffsRow, standIns := [], harness := (true, "b2ed8c25da36c3ab7fd1fb8e1017a5aedffae68d1902e0430d84260f471ad472"), looks := false }, kinds := [], alts := [], laidByText := true, laidKinds := [.data], laidTests := true, laidLooks := .later }
def RegDiffsCardSaid : Prop := Claim7.holds Tryd.pinned (.plain (OpenSpec.ofChange regDiffsSpec)) regDiffsCard

/-- THE TIED CARD OF 'longlinelaw22.RegMakes'. -/
def regMakesCard : Claim7 := { stood := { row := regMakesRow, standIns := [], harness := (true, "b2ed8c25da36c3ab7fd1fb8e1017a5aedffae68d1902e0430d84260f471ad472"), looks := false }, kinds := [], alts := [], laidByText := true, laidKinds := [.data], laidTests := true, laidLooks := .later }
def RegMakesCardSaid : Prop := Claim7.holds Tryd.pinned (.plain (OpenSpec.ofChange regMakesSpec)) regMakesCard

/-- THE SECOND FORM's CARD OF 'longlinelaw21.PatchDiffs'. -/
def patchDiffsUptoCard : Claim7 := { stood := { row := patchDiffsUptoRow, standIns := [], harness := (true, "b2ed8c25da36c3ab7fd1fb8e1017a5aedffae68d1902e0430d84260f471ad472"), looks := false }, kinds := [], alts := [], laidByText := true, laidKinds := [.data], laidTests := true, laidLooks := .later }
def PatchDiffsUptoCardSaid : Prop := Claim7.holds Tryd.pinned (.plain (OpenSpec.upto patchDiffsSpec)) patchDiffsUptoCard

/-- THE SECOND FORM's CARD OF 'longlinelaw21.PatchApplies'. -/
def patchAppliesUptoCard : Claim7 := { stood := { row := patchAppliesUptoRow, standIns := [], harness := (true, "b2ed8c25da36c3ab7fd1fb8e1017a5aedffae68d1902e0430d84260f471ad472"), looks := false }, kinds := [], alts := [], laidByText := true, laidKinds := [.data], laidTests := true, laidLooks := .later }
def PatchAppliesUptoCardSaid : Prop := Claim7.holds Tryd.pinned (.plain (OpenSpec.upto patchAppliesSpec)) patchAppliesUptoCard

/-- THE SECOND FORM's CARD OF 'longlinelaw21.PatchMakes'. -/
def patchMakesUptoCard : Claim7 := { stood := { row := patchMakesUptoRow, standIns := [], harness := (true, "b2ed8c25da36c3ab7fd1fb8e1017a5aedffae68d1902e0430d84260f471ad472"), looks := false }, kinds := [], alts := [], laidByText := true, laidKinds := [.data], laidTests := true, laidLooks := .later }
def PatchMakesUptoCardSaid : Prop := Claim7.holds Tryd.pinned (.plain (OpenSpec.upto patchMakesSpec)) patchMakesUptoCard

/-- THE SECOND FORM's CARD OF 'longlinelaw21.PatchFew'. -/
def patchFewUptoCard : Claim7 := { stood := { row := patchFewUptoRow, standIns := [], harness := (true, "b2ed8c25da36c3ab7fd1fb8e1017a5aedffae68d1902e0430d84260f471ad472"), looks := false }, kinds := [], alts := [], laidByText := true, laidKinds := [.data], laidTests := true, laidLooks := .later }
def PatchFewUptoCardSaid : Prop := Claim7.holds Tryd.pinned (.plain (OpenSpec.upto patchFewSpec)) patchFewUptoCard

/-- THE SECOND FORM's CARD OF 'longlinelaw22.RegDiffs'. -/
def regDiffsUptoCard : Claim7 := { stood := { row := regDiffsUptoRow, standIns := [], harness := (true, "b2ed8c25da36c3ab7fd1fb8e1017a5aedffae68d1902e0430d84260f471ad472"), looks := false }, kinds := [], alts := [], laidByText := true, laidKinds := [.data], laidTests := true, laidLooks := .later }
def RegDiffsUptoCardSaid : Prop := Claim7.holds Tryd.pinned (.plain (OpenSpec.upto regDiffsSpec)) regDiffsUptoCard

/-- THE SECOND FORM's CARD OF 'longlinelaw22.RegMakes'. -/
def regMakesUptoCard : Claim7 := { stood := { row := regMakesUptoRow, standIns := [], harness := (true, "b2ed8c25da36c3ab7fd1fb8e1017a5aedffae68d1902e0430d84260f471ad472"), looks := false }, kinds := [], alts := [], laidByText := true, laidKinds := [.data], laidTests := true, laidLooks := .later }
def RegMakesUptoCardSaid : Prop := Claim7.holds Tryd.pinned (.plain (OpenSpec.upto regMakesSpec)) regMakesUptoCard
end Rows
end Go.Proofs.YtnejiniiehfmaaaDoor
