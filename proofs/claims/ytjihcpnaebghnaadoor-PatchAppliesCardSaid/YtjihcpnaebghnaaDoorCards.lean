/-
  DERIVED. GIVEN WITH THE SEED: THE CARDS: each row of YtjihcpnaebghnaaDoorRows.lean that lists a variable, with what it lists TIED to the program's text (the seventh form; the later family's looks); each row that meets fmt, with fmt's text TOLD by the authors' own Lean function (tested against real Go, not proved from fmt's source: count such statements apart). THE CARD IS WHAT COUNTS. Prove the row's statement (the work); the ties are given (YtjihcpnaebghnaaDoorTie.lean); close each card by the builder's one call (the guide's Derived/Test/ToyasCard.lean, 'card_holds'). Laid BY PROGRAM, IN A SANDBOX (cutbox-door.mjs). By AI agents, Wed Nov 11 2026. No macro, syntax, notation, axiom, sorry.
-/
import Derived.Test.YtjihcpnaebghnaaDoorRows
import GoSem.ClaimSeven
namespace Go.Proofs.YtjihcpnaebghnaaDoor
namespace Rows

/-- THE TIED CARD OF 'longlinelaw21.PatchApplies'. -/
def patchAppliesCard : Claim7 := { stood := { row := patchAppliesRow, standIns := [], harness := (true, "eeec0ff8eeac36cb24b45185cca1b53e02f91290e9c76a70b95ad7799d4b0c82"), looks := false }, kinds := [], alts := [], laidByText := true, laidKinds := [.data], laidTests := true, laidLooks := .later }
def PatchAppliesCardSaid : Prop := Claim7.holds Tryd.pinned (.plain (OpenSpec.ofChange patchAppliesSpec)) patchAppliesCard

/-- THE TIED CARD OF 'longlinelaw22.RegDiffs'. -/
def regDiffsCard : Claim7 := { stood := { row := regDiffsRow, standIns := [], harness := (true, "eeec0ff8eeac36cb24b45185cca1b53e02f91290e9c76a70b95ad7799d4b0c82"), looks := false }, kinds := [], alts := [], laidByText := true, laidKinds := [.data], laidTests := true, laidLooks := .later }
def RegDiffsCardSaid : Prop := Claim7.holds Tryd.pinned (.plain (OpenSpec.ofChange regDiffsSpec)) regDiffsCard

/-- THE TIED CARD OF 'longlinelaw22.RegMakes'. -/
def regMakesCard : Claim7 := { stood := { row := regMakesRow, standIns := [], harness := (true, "eeec0ff8eeac36cb24b45185cca1b53e02f91290e9c76a70b95ad7799d4b0c82"), looks := false }, kinds := [], alts := [], laidByText := true, laidKinds := [.data], laidTests := true, laidLooks := .later }
def RegMakesCardSaid : Prop := Claim7.holds Tryd.pinned (.plain (OpenSpec.ofChange regMakesSpec)) regMakesCard

/-- THE SECOND FORM's CARD OF 'longlinelaw21.PatchApplies'. -/
def patchAppliesUptoCard : Claim7 := { stood := { row := patchAppliesUptoRow, standIns := [], harness := (true, "eeec0ff8eeac36cb24b45185cca1b53e02f91290e9c76a70b95ad7799d4b0c82"), looks := false }, kinds := [], alts := [], laidByText := true, laidKinds := [.data], laidTests := true, laidLooks := .later }
def PatchAppliesUptoCardSaid : Prop := Claim7.holds Tryd.pinned (.plain (OpenSpec.upto patchAppliesSpec)) patchAppliesUptoCard

/-- THE SECOND FORM's CARD OF 'longlinelaw22.RegDiffs'. -/
def regDiffsUptoCard : Claim7 := { stood := { row := regDiffsUptoRow, standIns := [], harness := (true, "eeec0ff8eeac36cb24b45185cca1b53e02f91290e9c76a70b95ad7799d4b0c82"), looks := false }, kinds := [], alts := [], laidByText := true, laidKinds := [.data], laidTests := true, laidLooks := .later }
def RegDiffsUptoCardSaid : Prop := Claim7.holds Tryd.pinned (.plain (OpenSpec.upto regDiffsSpec)) regDiffsUptoCard

/-- THE SECOND FORM's CARD OF 'longlinelaw22.RegMakes'. -/
def regMakesUptoCard : Claim7 := { stood := { row := regMakesUptoRow, standIns := [], harness := (true, "eeec0ff8eeac36cb24b45185cca1b53e02f91290e9c76a70b95ad7799d4b0c82"), looks := false }, kinds := [], alts := [], laidByText := true, laidKinds := [.data], laidTests := true, laidLooks := .later }
def RegMakesUptoCardSaid : Prop := Claim7.holds Tryd.pinned (.plain (OpenSpec.upto regMakesSpec)) regMakesUptoCard
end Rows
end Go.Proofs.YtjihcpnaebghnaaDoor
