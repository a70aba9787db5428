/-
  DERIVED. GIVEN WITH THE SEED: THE CARDS: each row of YtdlhpmbgpjjkoaaDoorRows.lean that lists a variable, with what it lists TIED to the program's text (the seventh form; the later family's looks); each row that meets fmt, with fmt's text TOLD by the authors' own Lean function (tested against real Go, not proved from fmt's source: count such statements apart). THE CARD IS WHAT COUNTS. Prove the row's statement (the work); the ties are given (YtdlhpmbgpjjkoaaDoorTie.lean); close each card by the builder's one call (the guide's Derived/Test/ToyasCard.lean, 'card_holds'). Laid BY PROGRAM, IN A SANDBOX (cutbox-door.mjs). By AI agents, Wed Nov 11 2026. No macro, syntax, notation, axiom, sorry.
-/
import Derived.Test.YtdlhpmbgpjjkoaaDoorRows
import GoSem.ClaimSeven
namespace Go.Proofs.YtdlhpmbgpjjkoaaDoor
namespace Rows

/-- THE TIED CARD OF 'longlinelaw26.FileLives'. -/
def fileLivesCard : Claim7 := { stood := { row := fileLivesRow, standIns := [], harness := (true, "b72aa7998b69a18c80b4a1bc487f8b40695cea98c84431741dea4b0fed928907"), looks := false }, kinds := [], alts := [], laidByText := true, laidKinds := [.data], laidTests := true, laidLooks := .later }
def FileLivesCardSaid : Prop := Claim7.holds Tryd.pinned (.plain (OpenSpec.ofChange fileLivesSpec)) fileLivesCard

/-- THE TIED CARD OF 'longlinelaw26.FileCancels'. -/
def fileCancelsCard : Claim7 := { stood := { row := fileCancelsRow, standIns := [], harness := (true, "b72aa7998b69a18c80b4a1bc487f8b40695cea98c84431741dea4b0fed928907"), looks := false }, kinds := [], alts := [], laidByText := true, laidKinds := [.data], laidTests := true, laidLooks := .later }
def FileCancelsCardSaid : Prop := Claim7.holds Tryd.pinned (.plain (OpenSpec.ofChange fileCancelsSpec)) fileCancelsCard

/-- THE SECOND FORM's CARD OF 'longlinelaw26.FileLives'. -/
def fileLivesUptoCard : Claim7 := { stood := { row := fileLivesUptoRow, standIns := [], harness := (true, "b72aa7998b69a18c80b4a1bc487f8b40695cea98c84431741dea4b0fed928907"), looks := false }, kinds := [], alts := [], laidByText := true, laidKinds := [.data], laidTests := true, laidLooks := .later }
def FileLivesUptoCardSaid : Prop := Claim7.holds Tryd.pinned (.plain (OpenSpec.upto fileLivesSpec)) fileLivesUptoCard

/-- THE SECOND FORM's CARD OF 'longlinelaw26.FileCancels'. -/
def fileCancelsUptoCard : Claim7 := { stood := { row := fileCancelsUptoRow, standIns := [], harness := (true, "b72aa7998b69a18c80b4a1bc487f8b40695cea98c84431741dea4b0fed928907"), looks := false }, kinds := [], alts := [], laidByText := true, laidKinds := [.data], laidTests := true, laidLooks := .later }
def FileCancelsUptoCardSaid : Prop := Claim7.holds Tryd.pinned (.plain (OpenSpec.upto fileCancelsSpec)) fileCancelsUptoCard
end Rows
end Go.Proofs.YtdlhpmbgpjjkoaaDoor
