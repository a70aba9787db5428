/-
  DERIVED. GIVEN WITH THE SEED: THE CARDS: each row of YtohhmpkmcodoeaaDoorRows.lean that lists a variable, with what it lists TIED to the program's text (the seventh form; the later family's looks); each row that meets fmt, with fmt's text TOLD by the authors' own Lean function (tested against real Go, not proved from fmt's source: count such statements apart). THE CARD IS WHAT COUNTS. Prove the row's statement (the work); the ties are given (YtohhmpkmcodoeaaDoorTie.lean); close each card by the builder's one call (the guide's Derived/Test/ToyasCard.lean, 'card_holds'). Laid BY PROGRAM, IN A SANDBOX (cutbox-door.mjs). By AI agents, Wed Nov 11 2026. No macro, syntax, notation, axiom, sorry.
-/
import Derived.Test.YtohhmpkmcodoeaaDoorRows
import GoSem.ClaimSeven
namespace Go.Proofs.YtohhmpkmcodoeaaDoor
namespace Rows

/-- THE TIED CARD OF 'longlinelaw16.StyleChanges'. -/
def styleChangesCard : Claim7 := { stood := { row := styleChangesRow, standIns := [], harness := (true, "50302a13c445d382684e6f3d20000e32310f9090bfcffa89328a96f8c022498b"), looks := false }, kinds := [], alts := [], laidByText := true, laidKinds := [.data, .data], laidTests := true, laidLooks := .later }
def StyleChangesCardSaid : Prop := Claim7.holds Tryd.pinned (.plain (OpenSpec.ofChange styleChangesSpec)) styleChangesCard

/-- THE TIED CARD OF 'longlinelaw16.StyleBytes'. -/
def styleBytesCard : Claim7 := { stood := { row := styleBytesRow, standIns := [], harness := (true, "50302a13c445d382684e6f3d20000e32310f9090bfcffa89328a96f8c022498b"), looks := false }, kinds := [], alts := [], laidByText := true, laidKinds := [.data, .data], laidTests := true, laidLooks := .later }
def StyleBytesCardSaid : Prop := Claim7.holds Tryd.pinned (.plain (OpenSpec.ofChange styleBytesSpec)) styleBytesCard

/-- THE TIED CARD OF 'longlinelaw16.StyleTells'. -/
def styleTellsCard : Claim7 := { stood := { row := styleTellsRow, standIns := [], harness := (true, "50302a13c445d382684e6f3d20000e32310f9090bfcffa89328a96f8c022498b"), looks := false }, kinds := [], alts := [], laidByText := true, laidKinds := [.data, .data], laidTests := true, laidLooks := .later }
def StyleTellsCardSaid : Prop := Claim7.holds Tryd.pinned (.plain (OpenSpec.ofChange styleTellsSpec)) styleTellsCard

/-- THE TIED CARD OF 'longlinelaw16.StyleBack'. -/
def styleBackCard : Claim7 := { stood := { row := styleBackRow, standIns := [], harness := (true, "50302a13c445d382684e6f3d20000e32310f9090bfcffa89328a96f8c022498b"), looks := false }, kinds := [], alts := [], laidByText := true, laidKinds := [.data, .data], laidTests := true, laidLooks := .later }
def StyleBackCardSaid : Prop := Claim7.holds Tryd.pinned (.plain (OpenSpec.ofChange styleBackSpec)) styleBackCard

/-- THE TIED CARD OF 'longlinelaw16.StyleFlags'. -/
def styleFlagsCard : Claim7 := { stood := { row := styleFlagsRow, standIns := [], harness := (true, "50302a13c445d382684e6f3d20000e32310f9090bfcffa89328a96f8c022498b"), looks := false }, kinds := [], alts := [], laidByText := true, laidKinds := [.data, .data], laidTests := true, laidLooks := .later }
def StyleFlagsCardSaid : Prop := Claim7.holds Tryd.pinned (.plain (OpenSpec.ofChange styleFlagsSpec)) styleFlagsCard

/-- THE SECOND FORM's CARD OF 'longlinelaw16.StyleChanges'. -/
def styleChangesUptoCard : Claim7 := { stood := { row := styleChangesUptoRow, standIns := [], harness := (true, "50302a13c445d382684e6f3d20000e32310f9090bfcffa89328a96f8c022498b"), looks := false }, kinds := [], alts := [], laidByText := true, laidKinds := [.data, .data], laidTests := true, laidLooks := .later }
def StyleChangesUptoCardSaid : Prop := Claim7.holds Tryd.pinned (.plain (OpenSpec.upto styleChangesSpec)) styleChangesUptoCard

/-- THE SECOND FORM's CARD OF 'longlinelaw16.StyleBytes'. -/
def styleBytesUptoCard : Claim7 := { stood := { row := styleBytesUptoRow, standIns := [], harness := (true, "50302a13c445d382684e6f3d20000e32310f9090bfcffa89328a96f8c022498b"), looks := false }, kinds := [], alts := [], laidByText := true, laidKinds := [.data, .data], laidTests := true, laidLooks := .later }
def StyleBytesUptoCardSaid : Prop := Claim7.holds Tryd.pinned (.plain (OpenSpec.upto styleBytesSpec)) styleBytesUptoCard

/-- THE SECOND FORM's CARD OF 'longlinelaw16.StyleTells'. -/
def styleTellsUptoCard : Claim7 := { stood := { row := styleTellsUptoRow, standIns := [], harness := (true, "50302a13c445d382684e6f3d20000e32310f9090bfcffa89328a96f8c022498b"), looks := false }, kinds := [], alts := [], laidByText := true, laidKinds := [.data, .data], laidTests := true, laidLooks := .later }
def StyleTellsUptoCardSaid : Prop := Claim7.holds Tryd.pinned (.plain (OpenSpec.upto styleTellsSpec)) styleTellsUptoCard

/-- THE SECOND FORM's CARD OF 'longlinelaw16.StyleBack'. -/
def styleBackUptoCard : Claim7 := { stood := { row := styleBackUptoRow, standIns := [], harness := (true, "50302a13c445d382684e6f3d20000e32310f9090bfcffa89328a96f8c022498b"), looks := false }, kinds := [], alts := [], laidByText := true, laidKinds := [.data, .data], laidTests := true, laidLooks := .later }
def StyleBackUptoCardSaid : Prop := Claim7.holds Tryd.pinned (.plain (OpenSpec.upto styleBackSpec)) styleBackUptoCard

/-- THE SECOND FORM's CARD OF 'longlinelaw16.StyleFlags'. -/
def styleFlagsUptoCard : Claim7 := { stood := { row := styleFlagsUptoRow, standIns := [], harness := (true, "50302a13c445d382684e6f3d20000e32310f9090bfcffa89328a96f8c022498b"), looks := false }, kinds := [], alts := [], laidByText := true, laidKinds := [.data, .data], laidTests := true, laidLooks := .later }
def StyleFlagsUptoCardSaid : Prop := Claim7.holds Tryd.pinned (.plain (OpenSpec.upto styleFlagsSpec)) styleFlagsUptoCard
end Rows
end Go.Proofs.YtohhmpkmcodoeaaDoor
