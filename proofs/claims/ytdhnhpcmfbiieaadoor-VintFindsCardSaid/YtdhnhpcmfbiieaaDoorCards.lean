/-
  DERIVED. GIVEN WITH THE SEED: THE CARDS: each row of YtdhnhpcmfbiieaaDoorRows.lean that lists a variable, with what it lists TIED to the program's text (the seventh form; the later family's looks); each row that meets fmt, with fmt's text TOLD by the authors' own Lean function (tested against real Go, not proved from fmt's source: count such statements apart). THE CARD IS WHAT COUNTS. Prove the row's statement (the work); the ties are given (YtdhnhpcmfbiieaaDoorTie.lean); close each card by the builder's one call (the guide's Derived/Test/ToyasCard.lean, 'card_holds'). Laid BY PROGRAM, IN A SANDBOX (cutbox-door.mjs). By AI agents, Wed Nov 11 2026. No macro, syntax, notation, axiom, sorry.
-/
import Derived.Test.YtdhnhpcmfbiieaaDoorRows
import GoSem.ClaimSeven
namespace Go.Proofs.YtdhnhpcmfbiieaaDoor
namespace Rows

/-- THE TIED CARD OF 'longlinelaw01.VintNumbers'. -/
def vintNumbersCard : Claim7 := { stood := { row := vintNumbersRow, standIns := [], harness := (true, "90062776576ba967ca2366193618c47f592537320f4cd3eb99c089b8e0d6fd4d"), looks := false }, kinds := [], alts := [], laidByText := true, laidKinds := [.data], laidTests := true, laidLooks := .later }
def VintNumbersCardSaid : Prop := Claim7.holds Tryd.pinned (.plain (OpenSpec.ofChange vintNumbersSpec)) vintNumbersCard

/-- THE TIED CARD OF 'longlinelaw01.VintFields'. -/
def vintFieldsCard : Claim7 := { stood := { row := vintFieldsRow, standIns := [], harness := (true, "90062776576ba967ca2366193618c47f592537320f4cd3eb99c089b8e0d6fd4d"), looks := false }, kinds := [], alts := [], laidByText := true, laidKinds := [.data], laidTests := true, laidLooks := .later }
def VintFieldsCardSaid : Prop := Claim7.holds Tryd.pinned (.plain (OpenSpec.ofChange vintFieldsSpec)) vintFieldsCard

/-- THE TIED CARD OF 'longlinelaw01.VintBack'. -/
def vintBackCard : Claim7 := { stood := { row := vintBackRow, standIns := [], harness := (true, "90062776576ba967ca2366193618c47f592537320f4cd3eb99c089b8e0d6fd4d"), looks := false }, kinds := [], alts := [], laidByText := true, laidKinds := [.data], laidTests := true, laidLooks := .later }
def VintBackCardSaid : Prop := Claim7.holds Tryd.pinned (.plain (OpenSpec.ofChange vintBackSpec)) vintBackCard

/-- THE TIED CARD OF 'longlinelaw01.VintSizes'. -/
def vintSizesCard : Claim7 := { stood := { row := vintSizesRow, standIns := [], harness := (true, "90062776576ba967ca2366193618c47f592537320f4cd3eb99c089b8e0d6fd4d"), looks := false }, kinds := [], alts := [], laidByText := true, laidKinds := [.data], laidTests := true, laidLooks := .later }
def VintSizesCardSaid : Prop := Claim7.holds Tryd.pinned (.plain (OpenSpec.ofChange vintSizesSpec)) vintSizesCard

/-- THE TIED CARD OF 'longlinelaw01.VintFinds'. -/
def vintFindsCard : Claim7 := { stood := { row := vintFindsRow, standIns := [], harness := (true, "90062776576ba967ca2366193618c47f592537320f4cd3eb99c089b8e0d6fd4d"), looks := false }, kinds := [], alts := [], laidByText := true, laidKinds := [.data], laidTests := true, laidLooks := .later }
def VintFindsCardSaid : Prop := Claim7.holds Tryd.pinned (.plain (OpenSpec.ofChange vintFindsSpec)) vintFindsCard

/-- THE SECOND FORM's CARD OF 'longlinelaw01.VintNumbers'. -/
def vintNumbersUptoCard : Claim7 := { stood := { row := vintNumbersUptoRow, standIns := [], harness := (true, "90062776576ba967ca2366193618c47f592537320f4cd3eb99c089b8e0d6fd4d"), looks := false }, kinds := [], alts := [], laidByText := true, laidKinds := [.data], laidTests := true, laidLooks := .later }
def VintNumbersUptoCardSaid : Prop := Claim7.holds Tryd.pinned (.plain (OpenSpec.upto vintNumbersSpec)) vintNumbersUptoCard

/-- THE SECOND FORM's CARD OF 'longlinelaw01.VintFields'. -/
def vintFieldsUptoCard : Claim7 := { stood := { row := vintFieldsUptoRow, standIns := [], harness := (true, "90062776576ba967ca2366193618c47f592537320f4cd3eb99c089b8e0d6fd4d"), looks := false }, kinds := [], alts := [], laidByText := true, laidKinds := [.data], laidTests := true, laidLooks := .later }
def VintFieldsUptoCardSaid : Prop := Claim7.holds Tryd.pinned (.plain (OpenSpec.upto vintFieldsSpec)) vintFieldsUptoCard

/-- THE SECOND FORM's CARD OF 'longlinelaw01.VintBack'. -/
def vintBackUptoCard : Claim7 := { stood := { row := vintBackUptoRow, standIns := [], harness := (true, "90062776576ba967ca2366193618c47f592537320f4cd3eb99c089b8e0d6fd4d"), looks := false }, kinds := [], alts := [], laidByText := true, laidKinds := [.data], laidTests := true, laidLooks := .later }
def VintBackUptoCardSaid : Prop := Claim7.holds Tryd.pinned (.plain (OpenSpec.upto vintBackSpec)) vintBackUptoCard

/-- THE SECOND FORM's CARD OF 'longlinelaw01.VintSizes'. -/
def vintSizesUptoCard : Claim7 := { stood := { row := vintSizesUptoRow, standIns := [], harness := (true, "90062776576ba967ca2366193618c47f592537320f4cd3eb99c089b8e0d6fd4d"), looks := false }, kinds := [], alts := [], laidByText := true, laidKinds := [.data], laidTests := true, laidLooks := .later }
def VintSizesUptoCardSaid : Prop := Claim7.holds Tryd.pinned (.plain (OpenSpec.upto vintSizesSpec)) vintSizesUptoCard

/-- THE SECOND FORM's CARD OF 'longlinelaw01.VintFinds'. -/
def vintFindsUptoCard : Claim7 := { stood := { row := vintFindsUptoRow, standIns := [], harness := (true, "90062776576ba967ca2366193618c47f592537320f4cd3eb99c089b8e0d6fd4d"), looks := false }, kinds := [], alts := [], laidByText := true, laidKinds := [.data], laidTests := true, laidLooks := .later }
def VintFindsUptoCardSaid : Prop := Claim7.holds Tryd.pinned (.plain (OpenSpec.upto vintFindsSpec)) vintFindsUptoCard
end Rows
end Go.Proofs.YtdhnhpcmfbiieaaDoor
