/-
  DERIVED. GIVEN WITH THE SEED: THE CARDS: each row of YtmklcghoeapfbaaDoorRows.lean that lists a variable, with what it lists TIED to the program's text (the seventh form; the later family's looks); each row that meets fmt, with fmt's text TOLD by the authors' own Lean function (tested against real Go, not proved from fmt's source: count such statements apart). THE CARD IS WHAT COUNTS. Prove the row's statement (the work); the ties are given (YtmklcghoeapfbaaDoorTie.lean); close each card by the builder's one call (the guide's Derived/Test/ToyasCard.lean, 'card_holds'). Laid BY PROGRAM, IN A SANDBOX (cutbox-door.mjs). By AI agents, Wed Nov 11 2026. No macro, syntax, notation, axiom, sorry.
-/
import Derived.Test.YtmklcghoeapfbaaDoorRows
import GoSem.ClaimSeven
namespace Go.Proofs.YtmklcghoeapfbaaDoor
namespace Rows

/-- THE TIED CARD OF 'longlinelaw09.FragParts'. -/
def fragPartsCard : Claim7 := { stood := { row := fragPartsRow, standIns := [], harness := (true, "127cf3481330d011e0dd7dfe9056e2c8517887607b107ac2baaf7aee22f76271"), looks := false }, kinds := [], alts := [], laidByText := true, laidKinds := [.data], laidTests := true, laidLooks := .later }
def FragPartsCardSaid : Prop := Claim7.holds Tryd.pinned (.plain (OpenSpec.ofChange fragPartsSpec)) fragPartsCard

/-- THE TIED CARD OF 'longlinelaw09.FragFrames'. -/
def fragFramesCard : Claim7 := { stood := { row := fragFramesRow, standIns := [], harness := (true, "127cf3481330d011e0dd7dfe9056e2c8517887607b107ac2baaf7aee22f76271"), looks := false }, kinds := [], alts := [], laidByText := true, laidKinds := [.data], laidTests := true, laidLooks := .later }
def FragFramesCardSaid : Prop := Claim7.holds Tryd.pinned (.plain (OpenSpec.ofChange fragFramesSpec)) fragFramesCard

/-- THE TIED CARD OF 'longlinelaw09.FragBack'. -/
def fragBackCard : Claim7 := { stood := { row := fragBackRow, standIns := [], harness := (true, "127cf3481330d011e0dd7dfe9056e2c8517887607b107ac2baaf7aee22f76271"), looks := false }, kinds := [], alts := [], laidByText := true, laidKinds := [.data], laidTests := true, laidLooks := .later }
def FragBackCardSaid : Prop := Claim7.holds Tryd.pinned (.plain (OpenSpec.ofChange fragBackSpec)) fragBackCard

/-- THE TIED CARD OF 'longlinelaw09.FragSizes'. -/
def fragSizesCard : Claim7 := { stood := { row := fragSizesRow, standIns := [], harness := (true, "127cf3481330d011e0dd7dfe9056e2c8517887607b107ac2baaf7aee22f76271"), looks := false }, kinds := [], alts := [], laidByText := true, laidKinds := [.data], laidTests := true, laidLooks := .later }
def FragSizesCardSaid : Prop := Claim7.holds Tryd.pinned (.plain (OpenSpec.ofChange fragSizesSpec)) fragSizesCard

/-- THE SECOND FORM's CARD OF 'longlinelaw09.FragParts'. -/
def fragPartsUptoCard : Claim7 := { stood := { row := fragPartsUptoRow, standIns := [], harness := (true, "127cf3481330d011e0dd7dfe9056e2c8517887607b107ac2baaf7aee22f76271"), looks := false }, kinds := [], alts := [], laidByText := true, laidKinds := [.data], laidTests := true, laidLooks := .later }
def FragPartsUptoCardSaid : Prop := Claim7.holds Tryd.pinned (.plain (OpenSpec.upto fragPartsSpec)) fragPartsUptoCard

/-- THE SECOND FORM's CARD OF 'longlinelaw09.FragFrames'. -/
def fragFramesUptoCard : Claim7 := { stood := { row := fragFramesUptoRow, standIns := [], harness := (true, "127cf3481330d011e0dd7dfe9056e2c8517887607b107ac2baaf7aee22f76271"), looks := false }, kinds := [], alts := [], laidByText := true, laidKinds := [.data], laidTests := true, laidLooks := .later }
def FragFramesUptoCardSaid : Prop := Claim7.holds Tryd.pinned (.plain (OpenSpec.upto fragFramesSpec)) fragFramesUptoCard

/-- THE SECOND FORM's CARD OF 'longlinelaw09.FragBack'. -/
def fragBackUptoCard : Claim7 := { stood := { row := fragBackUptoRow, standIns := [], harness := (true, "127cf3481330d011e0dd7dfe9056e2c8517887607b107ac2baaf7aee22f76271"), looks := false }, kinds := [], alts := [], laidByText := true, laidKinds := [.data], laidTests := true, laidLooks := .later }
def FragBackUptoCardSaid : Prop := Claim7.holds Tryd.pinned (.plain (OpenSpec.upto fragBackSpec)) fragBackUptoCard

/-- THE SECOND FORM's CARD OF 'longlinelaw09.FragSizes'. -/
def fragSizesUptoCard : Claim7 := { stood := { row := fragSizesUptoRow, standIns := [], harness := (true, "127cf3481330d011e0dd7dfe9056e2c8517887607b107ac2baaf7aee22f76271"), looks := false }, kinds := [], alts := [], laidByText := true, laidKinds := [.data], laidTests := true, laidLooks := .later }
def FragSizesUptoCardSaid : Prop := Claim7.holds Tryd.pinned (.plain (OpenSpec.upto fragSizesSpec)) fragSizesUptoCard
end Rows
end Go.Proofs.YtmklcghoeapfbaaDoor
