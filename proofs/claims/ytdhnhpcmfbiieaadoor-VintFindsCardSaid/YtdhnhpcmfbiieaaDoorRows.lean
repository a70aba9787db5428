/-
  NARROWER THAN 'FOR EVERY INPUT', by the rows' own cells (each row's printed sentence says how): VintNumbers: laid · VintFields: laid · VintBack: laid · VintSizes: laid · VintFinds: laid.
  DERIVED. THE GIVEN ROWS OF THIS SEAT. 5 by the template 'for every input the law returns true; each argument reads behind the call as it read before'; 0 by the template 'total and deterministic' (their statements: YtdhnhpcmfbiieaaDoorTotals.lean).
  GIVEN WITH THE SEED: the statements are not yours to turn. If you find one false, say at which input.
  Laid BY PROGRAM, IN A SANDBOX (cutbox-rows.mjs): the forced cells as the released guide's own fill.sh prints them over the translation d4b2ff9ff924d276… (all of the seat's roots in one cut). By AI agents, Wed Nov 11 2026. No macro, syntax, notation, axiom, sorry.
-/
import Derived.Test.YtdhnhpcmfbiieaaDoorChecked
import GoSem.Claim
import GoSem.ClaimJoined
import GoSem.ClaimMapViews
import Derived.JoinedTies
import Derived.KernelRfl
namespace Go.Proofs.YtdhnhpcmfbiieaaDoor
/- THE CELL 'sum', in the pinned program and in every row, IS THE sha256 OF THE DUMP (.gsa) THAT YtdhnhpcmfbiieaaDoorProg.lean LOADS. Nothing in Lean hashes anything: it is a label: what it is worth is what the hold of that sum in a sandbox is worth. -/
noncomputable def Tryd.pinned : Pinned := { name := "ytdhnhpcmfbiieaadoor", sum := "d4b2ff9ff924d276523b881ce44a46d2657bc275b27b0d0fad091ad3d7a998a2", checked := Tryd.checked }
namespace Rows
def none {H : Type} : Left H := { results := [], args := [] }

/- WHAT THE LISTED PACKAGE-LEVEL VARIABLES READ AS WHEN THE CALL BEGINS. Each datum BY PROGRAM (the guide's laid-datum.mjs) off the statement by which the dump's own 'gosem.cut.vars' lays the variable. In a bare row this is a premise. The card (YtdhnhpcmfbiieaaDoorCards.lean) ties it to the program's text. -/
def laid_longline_vint_sizes {H : Type} : DataW H := .agg [.lit (.int .i64 1), .lit (.int .i64 2), .lit (.int .i64 4), .lit (.int .i64 8)]

/-- 'longlinelaw01.VintNumbers': WHATEVER THE INPUT: true; the input reads as it did. -/
def vintNumbersSpec : ChangeSpec := { name := "vintNumbers", fn := fun _ => fun
  | [d1, d2, d3] => { results := [.lit (.bool true)], args := [d1, d2, d3] }
  | _ => none }
def vintNumbersRow : OpenClaim := { program := "ytdhnhpcmfbiieaadoor", sum := "d4b2ff9ff924d276523b881ce44a46d2657bc275b27b0d0fad091ad3d7a998a2", func := "longline/longlinelaw01.VintNumbers", spec := "vintNumbers", named := ["longline/vint.sizes"], apart := false, laid := [("longline/vint.sizes", laid_longline_vint_sizes)] }
def VintNumbersSaid : Prop := vintNumbersRow.holds Tryd.pinned (OpenSpec.ofChange vintNumbersSpec)

/-- ITS FALSE NEIGHBOUR: 'it returns false'. Refute it at one input. -/
def vintNumbersWrong : ChangeSpec := { name := "vintNumbers", fn := fun _ => fun
  | [d1, d2, d3] => { results := [.lit (.bool false)], args := [d1, d2, d3] }
  | _ => none }
def VintNumbersWrongFalsely : Prop := vintNumbersRow.holds Tryd.pinned (OpenSpec.ofChange vintNumbersWrong)

/-- 'longlinelaw01.VintFields': WHATEVER THE INPUT: true; the input reads as it did. -/
def vintFieldsSpec : ChangeSpec := { name := "vintFields", fn := fun _ => fun
  | [d1, d2, d3] => { results := [.lit (.bool true)], args := [d1, d2, d3] }
  | _ => none }
def vintFieldsRow : OpenClaim := { program := "ytdhnhpcmfbiieaadoor", sum := "d4b2ff9ff924d276523b881ce44a46d2657bc275b27b0d0fad091ad3d7a998a2", func := "longline/longlinelaw01.VintFields", spec := "vintFields", named := ["longline/vint.sizes"], apart := false, laid := [("longline/vint.sizes", laid_longline_vint_sizes)] }
def VintFieldsSaid : Prop := vintFieldsRow.holds Tryd.pinned (OpenSpec.ofChange vintFieldsSpec)

/-- ITS FALSE NEIGHBOUR: 'it returns false'. Refute it at one input. -/
def vintFieldsWrong : ChangeSpec := { name := "vintFields", fn := fun _ => fun
  | [d1, d2, d3] => { results := [.lit (.bool false)], args := [d1, d2, d3] }
  | _ => none }
def VintFieldsWrongFalsely : Prop := vintFieldsRow.holds Tryd.pinned (OpenSpec.ofChange vintFieldsWrong)

/-- 'longlinelaw01.VintBack': WHATEVER THE INPUT: true; the input reads as it did. -/
def vintBackSpec : ChangeSpec := { name := "vintBack", fn := fun _ => fun
  | [d1, d2, d3] => { results := [.lit (.bool true)], args := [d1, d2, d3] }
  | _ => none }
def vintBackRow : OpenClaim := { program := "ytdhnhpcmfbiieaadoor", sum := "d4b2ff9ff924d276523b881ce44a46d2657bc275b27b0d0fad091ad3d7a998a2", func := "longline/longlinelaw01.VintBack", spec := "vintBack", named := ["longline/vint.sizes"], apart := false, laid := [("longline/vint.sizes", laid_longline_vint_sizes)] }
def VintBackSaid : Prop := vintBackRow.holds Tryd.pinned (OpenSpec.ofChange vintBackSpec)

/-- ITS FALSE NEIGHBOUR: 'it returns false'. Refute it at one input. -/
def vintBackWrong : ChangeSpec := { name := "vintBack", fn := fun _ => fun
  | [d1, d2, d3] => { results := [.lit (.bool false)], args := [d1, d2, d3] }
  | _ => none }
def VintBackWrongFalsely : Prop := vintBackRow.holds Tryd.pinned (OpenSpec.ofChange vintBackWrong)

/-- 'longlinelaw01.VintSizes': WHATEVER THE INPUT: true; the input reads as it did. -/
def vintSizesSpec : ChangeSpec := { name := "vintSizes", fn := fun _ => fun
  | [d1, d2] => { results := [.lit (.bool true)], args := [d1, d2] }
  | _ => none }
def vintSizesRow : OpenClaim := { program := "ytdhnhpcmfbiieaadoor", sum := "d4b2ff9ff924d276523b881ce44a46d2657bc275b27b0d0fad091ad3d7a998a2", func := "longline/longlinelaw01.VintSizes", spec := "vintSizes", named := ["longline/vint.sizes"], apart := false, laid := [("longline/vint.sizes", laid_longline_vint_sizes)] }
def VintSizesSaid : Prop := vintSizesRow.holds Tryd.pinned (OpenSpec.ofChange vintSizesSpec)

/-- ITS FALSE NEIGHBOUR: 'it returns false'. Refute it at one input. -/
def vintSizesWrong : ChangeSpec := { name := "vintSizes", fn := fun _ => fun
  | [d1, d2] => { results := [.lit (.bool false)], args := [d1, d2] }
  | _ => none }
def VintSizesWrongFalsely : Prop := vintSizesRow.holds Tryd.pinned (OpenSpec.ofChange vintSizesWrong)

/-- 'longlinelaw01.VintFinds': WHATEVER THE INPUT: true; the input reads as it did. -/
def vintFindsSpec : ChangeSpec := { name := "vintFinds", fn := fun _ => fun
  | [d1, d2, d3, d4] => { results := [.lit (.bool true)], args := [d1, d2, d3, d4] }
  | _ => none }
def vintFindsRow : OpenClaim := { program := "ytdhnhpcmfbiieaadoor", sum := "d4b2ff9ff924d276523b881ce44a46d2657bc275b27b0d0fad091ad3d7a998a2", func := "longline/longlinelaw01.VintFinds", spec := "vintFinds", named := ["longline/vint.sizes"], apart := false, laid := [("longline/vint.sizes", laid_longline_vint_sizes)] }
def VintFindsSaid : Prop := vintFindsRow.holds Tryd.pinned (OpenSpec.ofChange vintFindsSpec)

/-- ITS FALSE NEIGHBOUR: 'it returns false'. Refute it at one input. -/
def vintFindsWrong : ChangeSpec := { name := "vintFinds", fn := fun _ => fun
  | [d1, d2, d3, d4] => { results := [.lit (.bool false)], args := [d1, d2, d3, d4] }
  | _ => none }
def VintFindsWrongFalsely : Prop := vintFindsRow.holds Tryd.pinned (OpenSpec.ofChange vintFindsWrong)

/- THE SECOND FORM. 'bulk': how many values and letters a reading holds, each counted each time it is reached (what is shared counts as often as it is met; a slice's spare places count too). A statement '..UptoSaid' is the law's where the arguments, and the package variables that the reading takes, are together of bulk at most 1048576: NARROWER than '..Said'. Prove '..Said' where nothing that the law and all that it calls make is longer than what came in: it says more and counts as full. Else prove '..UptoSaid'. A law counts once. -/
mutual
def uptoBulk {H : Type} : DataW H → Nat
  | .lit (.string bytes) => bytes.length + 1
  | .lit _ => 1
  | .nil => 1
  | .ptr d => uptoBulk d + 1
  | .slice elems spare => uptoBulkAll elems + uptoBulkAll spare + 1
  | .agg parts => uptoBulkAll parts + 1
  | .iface _ d => uptoBulk d + 1
  | .map entries => uptoBulkEntries entries + 1
  | .held _ => 1
def uptoBulkAll {H : Type} : List (DataW H) → Nat
  | [] => 0
  | d :: r => uptoBulk d + uptoBulkAll r
def uptoBulkEntries {H : Type} : List (Lit × DataW H) → Nat
  | [] => 0
  | x :: r => uptoBulkEntry x + uptoBulkEntries r
def uptoBulkEntry {H : Type} : Lit × DataW H → Nat
  | (.string bytes, d) => bytes.length + uptoBulk d + 1
  | (_, d) => uptoBulk d + 1
 end
def uptoSmall : (H : Type) → List (DataW H) → Bool := fun _ ds => decide (uptoBulkAll ds ≤ 1048576)
def OpenSpec.upto (s : _root_.Go.ChangeSpec) : _root_.Go.OpenSpec := { _root_.Go.OpenSpec.ofChange s with cond := some uptoSmall }

/-- 'longlinelaw01.VintNumbers', WHERE WHAT IT READS IS OF BULK AT MOST 1048576: true; the input reads as it did. -/
def vintNumbersUptoRow : OpenClaim := { program := "ytdhnhpcmfbiieaadoor", sum := "d4b2ff9ff924d276523b881ce44a46d2657bc275b27b0d0fad091ad3d7a998a2", func := "longline/longlinelaw01.VintNumbers", spec := "vintNumbers", named := ["longline/vint.sizes"], apart := false, laid := [("longline/vint.sizes", laid_longline_vint_sizes)], narrowed := true }
def VintNumbersUptoSaid : Prop := vintNumbersUptoRow.holds Tryd.pinned (OpenSpec.upto vintNumbersSpec)

/-- 'longlinelaw01.VintFields', WHERE WHAT IT READS IS OF BULK AT MOST 1048576: true; the input reads as it did. -/
def vintFieldsUptoRow : OpenClaim := { program := "ytdhnhpcmfbiieaadoor", sum := "d4b2ff9ff924d276523b881ce44a46d2657bc275b27b0d0fad091ad3d7a998a2", func := "longline/longlinelaw01.VintFields", spec := "vintFields", named := ["longline/vint.sizes"], apart := false, laid := [("longline/vint.sizes", laid_longline_vint_sizes)], narrowed := true }
def VintFieldsUptoSaid : Prop := vintFieldsUptoRow.holds Tryd.pinned (OpenSpec.upto vintFieldsSpec)

/-- 'longlinelaw01.VintBack', WHERE WHAT IT READS IS OF BULK AT MOST 1048576: true; the input reads as it did. -/
def vintBackUptoRow : OpenClaim := { program := "ytdhnhpcmfbiieaadoor", sum := "d4b2ff9ff924d276523b881ce44a46d2657bc275b27b0d0fad091ad3d7a998a2", func := "longline/longlinelaw01.VintBack", spec := "vintBack", named := ["longline/vint.sizes"], apart := false, laid := [("longline/vint.sizes", laid_longline_vint_sizes)], narrowed := true }
def VintBackUptoSaid : Prop := vintBackUptoRow.holds Tryd.pinned (OpenSpec.upto vintBackSpec)

/-- 'longlinelaw01.VintSizes', WHERE WHAT IT READS IS OF BULK AT MOST 1048576: true; the input reads as it did. -/
def vintSizesUptoRow : OpenClaim := { program := "ytdhnhpcmfbiieaadoor", sum := "d4b2ff9ff924d276523b881ce44a46d2657bc275b27b0d0fad091ad3d7a998a2", func := "longline/longlinelaw01.VintSizes", spec := "vintSizes", named := ["longline/vint.sizes"], apart := false, laid := [("longline/vint.sizes", laid_longline_vint_sizes)], narrowed := true }
def VintSizesUptoSaid : Prop := vintSizesUptoRow.holds Tryd.pinned (OpenSpec.upto vintSizesSpec)

/-- 'longlinelaw01.VintFinds', WHERE WHAT IT READS IS OF BULK AT MOST 1048576: true; the input reads as it did. -/
def vintFindsUptoRow : OpenClaim := { program := "ytdhnhpcmfbiieaadoor", sum := "d4b2ff9ff924d276523b881ce44a46d2657bc275b27b0d0fad091ad3d7a998a2", func := "longline/longlinelaw01.VintFinds", spec := "vintFinds", named := ["longline/vint.sizes"], apart := false, laid := [("longline/vint.sizes", laid_longline_vint_sizes)], narrowed := true }
def VintFindsUptoSaid : Prop := vintFindsUptoRow.holds Tryd.pinned (OpenSpec.upto vintFindsSpec)

end Rows
end Go.Proofs.YtdhnhpcmfbiieaaDoor
