/-
  NARROWER THAN 'FOR EVERY INPUT', by the rows' own cells (each row's printed sentence says how): ViewBytes: laid · ViewCells: laid · ViewBack: laid · ViewSizes: laid.
  DERIVED. THE GIVEN ROWS OF THIS SEAT. 4 by the template 'for every input the law returns true; each argument reads behind the call as it read before'; 0 by the template 'total and deterministic' (their statements: YtcblohmenfdafaaDoorTotals.lean).
  GIVEN WITH THE SEED: the statements are not yours to turn. If you find one false, say at which input.
  Laid BY PROGRAM, IN A SANDBOX (cutbox-rows.mjs): the forced cells as the released guide's own fill.sh prints them over the translation 1090271ec9f3a5d6… (all of the seat's roots in one cut). By AI agents, Wed Nov 11 2026. No macro, syntax, notation, axiom, sorry.
-/
import Derived.Test.YtcblohmenfdafaaDoorChecked
import GoSem.Claim
import GoSem.ClaimJoined
import GoSem.ClaimMapViews
import Derived.JoinedTies
import Derived.KernelRfl
namespace Go.Proofs.YtcblohmenfdafaaDoor
/- THE CELL 'sum', in the pinned program and in every row, IS THE sha256 OF THE DUMP (.gsa) THAT YtcblohmenfdafaaDoorProg.lean LOADS. Nothing in Lean hashes anything: it is a label: what it is worth is what the hold of that sum in a sandbox is worth. -/
noncomputable def Tryd.pinned : Pinned := { name := "ytcblohmenfdafaadoor", sum := "1090271ec9f3a5d64821e0aa03b111a200eca12c939965b291a902eb8f493582", checked := Tryd.checked }
namespace Rows
def none {H : Type} : Left H := { results := [], args := [] }

/- WHAT THE LISTED PACKAGE-LEVEL VARIABLES READ AS WHEN THE CALL BEGINS. Each datum BY PROGRAM (the guide's laid-datum.mjs) off the statement by which the dump's own 'gosem.cut.vars' lays the variable. In a bare row this is a premise. The card (YtcblohmenfdafaaDoorCards.lean) ties it to the program's text. -/
def laid_longline_vint_sizes {H : Type} : DataW H := .agg [.lit (.int .i64 1), .lit (.int .i64 2), .lit (.int .i64 4), .lit (.int .i64 8)]

/-- 'longlinelaw20.ViewBytes': WHATEVER THE INPUT: true; the input reads as it did. -/
def viewBytesSpec : ChangeSpec := { name := "viewBytes", fn := fun _ => fun
  | [d1, d2, d3] => { results := [.lit (.bool true)], args := [d1, d2, d3] }
  | _ => none }
def viewBytesRow : OpenClaim := { program := "ytcblohmenfdafaadoor", sum := "1090271ec9f3a5d64821e0aa03b111a200eca12c939965b291a902eb8f493582", func := "longline/longlinelaw20.ViewBytes", spec := "viewBytes", named := ["longline/vint.sizes"], apart := false, laid := [("longline/vint.sizes", laid_longline_vint_sizes)] }
def ViewBytesSaid : Prop := viewBytesRow.holds Tryd.pinned (OpenSpec.ofChange viewBytesSpec)

/-- ITS FALSE NEIGHBOUR: 'it returns false'. Refute it at one input. -/
def viewBytesWrong : ChangeSpec := { name := "viewBytes", fn := fun _ => fun
  | [d1, d2, d3] => { results := [.lit (.bool false)], args := [d1, d2, d3] }
  | _ => none }
def ViewBytesWrongFalsely : Prop := viewBytesRow.holds Tryd.pinned (OpenSpec.ofChange viewBytesWrong)

/-- 'longlinelaw20.ViewCells': WHATEVER THE INPUT: true; the input reads as it did. -/
def viewCellsSpec : ChangeSpec := { name := "viewCells", fn := fun _ => fun
  | [d1, d2, d3] => { results := [.lit (.bool true)], args := [d1, d2, d3] }
  | _ => none }
def viewCellsRow : OpenClaim := { program := "ytcblohmenfdafaadoor", sum := "1090271ec9f3a5d64821e0aa03b111a200eca12c939965b291a902eb8f493582", func := "longline/longlinelaw20.ViewCells", spec := "viewCells", named := ["longline/vint.sizes"], apart := false, laid := [("longline/vint.sizes", laid_longline_vint_sizes)] }
def ViewCellsSaid : Prop := viewCellsRow.holds Tryd.pinned (OpenSpec.ofChange viewCellsSpec)

/-- ITS FALSE NEIGHBOUR: 'it returns false'. Refute it at one input. -/
def viewCellsWrong : ChangeSpec := { name := "viewCells", fn := fun _ => fun
  | [d1, d2, d3] => { results := [.lit (.bool false)], args := [d1, d2, d3] }
  | _ => none }
def ViewCellsWrongFalsely : Prop := viewCellsRow.holds Tryd.pinned (OpenSpec.ofChange viewCellsWrong)

/-- 'longlinelaw20.ViewBack': WHATEVER THE INPUT: true; the input reads as it did. -/
def viewBackSpec : ChangeSpec := { name := "viewBack", fn := fun _ => fun
  | [d1, d2, d3] => { results := [.lit (.bool true)], args := [d1, d2, d3] }
  | _ => none }
def viewBackRow : OpenClaim := { program := "ytcblohmenfdafaadoor", sum := "1090271ec9f3a5d64821e0aa03b111a200eca12c939965b291a902eb8f493582", func := "longline/longlinelaw20.ViewBack", spec := "viewBack", named := ["longline/vint.sizes"], apart := false, laid := [("longline/vint.sizes", laid_longline_vint_sizes)] }
def ViewBackSaid : Prop := viewBackRow.holds Tryd.pinned (OpenSpec.ofChange viewBackSpec)

/-- ITS FALSE NEIGHBOUR: 'it returns false'. Refute it at one input. -/
def viewBackWrong : ChangeSpec := { name := "viewBack", fn := fun _ => fun
  | [d1, d2, d3] => { results := [.lit (.bool false)], args := [d1, d2, d3] }
  | _ => none }
def ViewBackWrongFalsely : Prop := viewBackRow.holds Tryd.pinned (OpenSpec.ofChange viewBackWrong)

/-- 'longlinelaw20.ViewSizes': WHATEVER THE INPUT: true; the input reads as it did. -/
def viewSizesSpec : ChangeSpec := { name := "viewSizes", fn := fun _ => fun
  | [d] => { results := [.lit (.bool true)], args := [d] }
  | _ => none }
def viewSizesRow : OpenClaim := { program := "ytcblohmenfdafaadoor", sum := "1090271ec9f3a5d64821e0aa03b111a200eca12c939965b291a902eb8f493582", func := "longline/longlinelaw20.ViewSizes", spec := "viewSizes", named := ["longline/vint.sizes"], apart := false, laid := [("longline/vint.sizes", laid_longline_vint_sizes)] }
def ViewSizesSaid : Prop := viewSizesRow.holds Tryd.pinned (OpenSpec.ofChange viewSizesSpec)

/-- ITS FALSE NEIGHBOUR: 'it returns false'. Refute it at one input. -/
def viewSizesWrong : ChangeSpec := { name := "viewSizes", fn := fun _ => fun
  | [d] => { results := [.lit (.bool false)], args := [d] }
  | _ => none }
def ViewSizesWrongFalsely : Prop := viewSizesRow.holds Tryd.pinned (OpenSpec.ofChange viewSizesWrong)

/- THE SECOND FORM. 'bulk': how many values and letters a reading holds, each counted each time it is reached (what is shared counts as often as it is met; a slice's spare places count too). A statement '..UptoSaid' is the law's where the arguments, and the package variables that the reading takes, are together of bulk at most 1048576: NARROWER than '..Said'. Prove '..Said' where nothing that the law and all that it calls make is longer than what came in: it says more and counts as full. Else prove '..UptoSaid'. A law counts once. -/
mutual
def uptoBulk {H : Type} : DataW H → Nat
  | .lit (.string bytes) => bytes.length + 1
  | .lit _ => 1
  | .nil => 1
  | .ptr d => uptoBulk d + 1
  | .slice elems spare => uptoBulkAll elems + uptoBulkAll spare + 1
  | .agg parts => uptoBulkAll parts + 1
  | .iface _ d => uptoBulk d + 1
  | .map entries => uptoBulkEntries entries + 1
  | .held _ => 1
def uptoBulkAll {H : Type} : List (DataW H) → Nat
  | [] => 0
  | d :: r => uptoBulk d + uptoBulkAll r
def uptoBulkEntries {H : Type} : List (Lit × DataW H) → Nat
  | [] => 0
  | x :: r => uptoBulkEntry x + uptoBulkEntries r
def uptoBulkEntry {H : Type} : Lit × DataW H → Nat
  | (.string bytes, d) => bytes.length + uptoBulk d + 1
  | (_, d) => uptoBulk d + 1
 end
def uptoSmall : (H : Type) → List (DataW H) → Bool := fun _ ds => decide (uptoBulkAll ds ≤ 1048576)
def OpenSpec.upto (s : _root_.Go.ChangeSpec) : _root_.Go.OpenSpec := { _root_.Go.OpenSpec.ofChange s with cond := some uptoSmall }

/-- 'longlinelaw20.ViewBytes', WHERE WHAT IT READS IS OF BULK AT MOST 1048576: true; the input reads as it did. -/
def viewBytesUptoRow : OpenClaim := { program := "ytcblohmenfdafaadoor", sum := "1090271ec9f3a5d64821e0aa03b111a200eca12c939965b291a902eb8f493582", func := "longline/longlinelaw20.ViewBytes", spec := "viewBytes", named := ["longline/vint.sizes"], apart := false, laid := [("longline/vint.sizes", laid_longline_vint_sizes)], narrowed := true }
def ViewBytesUptoSaid : Prop := viewBytesUptoRow.holds Tryd.pinned (OpenSpec.upto viewBytesSpec)

/-- 'longlinelaw20.ViewCells', WHERE WHAT IT READS IS OF BULK AT MOST 1048576: true; the input reads as it did. -/
def viewCellsUptoRow : OpenClaim := { program := "ytcblohmenfdafaadoor", sum := "1090271ec9f3a5d64821e0aa03b111a200eca12c939965b291a902eb8f493582", func := "longline/longlinelaw20.ViewCells", spec := "viewCells", named := ["longline/vint.sizes"], apart := false, laid := [("longline/vint.sizes", laid_longline_vint_sizes)], narrowed := true }
def ViewCellsUptoSaid : Prop := viewCellsUptoRow.holds Tryd.pinned (OpenSpec.upto viewCellsSpec)

/-- 'longlinelaw20.ViewBack', WHERE WHAT IT READS IS OF BULK AT MOST 1048576: true; the input reads as it did. -/
def viewBackUptoRow : OpenClaim := { program := "ytcblohmenfdafaadoor", sum := "1090271ec9f3a5d64821e0aa03b111a200eca12c939965b291a902eb8f493582", func := "longline/longlinelaw20.ViewBack", spec := "viewBack", named := ["longline/vint.sizes"], apart := false, laid := [("longline/vint.sizes", laid_longline_vint_sizes)], narrowed := true }
def ViewBackUptoSaid : Prop := viewBackUptoRow.holds Tryd.pinned (OpenSpec.upto viewBackSpec)

/-- 'longlinelaw20.ViewSizes', WHERE WHAT IT READS IS OF BULK AT MOST 1048576: true; the input reads as it did. -/
def viewSizesUptoRow : OpenClaim := { program := "ytcblohmenfdafaadoor", sum := "1090271ec9f3a5d64821e0aa03b111a200eca12c939965b291a902eb8f493582", func := "longline/longlinelaw20.ViewSizes", spec := "viewSizes", named := ["longline/vint.sizes"], apart := false, laid := [("longline/vint.sizes", laid_longline_vint_sizes)], narrowed := true }
def ViewSizesUptoSaid : Prop := viewSizesUptoRow.holds Tryd.pinned (OpenSpec.upto viewSizesSpec)

end Rows
end Go.Proofs.YtcblohmenfdafaaDoor
