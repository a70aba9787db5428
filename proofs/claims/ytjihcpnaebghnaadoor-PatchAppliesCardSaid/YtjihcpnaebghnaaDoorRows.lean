/-
  NARROWER THAN 'FOR EVERY INPUT', by the rows' own cells (each row's printed sentence says how): PatchApplies: laid · RegDiffs: laid · RegMakes: laid.
  DERIVED. THE GIVEN ROWS OF THIS SEAT. 3 by the template 'for every input the law returns true; each argument reads behind the call as it read before'; 0 by the template 'total and deterministic' (their statements: YtjihcpnaebghnaaDoorTotals.lean).
  GIVEN WITH THE SEED: the statements are not yours to turn. If you find one false, say at which input.
  Laid BY PROGRAM, IN A SANDBOX (cutbox-rows.mjs): the forced cells as the released guide's own fill.sh prints them over the translation e0f72b0a211784b1… (all of the seat's roots in one cut). By AI agents, Wed Nov 11 2026. No macro, syntax, notation, axiom, sorry.
-/
import Derived.Test.YtjihcpnaebghnaaDoorChecked
import GoSem.Claim
import GoSem.ClaimJoined
import GoSem.ClaimMapViews
import Derived.JoinedTies
import Derived.KernelRfl
namespace Go.Proofs.YtjihcpnaebghnaaDoor
/- THE CELL 'sum', in the pinned program and in every row, IS THE sha256 OF THE DUMP (.gsa) THAT YtjihcpnaebghnaaDoorProg.lean LOADS. Nothing in Lean hashes anything: it is a label: what it is worth is what the hold of that sum in a sandbox is worth. -/
noncomputable def Tryd.pinned : Pinned := { name := "ytjihcpnaebghnaadoor", sum := "e0f72b0a211784b10310beaa047ba0cc4c8797d20dfcd652ad976ce660b4b987", checked := Tryd.checked }
namespace Rows
def none {H : Type} : Left H := { results := [], args := [] }

/- WHAT THE LISTED PACKAGE-LEVEL VARIABLES READ AS WHEN THE CALL BEGINS. Each datum BY PROGRAM (the guide's laid-datum.mjs) off the statement by which the dump's own 'gosem.cut.vars' lays the variable. In a bare row this is a premise. The card (YtjihcpnaebghnaaDoorCards.lean) ties it to the program's text. -/
def laid_longline_vint_sizes {H : Type} : DataW H := .agg [.lit (.int .i64 1), .lit (.int .i64 2), .lit (.int .i64 4), .lit (.int .i64 8)]

/-- 'longlinelaw21.PatchApplies': WHATEVER THE INPUT: true; the input reads as it did. -/
def patchAppliesSpec : ChangeSpec := { name := "patchApplies", fn := fun _ => fun
  | [d1, d2] => { results := [.lit (.bool true)], args := [d1, d2] }
  | _ => none }
def patchAppliesRow : OpenClaim := { program := "ytjihcpnaebghnaadoor", sum := "e0f72b0a211784b10310beaa047ba0cc4c8797d20dfcd652ad976ce660b4b987", func := "longline/longlinelaw21.PatchApplies", spec := "patchApplies", named := ["longline/vint.sizes"], apart := false, laid := [("longline/vint.sizes", laid_longline_vint_sizes)] }
def PatchAppliesSaid : Prop := patchAppliesRow.holds Tryd.pinned (OpenSpec.ofChange patchAppliesSpec)

/-- ITS FALSE NEIGHBOUR: 'it returns false'. Refute it at one input. -/
def patchAppliesWrong : ChangeSpec := { name := "patchApplies", fn := fun _ => fun
  | [d1, d2] => { results := [.lit (.bool false)], args := [d1, d2] }
  | _ => none }
def PatchAppliesWrongFalsely : Prop := patchAppliesRow.holds Tryd.pinned (OpenSpec.ofChange patchAppliesWrong)

/-- 'longlinelaw22.RegDiffs': WHATEVER THE INPUT: true; the input reads as it did. -/
def regDiffsSpec : ChangeSpec := { name := "regDiffs", fn := fun _ => fun
  | [d1, d2] => { results := [.lit (.bool true)], args := [d1, d2] }
  | _ => none }
def regDiffsRow : OpenClaim := { program := "ytjihcpnaebghnaadoor", sum := "e0f72b0a211784b10310beaa047ba0cc4c8797d20dfcd652ad976ce660b4b987", func := "longline/longlinelaw22.RegDiffs", spec := "regDiffs", unfollowed := true, recurses := true, named := ["longline/vint.sizes"], apart := false, laid := [("longline/vint.sizes", laid_longline_vint_sizes)] }
def RegDiffsSaid : Prop := regDiffsRow.holds Tryd.pinned (OpenSpec.ofChange regDiffsSpec)

/-- ITS FALSE NEIGHBOUR: 'it returns false'. Refute it at one input. -/
def regDiffsWrong : ChangeSpec := { name := "regDiffs", fn := fun _ => fun
  | [d1, d2] => { results := [.lit (.bool false)], args := [d1, d2] }
  | _ => none }
def RegDiffsWrongFalsely : Prop := regDiffsRow.holds Tryd.pinned (OpenSpec.ofChange regDiffsWrong)

/-- 'longlinelaw22.RegMakes': WHATEVER THE INPUT: true; the input reads as it did. -/
def regMakesSpec : ChangeSpec := { name := "regMakes", fn := fun _ => fun
  | [d1, d2, d3] => { results := [.lit (.bool true)], args := [d1, d2, d3] }
  | _ => none }
def regMakesRow : OpenClaim := { program := "ytjihcpnaebghnaadoor", sum := "e0f72b0a211784b10310beaa047ba0cc4c8797d20dfcd652ad976ce660b4b987", func := "longline/longlinelaw22.RegMakes", spec := "regMakes", unfollowed := true, recurses := true, named := ["longline/vint.sizes"], apart := false, laid := [("longline/vint.sizes", laid_longline_vint_sizes)] }
def RegMakesSaid : Prop := regMakesRow.holds Tryd.pinned (OpenSpec.ofChange regMakesSpec)

/-- ITS FALSE NEIGHBOUR: 'it returns false'. Refute it at one input. -/
def regMakesWrong : ChangeSpec := { name := "regMakes", fn := fun _ => fun
  | [d1, d2, d3] => { results := [.lit (.bool false)], args := [d1, d2, d3] }
  | _ => none }
def RegMakesWrongFalsely : Prop := regMakesRow.holds Tryd.pinned (OpenSpec.ofChange regMakesWrong)

/- THE SECOND FORM. 'bulk': how many values and letters a reading holds, each counted each time it is reached (what is shared counts as often as it is met; a slice's spare places count too). A statement '..UptoSaid' is the law's where the arguments, and the package variables that the reading takes, are together of bulk at most 1048576: NARROWER than '..Said'. Prove '..Said' where nothing that the law and all that it calls make is longer than what came in: it says more and counts as full. Else prove '..UptoSaid'. A law counts once. -/
mutual
def uptoBulk {H : Type} : DataW H → Nat
  | .lit (.string bytes) => bytes.length + 1
  | .lit _ => 1
  | .nil => 1
  | .ptr d => uptoBulk d + 1
  | .slice elems spare => uptoBulkAll elems + uptoBulkAll spare + 1
  | .agg parts => uptoBulkAll parts + 1
  | .iface _ d => uptoBulk d + 1
  | .map entries => uptoBulkEntries entries + 1
  | .held _ => 1
def uptoBulkAll {H : Type} : List (DataW H) → Nat
  | [] => 0
  | d :: r => uptoBulk d + uptoBulkAll r
def uptoBulkEntries {H : Type} : List (Lit × DataW H) → Nat
  | [] => 0
  | x :: r => uptoBulkEntry x + uptoBulkEntries r
def uptoBulkEntry {H : Type} : Lit × DataW H → Nat
  | (.string bytes, d) => bytes.length + uptoBulk d + 1
  | (_, d) => uptoBulk d + 1
 end
def uptoSmall : (H : Type) → List (DataW H) → Bool := fun _ ds => decide (uptoBulkAll ds ≤ 1048576)
def OpenSpec.upto (s : _root_.Go.ChangeSpec) : _root_.Go.OpenSpec := { _root_.Go.OpenSpec.ofChange s with cond := some uptoSmall }

/-- 'longlinelaw21.PatchApplies', WHERE WHAT IT READS IS OF BULK AT MOST 1048576: true; the input reads as it did. -/
def patchAppliesUptoRow : OpenClaim := { program := "ytjihcpnaebghnaadoor", sum := "e0f72b0a211784b10310beaa047ba0cc4c8797d20dfcd652ad976ce660b4b987", func := "longline/longlinelaw21.PatchApplies", spec := "patchApplies", named := ["longline/vint.sizes"], apart := false, laid := [("longline/vint.sizes", laid_longline_vint_sizes)], narrowed := true }
def PatchAppliesUptoSaid : Prop := patchAppliesUptoRow.holds Tryd.pinned (OpenSpec.upto patchAppliesSpec)

/-- 'longlinelaw22.RegDiffs', WHERE WHAT IT READS IS OF BULK AT MOST 1048576: true; the input reads as it did. -/
def regDiffsUptoRow : OpenClaim := { program := "ytjihcpnaebghnaadoor", sum := "e0f72b0a211784b10310beaa047ba0cc4c8797d20dfcd652ad976ce660b4b987", func := "longline/longlinelaw22.RegDiffs", spec := "regDiffs", unfollowed := true, recurses := true, named := ["longline/vint.sizes"], apart := false, laid := [("longline/vint.sizes", laid_longline_vint_sizes)], narrowed := true }
def RegDiffsUptoSaid : Prop := regDiffsUptoRow.holds Tryd.pinned (OpenSpec.upto regDiffsSpec)

/-- 'longlinelaw22.RegMakes', WHERE WHAT IT READS IS OF BULK AT MOST 1048576: true; the input reads as it did. -/
def regMakesUptoRow : OpenClaim := { program := "ytjihcpnaebghnaadoor", sum := "e0f72b0a211784b10310beaa047ba0cc4c8797d20dfcd652ad976ce660b4b987", func := "longline/longlinelaw22.RegMakes", spec := "regMakes", unfollowed := true, recurses := true, named := ["longline/vint.sizes"], apart := false, laid := [("longline/vint.sizes", laid_longline_vint_sizes)], narrowed := true }
def RegMakesUptoSaid : Prop := regMakesUptoRow.holds Tryd.pinned (OpenSpec.upto regMakesSpec)

end Rows
end Go.Proofs.YtjihcpnaebghnaaDoor
