/-
  NARROWER THAN 'FOR EVERY INPUT', by the rows' own cells (each row's printed sentence says how): StyleChanges: laid · StyleBytes: laid · StyleTells: laid · StyleBack: laid · StyleFlags: laid.
  DERIVED. THE GIVEN ROWS OF THIS SEAT. 5 by the template 'for every input the law returns true; each argument reads behind the call as it read before'; 0 by the template 'total and deterministic' (their statements: YtohhmpkmcodoeaaDoorTotals.lean).
  GIVEN WITH THE SEED: the statements are not yours to turn. If you find one false, say at which input.
  Laid BY PROGRAM, IN A SANDBOX (cutbox-rows.mjs): the forced cells as the released guide's own fill.sh prints them over the translation 6dd4f1c965b64729… (all of the seat's roots in one cut). By AI agents, Wed Nov 11 2026. No macro, syntax, notation, axiom, sorry.
-/
import Derived.Test.YtohhmpkmcodoeaaDoorChecked
import GoSem.Claim
import GoSem.ClaimJoined
import GoSem.ClaimMapViews
import Derived.JoinedTies
import Derived.KernelRfl
namespace Go.Proofs.YtohhmpkmcodoeaaDoor
/- THE CELL 'sum', in the pinned program and in every row, IS THE sha256 OF THE DUMP (.gsa) THAT YtohhmpkmcodoeaaDoorProg.lean LOADS. Nothing in Lean hashes anything: it is a label: what it is worth is what the hold of that sum in a sandbox is worth. -/
noncomputable def Tryd.pinned : Pinned := { name := "ytohhmpkmcodoeaadoor", sum := "6dd4f1c965b64729e63b2f3ae7a958bf16e8973c3315a786d8f80bdd258a9968", checked := Tryd.checked }
namespace Rows
def none {H : Type} : Left H := { results := [], args := [] }

/- WHAT THE LISTED PACKAGE-LEVEL VARIABLES READ AS WHEN THE CALL BEGINS. Each datum BY PROGRAM (the guide's laid-datum.mjs) off the statement by which the dump's own 'gosem.cut.vars' lays the variable. In a bare row this is a premise. The card (YtohhmpkmcodoeaaDoorCards.lean) ties it to the program's text. -/
def laid_longline_vint_sizes {H : Type} : DataW H := .agg [.lit (.int .i64 1), .lit (.int .i64 2), .lit (.int .i64 4), .lit (.int .i64 8)]
def laid_longline_style_flags {H : Type} : DataW H := .agg [.lit (.int .u8 0), .lit (.int .u8 1), .lit (.int .u8 2), .lit (.int .u8 4), .lit (.int .u8 8), .lit (.int .u8 16), .lit (.int .u8 0), .lit (.int .u8 32), .lit (.int .u8 64), .lit (.int .u8 128)]

/-- 'longlinelaw16.StyleChanges': WHATEVER THE INPUT: true; the input reads as it did. -/
def styleChangesSpec : ChangeSpec := { name := "styleChanges", fn := fun _ => fun
  | [d1, d2] => { results := [.lit (.bool true)], args := [d1, d2] }
  | _ => none }
def styleChangesRow : OpenClaim := { program := "ytohhmpkmcodoeaadoor", sum := "6dd4f1c965b64729e63b2f3ae7a958bf16e8973c3315a786d8f80bdd258a9968", func := "longline/longlinelaw16.StyleChanges", spec := "styleChanges", named := ["longline/style.flags", "longline/vint.sizes"], apart := false, laid := [("longline/vint.sizes", laid_longline_vint_sizes), ("longline/style.flags", laid_longline_style_flags)] }
def StyleChangesSaid : Prop := styleChangesRow.holds Tryd.pinned (OpenSpec.ofChange styleChangesSpec)

/-- ITS FALSE NEIGHBOUR: 'it returns false'. Refute it at one input. -/
def styleChangesWrong : ChangeSpec := { name := "styleChanges", fn := fun _ => fun
  | [d1, d2] => { results := [.lit (.bool false)], args := [d1, d2] }
  | _ => none }
def StyleChangesWrongFalsely : Prop := styleChangesRow.holds Tryd.pinned (OpenSpec.ofChange styleChangesWrong)

/-- 'longlinelaw16.StyleBytes': WHATEVER THE INPUT: true; the input reads as it did. -/
def styleBytesSpec : ChangeSpec := { name := "styleBytes", fn := fun _ => fun
  | [d1, d2, d3] => { results := [.lit (.bool true)], args := [d1, d2, d3] }
  | _ => none }
def styleBytesRow : OpenClaim := { program := "ytohhmpkmcodoeaadoor", sum := "6dd4f1c965b64729e63b2f3ae7a958bf16e8973c3315a786d8f80bdd258a9968", func := "longline/longlinelaw16.StyleBytes", spec := "styleBytes", named := ["longline/style.flags", "longline/vint.sizes"], apart := false, laid := [("longline/vint.sizes", laid_longline_vint_sizes), ("longline/style.flags", laid_longline_style_flags)] }
def StyleBytesSaid : Prop := styleBytesRow.holds Tryd.pinned (OpenSpec.ofChange styleBytesSpec)

/-- ITS FALSE NEIGHBOUR: 'it returns false'. Refute it at one input. -/
def styleBytesWrong : ChangeSpec := { name := "styleBytes", fn := fun _ => fun
  | [d1, d2, d3] => { results := [.lit (.bool false)], args := [d1, d2, d3] }
  | _ => none }
def StyleBytesWrongFalsely : Prop := styleBytesRow.holds Tryd.pinned (OpenSpec.ofChange styleBytesWrong)

/-- 'longlinelaw16.StyleTells': WHATEVER THE INPUT: true; the input reads as it did. -/
def styleTellsSpec : ChangeSpec := { name := "styleTells", fn := fun _ => fun
  | [d1, d2, d3] => { results := [.lit (.bool true)], args := [d1, d2, d3] }
  | _ => none }
def styleTellsRow : OpenClaim := { program := "ytohhmpkmcodoeaadoor", sum := "6dd4f1c965b64729e63b2f3ae7a958bf16e8973c3315a786d8f80bdd258a9968", func := "longline/longlinelaw16.StyleTells", spec := "styleTells", named := ["longline/style.flags", "longline/vint.sizes"], apart := false, laid := [("longline/vint.sizes", laid_longline_vint_sizes), ("longline/style.flags", laid_longline_style_flags)] }
def StyleTellsSaid : Prop := styleTellsRow.holds Tryd.pinned (OpenSpec.ofChange styleTellsSpec)

/-- ITS FALSE NEIGHBOUR: 'it returns false'. Refute it at one input. -/
def styleTellsWrong : ChangeSpec := { name := "styleTells", fn := fun _ => fun
  | [d1, d2, d3] => { results := [.lit (.bool false)], args := [d1, d2, d3] }
  | _ => none }
def StyleTellsWrongFalsely : Prop := styleTellsRow.holds Tryd.pinned (OpenSpec.ofChange styleTellsWrong)

/-- 'longlinelaw16.StyleBack': WHATEVER THE INPUT: true; the input reads as it did. -/
def styleBackSpec : ChangeSpec := { name := "styleBack", fn := fun _ => fun
  | [d1, d2] => { results := [.lit (.bool true)], args := [d1, d2] }
  | _ => none }
def styleBackRow : OpenClaim := { program := "ytohhmpkmcodoeaadoor", sum := "6dd4f1c965b64729e63b2f3ae7a958bf16e8973c3315a786d8f80bdd258a9968", func := "longline/longlinelaw16.StyleBack", spec := "styleBack", named := ["longline/style.flags", "longline/vint.sizes"], apart := false, laid := [("longline/vint.sizes", laid_longline_vint_sizes), ("longline/style.flags", laid_longline_style_flags)] }
def StyleBackSaid : Prop := styleBackRow.holds Tryd.pinned (OpenSpec.ofChange styleBackSpec)

/-- ITS FALSE NEIGHBOUR: 'it returns false'. Refute it at one input. -/
def styleBackWrong : ChangeSpec := { name := "styleBack", fn := fun _ => fun
  | [d1, d2] => { results := [.lit (.bool false)], args := [d1, d2] }
  | _ => none }
def StyleBackWrongFalsely : Prop := styleBackRow.holds Tryd.pinned (OpenSpec.ofChange styleBackWrong)

/-- 'longlinelaw16.StyleFlags': WHATEVER THE INPUT: true; the input reads as it did. -/
def styleFlagsSpec : ChangeSpec := { name := "styleFlags", fn := fun _ => fun
  | [d1, d2] => { results := [.lit (.bool true)], args := [d1, d2] }
  | _ => none }
def styleFlagsRow : OpenClaim := { program := "ytohhmpkmcodoeaadoor", sum := "6dd4f1c965b64729e63b2f3ae7a958bf16e8973c3315a786d8f80bdd258a9968", func := "longline/longlinelaw16.StyleFlags", spec := "styleFlags", named := ["longline/style.flags", "longline/vint.sizes"], apart := false, laid := [("longline/vint.sizes", laid_longline_vint_sizes), ("longline/style.flags", laid_longline_style_flags)] }
def StyleFlagsSaid : Prop := styleFlagsRow.holds Tryd.pinned (OpenSpec.ofChange styleFlagsSpec)

/-- ITS FALSE NEIGHBOUR: 'it returns false'. Refute it at one input. -/
def styleFlagsWrong : ChangeSpec := { name := "styleFlags", fn := fun _ => fun
  | [d1, d2] => { results := [.lit (.bool false)], args := [d1, d2] }
  | _ => none }
def StyleFlagsWrongFalsely : Prop := styleFlagsRow.holds Tryd.pinned (OpenSpec.ofChange styleFlagsWrong)

/- THE SECOND FORM. 'bulk': how many values and letters a reading holds, each counted each time it is reached (what is shared counts as often as it is met; a slice's spare places count too). A statement '..UptoSaid' is the law's where the arguments, and the package variables that the reading takes, are together of bulk at most 1048576: NARROWER than '..Said'. Prove '..Said' where nothing that the law and all that it calls make is longer than what came in: it says more and counts as full. Else prove '..UptoSaid'. A law counts once. -/
mutual
def uptoBulk {H : Type} : DataW H → Nat
  | .lit (.string bytes) => bytes.length + 1
  | .lit _ => 1
  | .nil => 1
  | .ptr d => uptoBulk d + 1
  | .slice elems spare => uptoBulkAll elems + uptoBulkAll spare + 1
  | .agg parts => uptoBulkAll parts + 1
  | .iface _ d => uptoBulk d + 1
  | .map entries => uptoBulkEntries entries + 1
  | .held _ => 1
def uptoBulkAll {H : Type} : List (DataW H) → Nat
  | [] => 0
  | d :: r => uptoBulk d + uptoBulkAll r
def uptoBulkEntries {H : Type} : List (Lit × DataW H) → Nat
  | [] => 0
  | x :: r => uptoBulkEntry x + uptoBulkEntries r
def uptoBulkEntry {H : Type} : Lit × DataW H → Nat
  | (.string bytes, d) => bytes.length + uptoBulk d + 1
  | (_, d) => uptoBulk d + 1
 end
def uptoSmall : (H : Type) → List (DataW H) → Bool := fun _ ds => decide (uptoBulkAll ds ≤ 1048576)
def OpenSpec.upto (s : _root_.Go.ChangeSpec) : _root_.Go.OpenSpec := { _root_.Go.OpenSpec.ofChange s with cond := some uptoSmall }

/-- 'longlinelaw16.StyleChanges', WHERE WHAT IT READS IS OF BULK AT MOST 1048576: true; the input reads as it did. -/
def styleChangesUptoRow : OpenClaim := { program := "ytohhmpkmcodoeaadoor", sum := "6dd4f1c965b64729e63b2f3ae7a958bf16e8973c3315a786d8f80bdd258a9968", func := "longline/longlinelaw16.StyleChanges", spec := "styleChanges", named := ["longline/style.flags", "longline/vint.sizes"], apart := false, laid := [("longline/vint.sizes", laid_longline_vint_sizes), ("longline/style.flags", laid_longline_style_flags)], narrowed := true }
def StyleChangesUptoSaid : Prop := styleChangesUptoRow.holds Tryd.pinned (OpenSpec.upto styleChangesSpec)

/-- 'longlinelaw16.StyleBytes', WHERE WHAT IT READS IS OF BULK AT MOST 1048576: true; the input reads as it did. -/
def styleBytesUptoRow : OpenClaim := { program := "ytohhmpkmcodoeaadoor", sum := "6dd4f1c965b64729e63b2f3ae7a958bf16e8973c3315a786d8f80bdd258a9968", func := "longline/longlinelaw16.StyleBytes", spec := "styleBytes", named := ["longline/style.flags", "longline/vint.sizes"], apart := false, laid := [("longline/vint.sizes", laid_longline_vint_sizes), ("longline/style.flags", laid_longline_style_flags)], narrowed := true }
def StyleBytesUptoSaid : Prop := styleBytesUptoRow.holds Tryd.pinned (OpenSpec.upto styleBytesSpec)

/-- 'longlinelaw16.StyleTells', WHERE WHAT IT READS IS OF BULK AT MOST 1048576: true; the input reads as it did. -/
def styleTellsUptoRow : OpenClaim := { program := "ytohhmpkmcodoeaadoor", sum := "6dd4f1c965b64729e63b2f3ae7a958bf16e8973c3315a786d8f80bdd258a9968", func := "longline/longlinelaw16.StyleTells", spec := "styleTells", named := ["longline/style.flags", "longline/vint.sizes"], apart := false, laid := [("longline/vint.sizes", laid_longline_vint_sizes), ("longline/style.flags", laid_longline_style_flags)], narrowed := true }
def StyleTellsUptoSaid : Prop := styleTellsUptoRow.holds Tryd.pinned (OpenSpec.upto styleTellsSpec)

/-- 'longlinelaw16.StyleBack', WHERE WHAT IT READS IS OF BULK AT MOST 1048576: true; the input reads as it did. -/
def styleBackUptoRow : OpenClaim := { program := "ytohhmpkmcodoeaadoor", sum := "6dd4f1c965b64729e63b2f3ae7a958bf16e8973c3315a786d8f80bdd258a9968", func := "longline/longlinelaw16.StyleBack", spec := "styleBack", named := ["longline/style.flags", "longline/vint.sizes"], apart := false, laid := [("longline/vint.sizes", laid_longline_vint_sizes), ("longline/style.flags", laid_longline_style_flags)], narrowed := true }
def StyleBackUptoSaid : Prop := styleBackUptoRow.holds Tryd.pinned (OpenSpec.upto styleBackSpec)

/-- 'longlinelaw16.StyleFlags', WHERE WHAT IT READS IS OF BULK AT MOST 1048576: true; the input reads as it did. -/
def styleFlagsUptoRow : OpenClaim := { program := "ytohhmpkmcodoeaadoor", sum := "6dd4f1c965b64729e63b2f3ae7a958bf16e8973c3315a786d8f80bdd258a9968", func := "longline/longlinelaw16.StyleFlags", spec := "styleFlags", named := ["longline/style.flags", "longline/vint.sizes"], apart := false, laid := [("longline/vint.sizes", laid_longline_vint_sizes), ("longline/style.flags", laid_longline_style_flags)], narrowed := true }
def StyleFlagsUptoSaid : Prop := styleFlagsUptoRow.holds Tryd.pinned (OpenSpec.upto styleFlagsSpec)

end Rows
end Go.Proofs.YtohhmpkmcodoeaaDoor
