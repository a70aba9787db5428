/-
  NARROWER THAN 'FOR EVERY INPUT', by the rows' own cells (each row's printed sentence says how): FragParts: laid · FragFrames: laid · FragBack: laid · FragSizes: laid.
  DERIVED. THE GIVEN ROWS OF THIS SEAT. 4 by the template 'for every input the law returns true; each argument reads behind the call as it read before'; 0 by the template 'total and deterministic' (their statements: YtmklcghoeapfbaaDoorTotals.lean).
  GIVEN WITH THE SEED: the statements are not yours to turn. If you find one false, say at which input.
  Laid BY PROGRAM, IN A SANDBOX (cutbox-rows.mjs): the forced cells as the released guide's own fill.sh prints them over the translation 94518a18ca050183… (all of the seat's roots in one cut). By AI agents, Wed Nov 11 2026. No macro, syntax, notation, axiom, sorry.
-/
import Derived.Test.YtmklcghoeapfbaaDoorChecked
import GoSem.Claim
import GoSem.ClaimJoined
import GoSem.ClaimMapViews
import Derived.JoinedTies
import Derived.KernelRfl
namespace Go.Proofs.YtmklcghoeapfbaaDoor
/- THE CELL 'sum', in the pinned program and in every row, IS THE sha256 OF THE DUMP (.gsa) THAT YtmklcghoeapfbaaDoorProg.lean LOADS. Nothing in Lean hashes anything: it is a label: what it is worth is what the hold of that sum in a sandbox is worth. -/
noncomputable def Tryd.pinned : Pinned := { name := "ytmklcghoeapfbaadoor", sum := "94518a18ca050183253e1ede1b41c08d806faf76b7fc106c73819624be1b31e2", checked := Tryd.checked }
namespace Rows
def none {H : Type} : Left H := { results := [], args := [] }

/- WHAT THE LISTED PACKAGE-LEVEL VARIABLES READ AS WHEN THE CALL BEGINS. Each datum BY PROGRAM (the guide's laid-datum.mjs) off the statement by which the dump's own 'gosem.cut.vars' lays the variable. In a bare row this is a premise. The card (YtmklcghoeapfbaaDoorCards.lean) ties it to the program's text. -/
def laid_longline_vint_sizes {H : Type} : DataW H := .agg [.lit (.int .i64 1), .lit (.int .i64 2), .lit (.int .i64 4), .lit (.int .i64 8)]

/-- 'longlinelaw09.FragParts': WHATEVER THE INPUT: true; the input reads as it did. -/
def fragPartsSpec : ChangeSpec := { name := "fragParts", fn := fun _ => fun
  | [d1, d2] => { results := [.lit (.bool true)], args := [d1, d2] }
  | _ => none }
def fragPartsRow : OpenClaim := { program := "ytmklcghoeapfbaadoor", sum := "94518a18ca050183253e1ede1b41c08d806faf76b7fc106c73819624be1b31e2", func := "longline/longlinelaw09.FragParts", spec := "fragParts", unfollowed := true, recurses := true, named := ["longline/vint.sizes"], apart := false, laid := [("longline/vint.sizes", laid_longline_vint_sizes)] }
def FragPartsSaid : Prop := fragPartsRow.holds Tryd.pinned (OpenSpec.ofChange fragPartsSpec)

/-- ITS FALSE NEIGHBOUR: 'it returns false'. Refute it at one input. -/
def fragPartsWrong : ChangeSpec := { name := "fragParts", fn := fun _ => fun
  | [d1, d2] => { results := [.lit (.bool false)], args := [d1, d2] }
  | _ => none }
def FragPartsWrongFalsely : Prop := fragPartsRow.holds Tryd.pinned (OpenSpec.ofChange fragPartsWrong)

/-- 'longlinelaw09.FragFrames': WHATEVER THE INPUT: true; the input reads as it did. -/
def fragFramesSpec : ChangeSpec := { name := "fragFrames", fn := fun _ => fun
  | [d1, d2, d3, d4] => { results := [.lit (.bool true)], args := [d1, d2, d3, d4] }
  | _ => none }
def fragFramesRow : OpenClaim := { program := "ytmklcghoeapfbaadoor", sum := "94518a18ca050183253e1ede1b41c08d806faf76b7fc106c73819624be1b31e2", func := "longline/longlinelaw09.FragFrames", spec := "fragFrames", unfollowed := true, recurses := true, named := ["longline/vint.sizes"], apart := false, laid := [("longline/vint.sizes", laid_longline_vint_sizes)] }
def FragFramesSaid : Prop := fragFramesRow.holds Tryd.pinned (OpenSpec.ofChange fragFramesSpec)

/-- ITS FALSE NEIGHBOUR: 'it returns false'. Refute it at one input. -/
def fragFramesWrong : ChangeSpec := { name := "fragFrames", fn := fun _ => fun
  | [d1, d2, d3, d4] => { results := [.lit (.bool false)], args := [d1, d2, d3, d4] }
  | _ => none }
def FragFramesWrongFalsely : Prop := fragFramesRow.holds Tryd.pinned (OpenSpec.ofChange fragFramesWrong)

/-- 'longlinelaw09.FragBack': WHATEVER THE INPUT: true; the input reads as it did. -/
def fragBackSpec : ChangeSpec := { name := "fragBack", fn := fun _ => fun
  | [d1, d2, d3] => { results := [.lit (.bool true)], args := [d1, d2, d3] }
  | _ => none }
def fragBackRow : OpenClaim := { program := "ytmklcghoeapfbaadoor", sum := "94518a18ca050183253e1ede1b41c08d806faf76b7fc106c73819624be1b31e2", func := "longline/longlinelaw09.FragBack", spec := "fragBack", unfollowed := true, recurses := true, named := ["longline/vint.sizes"], apart := false, laid := [("longline/vint.sizes", laid_longline_vint_sizes)] }
def FragBackSaid : Prop := fragBackRow.holds Tryd.pinned (OpenSpec.ofChange fragBackSpec)

/-- ITS FALSE NEIGHBOUR: 'it returns false'. Refute it at one input. -/
def fragBackWrong : ChangeSpec := { name := "fragBack", fn := fun _ => fun
  | [d1, d2, d3] => { results := [.lit (.bool false)], args := [d1, d2, d3] }
  | _ => none }
def FragBackWrongFalsely : Prop := fragBackRow.holds Tryd.pinned (OpenSpec.ofChange fragBackWrong)

/-- 'longlinelaw09.FragSizes': WHATEVER THE INPUT: true; the input reads as it did. -/
def fragSizesSpec : ChangeSpec := { name := "fragSizes", fn := fun _ => fun
  | [d1, d2, d3, d4] => { results := [.lit (.bool true)], args := [d1, d2, d3, d4] }
  | _ => none }
def fragSizesRow : OpenClaim := { program := "ytmklcghoeapfbaadoor", sum := "94518a18ca050183253e1ede1b41c08d806faf76b7fc106c73819624be1b31e2", func := "longline/longlinelaw09.FragSizes", spec := "fragSizes", unfollowed := true, recurses := true, named := ["longline/vint.sizes"], apart := false, laid := [("longline/vint.sizes", laid_longline_vint_sizes)] }
def FragSizesSaid : Prop := fragSizesRow.holds Tryd.pinned (OpenSpec.ofChange fragSizesSpec)

/-- ITS FALSE NEIGHBOUR: 'it returns false'. Refute it at one input. -/
def fragSizesWrong : ChangeSpec := { name := "fragSizes", fn := fun _ => fun
  | [d1, d2, d3, d4] => { results := [.lit (.bool false)], args := [d1, d2, d3, d4] }
  | _ => none }
def FragSizesWrongFalsely : Prop := fragSizesRow.holds Tryd.pinned (OpenSpec.ofChange fragSizesWrong)

/- THE SECOND FORM. 'bulk': how many values and letters a reading holds, each counted each time it is reached (what is shared counts as often as it is met; a slice's spare places count too). A statement '..UptoSaid' is the law's where the arguments, and the package variables that the reading takes, are together of bulk at most 1048576: NARROWER than '..Said'. Prove '..Said' where nothing that the law and all that it calls make is longer than what came in: it says more and counts as full. Else prove '..UptoSaid'. A law counts once. -/
mutual
def uptoBulk {H : Type} : DataW H → Nat
  | .lit (.string bytes) => bytes.length + 1
  | .lit _ => 1
  | .nil => 1
  | .ptr d => uptoBulk d + 1
  | .slice elems spare => uptoBulkAll elems + uptoBulkAll spare + 1
  | .agg parts => uptoBulkAll parts + 1
  | .iface _ d => uptoBulk d + 1
  | .map entries => uptoBulkEntries entries + 1
  | .held _ => 1
def uptoBulkAll {H : Type} : List (DataW H) → Nat
  | [] => 0
  | d :: r => uptoBulk d + uptoBulkAll r
def uptoBulkEntries {H : Type} : List (Lit × DataW H) → Nat
  | [] => 0
  | x :: r => uptoBulkEntry x + uptoBulkEntries r
def uptoBulkEntry {H : Type} : Lit × DataW H → Nat
  | (.string bytes, d) => bytes.length + uptoBulk d + 1
  | (_, d) => uptoBulk d + 1
 end
def uptoSmall : (H : Type) → List (DataW H) → Bool := fun _ ds => decide (uptoBulkAll ds ≤ 1048576)
def OpenSpec.upto (s : _root_.Go.ChangeSpec) : _root_.Go.OpenSpec := { _root_.Go.OpenSpec.ofChange s with cond := some uptoSmall }

/-- 'longlinelaw09.FragParts', WHERE WHAT IT READS IS OF BULK AT MOST 1048576: true; the input reads as it did. -/
def fragPartsUptoRow : OpenClaim := { program := "ytmklcghoeapfbaadoor", sum := "94518a18ca050183253e1ede1b41c08d806faf76b7fc106c73819624be1b31e2", func := "longline/longlinelaw09.FragParts", spec := "fragParts", unfollowed := true, recurses := true, named := ["longline/vint.sizes"], apart := false, laid := [("longline/vint.sizes", laid_longline_vint_sizes)], narrowed := true }
def FragPartsUptoSaid : Prop := fragPartsUptoRow.holds Tryd.pinned (OpenSpec.upto fragPartsSpec)

/-- 'longlinelaw09.FragFrames', WHERE WHAT IT READS IS OF BULK AT MOST 1048576: true; the input reads as it did. -/
def fragFramesUptoRow : OpenClaim := { program := "ytmklcghoeapfbaadoor", sum := "94518a18ca050183253e1ede1b41c08d806faf76b7fc106c73819624be1b31e2", func := "longline/longlinelaw09.FragFrames", spec := "fragFrames", unfollowed := true, recurses := true, named := ["longline/vint.sizes"], apart := false, laid := [("longline/vint.sizes", laid_longline_vint_sizes)], narrowed := true }
def FragFramesUptoSaid : Prop := fragFramesUptoRow.holds Tryd.pinned (OpenSpec.upto fragFramesSpec)

/-- 'longlinelaw09.FragBack', WHERE WHAT IT READS IS OF BULK AT MOST 1048576: true; the input reads as it did. -/
def fragBackUptoRow : OpenClaim := { program := "ytmklcghoeapfbaadoor", sum := "94518a18ca050183253e1ede1b41c08d806faf76b7fc106c73819624be1b31e2", func := "longline/longlinelaw09.FragBack", spec := "fragBack", unfollowed := true, recurses := true, named := ["longline/vint.sizes"], apart := false, laid := [("longline/vint.sizes", laid_longline_vint_sizes)], narrowed := true }
def FragBackUptoSaid : Prop := fragBackUptoRow.holds Tryd.pinned (OpenSpec.upto fragBackSpec)

/-- 'longlinelaw09.FragSizes', WHERE WHAT IT READS IS OF BULK AT MOST 1048576: true; the input reads as it did. -/
def fragSizesUptoRow : OpenClaim := { program := "ytmklcghoeapfbaadoor", sum := "94518a18ca050183253e1ede1b41c08d806faf76b7fc106c73819624be1b31e2", func := "longline/longlinelaw09.FragSizes", spec := "fragSizes", unfollowed := true, recurses := true, named := ["longline/vint.sizes"], apart := false, laid := [("longline/vint.sizes", laid_longline_vint_sizes)], narrowed := true }
def FragSizesUptoSaid : Prop := fragSizesUptoRow.holds Tryd.pinned (OpenSpec.upto fragSizesSpec)

end Rows
end Go.Proofs.YtmklcghoeapfbaaDoor
