/-
  No cell of these rows narrows 'for every input' (looked for: loops, veiled, ifaces, maps, wideKeys, modest, calm, conditions, laid).
  DERIVED. THE GIVEN ROWS OF THIS SEAT. 4 by the template 'for every input the law returns true; each argument reads behind the call as it read before'; 0 by the template 'total and deterministic' (their statements: YtahmnipcdkcpiaaTotals.lean).
  GIVEN WITH THE SEED: the statements are not yours to turn. If you find one false, say at which input.
  Laid BY PROGRAM, IN A SANDBOX (cutbox-rows.mjs): the forced cells as the released guide's own fill.sh prints them over the translation 6a5fdfd9c269d7f0… (all of the seat's roots in one cut). By AI agents, Wed Nov 11 2026. No macro, syntax, notation, axiom, sorry.
-/
import Derived.Test.YtahmnipcdkcpiaaChecked
import GoSem.Claim
import GoSem.ClaimJoined
import GoSem.ClaimMapViews
import Derived.JoinedTies
import Derived.KernelRfl
namespace Go.Proofs.Ytahmnipcdkcpiaa
/- THE CELL 'sum', in the pinned program and in every row, IS THE sha256 OF THE DUMP (.gsa) THAT YtahmnipcdkcpiaaProg.lean LOADS. Nothing in Lean hashes anything: it is a label: what it is worth is what the hold of that sum in a sandbox is worth. -/
noncomputable def Try.pinned : Pinned := { name := "ytahmnipcdkcpiaa", sum := "6a5fdfd9c269d7f09197f2f3a71cfa193f51e0ec9a163452876ba03080f34e5e", checked := Try.checked }
namespace Rows
def none {H : Type} : Left H := { results := [], args := [] }

/-- 'longlinelaw17.GridLives': WHATEVER THE INPUT: true; the input reads as it did. -/
def gridLivesSpec : ChangeSpec := { name := "gridLives", fn := fun _ => fun
  | [d1, d2, d3] => { results := [.lit (.bool true)], args := [d1, d2, d3] }
  | _ => none }
def gridLivesRow : OpenClaim := { program := "ytahmnipcdkcpiaa", sum := "6a5fdfd9c269d7f09197f2f3a71cfa193f51e0ec9a163452876ba03080f34e5e", func := "longline/longlinelaw17.GridLives", spec := "gridLives", apart := false }
def GridLivesSaid : Prop := gridLivesRow.holds Try.pinned (OpenSpec.ofChange gridLivesSpec)

/-- ITS FALSE NEIGHBOUR: 'it returns false'. Refute it at one input. -/
def gridLivesWrong : ChangeSpec := { name := "gridLives", fn := fun _ => fun
  | [d1, d2, d3] => { results := [.lit (.bool false)], args := [d1, d2, d3] }
  | _ => none }
def GridLivesWrongFalsely : Prop := gridLivesRow.holds Try.pinned (OpenSpec.ofChange gridLivesWrong)

/-- 'longlinelaw17.GridNobody': WHATEVER THE INPUT: true; the input reads as it did. -/
def gridNobodySpec : ChangeSpec := { name := "gridNobody", fn := fun _ => fun
  | [d] => { results := [.lit (.bool true)], args := [d] }
  | _ => none }
def gridNobodyRow : OpenClaim := { program := "ytahmnipcdkcpiaa", sum := "6a5fdfd9c269d7f09197f2f3a71cfa193f51e0ec9a163452876ba03080f34e5e", func := "longline/longlinelaw17.GridNobody", spec := "gridNobody", apart := false }
def GridNobodySaid : Prop := gridNobodyRow.holds Try.pinned (OpenSpec.ofChange gridNobodySpec)

/-- ITS FALSE NEIGHBOUR: 'it returns false'. Refute it at one input. -/
def gridNobodyWrong : ChangeSpec := { name := "gridNobody", fn := fun _ => fun
  | [d] => { results := [.lit (.bool false)], args := [d] }
  | _ => none }
def GridNobodyWrongFalsely : Prop := gridNobodyRow.holds Try.pinned (OpenSpec.ofChange gridNobodyWrong)

/-- 'longlinelaw17.GridMoves': WHATEVER THE INPUT: true; the input reads as it did. -/
def gridMovesSpec : ChangeSpec := { name := "gridMoves", fn := fun _ => fun
  | [d1, d2, d3, d4, d5, d6, d7, d8, d9] => { results := [.lit (.bool true)], args := [d1, d2, d3, d4, d5, d6, d7, d8, d9] }
  | _ => none }
def gridMovesRow : OpenClaim := { program := "ytahmnipcdkcpiaa", sum := "6a5fdfd9c269d7f09197f2f3a71cfa193f51e0ec9a163452876ba03080f34e5e", func := "longline/longlinelaw17.GridMoves", spec := "gridMoves", apart := false }
def GridMovesSaid : Prop := gridMovesRow.holds Try.pinned (OpenSpec.ofChange gridMovesSpec)

/-- ITS FALSE NEIGHBOUR: 'it returns false'. Refute it at one input. -/
def gridMovesWrong : ChangeSpec := { name := "gridMoves", fn := fun _ => fun
  | [d1, d2, d3, d4, d5, d6, d7, d8, d9] => { results := [.lit (.bool false)], args := [d1, d2, d3, d4, d5, d6, d7, d8, d9] }
  | _ => none }
def GridMovesWrongFalsely : Prop := gridMovesRow.holds Try.pinned (OpenSpec.ofChange gridMovesWrong)

/-- 'longlinelaw17.GridCopies': WHATEVER THE INPUT: true; the input reads as it did. -/
def gridCopiesSpec : ChangeSpec := { name := "gridCopies", fn := fun _ => fun
  | [d1, d2, d3, d4] => { results := [.lit (.bool true)], args := [d1, d2, d3, d4] }
  | _ => none }
def gridCopiesRow : OpenClaim := { program := "ytahmnipcdkcpiaa", sum := "6a5fdfd9c269d7f09197f2f3a71cfa193f51e0ec9a163452876ba03080f34e5e", func := "longline/longlinelaw17.GridCopies", spec := "gridCopies", apart := false }
def GridCopiesSaid : Prop := gridCopiesRow.holds Try.pinned (OpenSpec.ofChange gridCopiesSpec)

/-- ITS FALSE NEIGHBOUR: 'it returns false'. Refute it at one input. -/
def gridCopiesWrong : ChangeSpec := { name := "gridCopies", fn := fun _ => fun
  | [d1, d2, d3, d4] => { results := [.lit (.bool false)], args := [d1, d2, d3, d4] }
  | _ => none }
def GridCopiesWrongFalsely : Prop := gridCopiesRow.holds Try.pinned (OpenSpec.ofChange gridCopiesWrong)

/- THE SECOND FORM. 'bulk': how many values and letters a reading holds, each counted each time it is reached (what is shared counts as often as it is met; a slice's spare places count too). A statement '..UptoSaid' is the law's where the arguments, and the package variables that the reading takes, are together of bulk at most 1048576: NARROWER than '..Said'. Prove '..Said' where nothing that the law and all that it calls make is longer than what came in: it says more and counts as full. Else prove '..UptoSaid'. A law counts once. -/
mutual
def uptoBulk {H : Type} : DataW H → Nat
  | .lit (.string bytes) => bytes.length + 1
  | .lit _ => 1
  | .nil => 1
  | .ptr d => uptoBulk d + 1
  | .slice elems spare => uptoBulkAll elems + uptoBulkAll spare + 1
  | .agg parts => uptoBulkAll parts + 1
  | .iface _ d => uptoBulk d + 1
  | .map entries => uptoBulkEntries entries + 1
  | .held _ => 1
def uptoBulkAll {H : Type} : List (DataW H) → Nat
  | [] => 0
  | d :: r => uptoBulk d + uptoBulkAll r
def uptoBulkEntries {H : Type} : List (Lit × DataW H) → Nat
  | [] => 0
  | x :: r => uptoBulkEntry x + uptoBulkEntries r
def uptoBulkEntry {H : Type} : Lit × DataW H → Nat
  | (.string bytes, d) => bytes.length + uptoBulk d + 1
  | (_, d) => uptoBulk d + 1
 end
def uptoSmall : (H : Type) → List (DataW H) → Bool := fun _ ds => decide (uptoBulkAll ds ≤ 1048576)
def OpenSpec.upto (s : _root_.Go.ChangeSpec) : _root_.Go.OpenSpec := { _root_.Go.OpenSpec.ofChange s with cond := some uptoSmall }

/-- 'longlinelaw17.GridLives', WHERE WHAT IT READS IS OF BULK AT MOST 1048576: true; the input reads as it did. -/
def gridLivesUptoRow : OpenClaim := { program := "ytahmnipcdkcpiaa", sum := "6a5fdfd9c269d7f09197f2f3a71cfa193f51e0ec9a163452876ba03080f34e5e", func := "longline/longlinelaw17.GridLives", spec := "gridLives", apart := false, narrowed := true }
def GridLivesUptoSaid : Prop := gridLivesUptoRow.holds Try.pinned (OpenSpec.upto gridLivesSpec)

/-- 'longlinelaw17.GridNobody', WHERE WHAT IT READS IS OF BULK AT MOST 1048576: true; the input reads as it did. -/
def gridNobodyUptoRow : OpenClaim := { program := "ytahmnipcdkcpiaa", sum := "6a5fdfd9c269d7f09197f2f3a71cfa193f51e0ec9a163452876ba03080f34e5e", func := "longline/longlinelaw17.GridNobody", spec := "gridNobody", apart := false, narrowed := true }
def GridNobodyUptoSaid : Prop := gridNobodyUptoRow.holds Try.pinned (OpenSpec.upto gridNobodySpec)

/-- 'longlinelaw17.GridMoves', WHERE WHAT IT READS IS OF BULK AT MOST 1048576: true; the input reads as it did. -/
def gridMovesUptoRow : OpenClaim := { program := "ytahmnipcdkcpiaa", sum := "6a5fdfd9c269d7f09197f2f3a71cfa193f51e0ec9a163452876ba03080f34e5e", func := "longline/longlinelaw17.GridMoves", spec := "gridMoves", apart := false, narrowed := true }
def GridMovesUptoSaid : Prop := gridMovesUptoRow.holds Try.pinned (OpenSpec.upto gridMovesSpec)

/-- 'longlinelaw17.GridCopies', WHERE WHAT IT READS IS OF BULK AT MOST 1048576: true; the input reads as it did. -/
def gridCopiesUptoRow : OpenClaim := { program := "ytahmnipcdkcpiaa", sum := "6a5fdfd9c269d7f09197f2f3a71cfa193f51e0ec9a163452876ba03080f34e5e", func := "longline/longlinelaw17.GridCopies", spec := "gridCopies", apart := false, narrowed := true }
def GridCopiesUptoSaid : Prop := gridCopiesUptoRow.holds Try.pinned (OpenSpec.upto gridCopiesSpec)

end Rows
end Go.Proofs.Ytahmnipcdkcpiaa
