/-
  Proved here: what the rows' list gives of the table of sizes (its cells hold its numbers), and a world for the witness.
-/
import Derived.Test.YtnejiniiehfmaaaDoorCards
import Derived.Test.YtnejiniiehfmaaaDoorTie
import Derived.Test.YtnejiniiehfmaaaDoorPlV
import Derived.Test.YtnejiniiehfmaaaDoorQGet
import Derived.WalkKit
import Derived.ProofKit
import Derived.OpenShut
import Derived.Deep.DeepHandedRow
import Derived.Lib.LaidTab
import Derived.Lib.SmallJoins
import Derived.ChangeSlices
import Derived.ChangeOld
import Derived.Below
namespace Go.Proofs.YtnejiniiehfmaaaDoor
open Go.ChangeShapes Go.WideShapes Go.ChangeAt Go.RowKit
theorem gTab : Tryd.prog.globalNamed "longline/vint.sizes" = some 0 := by kernel_rfl
theorem gTabType : (Tryd.prog.globals[0]?).map (·.type) = some 158 := by kernel_rfl
theorem cellsArr : Tryd.prog.cellsOf 158 = 4 := by kernel_rfl
theorem tabOf {W : World} (h : laidMetH Tryd.prog [("longline/vint.sizes", Rows.laid_longline_vint_sizes)] W) : Tab W := by
  have t : Lib.TabIs Tryd.prog W "longline/vint.sizes" .i64 [1, 2, 4, 8] := Lib.tabIs_of_head (rest := []) gTab gTabType Tryd.underlying158 Tryd.underlying3 cellsInt cellsArr h
  have c0 : W.cell? ⟨0, 0, none⟩ = some (.int .i64 1) := t.cell gTab 0 (by decide)
  exact ⟨c0, t.cell gTab 1 (by decide), t.cell gTab 2 (by decide), t.cell gTab 3 (by decide), World.block_lt_of_cell? W _ c0⟩
/-- A world for the witness: the settled one, the table (its block) holding what its initialiser lays. -/
noncomputable def laidWorld (os : Os) : World :=
  { World.holding Tryd.prog os ⟨#[], #[], []⟩ with heap := (World.holding Tryd.prog os ⟨#[], #[], []⟩).heap.modify 0 fun
      | .cells _ t frozen => .cells #[.int .i64 1, .int .i64 2, .int .i64 4, .int .i64 8] t frozen
      | o => o }
end Go.Proofs.YtnejiniiehfmaaaDoor
