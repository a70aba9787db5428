/-
  Proved here: what the rows' list gives of the table of sizes (its cells hold its four numbers), and a world that holds it.
-/
import Derived.Test.YtmklcghoeapfbaaDoorCards
import Derived.Test.YtmklcghoeapfbaaDoorTie
import Derived.Test.YtmklcghoeapfbaaDoorVSize
import Derived.WalkKit
import Derived.ProofKit
import Derived.OpenShut
import Derived.Deep.DeepHandedRow
import Derived.Lib.LaidTab
namespace Go.Proofs.YtmklcghoeapfbaaDoor
open Go.ChangeShapes Go.WideShapes Go.ChangeAt Go.RowKit

theorem ownK : ownKnob Tryd.prog.godebug = none := by kernel_rfl
theorem gTab : Tryd.prog.globalNamed "longline/vint.sizes" = some 0 := by kernel_rfl
theorem gTabType : (Tryd.prog.globals[0]?).map (·.type) = some 64 := by kernel_rfl
theorem cellsArr : Tryd.prog.cellsOf 64 = 4 := by kernel_rfl
theorem cellsInt : Tryd.prog.cellsOf 3 = 1 := by kernel_rfl

/-- What the list of a row gives: the table of sizes. -/
theorem tabOf {W : World} (h : laidMetH Tryd.prog [("longline/vint.sizes", Rows.laid_longline_vint_sizes)] W) : Tab W := by
  have t : Lib.TabIs Tryd.prog W "longline/vint.sizes" .i64 [1, 2, 4, 8] := Lib.tabIs_of_head (rest := []) gTab gTabType Tryd.underlying64 Tryd.underlying3 cellsInt cellsArr h
  have c0 : W.cell? ⟨0, 0, none⟩ = some (.int .i64 1) := t.cell gTab 0 (by decide)
  exact ⟨c0, t.cell gTab 1 (by decide), t.cell gTab 2 (by decide), t.cell gTab 3 (by decide), World.block_lt_of_cell? W _ c0⟩

/-- A world for the witness: the settled one, the table (its block) holding what its initialiser lays. -/
noncomputable def laidWorld (os : Os) : World :=
  { World.holding Tryd.prog os ⟨#[], #[], []⟩ with heap := (World.holding Tryd.prog os ⟨#[], #[], []⟩).heap.modify 0 fun
      | .cells _ t frozen => .cells #[.int .i64 1, .int .i64 2, .int .i64 4, .int .i64 8] t frozen
      | o => o }
end Go.Proofs.YtmklcghoeapfbaaDoor
