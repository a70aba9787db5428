/-
  Proved here: what the rows' list gives of sha's table of constants (its cells hold its 64 numbers), and a world that holds it.
-/
import Derived.Test.YtdlhpmbgpjjkoaaDoorCards
import Derived.Test.YtdlhpmbgpjjkoaaDoorTie
import Derived.Test.YtdlhpmbgpjjkoaaDoorSOf
import Derived.Test.YtdlhpmbgpjjkoaaDoorPlM
import Derived.WalkKit
import Derived.ProofKit
import Derived.OpenShut
import Derived.Deep.DeepHandedRow
import Derived.Lib.LaidTab
import Derived.ChangeOld
import Derived.Below
namespace Go.Proofs.YtdlhpmbgpjjkoaaDoor
open Go.ChangeShapes Go.WideShapes Go.ChangeAt Go.RowKit
theorem gTab : Tryd.prog.globalNamed "longline/sha.constants" = some 0 := by kernel_rfl
theorem gTabType : (Tryd.prog.globals[0]?).map (·.type) = some 89 := by kernel_rfl
theorem cellsArr : Tryd.prog.cellsOf 89 = 64 := by kernel_rfl
theorem cellsWord : Tryd.prog.cellsOf 81 = 1 := by kernel_rfl

/-- The constants, as the row lists them. -/
def kkI : List Int := kk.map fun n : Nat => (n : Int)
theorem kkI_get (i : Nat) (hi : i < 64) : kkI.getD i 0 = ((kk.getD i 0 : Nat) : Int) := by
  have h : i < kk.length := hi
  simp [kkI, List.getD_eq_getElem?_getD, h]

/-- What the list of a row gives: the table of constants. -/
theorem tabOf {W : World} (h : laidMetH Tryd.prog [("longline/sha.constants", Rows.laid_longline_sha_constants)] W) : Tab W := by
  have t : Lib.TabIs Tryd.prog W "longline/sha.constants" .u32 kkI := Lib.tabIs_of_head (rest := []) gTab gTabType Tryd.underlying89 Tryd.underlying81 cellsWord cellsArr h
  have c : ∀ i, i < 64 → W.cell? ⟨0, i, none⟩ = some (.int .u32 (kk.getD i 0 : Nat)) := fun i hi => by
    rw [← kkI_get i hi]
    exact t.cell gTab i (by simpa [kkI] using (show i < kk.length from hi))
  exact ⟨c, World.block_lt_of_cell? W _ (c 0 (by decide))⟩

/-- A world for the witness: the settled one, the table (its block) holding what its initialiser lays. -/
noncomputable def laidWorld (os : Os) : World :=
  { World.holding Tryd.prog os ⟨#[], #[], []⟩ with heap := (World.holding Tryd.prog os ⟨#[], #[], []⟩).heap.modify 0 fun
      | .cells _ t frozen => .cells (V32 kk).toArray t frozen
      | o => o }

end Go.Proofs.YtdlhpmbgpjjkoaaDoor
