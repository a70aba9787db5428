/-
  Kept here: what the cards of plain rows ask of the program itself.
-/
import Derived.Test.YtjbnoggmnfannaaRows
import Derived.WalkKit
import Derived.ProofKit
import Derived.OpenShut
import Derived.ChangeSlices
import Derived.ChangeOld
import Derived.Below
namespace Go.Proofs.Ytjbnoggmnfannaa
theorem ownK : ownKnob Try.prog.godebug = none := by kernel_rfl
end Go.Proofs.Ytjbnoggmnfannaa
