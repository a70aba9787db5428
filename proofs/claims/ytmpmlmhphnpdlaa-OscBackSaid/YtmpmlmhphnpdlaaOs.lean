/-
  Proved here: what the laws' walks take of a slice of numbers that comes in as an argument.
-/
import Derived.Test.YtmpmlmhphnpdlaaRg
import Derived.Test.YtmpmlmhphnpdlaaPlC
namespace Go.Proofs.Ytmpmlmhphnpdlaa
open Go.ChangeShapes Go.WideShapes Go.ChangeAt Go.RowKit
theorem sl_u8 {w : World} {A : Option Addr} {n c : Nat} {zs : List Int} (h : SlI .u8 w A n c zs) : ∀ x ∈ zs, 0 ≤ x ∧ x < 256 := fun x hx => by
  obtain ⟨i, hi, rfl⟩ := List.getElem_of_mem hx
  have := bounds_u8 (h.wf i hi)
  simp only [List.getD, List.getElem?_eq_getElem hi, Option.getD_some] at this
  omega
theorem sl_ri {k : IntKind} {w : World} {A : Option Addr} {n c : Nat} {zs : List Int} (h : SlI k w A n c zs) : RI k w A zs := h.reads
end Go.Proofs.Ytmpmlmhphnpdlaa
