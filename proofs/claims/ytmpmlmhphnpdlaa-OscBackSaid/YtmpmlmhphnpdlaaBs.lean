/-
  Proved here: a text that comes in as an argument is a list of bytes.
-/
import Derived.Test.YtmpmlmhphnpdlaaBr
import Derived.Test.YtmpmlmhphnpdlaaOs
namespace Go.Proofs.Ytmpmlmhphnpdlaa
open Go.ChangeShapes Go.WideShapes Go.ChangeAt Go.RowKit
def numsOf (s : ByteArray) : List Int := s.data.toList.map fun x => (x.toNat : Int)
theorem str_list (s : ByteArray) : s = strOfNums (numsOf s) := by
  apply ByteArray.ext
  apply Array.ext'
  simp only [strOfNums, numsOf, List.map_map]
  rw [show (fun n : Int => UInt8.ofNat n.toNat) ∘ (fun x : UInt8 => (x.toNat : Int)) = id from by funext x; simp]
  simp
theorem str_bytes (s : ByteArray) : IsBytes (numsOf s) := fun x hx => by
  obtain ⟨y, _, rfl⟩ := List.mem_map.1 hx
  have := y.toNat_lt
  omega
end Go.Proofs.Ytmpmlmhphnpdlaa
