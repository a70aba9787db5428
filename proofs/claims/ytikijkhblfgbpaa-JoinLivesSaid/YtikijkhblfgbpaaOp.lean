/-
  Proved here: what is known of a slice of bytes that comes in as an argument: it reads as a list of bytes.
-/
import Derived.Test.YtikijkhblfgbpaaBy
import Derived.ProofKit
import Derived.OpenShut
import Derived.ChangeOld
import Derived.Below
namespace Go.Proofs.Ytikijkhblfgbpaa
open Go.ChangeShapes Go.WideShapes Go.ChangeAt Go.RowKit

theorem laidOutOk : laidOutB Try.prog = true := by kernel_rfl
theorem cellsByte : Try.prog.cellsOf 5 = 1 := by kernel_rfl

theorem getD_take {zs : List Int} {n i : Nat} (hi : i < n) : (zs.take n).getD i 0 = zs.getD i 0 := by
  simp [List.getD, hi]

/-- What is known of a slice of bytes. -/
structure Sl (w : World) (A : Option Addr) (len cap : Nat) (bs : List Int) : Prop where
  len_eq : bs.length = len
  reads : RB w w.heap.size A bs
  bytes : Bytes bs
  le : len ≤ cap
  max : cap ≤ maxLen
  nil : A = none → cap = 0

theorem open_bytes {H : Type} {enc : TypeId × Value → H} {W : World} {base : Nat} {sp : Nat → Bool} {held : Bool} {fuel : Nat} {A : Option Addr} {len cap : Nat} {x : DataW H × List MemPlace}
    (h : DataW.trod enc Try.prog W base sp held fuel 28 [.slice A len cap] = some x) : ∃ bs, Sl W A len cap bs := by
  rcases open_ints Try.underlying28 Try.underlying5 cellsByte h with ⟨hcs, _⟩ | ⟨a, l, c, zs, hcs, _, hl, hm, hz, _, hcell, hwz⟩
  · simp at hcs
    obtain ⟨rfl, rfl, rfl⟩ := hcs
    exact ⟨[], rfl, fun h => absurd h (by simp), fun i => by simp, Nat.le_refl _, by unfold maxLen; omega, fun _ => rfl⟩
  · simp at hcs
    obtain ⟨rfl, rfl, rfl⟩ := hcs
    have hlz : len ≤ zs.length := by
      rw [hz]
      split <;> omega
    have hlen : (zs.take len).length = len := by simp; omega
    refine ⟨zs.take len, hlen, fun hp => ?_, fun i => ?_, hl, hm, fun h => by cases h⟩
    · rw [hlen] at hp
      obtain ⟨b, off, rfl, hc⟩ := ints_at hcell (by omega)
      refine ⟨b, off, rfl, World.block_lt_of_cell? W _ (hc 0 (by omega)), fun i hi => ?_⟩
      rw [hlen] at hi
      rw [getD_take hi]
      exact hc i (by omega)
    · by_cases hi : i < len
      · rw [getD_take hi]
        have hm : zs.getD i 0 ∈ zs := by
          have hil : i < zs.length := by omega
          simp [List.getD, hil]
        have := bounds_u8 (hwz _ hm)
        omega
      · have : (zs.take len).getD i 0 = 0 := by simp [List.getD, List.getElem?_take, hi]
        rw [this]; omega
end Go.Proofs.Ytikijkhblfgbpaa
