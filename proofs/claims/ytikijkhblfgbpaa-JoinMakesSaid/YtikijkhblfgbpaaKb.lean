/-
  Proved here: JoinMakes where its guard strikes; how long a slice of bytes that comes in may be.
-/
import Derived.Test.YtikijkhblfgbpaaKa
import Derived.Test.YtikijkhblfgbpaaPl
import Derived.SizedLaws
namespace Go.Proofs.Ytikijkhblfgbpaa
open Go.ChangeShapes Go.WideShapes Go.ChangeAt Go.RowKit

set_option maxRecDepth 100000 in
set_option maxHeartbeats 2000000 in
theorem makes_guard (id : Int) (A O : Option Addr) (l cap lo co : Nat) (w : World) (h : 8000 < l ∨ id < 1 ∨ 4611686018427387903 < id) :
    Calls Try.prog 4 #[.int .u64 id, .slice A l cap, .slice O lo co] w fun e w' => e = .returned (.bool true) ∧ Below w.heap.size w w' := by
  by_cases h1 : 8000 < l
  · have d1 : decide ((8000 : Int) < (l : Int)) = true := by simp; omega
    go_enter Try.func4, Try.ntmps4
    go_wp2_with fail
    refine (alive_any _).mono ?_
    rintro e w1 ⟨rfl, hb1⟩
    go_wp2
    go_ret
    exact ⟨rfl, hb1⟩
  · have d1 : decide ((8000 : Int) < (l : Int)) = false := by simp; omega
    by_cases h2 : id < 1
    · have d2 : decide (id < 1) = true := by simp; omega
      go_enter Try.func4, Try.ntmps4
      go_wp2_with fail
      refine (alive_any _).mono ?_
      rintro e w1 ⟨rfl, hb1⟩
      go_wp2
      go_ret
      exact ⟨rfl, hb1⟩
    · have d2 : decide (id < 1) = false := by simp; omega
      have d3 : decide (4611686018427387903 < id) = true := by simp; omega
      go_enter Try.func4, Try.ntmps4
      go_wp2_with fail
      refine (alive_any _).mono ?_
      rintro e w1 ⟨rfl, hb1⟩
      go_wp2
      go_ret
      exact ⟨rfl, hb1⟩

theorem bytesOf1 : Try.prog.bytesOf 5 = 1 := by kernel_rfl
theorem len_bytes {H : Type} {enc : TypeId × Value → H} {W : World} {base : Nat} {sp : Nat → Bool} {held : Bool} {ts : List TypeId} {ds : List (DataW H)} {A : Option Addr} {len cap j : Nat} {d : DataW H} {pl : List MemPlace}
    (hsz : (DataW.weightsEach Try.prog ts ds).all (· ≤ reachBytes) = true) (ht : ts[j]? = some 28) (hd : ds[j]? = some d) (h : DataW.Trod enc Try.prog W base sp held 28 (.slice A len cap) d pl) : len ≤ 140737488355328 := by
  obtain ⟨fuel, hf⟩ := h
  have hf' : DataW.trod enc Try.prog W base sp held fuel 28 [.slice A len cap] = some (d, pl) := by simpa [Value.cells] using hf
  rcases open_ints Try.underlying28 Try.underlying5 cellsByte hf' with ⟨hcs, _⟩ | ⟨a, l, c, zs, hcs, _, hl, _, hz, hx, _⟩
  · simp at hcs
    omega
  · simp at hcs
    obtain ⟨_, rfl, _⟩ := hcs
    injection hx with hx _
    subst hx
    have hs := sized_slice hsz ht hd Try.underlying28
    rw [bytesOf1] at hs
    have hlz : len ≤ zs.length := by
      rw [hz]
      split <;> omega
    have hr : reachBytes = 140737488351232 := rfl
    simp [lits] at hs
    omega
end Go.Proofs.Ytikijkhblfgbpaa
