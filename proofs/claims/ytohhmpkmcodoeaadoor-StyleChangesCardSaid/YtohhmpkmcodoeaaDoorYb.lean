/-
  Proved here: of the document's styles: isColour, Right, place, small, tell.
-/
import Derived.Test.YtohhmpkmcodoeaaDoorYa
import Derived.Test.YtohhmpkmcodoeaaDoorOw
import Derived.IntWalk
import Derived.WalkLawsBesides
import Derived.Below
import Derived.OneCell
import Derived.Laws.Rows
import Derived.BigQuiet
set_option linter.unusedSimpArgs false
set_option linter.unusedVariables false
namespace Go.Proofs.YtohhmpkmcodoeaaDoor
open Go.RowKit
theorem ry_colour (c : Int) (w : World) (h0 : 0 ≤ c) (h1 : c < 4294967296) : Calls Tryd.prog 25 #[.int .u32 c] w fun e w' => e = .returned (.bool (colB c)) ∧ w = w' := by
  obtain ⟨r, hr⟩ : ∃ r, colB c = r := ⟨_, rfl⟩
  have HR := Lib.hid (fun (_ : Unit) => hr)
  rw [hr]
  clear hr
  by_cases a0 : c = 0
  · subst a0
    have e : r = true := (HR.out ()).symm
    subst e
    clear HR
    go_enter Tryd.func25, Tryd.ntmps25
    go_wp2
    go_ret
    exact ⟨rfl, rfl⟩
  have z0 : (c == 0) = false := by simpa using a0
  obtain ⟨q, hq⟩ : ∃ q, c / 16777216 = q := ⟨_, rfl⟩
  obtain ⟨m, hm⟩ : ∃ m, c % 16777216 = m := ⟨_, rfl⟩
  have hr2 : r = ((q == 1 && decide (m < 256)) || q == 2) := by rw [← HR.out (), colB, z0, hq, hm]; simp
  have q0 : 0 ≤ q := by omega
  clear HR a0
  by_cases a1 : q = 1
  · subst a1
    by_cases a2 : m < 256
    · have e : r = true := by rw [hr2]; simp [a2]
      have d : decide (m < 256) = true := by simpa using a2
      subst e
      clear hr2 a2
      go_enter Tryd.func25, Tryd.ntmps25
      go_wp2
      go_ret
      exact ⟨rfl, rfl⟩
    · have e : r = false := by rw [hr2]; simp; omega
      have d : decide (m < 256) = false := by simpa using a2
      subst e
      clear hr2 a2
      go_enter Tryd.func25, Tryd.ntmps25
      go_wp2
      go_ret
      exact ⟨rfl, rfl⟩
  · have z1 : (q == 1) = false := by simpa using a1
    have e : r = (q == 2) := by rw [hr2, z1]; simp
    subst e
    clear hr2 a1
    go_enter Tryd.func25, Tryd.ntmps25
    go_wp2
    go_ret
    exact ⟨rfl, rfl⟩
theorem ry_place (n : Int) (w : World) : Calls Tryd.prog 21 #[.int .i64 n] w fun e w' => e = .returned (.int .i64 (placeS n)) ∧ w = w' := by
  by_cases a1 : 1 ≤ n ∧ n ≤ 5
  · have e : placeS n = n - 1 := by unfold placeS; rw [if_pos a1]
    rw [e]
    obtain ⟨b1, b2⟩ := a1
    clear e
    go_enter Tryd.func21, Tryd.ntmps21
    go_wp2
    go_ret
    exact ⟨rfl, rfl⟩
  by_cases a2 : 7 ≤ n ∧ n ≤ 9
  · have e : placeS n = n - 2 := by unfold placeS; rw [if_neg a1, if_pos a2]
    rw [e]
    obtain ⟨b1, b2⟩ := a2
    have d1 : decide (1 ≤ n) = true := by simp; omega
    have d2 : decide (n ≤ 5) = false := by simp; omega
    clear e a1
    go_enter Tryd.func21, Tryd.ntmps21
    go_wp2
    go_ret
    exact ⟨rfl, rfl⟩
  · have e : placeS n = -1 := by unfold placeS; rw [if_neg a1, if_neg a2]
    rw [e]
    clear e
    by_cases b1 : n < 1
    · have d1 : decide (1 ≤ n) = false := by simp; omega
      have d2 : decide (7 ≤ n) = false := by simp; omega
      clear a1 a2
      go_enter Tryd.func21, Tryd.ntmps21
      go_wp2
      go_ret
      exact ⟨rfl, rfl⟩
    · have d1 : decide (1 ≤ n) = true := by simp; omega
      have d2 : decide (n ≤ 5) = false := by simp; omega
      by_cases b2 : 7 ≤ n
      · have d3 : decide (7 ≤ n) = true := by simp; omega
        have d4 : decide (n ≤ 9) = false := by simp; omega
        clear a1 a2
        go_enter Tryd.func21, Tryd.ntmps21
        go_wp2
        go_ret
        exact ⟨rfl, rfl⟩
      · have d3 : decide (7 ≤ n) = false := by simp; omega
        clear a1 a2
        go_enter Tryd.func21, Tryd.ntmps21
        go_wp2
        go_ret
        exact ⟨rfl, rfl⟩
theorem ry_small (n : Int) (w : World) : Calls Tryd.prog 29 #[.int .i64 n] w fun e w' => e = .returned (.bool (smallB n)) ∧ w = w' := by
  unfold smallB
  by_cases a1 : 0 ≤ n
  · have d1 : decide (0 ≤ n) = true := by simpa using a1
    go_enter Tryd.func29, Tryd.ntmps29
    go_wp2
    go_ret
    exact ⟨ret_bool (by simp [a1]), rfl⟩
  · have d1 : decide (0 ≤ n) = false := by simpa using a1
    rw [d1]
    clear a1
    go_enter Tryd.func29, Tryd.ntmps29
    go_wp2
    go_ret
    exact ⟨rfl, rfl⟩
end Go.Proofs.YtohhmpkmcodoeaaDoor
