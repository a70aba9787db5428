/-
  Proved here: what a grid of the program's tells; its rows.
-/
import Derived.Test.YtahmnipcdkcpiaaGc
import Derived.Laws.Cover3
set_option linter.unusedSimpArgs false
set_option linter.unusedVariables false
namespace Go.Proofs.Ytahmnipcdkcpiaa
open Go.RowKit
theorem run_eql_sn (w : World) (a : Option Addr) (l c : Nat) : (binOp .eql 55 (.slice a l c) (.slice none 0 0)).run Try.prog w = .ok (.bool a.isNone) w := by
  simp [binOp, Op.binOp, run_equal_slice_nil w 55 39 a l c Try.underlying55, Result.andThen]
/-- Nil, or one that no call made. -/
def NoneV (v : Value) (w : World) : Prop := v = .pointer none ∨ ∃ g, v = .pointer (some ⟨g, 0, none⟩) ∧ w.cell? ⟨g, 2, none⟩ = some (.slice none 0 0)
set_option maxRecDepth 100000 in
theorem none_yes {v : Value} {w : World} (h : NoneV v w) : Calls Try.prog 48 #[v] w fun e w' => e = .returned (.bool true) ∧ w = w' := by
  rcases h with rfl | ⟨g, rfl, h⟩
  · go_enter Try.func48, Try.ntmps48
    go_wp2
    go_ret
    exact ⟨rfl, rfl⟩
  · have hq := run_eql_sn w none 0 0
    go_enter Try.func48, Try.ntmps48
    go_wp2
    go_ret
    exact ⟨rfl, rfl⟩
section
variable {g b cap R C : Nat} {L : List Ce} {w : World}
set_option maxRecDepth 100000 in
theorem none_no (h : Gr g b cap R C L w) : Calls Try.prog 48 #[.pointer (some ⟨g, 0, none⟩)] w fun e w' => e = .returned (.bool false) ∧ w = w' := by
  obtain ⟨k0, k1, k2⟩ := h.cells
  have hq := run_eql_sn w (some ⟨b, 0, none⟩) (R * C) cap
  clear h
  go_enter Try.func48, Try.ntmps48
  go_wp2
  go_ret
  exact ⟨rfl, rfl⟩
theorem rows_gr (h : Gr g b cap R C L w) : Calls Try.prog 24 #[.pointer (some ⟨g, 0, none⟩)] w fun e w' => e = .returned (.int .i64 R) ∧ w = w' := by
  obtain ⟨k0, k1, k2⟩ := h.cells
  have HN := Lib.hid (none_no h)
  clear h
  go_enter Try.func24, Try.ntmps24
  go_wp2_with fail
  refine HN.out.mono ?_
  rintro e wx ⟨rfl, rfl⟩
  go_wp2
  go_ret
  exact ⟨rfl, rfl⟩
theorem cols_gr (h : Gr g b cap R C L w) : Calls Try.prog 25 #[.pointer (some ⟨g, 0, none⟩)] w fun e w' => e = .returned (.int .i64 C) ∧ w = w' := by
  obtain ⟨k0, k1, k2⟩ := h.cells
  have HN := Lib.hid (none_no h)
  clear h
  go_enter Try.func25, Try.ntmps25
  go_wp2_with fail
  refine HN.out.mono ?_
  rintro e wx ⟨rfl, rfl⟩
  go_wp2
  go_ret
  exact ⟨rfl, rfl⟩
/-- Is there a row, a cell? -/
def hasR (R : Nat) (row : Int) : Bool := decide (0 ≤ row) && decide (row < R)
def hasC (R C : Nat) (row col : Int) : Bool := hasR R row && hasR C col
def flt (q : Bool) : Int := if q then 0 else 1
theorem rowFault_gr (h : Gr g b cap R C L w) (row : Int) : Calls Try.prog 41 #[.pointer (some ⟨g, 0, none⟩), .int .i64 row] w fun e w' => e = .returned (.int .i64 (flt (hasR R row))) ∧ w = w' := by
  obtain ⟨k0, k1, k2⟩ := h.cells
  have HN := Lib.hid (none_no h)
  clear h
  obtain ⟨q, hq⟩ : ∃ q, flt (hasR R row) = q := ⟨_, rfl⟩
  rw [hq]
  unfold flt hasR at hq
  by_cases h1 : row < 0
  · have d1 : decide (row < 0) = true := by simpa using h1
    have e : q = 1 := by
      rw [← hq, show decide (0 ≤ row) = false by simp; omega]; rfl
    subst e
    clear h1 hq
    go_enter Try.func41, Try.ntmps41
    go_wp2_with fail
    refine HN.out.mono ?_
    rintro e wx ⟨rfl, rfl⟩
    go_wp2
    go_ret
    exact ⟨rfl, rfl⟩
  have d1 : decide (row < 0) = false := by simpa using h1
  by_cases h2 : (R : Int) ≤ row
  · have d2 : decide ((R : Int) ≤ row) = true := by simpa using h2
    have e : q = 1 := by
      rw [← hq, show decide (row < (R : Int)) = false by simp; omega, Bool.and_false]; rfl
    subst e
    clear h1 h2 hq
    go_enter Try.func41, Try.ntmps41
    go_wp2_with fail
    refine HN.out.mono ?_
    rintro e wx ⟨rfl, rfl⟩
    go_wp2
    go_ret
    exact ⟨rfl, rfl⟩
  have d2 : decide ((R : Int) ≤ row) = false := by simpa using h2
  have e : q = 0 := by
    rw [← hq, show decide (row < (R : Int)) = true by simp; omega, show decide (0 ≤ row) = true by simp; omega]; rfl
  subst e
  clear h1 h2 hq
  go_enter Try.func41, Try.ntmps41
  go_wp2_with fail
  refine HN.out.mono ?_
  rintro e wx ⟨rfl, rfl⟩
  go_wp2
  go_ret
  exact ⟨rfl, rfl⟩
theorem flt_ne {q : Bool} : (flt q != 0) = !q := by cases q <;> rfl
theorem cellFault_gr (h : Gr g b cap R C L w) (row col : Int) : Calls Try.prog 38 #[.pointer (some ⟨g, 0, none⟩), .int .i64 row, .int .i64 col] w fun e w' => e = .returned (.int .i64 (flt (hasC R C row col))) ∧ w = w' := by
  obtain ⟨k0, k1, k2⟩ := h.cells
  have HN := Lib.hid (rowFault_gr h row)
  clear h
  obtain ⟨q, hq⟩ : ∃ q, flt (hasC R C row col) = q := ⟨_, rfl⟩
  rw [hq]
  unfold hasC at hq
  cases hr : hasR R row with
  | false =>
    rw [hr] at HN hq
    have e : q = 1 := hq.symm
    subst e
    clear hr hq
    rw [show flt false = 1 from rfl] at HN
    go_enter Try.func38, Try.ntmps38
    go_wp2_with fail
    refine HN.out.mono ?_
    rintro e wx ⟨rfl, rfl⟩
    go_wp2
    go_ret
    exact ⟨rfl, rfl⟩
  | true =>
    rw [hr, Bool.true_and] at hq
    rw [hr, show flt true = 0 from rfl] at HN
    clear hr
    unfold flt hasR at hq
    by_cases h1 : col < 0
    · have d1 : decide (col < 0) = true := by simpa using h1
      have e : q = 1 := by
        rw [← hq, show decide (0 ≤ col) = false by simp; omega]; rfl
      subst e
      clear h1 hq
      go_enter Try.func38, Try.ntmps38
      go_wp2_with fail
      refine HN.out.mono ?_
      rintro e wx ⟨rfl, rfl⟩
      go_wp2
      go_ret
      exact ⟨rfl, rfl⟩
    have d1 : decide (col < 0) = false := by simpa using h1
    by_cases h2 : (C : Int) ≤ col
    · have d2 : decide ((C : Int) ≤ col) = true := by simpa using h2
      have e : q = 1 := by
        rw [← hq, show decide (col < (C : Int)) = false by simp; omega, Bool.and_false]; rfl
      subst e
      clear h1 h2 hq
      go_enter Try.func38, Try.ntmps38
      go_wp2_with fail
      refine HN.out.mono ?_
      rintro e wx ⟨rfl, rfl⟩
      go_wp2
      go_ret
      exact ⟨rfl, rfl⟩
    have d2 : decide ((C : Int) ≤ col) = false := by simpa using h2
    have e : q = 0 := by
      rw [← hq, show decide (col < (C : Int)) = true by simp; omega, show decide (0 ≤ col) = true by simp; omega]; rfl
    subst e
    clear h1 h2 hq
    go_enter Try.func38, Try.ntmps38
    go_wp2_with fail
    refine HN.out.mono ?_
    rintro e wx ⟨rfl, rfl⟩
    go_wp2
    go_ret
    exact ⟨rfl, rfl⟩
/-- A row's cells themselves. -/
theorem line_gr (h : Gr g b cap R C L w) {i o : Nat} (hi : i < R) (ho : i * C = o) : Calls Try.prog 39 #[.pointer (some ⟨g, 0, none⟩), .int .i64 i] w fun e w' => e = .returned (.slice (some ⟨b, o * 4, none⟩) C (cap - o)) ∧ w' = w.drew := by
  obtain ⟨k0, k1, k2⟩ := h.cells
  have hp := h.pos
  have hroom := h.room
  have hoc : o + C ≤ R * C := by
    rw [← ho, ← Nat.succ_mul]; exact Nat.mul_le_mul_right C hi
  obtain ⟨n, hn⟩ : ∃ n, R * C = n := ⟨_, rfl⟩
  rw [hn] at hroom hoc k2
  have w1 : IntKind.i64.wrap ((i : Int) * (C : Int)) = (o : Int) := by rw [← Int.natCast_mul, ho]; exact IntWalk.i64_in _ (by omega)
  have w2 : IntKind.i64.wrap ((i : Int) + 1) = (i : Int) + 1 := IntWalk.i64_in _ (by omega)
  have w3 : IntKind.i64.wrap (((i : Int) + 1) * (C : Int)) = (o : Int) + (C : Int) := by
    rw [Int.add_mul, ← Int.natCast_mul, ho, Int.one_mul]; exact IntWalk.i64_in _ (by omega)
  have g1 : (0 : Int) ≤ (o : Int) := by omega
  have g2 : (o : Int) ≤ (o : Int) + (C : Int) := by omega
  have g3 : (o : Int) + (C : Int) ≤ (cap : Int) := by omega
  have g4 : ¬ cap = o := by omega
  have g5 : ((o : Int) + (C : Int)).toNat = o + C := by omega
  have g6 : o + C - o = C := by omega
  clear h hp hroom hoc hn ho hi
  go_enter Try.func39, Try.ntmps39
  go_wp2
  go_region
  go_wp2
  go_ret
  exact ⟨rfl, rfl⟩
end
end Go.Proofs.Ytahmnipcdkcpiaa
