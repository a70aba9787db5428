/-
  Proved here: of the document's grids: Has, with.
-/
import Derived.Test.YtahmnipcdkcpiaaGw
set_option linter.unusedSimpArgs false
set_option linter.unusedVariables false
namespace Go.Proofs.Ytahmnipcdkcpiaa
open Go.RowKit
set_option maxRecDepth 100000 in
set_option maxHeartbeats 4000000 in
theorem rhas_any (R C : Nat) (A : Option Addr) (n c : Nat) (row col : Int) (w : World) : Calls Try.prog 12 #[.agg #[.int .i64 R, .int .i64 C, .slice A n c], .int .i64 row, .int .i64 col] w fun e w' => e = .returned (.bool (hasC R C row col)) ∧ Below w.heap.size w w' := by
  have HB := Lib.hid ((Below.refl w.heap.size w).alloc (Nat.le_refl _) (.cells #[.int .i64 R, .int .i64 C, .slice A n c] 29))
  have HQ : Hid (∀ a b c d : Bool, decide (0 ≤ row) = a → decide (row < (R : Int)) = b → decide (0 ≤ col) = c → decide (col < (C : Int)) = d → hasC R C row col = (a && b && (c && d))) := Lib.hid (fun a b c d h1 h2 h3 h4 => by subst h1 h2 h3 h4; unfold hasC hasR; simp)
  obtain ⟨q, hq⟩ : ∃ q, hasC R C row col = q := ⟨_, rfl⟩
  rw [hq] at HQ ⊢
  clear hq
  cases h1 : decide (0 ≤ row) with
  | false =>
    have h1' : decide (row ≥ 0) = false := h1
    obtain rfl := HQ.out _ _ _ _ h1 rfl rfl rfl
    rw [Bool.false_and, Bool.false_and]
    go_enter Try.func12, Try.ntmps12
    go_wp2
    go_ret
    exact ⟨rfl, HB.out⟩
  | true =>
    have h1' : decide (row ≥ 0) = true := h1
    cases h2 : decide (row < (R : Int)) with
    | false =>
      obtain rfl := HQ.out _ _ _ _ h1 h2 rfl rfl
      rw [Bool.true_and, Bool.false_and]
      go_enter Try.func12, Try.ntmps12
      go_wp2
      go_ret
      exact ⟨rfl, HB.out⟩
    | true =>
      cases h3 : decide (0 ≤ col) with
      | false =>
        have h3' : decide (col ≥ 0) = false := h3
        obtain rfl := HQ.out _ _ _ _ h1 h2 h3 rfl
        rw [Bool.true_and, Bool.true_and, Bool.false_and]
        go_enter Try.func12, Try.ntmps12
        go_wp2
        go_ret
        exact ⟨rfl, HB.out⟩
      | true =>
        have h3' : decide (col ≥ 0) = true := h3
        cases h4 : decide (col < (C : Int)) with
        | false =>
          obtain rfl := HQ.out _ _ _ _ h1 h2 h3 h4
          go_enter Try.func12, Try.ntmps12
          go_wp2
          go_ret
          exact ⟨rfl, HB.out⟩
        | true =>
          obtain rfl := HQ.out _ _ _ _ h1 h2 h3 h4
          go_enter Try.func12, Try.ntmps12
          go_wp2
          go_ret
          exact ⟨rfl, HB.out⟩
set_option maxRecDepth 100000 in
set_option maxHeartbeats 4000000 in
theorem rwith_any (R C : Nat) (A B : Option Addr) (n c m d : Nat) (w : World) : Calls Try.prog 52 #[.agg #[.int .i64 R, .int .i64 C, .slice A n c], .slice B m d] w fun e w' => e = .returned (.agg #[.int .i64 R, .int .i64 C, .slice B m d]) ∧ Below w.heap.size w w' := by
  have hb1 := (Below.refl w.heap.size w).alloc (Nat.le_refl _) (.cells #[.int .i64 R, .int .i64 C, .slice A n c] 29)
  have hb2 := hb1.alloc hb1.size (.cells #[.int .i64 0, .int .i64 0, .slice none 0 0] 29)
  have hrow : ((w.alloc (.cells #[.int .i64 R, .int .i64 C, .slice A n c] 29)).alloc (.cells #[.int .i64 0, .int .i64 0, .slice none 0 0] 29)).heap[w.heap.size + 1]? = some (.cells #[.int .i64 0, .int .i64 0, .slice none 0 0] 29 (0, 0)) := by
    have := heap_alloc_new (w.alloc (.cells #[.int .i64 R, .int .i64 C, .slice A n c] 29)) (.cells #[.int .i64 0, .int .i64 0, .slice none 0 0] 29)
    simpa using this
  have HROW := Lib.hid hrow
  have HB := Lib.hid (below_setRow hb2 (Nat.le_succ w.heap.size) #[.int .i64 R, .int .i64 C, .slice B m d])
  clear hb1 hb2 hrow
  go_enter Try.func52, Try.ntmps52
  go_wp2_with (refine wpList_store_row rfl 29 (.tmp 4) (.tmp 10) rfl (w.heap.size + 1) #[.int .i64 R, .int .i64 C, .slice B m d] rfl rfl 29 _ HROW.out gy_info rfl (gy_one R C rfl) ?_)
  exact bodyPost_ret (v := .agg #[.int .i64 R, .int .i64 C, .slice B m d]) (results_cell_row (p := 4) (ty := 29) Try.results52 _ _ (w.heap.size + 1) 29 _ (0, 0) _ rfl (setRow_heap _ _ _ _ _ _ HROW.out) Try.underlying29 rfl gy_info) rfl ⟨rfl, HB.out⟩
end Go.Proofs.Ytahmnipcdkcpiaa
