/-
  Proved here: no new grid of the document's.
-/
import Derived.Test.YtahmnipcdkcpiaaGx
set_option linter.unusedSimpArgs false
set_option linter.unusedVariables false
namespace Go.Proofs.Ytahmnipcdkcpiaa
open Go.RowKit
set_option maxRecDepth 100000 in
set_option maxHeartbeats 4000000 in
theorem rnew_bad (r c : Int) (hq : rightB r c = false) (w : World) : Calls Try.prog 8 #[.int .i64 r, .int .i64 c] w fun e w' => e = .returned (.tuple #[.agg #[.int .i64 0, .int .i64 0, .slice none 0 0], .int .i64 1]) ∧ Below w.heap.size w w' := by
  have hb := (Below.refl w.heap.size w).alloc (Nat.le_refl _) (.cells #[.int .i64 0, .int .i64 0, .slice none 0 0] 29)
  have HROW := Lib.hid (heap_alloc_new w (.cells #[.int .i64 0, .int .i64 0, .slice none 0 0] 29))
  have HB := Lib.hid (below_setRow hb (Nat.le_refl w.heap.size) #[.int .i64 0, .int .i64 0, .slice none 0 0])
  have hor : r < 1 ∨ 1 ≤ r ∧ (12 < r ∨ r ≤ 12 ∧ (c < 1 ∨ 1 ≤ c ∧ 40 < c)) := by
    unfold rightB at hq
    simp at hq
    omega
  clear hb hq
  rcases hor with h | ⟨h, h2 | ⟨h2, h3 | ⟨h3, h4⟩⟩⟩
  · have d1 : decide (r < 1) = true := by simpa using h
    clear h
    go_enter Try.func8, Try.ntmps8
    go_wp2_with (refine wpList_store_row rfl 29 (.tmp 4) (.tmp 22) rfl w.heap.size #[.int .i64 0, .int .i64 0, .slice none 0 0] rfl rfl 29 _ HROW.out gy_info rfl (gy_one 0 0 rfl) ?_)
    exact bodyPost_ret (results_cell_tmp Try.results8 _ _ w.heap.size 29 _ (0, 0) _ (.int .i64 1) rfl rfl (setRow_heap _ _ _ _ _ _ HROW.out) Try.underlying29 rfl gy_info) rfl ⟨rfl, HB.out⟩
  · have d1 : decide (r < 1) = false := by simp; omega
    have d2 : decide (12 < r) = true := by simpa using h2
    clear h h2
    go_enter Try.func8, Try.ntmps8
    go_wp2_with (refine wpList_store_row rfl 29 (.tmp 4) (.tmp 22) rfl w.heap.size #[.int .i64 0, .int .i64 0, .slice none 0 0] rfl rfl 29 _ HROW.out gy_info rfl (gy_one 0 0 rfl) ?_)
    exact bodyPost_ret (results_cell_tmp Try.results8 _ _ w.heap.size 29 _ (0, 0) _ (.int .i64 1) rfl rfl (setRow_heap _ _ _ _ _ _ HROW.out) Try.underlying29 rfl gy_info) rfl ⟨rfl, HB.out⟩
  · have d1 : decide (r < 1) = false := by simp; omega
    have d2 : decide (12 < r) = false := by simp; omega
    have d3 : decide (c < 1) = true := by simpa using h3
    clear h h2 h3
    go_enter Try.func8, Try.ntmps8
    go_wp2_with (refine wpList_store_row rfl 29 (.tmp 4) (.tmp 22) rfl w.heap.size #[.int .i64 0, .int .i64 0, .slice none 0 0] rfl rfl 29 _ HROW.out gy_info rfl (gy_one 0 0 rfl) ?_)
    exact bodyPost_ret (results_cell_tmp Try.results8 _ _ w.heap.size 29 _ (0, 0) _ (.int .i64 1) rfl rfl (setRow_heap _ _ _ _ _ _ HROW.out) Try.underlying29 rfl gy_info) rfl ⟨rfl, HB.out⟩
  · have d1 : decide (r < 1) = false := by simp; omega
    have d2 : decide (12 < r) = false := by simp; omega
    have d3 : decide (c < 1) = false := by simp; omega
    have d4 : decide (40 < c) = true := by simpa using h4
    clear h h2 h3 h4
    go_enter Try.func8, Try.ntmps8
    go_wp2_with (refine wpList_store_row rfl 29 (.tmp 4) (.tmp 22) rfl w.heap.size #[.int .i64 0, .int .i64 0, .slice none 0 0] rfl rfl 29 _ HROW.out gy_info rfl (gy_one 0 0 rfl) ?_)
    exact bodyPost_ret (results_cell_tmp Try.results8 _ _ w.heap.size 29 _ (0, 0) _ (.int .i64 1) rfl rfl (setRow_heap _ _ _ _ _ _ HROW.out) Try.underlying29 rfl gy_info) rfl ⟨rfl, HB.out⟩
end Go.Proofs.Ytahmnipcdkcpiaa
