/-
  Proved here: a cell as the document's.
-/
import Derived.Test.YtahmnipcdkcpiaaGs
import Derived.Test.YtahmnipcdkcpiaaGi
set_option linter.unusedSimpArgs false
set_option linter.unusedVariables false
namespace Go.Proofs.Ytahmnipcdkcpiaa
open Go.RowKit
/-- A cell of the document. -/
def yC (c : Ce) : List Value := .int .i32 c.p :: styL ⟨ofF 8 c.f, c.g, c.b⟩
def yV (c : Ce) : Value := .agg (yC c).toArray
theorem yC_len (c : Ce) : (yC c).length = 11 := by simp [yC, styL_len ⟨ofF 8 c.f, c.g, c.b⟩ (ofF_len 8 c.f)]
theorem info_yc : (Try.prog.info? 49).map (·.size) = some 11 := by kernel_rfl
theorem four_cells {W : World} {g : Nat} {c0 c1 c2 c3 : Value} {t : TypeId} (h : W.heap[g]? = some (.cells #[c0, c1, c2, c3] t (0, 0))) : W.cell? ⟨g, 0, none⟩ = some c0 ∧ W.cell? ⟨g, 1, none⟩ = some c1 ∧ W.cell? ⟨g, 2, none⟩ = some c2 ∧ W.cell? ⟨g, 3, none⟩ = some c3 := by
  refine ⟨?_, ?_, ?_, ?_⟩ <;> (unfold World.cell?; simp only [h]; rfl)
set_option maxRecDepth 100000 in
set_option maxHeartbeats 4000000 in
theorem l_cell (c : Ce) (w : World) (h0 : 0 ≤ c.f) (h1 : c.f < 256) : Calls Try.prog 13 #[cV c] w fun e w' => e = .returned (yV c) ∧ Below w.heap.size w w' := by
  obtain ⟨p, f, gg, bb⟩ := c
  have H := fun W => as_any f gg bb W h0 h1
  obtain ⟨f0, f1, f2, f3, f4, f5, f6, f7, hf⟩ := eight (ofF_len 8 f)
  have HFE := Lib.hid (fun (_ : Unit) => show yC ⟨p, f, gg, bb⟩ = [.int .i32 p, .bool f0, .bool f1, .bool f2, .bool f3, .bool f4, .bool f5, .bool f6, .bool f7, .int .u32 gg, .int .u32 bb] from by unfold yC; dsimp only; rw [hf]; rfl)
  have HO : Hid (∀ W : World, Calls Try.prog 40 #[.agg #[.int .u8 f, .int .u32 gg, .int .u32 bb]] W fun e w' => e = .returned (.agg #[.bool f0, .bool f1, .bool f2, .bool f3, .bool f4, .bool f5, .bool f6, .bool f7, .int .u32 gg, .int .u32 bb]) ∧ Below W.heap.size W w') := Lib.hid (fun W => by
    have := H W
    rw [hf] at this
    exact this)
  have hbu : Below w.heap.size w ((w.alloc (.cells #[.int .i32 p, .int .u8 f, .int .u32 gg, .int .u32 bb] 39)).alloc (.cells #[.int .i32 0, .bool false, .bool false, .bool false, .bool false, .bool false, .bool false, .bool false, .bool false, .int .u32 0, .int .u32 0] 49)) := ((Below.refl _ _).alloc (Nat.le_refl _) _).alloc (by simp) _
  have hrow : ((w.alloc (.cells #[.int .i32 p, .int .u8 f, .int .u32 gg, .int .u32 bb] 39)).alloc (.cells #[.int .i32 0, .bool false, .bool false, .bool false, .bool false, .bool false, .bool false, .bool false, .bool false, .int .u32 0, .int .u32 0] 49)).heap[w.heap.size + 1]? = some (.cells #[.int .i32 0, .bool false, .bool false, .bool false, .bool false, .bool false, .bool false, .bool false, .bool false, .int .u32 0, .int .u32 0] 49 (0, 0)) := by
    have := heap_alloc_new (w.alloc (.cells #[.int .i32 p, .int .u8 f, .int .u32 gg, .int .u32 bb] 39)) (.cells #[.int .i32 0, .bool false, .bool false, .bool false, .bool false, .bool false, .bool false, .bool false, .bool false, .int .u32 0, .int .u32 0] 49)
    simpa using this
  have hbox : ((w.alloc (.cells #[.int .i32 p, .int .u8 f, .int .u32 gg, .int .u32 bb] 39)).alloc (.cells #[.int .i32 0, .bool false, .bool false, .bool false, .bool false, .bool false, .bool false, .bool false, .bool false, .int .u32 0, .int .u32 0] 49)).heap[w.heap.size]? = some (.cells #[.int .i32 p, .int .u8 f, .int .u32 gg, .int .u32 bb] 39 (0, 0)) :=
    (((Below.refl (w.alloc (.cells #[.int .i32 p, .int .u8 f, .int .u32 gg, .int .u32 bb] 39)).heap.size (w.alloc (.cells #[.int .i32 p, .int .u8 f, .int .u32 gg, .int .u32 bb] 39))).alloc (Nat.le_refl _) (.cells #[.int .i32 0, .bool false, .bool false, .bool false, .bool false, .bool false, .bool false, .bool false, .bool false, .int .u32 0, .int .u32 0] 49)).block w.heap.size (by simp)).trans (heap_alloc_new w _)
  have hsz : ((w.alloc (.cells #[.int .i32 p, .int .u8 f, .int .u32 gg, .int .u32 bb] 39)).alloc (.cells #[.int .i32 0, .bool false, .bool false, .bool false, .bool false, .bool false, .bool false, .bool false, .bool false, .int .u32 0, .int .u32 0] 49)).heap.size = w.heap.size + 2 := by simp
  clear H h0 h1 hf
  unfold cV
  go_enter Try.func13, Try.ntmps13
  go_upto_region 1 with fail
  generalize ((w.alloc (.cells #[.int .i32 p, .int .u8 f, .int .u32 gg, .int .u32 bb] 39)).alloc (.cells #[.int .i32 0, .bool false, .bool false, .bool false, .bool false, .bool false, .bool false, .bool false, .bool false, .int .u32 0, .int .u32 0] 49)) = U at hbu hrow hbox hsz ⊢
  have HBX := Lib.hid (fun (X : World) (hX : Below U.drew.heap.size U.drew X) => four_cells ((hX.block w.heap.size (show w.heap.size < U.heap.size by omega)).trans hbox))
  have HRO := Lib.hid (fun (X : World) (hX : Below U.drew.heap.size U.drew X) => (hX.block (w.heap.size + 1) (show w.heap.size + 1 < U.heap.size by omega)).trans hrow)
  have HBW := Lib.hid hbu.drew
  have HSR := Lib.hid (fun (X : World) (hX : Below U.drew.heap.size U.drew X) => below_setRow (HBW.out.trans (hX.mono HBW.out.size)) (Nat.le_succ w.heap.size) #[.int .i32 p, .bool f0, .bool f1, .bool f2, .bool f3, .bool f4, .bool f5, .bool f6, .bool f7, .int .u32 gg, .int .u32 bb])
  have HSX := Lib.hid (fun (X : World) (hX : Below U.drew.heap.size U.drew X) => four_cells ((setRow_other X (w.heap.size + 1) w.heap.size #[.int .i32 p, .bool f0, .bool f1, .bool f2, .bool f3, .bool f4, .bool f5, .bool f6, .bool f7, .int .u32 gg, .int .u32 bb] (by omega)).trans ((hX.block w.heap.size (show w.heap.size < U.heap.size by omega)).trans hbox)))
  clear hbu hrow hbox hsz
  refine wp_region_held_drew (S := fun W => W.cell? ⟨w.heap.size, 0, none⟩ = some (.int .i32 p) ∧ W.cell? ⟨w.heap.size, 1, none⟩ = some (.int .u8 f) ∧ W.cell? ⟨w.heap.size, 2, none⟩ = some (.int .u32 gg) ∧ W.cell? ⟨w.heap.size, 3, none⟩ = some (.int .u32 bb)) (by kernel_rfl) (HBX.out _ (Below.refl _ _)) (fun hHeld => ?_)
  refine wpAnyH_take (i := 0) (v := ?_) (by simp; rfl) (by kernel_rfl) (by kernel_rfl) (by kernel_rfl) (by exact fun _ _ _ h => h) (Or.inl ⟨by rfl, fun wx hSx => ?_⟩) hHeld ?_
  rotate_left
  · clear hSx; go_simp; (try with_reducible rfl)
  simp only [Act.put, List.setIfInBounds_toArray, List.set_cons_zero, List.set_cons_succ]
  refine wpAnyH_take (i := 1) (v := ?_) (by simp; rfl) (by kernel_rfl) (by kernel_rfl) (by kernel_rfl) (by exact fun _ _ _ h => h) (Or.inl ⟨by rfl, fun wx hSx => ?_⟩) hHeld ?_
  rotate_left
  · obtain ⟨q0, q1, q2, q3⟩ := hSx; go_simp; (try with_reducible rfl)
  simp only [Act.put, List.setIfInBounds_toArray, List.set_cons_zero, List.set_cons_succ]
  refine wpAnyH_take (i := 2) (v := ?_) (by simp; rfl) (by kernel_rfl) (by kernel_rfl) (by kernel_rfl) (by exact fun _ _ _ h => h) (Or.inl ⟨by rfl, fun wx hSx => ?_⟩) hHeld ?_
  rotate_left
  · clear hSx; go_simp; (try with_reducible rfl)
  simp only [Act.put, List.setIfInBounds_toArray, List.set_cons_zero, List.set_cons_succ]
  refine wpAnyH_take (i := 3) (v := ?_) (by simp; rfl) (by kernel_rfl) (by kernel_rfl) (by kernel_rfl) (by exact fun _ _ _ h => h) (Or.inl ⟨by rfl, fun wx hSx => ?_⟩) hHeld ?_
  rotate_left
  · obtain ⟨q0, q1, q2, q3⟩ := hSx; go_simp; (try with_reducible rfl)
  simp only [Act.put, List.setIfInBounds_toArray, List.set_cons_zero, List.set_cons_succ]
  refine wpAnyH_ready (rs := [4]) (by kernel_rfl) (by simp) ?_
  refine AllReadyH.cons (by simp; rfl) (fun K0 hK0 => ?_) AllReadyH.nil
  go_simp
  refine (HO.out _).mono ?_
  rintro e V ⟨rfl, hV⟩
  have HV := Lib.hid hV
  clear hV
  refine hK0.out _ _ (HBX.out V HV.out) (fun _ => ?_)
  clear hK0 K0 hHeld
  have hHeld := HBX.out V HV.out
  refine wpAnyH_take (i := 5) (v := ?_) (by simp; rfl) (by kernel_rfl) (by kernel_rfl) (by kernel_rfl) (by exact fun _ _ _ h => h) (Or.inl ⟨by rfl, fun wx hSx => ?_⟩) hHeld ?_
  rotate_left
  · clear hSx; go_simp; (try with_reducible rfl)
  simp only [Act.put, List.setIfInBounds_toArray, List.set_cons_zero, List.set_cons_succ]
  refine wpAnyH_ready (rs := [6]) (by kernel_rfl) (by simp) ?_
  refine AllReadyH.cons (by simp; rfl) (fun K0 hK0 => ?_) AllReadyH.nil
  have hrow := HRO.out V HV.out
  refine step_store_row rfl 49 (.tmp 2) (.tmp 8) rfl (w.heap.size + 1) #[.int .i32 p, .bool f0, .bool f1, .bool f2, .bool f3, .bool f4, .bool f5, .bool f6, .bool f7, .int .u32 gg, .int .u32 bb] rfl rfl 49 _ hrow info_yc rfl (by simp [Value.oneCell']) ?_
  simp only [Act.put, List.setIfInBounds_toArray, List.set_cons_zero, List.set_cons_succ]
  refine hK0.out _ _ (HSX.out V HV.out) (fun _ => ?_)
  clear hK0 K0
  refine wpAnyH_done (by kernel_rfl) ?_ _
  go_wp2
  rw [← HFE.out ()]
  exact bodyPost_ret (v := yV ⟨p, f, gg, bb⟩) (results_cell_row (p := 2) (ty := 49) Try.results13 _ _ (w.heap.size + 1) 49 (yC ⟨p, f, gg, bb⟩).toArray (0, 0) _ rfl (by rw [HFE.out ()]; exact setRow_heap _ _ _ _ _ _ hrow) Try.underlying49 rfl (by rw [HFE.out ()]; exact info_yc)) rfl ⟨rfl, by have := HSR.out V HV.out; rw [HFE.out ()]; exact this⟩
end Go.Proofs.Ytahmnipcdkcpiaa
