/-
  Proved here: in every world whose table of sizes is as the program lays it, the fixed calls of 'alive' come out as they must, and nothing that was there is changed.
-/
import Derived.Test.YtdhnhpcmfbiieaaDoorVFieldsW
import Derived.Laws.BytesArg
namespace Go.Proofs.YtdhnhpcmfbiieaaDoor
open Go.RowKit

theorem num300 : numB 300 = [65, 44] := by decide +kernel
theorem get300 : getS [65, 44] 0 = (300, 2, 0) := by decide +kernel
theorem getForm : getS [64, 1] 0 = (0, 0, 3) := by decide +kernel
theorem fields9 : fieldsS [7, 1, 9] = ([(7, [9])], 0) := by decide +kernel

theorem RB.of_block {w : World} {B g : Nat} {bs : List Int} (hg : g < B) (h : w.heap[g]? = some (.cells (B8 bs).toArray 5 (0, 0))) : RB w B (some ⟨g, 0, none⟩) bs := fun _ =>
  ⟨g, 0, rfl, hg, fun i hi => by simp [World.cell?, h, List.getD, hi]⟩

theorem put300 (w : World) (hT : Tab w) : Calls Tryd.prog 9 #[.int .u64 300] w fun e w' => ∃ g c, e = .returned (.tuple #[.slice (some ⟨g, 0, none⟩) 2 c, .int .i64 0]) ∧ w'.cell? ⟨g, 0, none⟩ = some (.int .u8 65) ∧ w'.cell? ⟨g, 1, none⟩ = some (.int .u8 44) ∧ g < w'.heap.size ∧ Below w.heap.size w w' := by
  refine (put_fits 300 w (by omega) (by omega) hT).mono ?_
  rintro e w' ⟨v, rfl, ho, hb⟩
  rw [num300] at ho
  obtain ⟨g, c, rfl, _, hlt⟩ := ho.form (by simp)
  exact ⟨g, c, rfl, ho.cellAt 0 (by simp), ho.cellAt 1 (by simp), hlt, hb⟩

theorem tab_alloc {w : World} (hT : Tab w) (o : Obj) : Tab (w.alloc o) := hT.below ((Below.refl _ _).alloc (Nat.le_refl _) o) hT.big

theorem get65 (w : World) (hT : Tab w) : Calls Tryd.prog 10 #[.slice (some ⟨w.heap.size, 0, none⟩) 2 2, .int .i64 0] (w.alloc (.cells #[.int .u8 65, .int .u8 44] 5)) fun e w' => e = .returned (.tuple #[.int .u64 300, .int .i64 2, .int .i64 0]) ∧ w.alloc (.cells #[.int .u8 65, .int .u8 44] 5) = w' := by
  have h := get_any [65, 44] (some ⟨w.heap.size, 0, none⟩) 2 (w.heap.size + 1) 0 (w.alloc (.cells #[.int .u8 65, .int .u8 44] 5)) (RB.of_block (by omega) (heap_alloc_new w _)) (Nat.le_refl _) (by unfold maxLen; omega)
    (fun i => by match i with | 0 => decide | 1 => decide | n + 2 => simp) (tab_alloc hT _)
  rw [get300] at h
  exact h
theorem get64 (w : World) (hT : Tab w) : Calls Tryd.prog 10 #[.slice (some ⟨w.heap.size, 0, none⟩) 2 2, .int .i64 0] (w.alloc (.cells #[.int .u8 64, .int .u8 1] 5)) fun e w' => e = .returned (.tuple #[.int .u64 0, .int .i64 0, .int .i64 3]) ∧ w.alloc (.cells #[.int .u8 64, .int .u8 1] 5) = w' := by
  have h := get_any [64, 1] (some ⟨w.heap.size, 0, none⟩) 2 (w.heap.size + 1) 0 (w.alloc (.cells #[.int .u8 64, .int .u8 1] 5)) (RB.of_block (by omega) (heap_alloc_new w _)) (Nat.le_refl _) (by unfold maxLen; omega)
    (fun i => by match i with | 0 => decide | 1 => decide | n + 2 => simp) (tab_alloc hT _)
  rw [getForm] at h
  exact h
theorem fields719 (w : World) (hT : Tab w) : Calls Tryd.prog 21 #[.slice (some ⟨w.heap.size, 0, none⟩) 3 3] (w.alloc (.cells #[.int .u8 7, .int .u8 1, .int .u8 9] 5)) fun e w' =>
    ∃ g c, e = .returned (.tuple #[.slice (some ⟨g, 0, none⟩) 1 c, .int .i64 0]) ∧ w'.cell? ⟨g, 0, none⟩ = some (.int .u8 7) ∧ Below w.heap.size w w' := by
  have h := fields_any [7, 1, 9] (some ⟨w.heap.size, 0, none⟩) 3 (w.alloc (.cells #[.int .u8 7, .int .u8 1, .int .u8 9] 5)) (RB.of_block (by simp) (heap_alloc_new w _)) (Nat.le_refl _) (by unfold maxLen; omega) (by simp)
    (fun i => by match i with | 0 => decide | 1 => decide | 2 => decide | n + 3 => simp) (tab_alloc hT _)
  rw [fields9] at h
  refine h.mono ?_
  rintro e w' ⟨v, cs, rfl, ho, hF, hb⟩
  obtain ⟨g, c, rfl, _, hlt⟩ := ho.form (by simp)
  match cs, hF with
  | u :: v :: r, ⟨h1, _, _⟩ =>
    refine ⟨g, c, rfl, ?_, ((Below.refl _ _).alloc (Nat.le_refl _) _).trans (hb.mono (by simp))⟩
    rw [ho.cellAt 0 (by simp), h1]
    rfl

set_option maxHeartbeats 1000000 in
theorem alive_any (w : World) (hT : Tab w) : Calls Tryd.prog 8 #[] w fun e w' => e = .returned (.bool true) ∧ Below w.heap.size w w' := by
  go_enter Tryd.func8, Tryd.ntmps8
  go_wp2_with fail
  refine (put300 w hT).mono ?_
  rintro e w1 ⟨g, c, rfl, hc0, hc1, hg, hb1⟩
  have hT1 := hT.below hb1 hT.big
  go_wp2_with fail
  refine (get65 w1 hT1).mono ?_
  rintro e w2 ⟨rfl, hw2⟩
  have hb2 : Below w1.heap.size w1 w2 := by rw [← hw2]; exact (Below.refl _ _).alloc (Nat.le_refl _) _
  clear hw2
  have hT2 := hT1.below hb2 hT1.big
  go_wp2_with fail
  refine (get64 w2 hT2).mono ?_
  rintro e w3 ⟨rfl, hw3⟩
  have hb3 : Below w2.heap.size w2 w3 := by rw [← hw3]; exact (Below.refl _ _).alloc (Nat.le_refl _) _
  clear hw3
  have hT3 := hT2.below hb3 hT2.big
  go_wp2_with fail
  refine (fields719 w3 hT3).mono ?_
  rintro e w4 ⟨g4, c4, rfl, hc4, hb4⟩
  have hb14 : Below w1.heap.size w1 w4 := (hb2.trans (hb3.mono hb2.size)).trans (hb4.mono (Nat.le_trans hb2.size hb3.size))
  have d0 : w4.cell? ⟨g, 0, none⟩ = some (.int .u8 65) := (hb14.cell (p := ⟨g, 0, none⟩) hg).trans hc0
  have d1 : w4.cell? ⟨g, 1, none⟩ = some (.int .u8 44) := (hb14.cell (p := ⟨g, 1, none⟩) hg).trans hc1
  have hfin : Below w.heap.size w w4 := hb1.trans (hb14.mono hb1.size)
  clear hc0 hc1 hb2 hb3 hb4 hT1 hT2 hT3 hT hb1 hb14
  have hs : (convert 23 9 (.slice (some ⟨g, 0, none⟩) 2 c)).run Tryd.prog w4 = .ok (.string { data := #[65, 44] }) w4 :=
    run_convert_bytes_arg (P := Tryd.prog) w4 23 5 Tryd.underlying23 Tryd.underlying5 g 0 2 c [65, 44] rfl (fun i hi => by match i, hi with | 0, _ => exact d0 | 1, _ => exact d1) 9 Tryd.underlying9
  clear d0 d1
  go_wp2
  go_ret
  exact ⟨rfl, hfin⟩
end Go.Proofs.YtdhnhpcmfbiieaaDoor
