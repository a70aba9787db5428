/-
  Proved here: of the document's styles: one (a number that stands alone).
-/
import Derived.Test.YtohhmpkmcodoeaaDoorYc
import Derived.Laws.Tables
import Derived.Laws.CopyOwn
import Derived.LoopTactic
set_option linter.unusedSimpArgs false
set_option linter.unusedVariables false
namespace Go.Proofs.YtohhmpkmcodoeaaDoor
open Go.RowKit
theorem info_sty : (Tryd.prog.info? 31).map (·.size) = some 10 := by kernel_rfl
theorem styL_size {s : Sty} (h : s.fs.length = 8) : (styL s).toArray.size = 10 := by simp [styL_len s h]
theorem styL_one (s : Sty) : (styL s).toArray.all (·.oneCell') = true := by
  simp [styL, Value.oneCell']
theorem styL_all (s : Sty) : ∀ v ∈ (styL s), v.oneCell' = true := by
  intro v hv
  have := styL_one s
  rw [List.all_toArray] at this
  exact List.all_eq_true.1 this v hv
theorem info_of {s : Sty} (h : s.fs.length = 8) : (Tryd.prog.info? 31).map (·.size) = some (styL s).toArray.size := by rw [styL_size h]; exact info_sty
/-- A style of this call's own, and its answer's place. -/
structure Ow1 (w : World) (s : Sty) (W : World) : Prop where
  row : W.heap[w.heap.size]? = some (.cells (styL s).toArray 31 (0, 0))
  zero : W.heap[w.heap.size + 1]? = some (.cells (styL zeroY).toArray 31 (0, 0))
  below : Below w.heap.size w W
theorem Ow1.cell {w : World} {s : Sty} {W : World} (h : Ow1 w s W) {i : Nat} {v : Value} (hv : (styL s)[i]? = some v) : W.cell? ⟨w.heap.size, i, none⟩ = some v := by
  unfold World.cell?; simp only [h.row]; simpa using hv
theorem Ow1.free {w : World} {s : Sty} {W : World} (h : Ow1 w s W) (i : Nat) : W.frozen? ⟨w.heap.size, i, none⟩ = false := frozen_of_row W _ i _ _ h.row
theorem Ow1.set {w : World} {s s' : Sty} {W : World} (h : Ow1 w s W) (i : Nat) (v : Value) (e : (styL s).set i v = styL s') : Ow1 w s' (W.setCell ⟨w.heap.size, i, none⟩ v) := by
  refine ⟨?_, ?_, h.below.setCell (Nat.le_refl _) v⟩
  · rw [heap_setCell_same W _ i _ _ v h.row, ← e]; simp
  · rw [heap_setCell_other W _ _ v (by simp)]; exact h.zero
theorem ow1_new (w : World) (s : Sty) (C : Array Value) (hC : C = (styL s).toArray) (Z : Array Value) (hZ : Z = (styL zeroY).toArray) : Ow1 w s ((w.alloc (.cells C 31)).alloc (.cells Z 31)) := by
  subst hC hZ
  exact ⟨(Below.heap_alloc _ _ _ (by simp)).trans (heap_alloc_new _ _), by have := heap_alloc_new (w.alloc (.cells (styL s).toArray 31)) (.cells (styL zeroY).toArray 31); simpa using this, ((Below.refl _ _).alloc (Nat.le_refl _) _).alloc (by simp) _⟩
set_option maxRecDepth 100000 in
set_option maxHeartbeats 1000000 in
theorem ry_one_flag (s : Sty) (n : Int) (w : World) (hs : Good s) (p : Nat) (hp8 : p < 8) (hp : placeS n = (p : Int)) (hn : 1 ≤ n ∧ n ≤ 9) :
    Calls Tryd.prog 28 #[styV s, .int .i64 n] w fun e w' => e = .returned (styV (⟨s.fs.set p true, s.fg, s.bg⟩)) ∧ Below w.heap.size w w' := by
  have hl := hs.len
  have HL0 := Lib.hid hl
  have z0 : (n == 0) = false := by simp; omega
  have z22 : (n == 22) = false := by simp; omega
  have z39 : (n == 39) = false := by simp; omega
  have z49 : (n == 49) = false := by simp; omega
  have g22 : decide (22 < n) = false := by simp; omega
  have pp : (0 : Int) ≤ (p : Int) := by omega
  have p8 : (p : Int) < 8 := by omega
  have HP := Lib.hid (fun W : World => hp ▸ ry_place n W)
  clear hp
  obtain ⟨fs, fg, bg⟩ := s
  obtain ⟨f0, f1, f2, f3, f4, f5, f6, f7, rfl⟩ := eight hl
  have HZ : Hid (Ow1 w ⟨[f0, f1, f2, f3, f4, f5, f6, f7], fg, bg⟩ ((w.alloc (.cells #[.bool f0, .bool f1, .bool f2, .bool f3, .bool f4, .bool f5, .bool f6, .bool f7, .int .u32 fg, .int .u32 bg] 31)).alloc (.cells #[.bool false, .bool false, .bool false, .bool false, .bool false, .bool false, .bool false, .bool false, .int .u32 0, .int .u32 0] 31))) := Lib.hid (ow1_new w _ _ rfl _ rfl)
  show Calls Tryd.prog 28 #[.agg #[.bool f0, .bool f1, .bool f2, .bool f3, .bool f4, .bool f5, .bool f6, .bool f7, .int .u32 fg, .int .u32 bg], .int .i64 n] w _
  clear hl hs
  obtain ⟨fs, hfs⟩ : ∃ fs, [f0, f1, f2, f3, f4, f5, f6, f7] = fs := ⟨_, rfl⟩
  rw [hfs] at HZ HL0
  simp only [hfs]
  clear hfs
  go_enter Tryd.func28, Tryd.ntmps28
  go_wp2_with fail
  refine (HP.out _).mono ?_
  rintro e wx ⟨rfl, rfl⟩
  generalize ((w.alloc (.cells #[.bool f0, .bool f1, .bool f2, .bool f3, .bool f4, .bool f5, .bool f6, .bool f7, .int .u32 fg, .int .u32 bg] 31)).alloc (.cells #[.bool false, .bool false, .bool false, .bool false, .bool false, .bool false, .bool false, .bool false, .int .u32 0, .int .u32 0] 31)) = U at HZ ⊢
  have k1 := HZ.out.cell (i := p) (styL_f HL0.out hp8)
  have k2 := HZ.out.free p
  have HZ1 : Hid (Ow1 w ⟨fs.set p true, fg, bg⟩ (U.setCell ⟨w.heap.size, p, none⟩ (.bool true))) := Lib.hid (HZ.out.set p (.bool true) (styL_set HL0.out hp8 true))
  have HL : Hid ((fs.set p true).length = 8) := Lib.hid (by simpa using HL0.out)
  clear HL0 HZ
  go_wp2_with fail
  refine (HP.out _).mono ?_
  rintro e wx ⟨rfl, rfl⟩
  go_wp2
  generalize (U.setCell ⟨w.heap.size, p, none⟩ (.bool true)) = U1 at HZ1 ⊢
  clear k1 k2
  have HZ := HZ1
  clear HZ1
  go_loopw [5] (fun iv wr => ∃ i : Nat, iv = .int .i64 i ∧ i ≤ 8 ∧ Hid (Ow1 w ⟨fs.set p true, fg, bg⟩ wr)) (fun iv _ => 8 - (intOf iv).toNat)
  case atStart => exact ⟨0, rfl, by omega, HZ⟩
  case round =>
    obtain ⟨i, rfl, hi, HX⟩ := hrel
    clear HZ
    by_cases hi8 : i < 8
    · have d1 : decide ((i : Int) < 8) = true := by simp; omega
      have d2 : decide (i < 8) = true := by simp; omega
      have e30 : (n == 30 + (i : Int)) = false := by simp; omega
      have e40 : (n == 40 + (i : Int)) = false := by simp; omega
      have e90 : (n == 90 + (i : Int)) = false := by simp; omega
      have e100 : (n == 100 + (i : Int)) = false := by simp; omega
      go_wp2
      go_roundw
      case rel => exact ⟨i + 1, by go_num, by omega, HX⟩
      case measure => simp [intOf]; omega
    · have d1 : decide ((i : Int) < 8) = false := by simp; omega
      have d2 : decide (i < 8) = false := by simp; omega
      have HZ := HX
      clear HX
      have HIS := Lib.hid (info_of (s := ⟨fs.set p true, fg, bg⟩) HL.out)
      clear HL
      go_wp2_with (first | refine wpList_load_row rfl 31 _ rfl w.heap.size rfl 31 (styL ⟨fs.set p true, fg, bg⟩).toArray (0,0) _ HZ.out.row Tryd.underlying31 rfl HIS.out ?_ | refine wpList_store_row rfl 31 _ _ rfl (w.heap.size + 1) _ rfl rfl 31 (styL zeroY).toArray HZ.out.zero HIS.out ?c1 ?c2 ?_)
      case c1 =>
        have h1 := info_of (s := zeroY) rfl
        have h2 := HIS.out
        rw [h1] at h2
        exact Option.some.inj h2
      case c2 => first | exact styL_one _ | exact styL_all _
      exact bodyPost_ret (v := styV ⟨fs.set p true, fg, bg⟩) (results_cell_row (p := 4) (ty := 31) Tryd.results28 _ _ (w.heap.size + 1) 31 _ (0, 0) _ rfl (setRow_heap _ _ _ _ _ _ HZ.out.zero) Tryd.underlying31 rfl HIS.out) rfl ⟨rfl, below_setRow HZ.out.below (by omega) _⟩
set_option maxRecDepth 100000 in
set_option maxHeartbeats 1000000 in
theorem ry_one_22 (s : Sty) (n : Int) (w : World) (hs : Good s)  (hp : placeS n = -1) (hn : 22 ≤ n ∧ n ≤ 22) :
    Calls Tryd.prog 28 #[styV s, .int .i64 n] w fun e w' => e = .returned (styV (⟨(s.fs.set 0 false).set 1 false, s.fg, s.bg⟩)) ∧ Below w.heap.size w w' := by
  have hl := hs.len
  have HL0 := Lib.hid hl
  have z0 : (n == 0) = false := by simp; omega
  have z22 : (n == 22) = true := by simp; omega
  have z39 : (n == 39) = false := by simp; omega
  have z49 : (n == 49) = false := by simp; omega
  have g22 : decide (22 < n) = false := by simp; omega
  have HP := Lib.hid (fun W : World => hp ▸ ry_place n W)
  clear hp
  obtain ⟨fs, fg, bg⟩ := s
  obtain ⟨f0, f1, f2, f3, f4, f5, f6, f7, rfl⟩ := eight hl
  have HZ : Hid (Ow1 w ⟨[f0, f1, f2, f3, f4, f5, f6, f7], fg, bg⟩ ((w.alloc (.cells #[.bool f0, .bool f1, .bool f2, .bool f3, .bool f4, .bool f5, .bool f6, .bool f7, .int .u32 fg, .int .u32 bg] 31)).alloc (.cells #[.bool false, .bool false, .bool false, .bool false, .bool false, .bool false, .bool false, .bool false, .int .u32 0, .int .u32 0] 31))) := Lib.hid (ow1_new w _ _ rfl _ rfl)
  show Calls Tryd.prog 28 #[.agg #[.bool f0, .bool f1, .bool f2, .bool f3, .bool f4, .bool f5, .bool f6, .bool f7, .int .u32 fg, .int .u32 bg], .int .i64 n] w _
  clear hl hs
  obtain ⟨fs, hfs⟩ : ∃ fs, [f0, f1, f2, f3, f4, f5, f6, f7] = fs := ⟨_, rfl⟩
  rw [hfs] at HZ HL0
  simp only [hfs]
  clear hfs
  go_enter Tryd.func28, Tryd.ntmps28
  go_wp2_with fail
  refine (HP.out _).mono ?_
  rintro e wx ⟨rfl, rfl⟩
  generalize ((w.alloc (.cells #[.bool f0, .bool f1, .bool f2, .bool f3, .bool f4, .bool f5, .bool f6, .bool f7, .int .u32 fg, .int .u32 bg] 31)).alloc (.cells #[.bool false, .bool false, .bool false, .bool false, .bool false, .bool false, .bool false, .bool false, .int .u32 0, .int .u32 0] 31)) = U at HZ ⊢
  have k1 := HZ.out.cell (i := 0) (styL_f HL0.out (by omega))
  have k2 := HZ.out.free 0
  have k3 := HZ.out.cell (i := 1) (styL_f HL0.out (by omega))
  have k4 := HZ.out.free 1
  have HZ1 : Hid (Ow1 w ⟨fs.set 0 false, fg, bg⟩ (U.setCell ⟨w.heap.size, 0, none⟩ (.bool false))) := Lib.hid (HZ.out.set 0 (.bool false) (styL_set HL0.out (by omega) false))
  have HL1 : Hid ((fs.set 0 false).length = 8) := Lib.hid (by simpa using HL0.out)
  have HZ2 : Hid (Ow1 w ⟨(fs.set 0 false).set 1 false, fg, bg⟩ ((U.setCell ⟨w.heap.size, 0, none⟩ (.bool false)).setCell ⟨w.heap.size, 1, none⟩ (.bool false))) := Lib.hid (HZ1.out.set 1 (.bool false) (styL_set HL1.out (by omega) false))
  have HL : Hid (((fs.set 0 false).set 1 false).length = 8) := Lib.hid (by simpa using HL0.out)
  clear HL0 HL1 HZ HZ1
  go_wp2
  generalize ((U.setCell ⟨w.heap.size, 0, none⟩ (.bool false)).setCell ⟨w.heap.size, 1, none⟩ (.bool false)) = U1 at HZ2 ⊢
  clear k1 k2 k3 k4
  have HZ := HZ2
  clear HZ2
  go_loopw [5] (fun iv wr => ∃ i : Nat, iv = .int .i64 i ∧ i ≤ 8 ∧ Hid (Ow1 w ⟨(fs.set 0 false).set 1 false, fg, bg⟩ wr)) (fun iv _ => 8 - (intOf iv).toNat)
  case atStart => exact ⟨0, rfl, by omega, HZ⟩
  case round =>
    obtain ⟨i, rfl, hi, HX⟩ := hrel
    clear HZ
    by_cases hi8 : i < 8
    · have d1 : decide ((i : Int) < 8) = true := by simp; omega
      have d2 : decide (i < 8) = true := by simp; omega
      have e30 : (n == 30 + (i : Int)) = false := by simp; omega
      have e40 : (n == 40 + (i : Int)) = false := by simp; omega
      have e90 : (n == 90 + (i : Int)) = false := by simp; omega
      have e100 : (n == 100 + (i : Int)) = false := by simp; omega
      go_wp2
      go_roundw
      case rel => exact ⟨i + 1, by go_num, by omega, HX⟩
      case measure => simp [intOf]; omega
    · have d1 : decide ((i : Int) < 8) = false := by simp; omega
      have d2 : decide (i < 8) = false := by simp; omega
      have HZ := HX
      clear HX
      have HIS := Lib.hid (info_of (s := ⟨(fs.set 0 false).set 1 false, fg, bg⟩) HL.out)
      clear HL
      go_wp2_with (first | refine wpList_load_row rfl 31 _ rfl w.heap.size rfl 31 (styL ⟨(fs.set 0 false).set 1 false, fg, bg⟩).toArray (0,0) _ HZ.out.row Tryd.underlying31 rfl HIS.out ?_ | refine wpList_store_row rfl 31 _ _ rfl (w.heap.size + 1) _ rfl rfl 31 (styL zeroY).toArray HZ.out.zero HIS.out ?c1 ?c2 ?_)
      case c1 =>
        have h1 := info_of (s := zeroY) rfl
        have h2 := HIS.out
        rw [h1] at h2
        exact Option.some.inj h2
      case c2 => first | exact styL_one _ | exact styL_all _
      exact bodyPost_ret (v := styV ⟨(fs.set 0 false).set 1 false, fg, bg⟩) (results_cell_row (p := 4) (ty := 31) Tryd.results28 _ _ (w.heap.size + 1) 31 _ (0, 0) _ rfl (setRow_heap _ _ _ _ _ _ HZ.out.zero) Tryd.underlying31 rfl HIS.out) rfl ⟨rfl, below_setRow HZ.out.below (by omega) _⟩
set_option maxRecDepth 100000 in
set_option maxHeartbeats 1000000 in
theorem ry_one_off (s : Sty) (n : Int) (w : World) (hs : Good s) (p : Nat) (hp8 : p < 8) (hp : placeS n = -1) (hn : 22 < n ∧ n < 30) (hq : placeS (n - 20) = (p : Int)) :
    Calls Tryd.prog 28 #[styV s, .int .i64 n] w fun e w' => e = .returned (styV (⟨s.fs.set p false, s.fg, s.bg⟩)) ∧ Below w.heap.size w w' := by
  have hl := hs.len
  have HL0 := Lib.hid hl
  have z0 : (n == 0) = false := by simp; omega
  have z22 : (n == 22) = false := by simp; omega
  have z39 : (n == 39) = false := by simp; omega
  have z49 : (n == 49) = false := by simp; omega
  have g22 : decide (22 < n) = true := by simp; omega
  have l30 : decide (n < 30) = true := by simp; omega
  have pp : (0 : Int) ≤ (p : Int) := by omega
  have p8 : (p : Int) < 8 := by omega
  have HP2 := Lib.hid (fun W : World => hq ▸ ry_place (n - 20) W)
  clear hq
  have HP := Lib.hid (fun W : World => hp ▸ ry_place n W)
  clear hp
  obtain ⟨fs, fg, bg⟩ := s
  obtain ⟨f0, f1, f2, f3, f4, f5, f6, f7, rfl⟩ := eight hl
  have HZ : Hid (Ow1 w ⟨[f0, f1, f2, f3, f4, f5, f6, f7], fg, bg⟩ ((w.alloc (.cells #[.bool f0, .bool f1, .bool f2, .bool f3, .bool f4, .bool f5, .bool f6, .bool f7, .int .u32 fg, .int .u32 bg] 31)).alloc (.cells #[.bool false, .bool false, .bool false, .bool false, .bool false, .bool false, .bool false, .bool false, .int .u32 0, .int .u32 0] 31))) := Lib.hid (ow1_new w _ _ rfl _ rfl)
  show Calls Tryd.prog 28 #[.agg #[.bool f0, .bool f1, .bool f2, .bool f3, .bool f4, .bool f5, .bool f6, .bool f7, .int .u32 fg, .int .u32 bg], .int .i64 n] w _
  clear hl hs
  obtain ⟨fs, hfs⟩ : ∃ fs, [f0, f1, f2, f3, f4, f5, f6, f7] = fs := ⟨_, rfl⟩
  rw [hfs] at HZ HL0
  simp only [hfs]
  clear hfs
  go_enter Tryd.func28, Tryd.ntmps28
  go_wp2_with fail
  refine (HP.out _).mono ?_
  rintro e wx ⟨rfl, rfl⟩
  generalize ((w.alloc (.cells #[.bool f0, .bool f1, .bool f2, .bool f3, .bool f4, .bool f5, .bool f6, .bool f7, .int .u32 fg, .int .u32 bg] 31)).alloc (.cells #[.bool false, .bool false, .bool false, .bool false, .bool false, .bool false, .bool false, .bool false, .int .u32 0, .int .u32 0] 31)) = U at HZ ⊢
  have k1 := HZ.out.cell (i := p) (styL_f HL0.out hp8)
  have k2 := HZ.out.free p
  have HZ1 : Hid (Ow1 w ⟨fs.set p false, fg, bg⟩ (U.setCell ⟨w.heap.size, p, none⟩ (.bool false))) := Lib.hid (HZ.out.set p (.bool false) (styL_set HL0.out hp8 false))
  have HL : Hid ((fs.set p false).length = 8) := Lib.hid (by simpa using HL0.out)
  clear HL0 HZ
  go_wp2_with fail
  refine (HP2.out _).mono ?_
  rintro e wx ⟨rfl, rfl⟩
  go_wp2_with fail
  refine (HP2.out _).mono ?_
  rintro e wx ⟨rfl, rfl⟩
  go_wp2
  generalize (U.setCell ⟨w.heap.size, p, none⟩ (.bool false)) = U1 at HZ1 ⊢
  clear k1 k2
  have HZ := HZ1
  clear HZ1
  go_loopw [5] (fun iv wr => ∃ i : Nat, iv = .int .i64 i ∧ i ≤ 8 ∧ Hid (Ow1 w ⟨fs.set p false, fg, bg⟩ wr)) (fun iv _ => 8 - (intOf iv).toNat)
  case atStart => exact ⟨0, rfl, by omega, HZ⟩
  case round =>
    obtain ⟨i, rfl, hi, HX⟩ := hrel
    clear HZ
    by_cases hi8 : i < 8
    · have d1 : decide ((i : Int) < 8) = true := by simp; omega
      have d2 : decide (i < 8) = true := by simp; omega
      have e30 : (n == 30 + (i : Int)) = false := by simp; omega
      have e40 : (n == 40 + (i : Int)) = false := by simp; omega
      have e90 : (n == 90 + (i : Int)) = false := by simp; omega
      have e100 : (n == 100 + (i : Int)) = false := by simp; omega
      go_wp2
      go_roundw
      case rel => exact ⟨i + 1, by go_num, by omega, HX⟩
      case measure => simp [intOf]; omega
    · have d1 : decide ((i : Int) < 8) = false := by simp; omega
      have d2 : decide (i < 8) = false := by simp; omega
      have HZ := HX
      clear HX
      have HIS := Lib.hid (info_of (s := ⟨fs.set p false, fg, bg⟩) HL.out)
      clear HL
      go_wp2_with (first | refine wpList_load_row rfl 31 _ rfl w.heap.size rfl 31 (styL ⟨fs.set p false, fg, bg⟩).toArray (0,0) _ HZ.out.row Tryd.underlying31 rfl HIS.out ?_ | refine wpList_store_row rfl 31 _ _ rfl (w.heap.size + 1) _ rfl rfl 31 (styL zeroY).toArray HZ.out.zero HIS.out ?c1 ?c2 ?_)
      case c1 =>
        have h1 := info_of (s := zeroY) rfl
        have h2 := HIS.out
        rw [h1] at h2
        exact Option.some.inj h2
      case c2 => first | exact styL_one _ | exact styL_all _
      exact bodyPost_ret (v := styV ⟨fs.set p false, fg, bg⟩) (results_cell_row (p := 4) (ty := 31) Tryd.results28 _ _ (w.heap.size + 1) 31 _ (0, 0) _ rfl (setRow_heap _ _ _ _ _ _ HZ.out.zero) Tryd.underlying31 rfl HIS.out) rfl ⟨rfl, below_setRow HZ.out.below (by omega) _⟩
set_option maxRecDepth 100000 in
set_option maxHeartbeats 1000000 in
theorem ry_one_26 (s : Sty) (n : Int) (w : World) (hs : Good s)  (hp : placeS n = -1) (hn : 26 ≤ n ∧ n ≤ 26) :
    Calls Tryd.prog 28 #[styV s, .int .i64 n] w fun e w' => e = .returned (styV (s)) ∧ Below w.heap.size w w' := by
  have hl := hs.len
  have HL0 := Lib.hid hl
  have z0 : (n == 0) = false := by simp; omega
  have z22 : (n == 22) = false := by simp; omega
  have z39 : (n == 39) = false := by simp; omega
  have z49 : (n == 49) = false := by simp; omega
  have g22 : decide (22 < n) = true := by simp; omega
  have l30 : decide (n < 30) = true := by simp; omega
  have HP2 := Lib.hid (fun W : World => (show placeS (n - 20) = -1 by rw [show n = 26 by omega]; decide) ▸ ry_place (n - 20) W)
  have HP := Lib.hid (fun W : World => hp ▸ ry_place n W)
  clear hp
  obtain ⟨fs, fg, bg⟩ := s
  obtain ⟨f0, f1, f2, f3, f4, f5, f6, f7, rfl⟩ := eight hl
  have HZ : Hid (Ow1 w ⟨[f0, f1, f2, f3, f4, f5, f6, f7], fg, bg⟩ ((w.alloc (.cells #[.bool f0, .bool f1, .bool f2, .bool f3, .bool f4, .bool f5, .bool f6, .bool f7, .int .u32 fg, .int .u32 bg] 31)).alloc (.cells #[.bool false, .bool false, .bool false, .bool false, .bool false, .bool false, .bool false, .bool false, .int .u32 0, .int .u32 0] 31))) := Lib.hid (ow1_new w _ _ rfl _ rfl)
  show Calls Tryd.prog 28 #[.agg #[.bool f0, .bool f1, .bool f2, .bool f3, .bool f4, .bool f5, .bool f6, .bool f7, .int .u32 fg, .int .u32 bg], .int .i64 n] w _
  clear hl hs
  obtain ⟨fs, hfs⟩ : ∃ fs, [f0, f1, f2, f3, f4, f5, f6, f7] = fs := ⟨_, rfl⟩
  rw [hfs] at HZ HL0
  simp only [hfs]
  clear hfs
  go_enter Tryd.func28, Tryd.ntmps28
  go_wp2_with fail
  refine (HP.out _).mono ?_
  rintro e wx ⟨rfl, rfl⟩
  generalize ((w.alloc (.cells #[.bool f0, .bool f1, .bool f2, .bool f3, .bool f4, .bool f5, .bool f6, .bool f7, .int .u32 fg, .int .u32 bg] 31)).alloc (.cells #[.bool false, .bool false, .bool false, .bool false, .bool false, .bool false, .bool false, .bool false, .int .u32 0, .int .u32 0] 31)) = U at HZ ⊢
  have HL := HL0
  clear HL0
  go_wp2_with fail
  refine (HP2.out _).mono ?_
  rintro e wx ⟨rfl, rfl⟩
  go_wp2
  go_loopw [5] (fun iv wr => ∃ i : Nat, iv = .int .i64 i ∧ i ≤ 8 ∧ Hid (Ow1 w ⟨fs, fg, bg⟩ wr)) (fun iv _ => 8 - (intOf iv).toNat)
  case atStart => exact ⟨0, rfl, by omega, HZ⟩
  case round =>
    obtain ⟨i, rfl, hi, HX⟩ := hrel
    clear HZ
    by_cases hi8 : i < 8
    · have d1 : decide ((i : Int) < 8) = true := by simp; omega
      have d2 : decide (i < 8) = true := by simp; omega
      have e30 : (n == 30 + (i : Int)) = false := by simp; omega
      have e40 : (n == 40 + (i : Int)) = false := by simp; omega
      have e90 : (n == 90 + (i : Int)) = false := by simp; omega
      have e100 : (n == 100 + (i : Int)) = false := by simp; omega
      go_wp2
      go_roundw
      case rel => exact ⟨i + 1, by go_num, by omega, HX⟩
      case measure => simp [intOf]; omega
    · have d1 : decide ((i : Int) < 8) = false := by simp; omega
      have d2 : decide (i < 8) = false := by simp; omega
      have HZ := HX
      clear HX
      have HIS := Lib.hid (info_of (s := ⟨fs, fg, bg⟩) HL.out)
      clear HL
      go_wp2_with (first | refine wpList_load_row rfl 31 _ rfl w.heap.size rfl 31 (styL ⟨fs, fg, bg⟩).toArray (0,0) _ HZ.out.row Tryd.underlying31 rfl HIS.out ?_ | refine wpList_store_row rfl 31 _ _ rfl (w.heap.size + 1) _ rfl rfl 31 (styL zeroY).toArray HZ.out.zero HIS.out ?c1 ?c2 ?_)
      case c1 =>
        have h1 := info_of (s := zeroY) rfl
        have h2 := HIS.out
        rw [h1] at h2
        exact Option.some.inj h2
      case c2 => first | exact styL_one _ | exact styL_all _
      exact bodyPost_ret (v := styV ⟨fs, fg, bg⟩) (results_cell_row (p := 4) (ty := 31) Tryd.results28 _ _ (w.heap.size + 1) 31 _ (0, 0) _ rfl (setRow_heap _ _ _ _ _ _ HZ.out.zero) Tryd.underlying31 rfl HIS.out) rfl ⟨rfl, below_setRow HZ.out.below (by omega) _⟩
set_option maxRecDepth 100000 in
set_option maxHeartbeats 1000000 in
theorem ry_one_30 (s : Sty) (n : Int) (w : World) (hs : Good s) (C : Int) (hp : placeS n = -1) (hC0 : 16777216 + (n - 30) = C) (hn : 30 ≤ n ∧ n ≤ 37) :
    Calls Tryd.prog 28 #[styV s, .int .i64 n] w fun e w' => e = .returned (styV (⟨s.fs, C, s.bg⟩)) ∧ Below w.heap.size w w' := by
  have hl := hs.len
  have HL0 := Lib.hid hl
  have z0 : (n == 0) = false := by simp; omega
  have z22 : (n == 22) = false := by simp; omega
  have z39 : (n == 39) = false := by simp; omega
  have z49 : (n == 49) = false := by simp; omega
  have g22 : decide (22 < n) = true := by simp; omega
  have l30 : decide (n < 30) = false := by simp; omega
  have HP := Lib.hid (fun W : World => hp ▸ ry_place n W)
  clear hp
  have HC0 := Lib.hid hC0
  clear hC0
  obtain ⟨fs, fg, bg⟩ := s
  obtain ⟨f0, f1, f2, f3, f4, f5, f6, f7, rfl⟩ := eight hl
  have HZ : Hid (Ow1 w ⟨[f0, f1, f2, f3, f4, f5, f6, f7], fg, bg⟩ ((w.alloc (.cells #[.bool f0, .bool f1, .bool f2, .bool f3, .bool f4, .bool f5, .bool f6, .bool f7, .int .u32 fg, .int .u32 bg] 31)).alloc (.cells #[.bool false, .bool false, .bool false, .bool false, .bool false, .bool false, .bool false, .bool false, .int .u32 0, .int .u32 0] 31))) := Lib.hid (ow1_new w _ _ rfl _ rfl)
  show Calls Tryd.prog 28 #[.agg #[.bool f0, .bool f1, .bool f2, .bool f3, .bool f4, .bool f5, .bool f6, .bool f7, .int .u32 fg, .int .u32 bg], .int .i64 n] w _
  clear hl hs
  obtain ⟨fs, hfs⟩ : ∃ fs, [f0, f1, f2, f3, f4, f5, f6, f7] = fs := ⟨_, rfl⟩
  rw [hfs] at HZ HL0
  simp only [hfs]
  clear hfs
  go_enter Tryd.func28, Tryd.ntmps28
  go_wp2_with fail
  refine (HP.out _).mono ?_
  rintro e wx ⟨rfl, rfl⟩
  generalize ((w.alloc (.cells #[.bool f0, .bool f1, .bool f2, .bool f3, .bool f4, .bool f5, .bool f6, .bool f7, .int .u32 fg, .int .u32 bg] 31)).alloc (.cells #[.bool false, .bool false, .bool false, .bool false, .bool false, .bool false, .bool false, .bool false, .int .u32 0, .int .u32 0] 31)) = U at HZ ⊢
  have HL := HL0
  clear HL0
  go_wp2
  obtain ⟨j, hj⟩ : ∃ j : Nat, n = 30 + (j : Int) := ⟨(n - 30).toNat, by omega⟩
  have hj8 : j < 8 := by omega
  have hC : 16777216 + (j : Int) = C := by have := HC0.out; omega
  have HN : Hid ((styL ⟨fs, fg, bg⟩).set 8 (.int .u32 C) = styL ⟨fs, C, bg⟩) := Lib.hid (styL_set8 HL.out C)
  go_loopw [5] (fun iv wr => ∃ i : Nat, iv = .int .i64 i ∧ i ≤ 8 ∧ Hid ((i ≤ j → Ow1 w ⟨fs, fg, bg⟩ wr) ∧ (j < i → Ow1 w ⟨fs, C, bg⟩ wr))) (fun iv _ => 8 - (intOf iv).toNat)
  case atStart => exact ⟨0, rfl, by omega, Lib.hid ⟨fun _ => HZ.out, fun h => absurd h (by omega)⟩⟩
  case round =>
    obtain ⟨i, rfl, hi, HX⟩ := hrel
    clear HZ
    by_cases hi8 : i < 8
    · have d1 : decide ((i : Int) < 8) = true := by simp; omega
      have d2 : decide (i < 8) = true := by simp; omega
      have v1 : IntKind.u32.wrap (i : Int) = (i : Int) := IntWalk.u32_in _ (by omega)
      by_cases hij : i = j
      · subst hij
        have HZ := Lib.hid (HX.out.1 (Nat.le_refl _))
        have k1 := HZ.out.cell (i := 8) (styL_8 HL.out)
        have k2 := HZ.out.free 8
        have HZ1 := Lib.hid (HZ.out.set 8 (.int .u32 C) HN.out)
        have e30 : (n == 30 + (i : Int)) = true := by simp; omega
        have e40 : (n == 40 + (i : Int)) = false := by simp; omega
        have e90 : (n == 90 + (i : Int)) = false := by simp; omega
        have e100 : (n == 100 + (i : Int)) = false := by simp; omega
        have v2 : (16777216 : Int) + (i : Int) = C := by omega
        have c0 : 0 ≤ C := by omega
        have c1 : C < 4294967296 := by omega
        clear HX hj hC
        go_wp2
        go_roundw
        case rel => exact ⟨i + 1, by go_num, by omega, Lib.hid ⟨fun h => absurd h (by omega), fun _ => HZ1.out⟩⟩
        case measure => simp [intOf]; omega
      · have e30 : (n == 30 + (i : Int)) = false := by simp; omega
        have e40 : (n == 40 + (i : Int)) = false := by simp; omega
        have e90 : (n == 90 + (i : Int)) = false := by simp; omega
        have e100 : (n == 100 + (i : Int)) = false := by simp; omega
        clear hj hC
        go_wp2
        go_roundw
        case rel => exact ⟨i + 1, by go_num, by omega, Lib.hid ⟨fun h => HX.out.1 (by omega), fun h => HX.out.2 (by omega)⟩⟩
        case measure => simp [intOf]; omega
    · have d1 : decide ((i : Int) < 8) = false := by simp; omega
      have d2 : decide (i < 8) = false := by simp; omega
      have HZ := Lib.hid (HX.out.2 (by omega))
      have HL' : Hid (fs.length = 8) := HL
      clear HX hC hj
      have HIS := Lib.hid (info_of (s := ⟨fs, C, bg⟩) HL.out)
      clear HL
      go_wp2_with (first | refine wpList_load_row rfl 31 _ rfl w.heap.size rfl 31 (styL ⟨fs, C, bg⟩).toArray (0,0) _ HZ.out.row Tryd.underlying31 rfl HIS.out ?_ | refine wpList_store_row rfl 31 _ _ rfl (w.heap.size + 1) _ rfl rfl 31 (styL zeroY).toArray HZ.out.zero HIS.out ?c1 ?c2 ?_)
      case c1 =>
        have h1 := info_of (s := zeroY) rfl
        have h2 := HIS.out
        rw [h1] at h2
        exact Option.some.inj h2
      case c2 => first | exact styL_one _ | exact styL_all _
      exact bodyPost_ret (v := styV ⟨fs, C, bg⟩) (results_cell_row (p := 4) (ty := 31) Tryd.results28 _ _ (w.heap.size + 1) 31 _ (0, 0) _ rfl (setRow_heap _ _ _ _ _ _ HZ.out.zero) Tryd.underlying31 rfl HIS.out) rfl ⟨rfl, below_setRow HZ.out.below (by omega) _⟩
set_option maxRecDepth 100000 in
set_option maxHeartbeats 1000000 in
theorem ry_one_40 (s : Sty) (n : Int) (w : World) (hs : Good s) (C : Int) (hp : placeS n = -1) (hC0 : 16777216 + (n - 40) = C) (hn : 40 ≤ n ∧ n ≤ 47) :
    Calls Tryd.prog 28 #[styV s, .int .i64 n] w fun e w' => e = .returned (styV (⟨s.fs, s.fg, C⟩)) ∧ Below w.heap.size w w' := by
  have hl := hs.len
  have HL0 := Lib.hid hl
  have z0 : (n == 0) = false := by simp; omega
  have z22 : (n == 22) = false := by simp; omega
  have z39 : (n == 39) = false := by simp; omega
  have z49 : (n == 49) = false := by simp; omega
  have g22 : decide (22 < n) = true := by simp; omega
  have l30 : decide (n < 30) = false := by simp; omega
  have HP := Lib.hid (fun W : World => hp ▸ ry_place n W)
  clear hp
  have HC0 := Lib.hid hC0
  clear hC0
  obtain ⟨fs, fg, bg⟩ := s
  obtain ⟨f0, f1, f2, f3, f4, f5, f6, f7, rfl⟩ := eight hl
  have HZ : Hid (Ow1 w ⟨[f0, f1, f2, f3, f4, f5, f6, f7], fg, bg⟩ ((w.alloc (.cells #[.bool f0, .bool f1, .bool f2, .bool f3, .bool f4, .bool f5, .bool f6, .bool f7, .int .u32 fg, .int .u32 bg] 31)).alloc (.cells #[.bool false, .bool false, .bool false, .bool false, .bool false, .bool false, .bool false, .bool false, .int .u32 0, .int .u32 0] 31))) := Lib.hid (ow1_new w _ _ rfl _ rfl)
  show Calls Tryd.prog 28 #[.agg #[.bool f0, .bool f1, .bool f2, .bool f3, .bool f4, .bool f5, .bool f6, .bool f7, .int .u32 fg, .int .u32 bg], .int .i64 n] w _
  clear hl hs
  obtain ⟨fs, hfs⟩ : ∃ fs, [f0, f1, f2, f3, f4, f5, f6, f7] = fs := ⟨_, rfl⟩
  rw [hfs] at HZ HL0
  simp only [hfs]
  clear hfs
  go_enter Tryd.func28, Tryd.ntmps28
  go_wp2_with fail
  refine (HP.out _).mono ?_
  rintro e wx ⟨rfl, rfl⟩
  generalize ((w.alloc (.cells #[.bool f0, .bool f1, .bool f2, .bool f3, .bool f4, .bool f5, .bool f6, .bool f7, .int .u32 fg, .int .u32 bg] 31)).alloc (.cells #[.bool false, .bool false, .bool false, .bool false, .bool false, .bool false, .bool false, .bool false, .int .u32 0, .int .u32 0] 31)) = U at HZ ⊢
  have HL := HL0
  clear HL0
  go_wp2
  obtain ⟨j, hj⟩ : ∃ j : Nat, n = 40 + (j : Int) := ⟨(n - 40).toNat, by omega⟩
  have hj8 : j < 8 := by omega
  have hC : 16777216 + (j : Int) = C := by have := HC0.out; omega
  have HN : Hid ((styL ⟨fs, fg, bg⟩).set 9 (.int .u32 C) = styL ⟨fs, fg, C⟩) := Lib.hid (styL_set9 HL.out C)
  go_loopw [5] (fun iv wr => ∃ i : Nat, iv = .int .i64 i ∧ i ≤ 8 ∧ Hid ((i ≤ j → Ow1 w ⟨fs, fg, bg⟩ wr) ∧ (j < i → Ow1 w ⟨fs, fg, C⟩ wr))) (fun iv _ => 8 - (intOf iv).toNat)
  case atStart => exact ⟨0, rfl, by omega, Lib.hid ⟨fun _ => HZ.out, fun h => absurd h (by omega)⟩⟩
  case round =>
    obtain ⟨i, rfl, hi, HX⟩ := hrel
    clear HZ
    by_cases hi8 : i < 8
    · have d1 : decide ((i : Int) < 8) = true := by simp; omega
      have d2 : decide (i < 8) = true := by simp; omega
      have v1 : IntKind.u32.wrap (i : Int) = (i : Int) := IntWalk.u32_in _ (by omega)
      by_cases hij : i = j
      · subst hij
        have HZ := Lib.hid (HX.out.1 (Nat.le_refl _))
        have k1 := HZ.out.cell (i := 9) (styL_9 HL.out)
        have k2 := HZ.out.free 9
        have HZ1 := Lib.hid (HZ.out.set 9 (.int .u32 C) HN.out)
        have e30 : (n == 30 + (i : Int)) = false := by simp; omega
        have e40 : (n == 40 + (i : Int)) = true := by simp; omega
        have e90 : (n == 90 + (i : Int)) = false := by simp; omega
        have e100 : (n == 100 + (i : Int)) = false := by simp; omega
        have v2 : (16777216 : Int) + (i : Int) = C := by omega
        have c0 : 0 ≤ C := by omega
        have c1 : C < 4294967296 := by omega
        clear HX hj hC
        go_wp2
        go_roundw
        case rel => exact ⟨i + 1, by go_num, by omega, Lib.hid ⟨fun h => absurd h (by omega), fun _ => HZ1.out⟩⟩
        case measure => simp [intOf]; omega
      · have e30 : (n == 30 + (i : Int)) = false := by simp; omega
        have e40 : (n == 40 + (i : Int)) = false := by simp; omega
        have e90 : (n == 90 + (i : Int)) = false := by simp; omega
        have e100 : (n == 100 + (i : Int)) = false := by simp; omega
        clear hj hC
        go_wp2
        go_roundw
        case rel => exact ⟨i + 1, by go_num, by omega, Lib.hid ⟨fun h => HX.out.1 (by omega), fun h => HX.out.2 (by omega)⟩⟩
        case measure => simp [intOf]; omega
    · have d1 : decide ((i : Int) < 8) = false := by simp; omega
      have d2 : decide (i < 8) = false := by simp; omega
      have HZ := Lib.hid (HX.out.2 (by omega))
      have HL' : Hid (fs.length = 8) := HL
      clear HX hC hj
      have HIS := Lib.hid (info_of (s := ⟨fs, fg, C⟩) HL.out)
      clear HL
      go_wp2_with (first | refine wpList_load_row rfl 31 _ rfl w.heap.size rfl 31 (styL ⟨fs, fg, C⟩).toArray (0,0) _ HZ.out.row Tryd.underlying31 rfl HIS.out ?_ | refine wpList_store_row rfl 31 _ _ rfl (w.heap.size + 1) _ rfl rfl 31 (styL zeroY).toArray HZ.out.zero HIS.out ?c1 ?c2 ?_)
      case c1 =>
        have h1 := info_of (s := zeroY) rfl
        have h2 := HIS.out
        rw [h1] at h2
        exact Option.some.inj h2
      case c2 => first | exact styL_one _ | exact styL_all _
      exact bodyPost_ret (v := styV ⟨fs, fg, C⟩) (results_cell_row (p := 4) (ty := 31) Tryd.results28 _ _ (w.heap.size + 1) 31 _ (0, 0) _ rfl (setRow_heap _ _ _ _ _ _ HZ.out.zero) Tryd.underlying31 rfl HIS.out) rfl ⟨rfl, below_setRow HZ.out.below (by omega) _⟩
set_option maxRecDepth 100000 in
set_option maxHeartbeats 1000000 in
theorem ry_one_90 (s : Sty) (n : Int) (w : World) (hs : Good s) (C : Int) (hp : placeS n = -1) (hC0 : 16777224 + (n - 90) = C) (hn : 90 ≤ n ∧ n ≤ 97) :
    Calls Tryd.prog 28 #[styV s, .int .i64 n] w fun e w' => e = .returned (styV (⟨s.fs, C, s.bg⟩)) ∧ Below w.heap.size w w' := by
  have hl := hs.len
  have HL0 := Lib.hid hl
  have z0 : (n == 0) = false := by simp; omega
  have z22 : (n == 22) = false := by simp; omega
  have z39 : (n == 39) = false := by simp; omega
  have z49 : (n == 49) = false := by simp; omega
  have g22 : decide (22 < n) = true := by simp; omega
  have l30 : decide (n < 30) = false := by simp; omega
  have HP := Lib.hid (fun W : World => hp ▸ ry_place n W)
  clear hp
  have HC0 := Lib.hid hC0
  clear hC0
  obtain ⟨fs, fg, bg⟩ := s
  obtain ⟨f0, f1, f2, f3, f4, f5, f6, f7, rfl⟩ := eight hl
  have HZ : Hid (Ow1 w ⟨[f0, f1, f2, f3, f4, f5, f6, f7], fg, bg⟩ ((w.alloc (.cells #[.bool f0, .bool f1, .bool f2, .bool f3, .bool f4, .bool f5, .bool f6, .bool f7, .int .u32 fg, .int .u32 bg] 31)).alloc (.cells #[.bool false, .bool false, .bool false, .bool false, .bool false, .bool false, .bool false, .bool false, .int .u32 0, .int .u32 0] 31))) := Lib.hid (ow1_new w _ _ rfl _ rfl)
  show Calls Tryd.prog 28 #[.agg #[.bool f0, .bool f1, .bool f2, .bool f3, .bool f4, .bool f5, .bool f6, .bool f7, .int .u32 fg, .int .u32 bg], .int .i64 n] w _
  clear hl hs
  obtain ⟨fs, hfs⟩ : ∃ fs, [f0, f1, f2, f3, f4, f5, f6, f7] = fs := ⟨_, rfl⟩
  rw [hfs] at HZ HL0
  simp only [hfs]
  clear hfs
  go_enter Tryd.func28, Tryd.ntmps28
  go_wp2_with fail
  refine (HP.out _).mono ?_
  rintro e wx ⟨rfl, rfl⟩
  generalize ((w.alloc (.cells #[.bool f0, .bool f1, .bool f2, .bool f3, .bool f4, .bool f5, .bool f6, .bool f7, .int .u32 fg, .int .u32 bg] 31)).alloc (.cells #[.bool false, .bool false, .bool false, .bool false, .bool false, .bool false, .bool false, .bool false, .int .u32 0, .int .u32 0] 31)) = U at HZ ⊢
  have HL := HL0
  clear HL0
  go_wp2
  obtain ⟨j, hj⟩ : ∃ j : Nat, n = 90 + (j : Int) := ⟨(n - 90).toNat, by omega⟩
  have hj8 : j < 8 := by omega
  have hC : 16777224 + (j : Int) = C := by have := HC0.out; omega
  have HN : Hid ((styL ⟨fs, fg, bg⟩).set 8 (.int .u32 C) = styL ⟨fs, C, bg⟩) := Lib.hid (styL_set8 HL.out C)
  go_loopw [5] (fun iv wr => ∃ i : Nat, iv = .int .i64 i ∧ i ≤ 8 ∧ Hid ((i ≤ j → Ow1 w ⟨fs, fg, bg⟩ wr) ∧ (j < i → Ow1 w ⟨fs, C, bg⟩ wr))) (fun iv _ => 8 - (intOf iv).toNat)
  case atStart => exact ⟨0, rfl, by omega, Lib.hid ⟨fun _ => HZ.out, fun h => absurd h (by omega)⟩⟩
  case round =>
    obtain ⟨i, rfl, hi, HX⟩ := hrel
    clear HZ
    by_cases hi8 : i < 8
    · have d1 : decide ((i : Int) < 8) = true := by simp; omega
      have d2 : decide (i < 8) = true := by simp; omega
      have v1 : IntKind.u32.wrap (i : Int) = (i : Int) := IntWalk.u32_in _ (by omega)
      by_cases hij : i = j
      · subst hij
        have HZ := Lib.hid (HX.out.1 (Nat.le_refl _))
        have k1 := HZ.out.cell (i := 8) (styL_8 HL.out)
        have k2 := HZ.out.free 8
        have HZ1 := Lib.hid (HZ.out.set 8 (.int .u32 C) HN.out)
        have e30 : (n == 30 + (i : Int)) = false := by simp; omega
        have e40 : (n == 40 + (i : Int)) = false := by simp; omega
        have e90 : (n == 90 + (i : Int)) = true := by simp; omega
        have e100 : (n == 100 + (i : Int)) = false := by simp; omega
        have v2 : (16777216 : Int) + (i : Int) = C - 8 := by omega
        have c0 : 0 ≤ C := by omega
        have c1 : C < 4294967296 := by omega
        clear HX hj hC
        go_wp2
        go_roundw
        case rel => exact ⟨i + 1, by go_num, by omega, Lib.hid ⟨fun h => absurd h (by omega), fun _ => HZ1.out⟩⟩
        case measure => simp [intOf]; omega
      · have e30 : (n == 30 + (i : Int)) = false := by simp; omega
        have e40 : (n == 40 + (i : Int)) = false := by simp; omega
        have e90 : (n == 90 + (i : Int)) = false := by simp; omega
        have e100 : (n == 100 + (i : Int)) = false := by simp; omega
        clear hj hC
        go_wp2
        go_roundw
        case rel => exact ⟨i + 1, by go_num, by omega, Lib.hid ⟨fun h => HX.out.1 (by omega), fun h => HX.out.2 (by omega)⟩⟩
        case measure => simp [intOf]; omega
    · have d1 : decide ((i : Int) < 8) = false := by simp; omega
      have d2 : decide (i < 8) = false := by simp; omega
      have HZ := Lib.hid (HX.out.2 (by omega))
      have HL' : Hid (fs.length = 8) := HL
      clear HX hC hj
      have HIS := Lib.hid (info_of (s := ⟨fs, C, bg⟩) HL.out)
      clear HL
      go_wp2_with (first | refine wpList_load_row rfl 31 _ rfl w.heap.size rfl 31 (styL ⟨fs, C, bg⟩).toArray (0,0) _ HZ.out.row Tryd.underlying31 rfl HIS.out ?_ | refine wpList_store_row rfl 31 _ _ rfl (w.heap.size + 1) _ rfl rfl 31 (styL zeroY).toArray HZ.out.zero HIS.out ?c1 ?c2 ?_)
      case c1 =>
        have h1 := info_of (s := zeroY) rfl
        have h2 := HIS.out
        rw [h1] at h2
        exact Option.some.inj h2
      case c2 => first | exact styL_one _ | exact styL_all _
      exact bodyPost_ret (v := styV ⟨fs, C, bg⟩) (results_cell_row (p := 4) (ty := 31) Tryd.results28 _ _ (w.heap.size + 1) 31 _ (0, 0) _ rfl (setRow_heap _ _ _ _ _ _ HZ.out.zero) Tryd.underlying31 rfl HIS.out) rfl ⟨rfl, below_setRow HZ.out.below (by omega) _⟩
set_option maxRecDepth 100000 in
set_option maxHeartbeats 1000000 in
theorem ry_one_100 (s : Sty) (n : Int) (w : World) (hs : Good s) (C : Int) (hp : placeS n = -1) (hC0 : 16777224 + (n - 100) = C) (hn : 100 ≤ n ∧ n ≤ 107) :
    Calls Tryd.prog 28 #[styV s, .int .i64 n] w fun e w' => e = .returned (styV (⟨s.fs, s.fg, C⟩)) ∧ Below w.heap.size w w' := by
  have hl := hs.len
  have HL0 := Lib.hid hl
  have z0 : (n == 0) = false := by simp; omega
  have z22 : (n == 22) = false := by simp; omega
  have z39 : (n == 39) = false := by simp; omega
  have z49 : (n == 49) = false := by simp; omega
  have g22 : decide (22 < n) = true := by simp; omega
  have l30 : decide (n < 30) = false := by simp; omega
  have HP := Lib.hid (fun W : World => hp ▸ ry_place n W)
  clear hp
  have HC0 := Lib.hid hC0
  clear hC0
  obtain ⟨fs, fg, bg⟩ := s
  obtain ⟨f0, f1, f2, f3, f4, f5, f6, f7, rfl⟩ := eight hl
  have HZ : Hid (Ow1 w ⟨[f0, f1, f2, f3, f4, f5, f6, f7], fg, bg⟩ ((w.alloc (.cells #[.bool f0, .bool f1, .bool f2, .bool f3, .bool f4, .bool f5, .bool f6, .bool f7, .int .u32 fg, .int .u32 bg] 31)).alloc (.cells #[.bool false, .bool false, .bool false, .bool false, .bool false, .bool false, .bool false, .bool false, .int .u32 0, .int .u32 0] 31))) := Lib.hid (ow1_new w _ _ rfl _ rfl)
  show Calls Tryd.prog 28 #[.agg #[.bool f0, .bool f1, .bool f2, .bool f3, .bool f4, .bool f5, .bool f6, .bool f7, .int .u32 fg, .int .u32 bg], .int .i64 n] w _
  clear hl hs
  obtain ⟨fs, hfs⟩ : ∃ fs, [f0, f1, f2, f3, f4, f5, f6, f7] = fs := ⟨_, rfl⟩
  rw [hfs] at HZ HL0
  simp only [hfs]
  clear hfs
  go_enter Tryd.func28, Tryd.ntmps28
  go_wp2_with fail
  refine (HP.out _).mono ?_
  rintro e wx ⟨rfl, rfl⟩
  generalize ((w.alloc (.cells #[.bool f0, .bool f1, .bool f2, .bool f3, .bool f4, .bool f5, .bool f6, .bool f7, .int .u32 fg, .int .u32 bg] 31)).alloc (.cells #[.bool false, .bool false, .bool false, .bool false, .bool false, .bool false, .bool false, .bool false, .int .u32 0, .int .u32 0] 31)) = U at HZ ⊢
  have HL := HL0
  clear HL0
  go_wp2
  obtain ⟨j, hj⟩ : ∃ j : Nat, n = 100 + (j : Int) := ⟨(n - 100).toNat, by omega⟩
  have hj8 : j < 8 := by omega
  have hC : 16777224 + (j : Int) = C := by have := HC0.out; omega
  have HN : Hid ((styL ⟨fs, fg, bg⟩).set 9 (.int .u32 C) = styL ⟨fs, fg, C⟩) := Lib.hid (styL_set9 HL.out C)
  go_loopw [5] (fun iv wr => ∃ i : Nat, iv = .int .i64 i ∧ i ≤ 8 ∧ Hid ((i ≤ j → Ow1 w ⟨fs, fg, bg⟩ wr) ∧ (j < i → Ow1 w ⟨fs, fg, C⟩ wr))) (fun iv _ => 8 - (intOf iv).toNat)
  case atStart => exact ⟨0, rfl, by omega, Lib.hid ⟨fun _ => HZ.out, fun h => absurd h (by omega)⟩⟩
  case round =>
    obtain ⟨i, rfl, hi, HX⟩ := hrel
    clear HZ
    by_cases hi8 : i < 8
    · have d1 : decide ((i : Int) < 8) = true := by simp; omega
      have d2 : decide (i < 8) = true := by simp; omega
      have v1 : IntKind.u32.wrap (i : Int) = (i : Int) := IntWalk.u32_in _ (by omega)
      by_cases hij : i = j
      · subst hij
        have HZ := Lib.hid (HX.out.1 (Nat.le_refl _))
        have k1 := HZ.out.cell (i := 9) (styL_9 HL.out)
        have k2 := HZ.out.free 9
        have HZ1 := Lib.hid (HZ.out.set 9 (.int .u32 C) HN.out)
        have e30 : (n == 30 + (i : Int)) = false := by simp; omega
        have e40 : (n == 40 + (i : Int)) = false := by simp; omega
        have e90 : (n == 90 + (i : Int)) = false := by simp; omega
        have e100 : (n == 100 + (i : Int)) = true := by simp; omega
        have v2 : (16777216 : Int) + (i : Int) = C - 8 := by omega
        have c0 : 0 ≤ C := by omega
        have c1 : C < 4294967296 := by omega
        clear HX hj hC
        go_wp2
        go_roundw
        case rel => exact ⟨i + 1, by go_num, by omega, Lib.hid ⟨fun h => absurd h (by omega), fun _ => HZ1.out⟩⟩
        case measure => simp [intOf]; omega
      · have e30 : (n == 30 + (i : Int)) = false := by simp; omega
        have e40 : (n == 40 + (i : Int)) = false := by simp; omega
        have e90 : (n == 90 + (i : Int)) = false := by simp; omega
        have e100 : (n == 100 + (i : Int)) = false := by simp; omega
        clear hj hC
        go_wp2
        go_roundw
        case rel => exact ⟨i + 1, by go_num, by omega, Lib.hid ⟨fun h => HX.out.1 (by omega), fun h => HX.out.2 (by omega)⟩⟩
        case measure => simp [intOf]; omega
    · have d1 : decide ((i : Int) < 8) = false := by simp; omega
      have d2 : decide (i < 8) = false := by simp; omega
      have HZ := Lib.hid (HX.out.2 (by omega))
      have HL' : Hid (fs.length = 8) := HL
      clear HX hC hj
      have HIS := Lib.hid (info_of (s := ⟨fs, fg, C⟩) HL.out)
      clear HL
      go_wp2_with (first | refine wpList_load_row rfl 31 _ rfl w.heap.size rfl 31 (styL ⟨fs, fg, C⟩).toArray (0,0) _ HZ.out.row Tryd.underlying31 rfl HIS.out ?_ | refine wpList_store_row rfl 31 _ _ rfl (w.heap.size + 1) _ rfl rfl 31 (styL zeroY).toArray HZ.out.zero HIS.out ?c1 ?c2 ?_)
      case c1 =>
        have h1 := info_of (s := zeroY) rfl
        have h2 := HIS.out
        rw [h1] at h2
        exact Option.some.inj h2
      case c2 => first | exact styL_one _ | exact styL_all _
      exact bodyPost_ret (v := styV ⟨fs, fg, C⟩) (results_cell_row (p := 4) (ty := 31) Tryd.results28 _ _ (w.heap.size + 1) 31 _ (0, 0) _ rfl (setRow_heap _ _ _ _ _ _ HZ.out.zero) Tryd.underlying31 rfl HIS.out) rfl ⟨rfl, below_setRow HZ.out.below (by omega) _⟩
set_option maxRecDepth 100000 in
set_option maxHeartbeats 1000000 in
theorem ry_one_39 (s : Sty) (n : Int) (w : World) (hs : Good s)  (hp : placeS n = -1) (hn : 39 ≤ n ∧ n ≤ 39) :
    Calls Tryd.prog 28 #[styV s, .int .i64 n] w fun e w' => e = .returned (styV (⟨s.fs, 0, s.bg⟩)) ∧ Below w.heap.size w w' := by
  have hl := hs.len
  have HL0 := Lib.hid hl
  have z0 : (n == 0) = false := by simp; omega
  have z22 : (n == 22) = false := by simp; omega
  have z39 : (n == 39) = true := by simp; omega
  have z49 : (n == 49) = false := by simp; omega
  have g22 : decide (22 < n) = true := by simp; omega
  have l30 : decide (n < 30) = false := by simp; omega
  have HP := Lib.hid (fun W : World => hp ▸ ry_place n W)
  clear hp
  obtain ⟨fs, fg, bg⟩ := s
  obtain ⟨f0, f1, f2, f3, f4, f5, f6, f7, rfl⟩ := eight hl
  have HZ : Hid (Ow1 w ⟨[f0, f1, f2, f3, f4, f5, f6, f7], fg, bg⟩ ((w.alloc (.cells #[.bool f0, .bool f1, .bool f2, .bool f3, .bool f4, .bool f5, .bool f6, .bool f7, .int .u32 fg, .int .u32 bg] 31)).alloc (.cells #[.bool false, .bool false, .bool false, .bool false, .bool false, .bool false, .bool false, .bool false, .int .u32 0, .int .u32 0] 31))) := Lib.hid (ow1_new w _ _ rfl _ rfl)
  show Calls Tryd.prog 28 #[.agg #[.bool f0, .bool f1, .bool f2, .bool f3, .bool f4, .bool f5, .bool f6, .bool f7, .int .u32 fg, .int .u32 bg], .int .i64 n] w _
  clear hl hs
  obtain ⟨fs, hfs⟩ : ∃ fs, [f0, f1, f2, f3, f4, f5, f6, f7] = fs := ⟨_, rfl⟩
  rw [hfs] at HZ HL0
  simp only [hfs]
  clear hfs
  go_enter Tryd.func28, Tryd.ntmps28
  go_wp2_with fail
  refine (HP.out _).mono ?_
  rintro e wx ⟨rfl, rfl⟩
  generalize ((w.alloc (.cells #[.bool f0, .bool f1, .bool f2, .bool f3, .bool f4, .bool f5, .bool f6, .bool f7, .int .u32 fg, .int .u32 bg] 31)).alloc (.cells #[.bool false, .bool false, .bool false, .bool false, .bool false, .bool false, .bool false, .bool false, .int .u32 0, .int .u32 0] 31)) = U at HZ ⊢
  have HL := HL0
  clear HL0
  go_wp2
  go_loopw [5] (fun iv wr => ∃ i : Nat, iv = .int .i64 i ∧ i ≤ 8 ∧ Hid (Ow1 w ⟨fs, fg, bg⟩ wr)) (fun iv _ => 8 - (intOf iv).toNat)
  case atStart => exact ⟨0, rfl, by omega, HZ⟩
  case round =>
    obtain ⟨i, rfl, hi, HX⟩ := hrel
    clear HZ
    by_cases hi8 : i < 8
    · have d1 : decide ((i : Int) < 8) = true := by simp; omega
      have d2 : decide (i < 8) = true := by simp; omega
      have e30 : (n == 30 + (i : Int)) = false := by simp; omega
      have e40 : (n == 40 + (i : Int)) = false := by simp; omega
      have e90 : (n == 90 + (i : Int)) = false := by simp; omega
      have e100 : (n == 100 + (i : Int)) = false := by simp; omega
      go_wp2
      go_roundw
      case rel => exact ⟨i + 1, by go_num, by omega, HX⟩
      case measure => simp [intOf]; omega
    · have d1 : decide ((i : Int) < 8) = false := by simp; omega
      have d2 : decide (i < 8) = false := by simp; omega
      have HZ := HX
      clear HX
      have k1 := HZ.out.cell (i := 8) (styL_8 HL.out)
      have k2 := HZ.out.free 8
      have HZ1 := Lib.hid (HZ.out.set 8 (.int .u32 0) (styL_set8 HL.out 0))
      obtain ⟨U2, hU2⟩ : ∃ U2, wr.setCell ⟨w.heap.size, 8, none⟩ (.int .u32 0) = U2 := ⟨_, rfl⟩
      rw [hU2] at HZ1
      clear HZ
      have HZ := HZ1
      clear HZ1
      have HIS := Lib.hid (info_of (s := ⟨fs, 0, bg⟩) HL.out)
      clear HL
      go_wp2_with (first | refine wpList_load_row rfl 31 _ rfl w.heap.size rfl 31 (styL ⟨fs, 0, bg⟩).toArray (0,0) _ HZ.out.row Tryd.underlying31 rfl HIS.out ?_ | refine wpList_store_row rfl 31 _ _ rfl (w.heap.size + 1) _ rfl rfl 31 (styL zeroY).toArray HZ.out.zero HIS.out ?c1 ?c2 ?_)
      case c1 =>
        have h1 := info_of (s := zeroY) rfl
        have h2 := HIS.out
        rw [h1] at h2
        exact Option.some.inj h2
      case c2 => first | exact styL_one _ | exact styL_all _
      exact bodyPost_ret (v := styV ⟨fs, 0, bg⟩) (results_cell_row (p := 4) (ty := 31) Tryd.results28 _ _ (w.heap.size + 1) 31 _ (0, 0) _ rfl (setRow_heap _ _ _ _ _ _ HZ.out.zero) Tryd.underlying31 rfl HIS.out) rfl ⟨rfl, below_setRow HZ.out.below (by omega) _⟩
set_option maxRecDepth 100000 in
set_option maxHeartbeats 1000000 in
theorem ry_one_49 (s : Sty) (n : Int) (w : World) (hs : Good s)  (hp : placeS n = -1) (hn : 49 ≤ n ∧ n ≤ 49) :
    Calls Tryd.prog 28 #[styV s, .int .i64 n] w fun e w' => e = .returned (styV (⟨s.fs, s.fg, 0⟩)) ∧ Below w.heap.size w w' := by
  have hl := hs.len
  have HL0 := Lib.hid hl
  have z0 : (n == 0) = false := by simp; omega
  have z22 : (n == 22) = false := by simp; omega
  have z39 : (n == 39) = false := by simp; omega
  have z49 : (n == 49) = true := by simp; omega
  have g22 : decide (22 < n) = true := by simp; omega
  have l30 : decide (n < 30) = false := by simp; omega
  have HP := Lib.hid (fun W : World => hp ▸ ry_place n W)
  clear hp
  obtain ⟨fs, fg, bg⟩ := s
  obtain ⟨f0, f1, f2, f3, f4, f5, f6, f7, rfl⟩ := eight hl
  have HZ : Hid (Ow1 w ⟨[f0, f1, f2, f3, f4, f5, f6, f7], fg, bg⟩ ((w.alloc (.cells #[.bool f0, .bool f1, .bool f2, .bool f3, .bool f4, .bool f5, .bool f6, .bool f7, .int .u32 fg, .int .u32 bg] 31)).alloc (.cells #[.bool false, .bool false, .bool false, .bool false, .bool false, .bool false, .bool false, .bool false, .int .u32 0, .int .u32 0] 31))) := Lib.hid (ow1_new w _ _ rfl _ rfl)
  show Calls Tryd.prog 28 #[.agg #[.bool f0, .bool f1, .bool f2, .bool f3, .bool f4, .bool f5, .bool f6, .bool f7, .int .u32 fg, .int .u32 bg], .int .i64 n] w _
  clear hl hs
  obtain ⟨fs, hfs⟩ : ∃ fs, [f0, f1, f2, f3, f4, f5, f6, f7] = fs := ⟨_, rfl⟩
  rw [hfs] at HZ HL0
  simp only [hfs]
  clear hfs
  go_enter Tryd.func28, Tryd.ntmps28
  go_wp2_with fail
  refine (HP.out _).mono ?_
  rintro e wx ⟨rfl, rfl⟩
  generalize ((w.alloc (.cells #[.bool f0, .bool f1, .bool f2, .bool f3, .bool f4, .bool f5, .bool f6, .bool f7, .int .u32 fg, .int .u32 bg] 31)).alloc (.cells #[.bool false, .bool false, .bool false, .bool false, .bool false, .bool false, .bool false, .bool false, .int .u32 0, .int .u32 0] 31)) = U at HZ ⊢
  have HL := HL0
  clear HL0
  go_wp2
  go_loopw [5] (fun iv wr => ∃ i : Nat, iv = .int .i64 i ∧ i ≤ 8 ∧ Hid (Ow1 w ⟨fs, fg, bg⟩ wr)) (fun iv _ => 8 - (intOf iv).toNat)
  case atStart => exact ⟨0, rfl, by omega, HZ⟩
  case round =>
    obtain ⟨i, rfl, hi, HX⟩ := hrel
    clear HZ
    by_cases hi8 : i < 8
    · have d1 : decide ((i : Int) < 8) = true := by simp; omega
      have d2 : decide (i < 8) = true := by simp; omega
      have e30 : (n == 30 + (i : Int)) = false := by simp; omega
      have e40 : (n == 40 + (i : Int)) = false := by simp; omega
      have e90 : (n == 90 + (i : Int)) = false := by simp; omega
      have e100 : (n == 100 + (i : Int)) = false := by simp; omega
      go_wp2
      go_roundw
      case rel => exact ⟨i + 1, by go_num, by omega, HX⟩
      case measure => simp [intOf]; omega
    · have d1 : decide ((i : Int) < 8) = false := by simp; omega
      have d2 : decide (i < 8) = false := by simp; omega
      have HZ := HX
      clear HX
      have k1 := HZ.out.cell (i := 9) (styL_9 HL.out)
      have k2 := HZ.out.free 9
      have HZ1 := Lib.hid (HZ.out.set 9 (.int .u32 0) (styL_set9 HL.out 0))
      obtain ⟨U2, hU2⟩ : ∃ U2, wr.setCell ⟨w.heap.size, 9, none⟩ (.int .u32 0) = U2 := ⟨_, rfl⟩
      rw [hU2] at HZ1
      clear HZ
      have HZ := HZ1
      clear HZ1
      have HIS := Lib.hid (info_of (s := ⟨fs, fg, 0⟩) HL.out)
      clear HL
      go_wp2_with (first | refine wpList_load_row rfl 31 _ rfl w.heap.size rfl 31 (styL ⟨fs, fg, 0⟩).toArray (0,0) _ HZ.out.row Tryd.underlying31 rfl HIS.out ?_ | refine wpList_store_row rfl 31 _ _ rfl (w.heap.size + 1) _ rfl rfl 31 (styL zeroY).toArray HZ.out.zero HIS.out ?c1 ?c2 ?_)
      case c1 =>
        have h1 := info_of (s := zeroY) rfl
        have h2 := HIS.out
        rw [h1] at h2
        exact Option.some.inj h2
      case c2 => first | exact styL_one _ | exact styL_all _
      exact bodyPost_ret (v := styV ⟨fs, fg, 0⟩) (results_cell_row (p := 4) (ty := 31) Tryd.results28 _ _ (w.heap.size + 1) 31 _ (0, 0) _ rfl (setRow_heap _ _ _ _ _ _ HZ.out.zero) Tryd.underlying31 rfl HIS.out) rfl ⟨rfl, below_setRow HZ.out.below (by omega) _⟩
set_option maxRecDepth 100000 in
set_option maxHeartbeats 1000000 in
theorem ry_one_lo (s : Sty) (n : Int) (w : World) (hs : Good s)  (hp : placeS n = -1) (hn : n < 22 ∧ n ≠ 0) :
    Calls Tryd.prog 28 #[styV s, .int .i64 n] w fun e w' => e = .returned (styV (s)) ∧ Below w.heap.size w w' := by
  have hl := hs.len
  have HL0 := Lib.hid hl
  have z0 : (n == 0) = false := by simp; omega
  have z22 : (n == 22) = false := by simp; omega
  have z39 : (n == 39) = false := by simp; omega
  have z49 : (n == 49) = false := by simp; omega
  have g22 : decide (22 < n) = false := by simp; omega
  have HP := Lib.hid (fun W : World => hp ▸ ry_place n W)
  clear hp
  obtain ⟨fs, fg, bg⟩ := s
  obtain ⟨f0, f1, f2, f3, f4, f5, f6, f7, rfl⟩ := eight hl
  have HZ : Hid (Ow1 w ⟨[f0, f1, f2, f3, f4, f5, f6, f7], fg, bg⟩ ((w.alloc (.cells #[.bool f0, .bool f1, .bool f2, .bool f3, .bool f4, .bool f5, .bool f6, .bool f7, .int .u32 fg, .int .u32 bg] 31)).alloc (.cells #[.bool false, .bool false, .bool false, .bool false, .bool false, .bool false, .bool false, .bool false, .int .u32 0, .int .u32 0] 31))) := Lib.hid (ow1_new w _ _ rfl _ rfl)
  show Calls Tryd.prog 28 #[.agg #[.bool f0, .bool f1, .bool f2, .bool f3, .bool f4, .bool f5, .bool f6, .bool f7, .int .u32 fg, .int .u32 bg], .int .i64 n] w _
  clear hl hs
  obtain ⟨fs, hfs⟩ : ∃ fs, [f0, f1, f2, f3, f4, f5, f6, f7] = fs := ⟨_, rfl⟩
  rw [hfs] at HZ HL0
  simp only [hfs]
  clear hfs
  go_enter Tryd.func28, Tryd.ntmps28
  go_wp2_with fail
  refine (HP.out _).mono ?_
  rintro e wx ⟨rfl, rfl⟩
  generalize ((w.alloc (.cells #[.bool f0, .bool f1, .bool f2, .bool f3, .bool f4, .bool f5, .bool f6, .bool f7, .int .u32 fg, .int .u32 bg] 31)).alloc (.cells #[.bool false, .bool false, .bool false, .bool false, .bool false, .bool false, .bool false, .bool false, .int .u32 0, .int .u32 0] 31)) = U at HZ ⊢
  have HL := HL0
  clear HL0
  go_wp2
  go_loopw [5] (fun iv wr => ∃ i : Nat, iv = .int .i64 i ∧ i ≤ 8 ∧ Hid (Ow1 w ⟨fs, fg, bg⟩ wr)) (fun iv _ => 8 - (intOf iv).toNat)
  case atStart => exact ⟨0, rfl, by omega, HZ⟩
  case round =>
    obtain ⟨i, rfl, hi, HX⟩ := hrel
    clear HZ
    by_cases hi8 : i < 8
    · have d1 : decide ((i : Int) < 8) = true := by simp; omega
      have d2 : decide (i < 8) = true := by simp; omega
      have e30 : (n == 30 + (i : Int)) = false := by simp; omega
      have e40 : (n == 40 + (i : Int)) = false := by simp; omega
      have e90 : (n == 90 + (i : Int)) = false := by simp; omega
      have e100 : (n == 100 + (i : Int)) = false := by simp; omega
      go_wp2
      go_roundw
      case rel => exact ⟨i + 1, by go_num, by omega, HX⟩
      case measure => simp [intOf]; omega
    · have d1 : decide ((i : Int) < 8) = false := by simp; omega
      have d2 : decide (i < 8) = false := by simp; omega
      have HZ := HX
      clear HX
      have HIS := Lib.hid (info_of (s := ⟨fs, fg, bg⟩) HL.out)
      clear HL
      go_wp2_with (first | refine wpList_load_row rfl 31 _ rfl w.heap.size rfl 31 (styL ⟨fs, fg, bg⟩).toArray (0,0) _ HZ.out.row Tryd.underlying31 rfl HIS.out ?_ | refine wpList_store_row rfl 31 _ _ rfl (w.heap.size + 1) _ rfl rfl 31 (styL zeroY).toArray HZ.out.zero HIS.out ?c1 ?c2 ?_)
      case c1 =>
        have h1 := info_of (s := zeroY) rfl
        have h2 := HIS.out
        rw [h1] at h2
        exact Option.some.inj h2
      case c2 => first | exact styL_one _ | exact styL_all _
      exact bodyPost_ret (v := styV ⟨fs, fg, bg⟩) (results_cell_row (p := 4) (ty := 31) Tryd.results28 _ _ (w.heap.size + 1) 31 _ (0, 0) _ rfl (setRow_heap _ _ _ _ _ _ HZ.out.zero) Tryd.underlying31 rfl HIS.out) rfl ⟨rfl, below_setRow HZ.out.below (by omega) _⟩
set_option maxRecDepth 100000 in
set_option maxHeartbeats 1000000 in
theorem ry_one_hi (s : Sty) (n : Int) (w : World) (hs : Good s)  (hp : placeS n = -1) (hn : 30 ≤ n ∧ ¬ (30 ≤ n ∧ n ≤ 37) ∧ ¬ (40 ≤ n ∧ n ≤ 47) ∧ ¬ (90 ≤ n ∧ n ≤ 97) ∧ ¬ (100 ≤ n ∧ n ≤ 107) ∧ n ≠ 39 ∧ n ≠ 49) :
    Calls Tryd.prog 28 #[styV s, .int .i64 n] w fun e w' => e = .returned (styV (s)) ∧ Below w.heap.size w w' := by
  have hl := hs.len
  have HL0 := Lib.hid hl
  have z0 : (n == 0) = false := by simp; omega
  have z22 : (n == 22) = false := by simp; omega
  have z39 : (n == 39) = false := by simp; omega
  have z49 : (n == 49) = false := by simp; omega
  have g22 : decide (22 < n) = true := by simp; omega
  have l30 : decide (n < 30) = false := by simp; omega
  have HP := Lib.hid (fun W : World => hp ▸ ry_place n W)
  clear hp
  obtain ⟨fs, fg, bg⟩ := s
  obtain ⟨f0, f1, f2, f3, f4, f5, f6, f7, rfl⟩ := eight hl
  have HZ : Hid (Ow1 w ⟨[f0, f1, f2, f3, f4, f5, f6, f7], fg, bg⟩ ((w.alloc (.cells #[.bool f0, .bool f1, .bool f2, .bool f3, .bool f4, .bool f5, .bool f6, .bool f7, .int .u32 fg, .int .u32 bg] 31)).alloc (.cells #[.bool false, .bool false, .bool false, .bool false, .bool false, .bool false, .bool false, .bool false, .int .u32 0, .int .u32 0] 31))) := Lib.hid (ow1_new w _ _ rfl _ rfl)
  show Calls Tryd.prog 28 #[.agg #[.bool f0, .bool f1, .bool f2, .bool f3, .bool f4, .bool f5, .bool f6, .bool f7, .int .u32 fg, .int .u32 bg], .int .i64 n] w _
  clear hl hs
  obtain ⟨fs, hfs⟩ : ∃ fs, [f0, f1, f2, f3, f4, f5, f6, f7] = fs := ⟨_, rfl⟩
  rw [hfs] at HZ HL0
  simp only [hfs]
  clear hfs
  go_enter Tryd.func28, Tryd.ntmps28
  go_wp2_with fail
  refine (HP.out _).mono ?_
  rintro e wx ⟨rfl, rfl⟩
  generalize ((w.alloc (.cells #[.bool f0, .bool f1, .bool f2, .bool f3, .bool f4, .bool f5, .bool f6, .bool f7, .int .u32 fg, .int .u32 bg] 31)).alloc (.cells #[.bool false, .bool false, .bool false, .bool false, .bool false, .bool false, .bool false, .bool false, .int .u32 0, .int .u32 0] 31)) = U at HZ ⊢
  have HL := HL0
  clear HL0
  go_wp2
  go_loopw [5] (fun iv wr => ∃ i : Nat, iv = .int .i64 i ∧ i ≤ 8 ∧ Hid (Ow1 w ⟨fs, fg, bg⟩ wr)) (fun iv _ => 8 - (intOf iv).toNat)
  case atStart => exact ⟨0, rfl, by omega, HZ⟩
  case round =>
    obtain ⟨i, rfl, hi, HX⟩ := hrel
    clear HZ
    by_cases hi8 : i < 8
    · have d1 : decide ((i : Int) < 8) = true := by simp; omega
      have d2 : decide (i < 8) = true := by simp; omega
      have e30 : (n == 30 + (i : Int)) = false := by simp; omega
      have e40 : (n == 40 + (i : Int)) = false := by simp; omega
      have e90 : (n == 90 + (i : Int)) = false := by simp; omega
      have e100 : (n == 100 + (i : Int)) = false := by simp; omega
      go_wp2
      go_roundw
      case rel => exact ⟨i + 1, by go_num, by omega, HX⟩
      case measure => simp [intOf]; omega
    · have d1 : decide ((i : Int) < 8) = false := by simp; omega
      have d2 : decide (i < 8) = false := by simp; omega
      have HZ := HX
      clear HX
      have HIS := Lib.hid (info_of (s := ⟨fs, fg, bg⟩) HL.out)
      clear HL
      go_wp2_with (first | refine wpList_load_row rfl 31 _ rfl w.heap.size rfl 31 (styL ⟨fs, fg, bg⟩).toArray (0,0) _ HZ.out.row Tryd.underlying31 rfl HIS.out ?_ | refine wpList_store_row rfl 31 _ _ rfl (w.heap.size + 1) _ rfl rfl 31 (styL zeroY).toArray HZ.out.zero HIS.out ?c1 ?c2 ?_)
      case c1 =>
        have h1 := info_of (s := zeroY) rfl
        have h2 := HIS.out
        rw [h1] at h2
        exact Option.some.inj h2
      case c2 => first | exact styL_one _ | exact styL_all _
      exact bodyPost_ret (v := styV ⟨fs, fg, bg⟩) (results_cell_row (p := 4) (ty := 31) Tryd.results28 _ _ (w.heap.size + 1) 31 _ (0, 0) _ rfl (setRow_heap _ _ _ _ _ _ HZ.out.zero) Tryd.underlying31 rfl HIS.out) rfl ⟨rfl, below_setRow HZ.out.below (by omega) _⟩
set_option maxRecDepth 100000 in
set_option maxHeartbeats 1000000 in
theorem ry_one_0 (s : Sty) (w : World) (hs : Good s) :
    Calls Tryd.prog 28 #[styV s, .int .i64 0] w fun e w' => e = .returned (styV zeroY) ∧ Below w.heap.size w w' := by
  have hl := hs.len
  obtain ⟨fs, fg, bg⟩ := s
  obtain ⟨f0, f1, f2, f3, f4, f5, f6, f7, rfl⟩ := eight hl
  show Calls Tryd.prog 28 #[.agg #[.bool f0, .bool f1, .bool f2, .bool f3, .bool f4, .bool f5, .bool f6, .bool f7, .int .u32 fg, .int .u32 bg], .int .i64 0] w _
  clear hl hs
  go_enter Tryd.func28, Tryd.ntmps28
  go_wp2
  exact bodyPost_ret (v := styV zeroY) (by simp [results, Tryd.results28, go_sem]; rfl) rfl ⟨rfl, ((Below.refl _ _).alloc (Nat.le_refl _) _).alloc (by simp) _⟩
theorem ry_one (s : Sty) (n : Int) (w : World) (hs : Good s) :
    Calls Tryd.prog 28 #[styV s, .int .i64 n] w fun e w' => e = .returned (styV (oneS s n)) ∧ Below w.heap.size w w' := by
  by_cases h0 : n = 0
  · subst h0
    exact ry_one_0 s w hs
  by_cases h1 : 0 ≤ placeS n
  · have hb : placeS n < 8 ∧ 1 ≤ n ∧ n ≤ 9 := by
      unfold placeS at h1 ⊢
      by_cases a : 1 ≤ n ∧ n ≤ 5
      · rw [if_pos a]; omega
      · rw [if_neg a] at h1 ⊢
        by_cases b : 7 ≤ n ∧ n ≤ 9
        · rw [if_pos b]; omega
        · rw [if_neg b] at h1; omega
    have e : oneS s n = ⟨s.fs.set (placeS n).toNat true, s.fg, s.bg⟩ := by unfold oneS; rw [if_neg h0, if_pos h1]
    rw [e]
    exact ry_one_flag s n w hs (placeS n).toNat (by omega) (by omega) ⟨hb.2.1, hb.2.2⟩
  have hp : placeS n = -1 := by
    unfold placeS at h1 ⊢
    by_cases a : 1 ≤ n ∧ n ≤ 5
    · rw [if_pos a] at h1; omega
    · rw [if_neg a] at h1 ⊢
      by_cases b : 7 ≤ n ∧ n ≤ 9
      · rw [if_pos b] at h1; omega
      · rw [if_neg b]
  by_cases h2 : n = 22
  · have e : oneS s n = ⟨(s.fs.set 0 false).set 1 false, s.fg, s.bg⟩ := by unfold oneS; rw [if_neg h0, if_neg h1, if_pos h2]
    rw [e]
    exact ry_one_22 s n w hs hp (by omega)
  by_cases h3 : (22 < n ∧ n < 30) ∧ 0 ≤ placeS (n - 20)
  · have hb : placeS (n - 20) < 8 := by
      unfold placeS
      repeat' split
      all_goals omega
    have e : oneS s n = ⟨s.fs.set (placeS (n - 20)).toNat false, s.fg, s.bg⟩ := by unfold oneS; rw [if_neg h0, if_neg h1, if_neg h2, if_pos h3]
    rw [e]
    exact ry_one_off s n w hs (placeS (n - 20)).toNat (by omega) hp h3.1 (by omega)
  by_cases h4 : 30 ≤ n ∧ n ≤ 37
  · have e : oneS s n = ⟨s.fs, 16777216 + (n - 30), s.bg⟩ := by unfold oneS; rw [if_neg h0, if_neg h1, if_neg h2, if_neg h3, if_pos h4]
    rw [e]
    exact ry_one_30 s n w hs _ hp rfl h4
  by_cases h5 : 40 ≤ n ∧ n ≤ 47
  · have e : oneS s n = ⟨s.fs, s.fg, 16777216 + (n - 40)⟩ := by unfold oneS; rw [if_neg h0, if_neg h1, if_neg h2, if_neg h3, if_neg h4, if_pos h5]
    rw [e]
    exact ry_one_40 s n w hs _ hp rfl h5
  by_cases h6 : 90 ≤ n ∧ n ≤ 97
  · have e : oneS s n = ⟨s.fs, 16777224 + (n - 90), s.bg⟩ := by unfold oneS; rw [if_neg h0, if_neg h1, if_neg h2, if_neg h3, if_neg h4, if_neg h5, if_pos h6]
    rw [e]
    exact ry_one_90 s n w hs _ hp rfl h6
  by_cases h7 : 100 ≤ n ∧ n ≤ 107
  · have e : oneS s n = ⟨s.fs, s.fg, 16777224 + (n - 100)⟩ := by unfold oneS; rw [if_neg h0, if_neg h1, if_neg h2, if_neg h3, if_neg h4, if_neg h5, if_neg h6, if_pos h7]
    rw [e]
    exact ry_one_100 s n w hs _ hp rfl h7
  by_cases h8 : n = 39
  · have e : oneS s n = ⟨s.fs, 0, s.bg⟩ := by unfold oneS; rw [if_neg h0, if_neg h1, if_neg h2, if_neg h3, if_neg h4, if_neg h5, if_neg h6, if_neg h7, if_pos h8]
    rw [e]
    exact ry_one_39 s n w hs hp (by omega)
  by_cases h9 : n = 49
  · have e : oneS s n = ⟨s.fs, s.fg, 0⟩ := by unfold oneS; rw [if_neg h0, if_neg h1, if_neg h2, if_neg h3, if_neg h4, if_neg h5, if_neg h6, if_neg h7, if_neg h8, if_pos h9]
    rw [e]
    exact ry_one_49 s n w hs hp (by omega)
  have e : oneS s n = s := by unfold oneS; rw [if_neg h0, if_neg h1, if_neg h2, if_neg h3, if_neg h4, if_neg h5, if_neg h6, if_neg h7, if_neg h8, if_neg h9]
  rw [e]
  by_cases ha : n < 22
  · exact ry_one_lo s n w hs hp ⟨ha, h0⟩
  by_cases hb : n = 26
  · exact ry_one_26 s n w hs hp (by omega)
  · refine ry_one_hi s n w hs hp ⟨?_, h4, h5, h6, h7, h8, h9⟩
    by_cases hc : 30 ≤ n
    · exact hc
    · exfalso
      apply h3
      refine ⟨by omega, ?_⟩
      unfold placeS
      by_cases a : 1 ≤ n - 20 ∧ n - 20 ≤ 5
      · rw [if_pos a]; omega
      · rw [if_neg a, if_pos (by omega)]; omega
end Go.Proofs.YtohhmpkmcodoeaaDoor
