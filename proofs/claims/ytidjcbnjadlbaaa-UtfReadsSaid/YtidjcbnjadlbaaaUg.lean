/-
  Proved here, of a Reader of points in memory: New, isNone, Waits, drop, End; nothing but the Reader is changed.
-/
import Derived.Test.YtidjcbnjadlbaaaUd
import Derived.ChangeAlike
import Derived.Deep.RegionHeld
set_option linter.unusedSimpArgs false
set_option linter.unusedVariables false
namespace Go.Proofs.Ytidjcbnjadlbaaa
open Go.RowKit
/-- Of the blocks that there were, g alone may be another one. -/
structure Only (g : Nat) (w w' : World) : Prop where
  os : w'.os = w.os
  tape : w'.tape = w.tape
  output : w'.output = w.output
  size : w.heap.size ≤ w'.heap.size
  block : ∀ k, k < w.heap.size → k ≠ g → w'.heap[k]? = w.heap[k]?
theorem Only.refl (g : Nat) (w : World) : Only g w w := ⟨rfl, rfl, rfl, Nat.le_refl _, fun _ _ _ => rfl⟩
theorem Only.trans {g : Nat} {a b c : World} (h : Only g a b) (k : Only g b c) : Only g a c :=
  ⟨k.os.trans h.os, k.tape.trans h.tape, k.output.trans h.output, Nat.le_trans h.size k.size, fun i hi hg => (k.block i (Nat.lt_of_lt_of_le hi h.size) hg).trans (h.block i hi hg)⟩
theorem Only.setCell {g : Nat} {a w : World} (h : Only g a w) (i : Nat) (v : Value) : Only g a (w.setCell ⟨g, i, none⟩ v) :=
  h.trans ⟨rfl, rfl, rfl, by simp, fun k _ hk => heap_setCell_other w ⟨g, i, none⟩ k v hk⟩
theorem Only.drew {g : Nat} {a w : World} (h : Only g a w) : Only g a w.drew := ⟨h.os, h.tape, h.output, h.size, h.block⟩
theorem Only.drewN {g : Nat} {a w : World} (h : Only g a w) (n : Nat) : Only g a (w.drewN n) := ⟨h.os, h.tape, h.output, h.size, h.block⟩
theorem Only.of_below {g : Nat} {w w' : World} (h : Below w.heap.size w w') : Only g w w' := ⟨h.os, h.tape, h.output, h.size, fun k hk _ => h.block k hk⟩
theorem Only.below {B g : Nat} {a w w' : World} (h : Only g w w') (hb : Below B a w) (hg : B ≤ g) (hB : B ≤ w.heap.size) : Below B a w' :=
  ⟨h.os.trans hb.os, h.tape.trans hb.tape, h.output.trans hb.output, Nat.le_trans hb.size h.size, fun k hk => (h.block k (by omega) (by omega)).trans (hb.block k hk)⟩
/-- A Reader in block g: how many wait, how many are needed, the bits, what may come. -/
def Rd (w : World) (g : Nat) (W N P L H : Int) : Prop := w.heap[g]? = some (.cells #[.bool true, .int .i64 W, .int .i64 N, .int .i32 P, .int .u8 L, .int .u8 H] 35 (0, 0))
section
variable {w : World} {g : Nat} {W N P L H : Int}
theorem Rd.c0 (h : Rd w g W N P L H) : w.cell? ⟨g, 0, none⟩ = some (.bool true) := by unfold Rd at h; simp [World.cell?, h]
theorem Rd.c1 (h : Rd w g W N P L H) : w.cell? ⟨g, 1, none⟩ = some (.int .i64 W) := by unfold Rd at h; simp [World.cell?, h]
theorem Rd.c2 (h : Rd w g W N P L H) : w.cell? ⟨g, 2, none⟩ = some (.int .i64 N) := by unfold Rd at h; simp [World.cell?, h]
theorem Rd.c3 (h : Rd w g W N P L H) : w.cell? ⟨g, 3, none⟩ = some (.int .i32 P) := by unfold Rd at h; simp [World.cell?, h]
theorem Rd.c4 (h : Rd w g W N P L H) : w.cell? ⟨g, 4, none⟩ = some (.int .u8 L) := by unfold Rd at h; simp [World.cell?, h]
theorem Rd.c5 (h : Rd w g W N P L H) : w.cell? ⟨g, 5, none⟩ = some (.int .u8 H) := by unfold Rd at h; simp [World.cell?, h]
theorem Rd.free (h : Rd w g W N P L H) (i : Nat) : w.frozen? ⟨g, i, none⟩ = false := frozen_of_row w g i _ _ h
theorem Rd.lt (h : Rd w g W N P L H) : g < w.heap.size := lt_of_block h
theorem Rd.s0 (h : Rd w g W N P L H) : Rd (w.setCell ⟨g, 0, none⟩ (.bool true)) g W N P L H := by
  unfold Rd at h ⊢; rw [heap_setCell_same w g 0 _ _ _ h]; rfl
theorem Rd.s1 (h : Rd w g W N P L H) (x : Int) : Rd (w.setCell ⟨g, 1, none⟩ (.int .i64 x)) g x N P L H := by
  unfold Rd at h ⊢; rw [heap_setCell_same w g 1 _ _ _ h]; rfl
theorem Rd.s2 (h : Rd w g W N P L H) (x : Int) : Rd (w.setCell ⟨g, 2, none⟩ (.int .i64 x)) g W x P L H := by
  unfold Rd at h ⊢; rw [heap_setCell_same w g 2 _ _ _ h]; rfl
theorem Rd.s3 (h : Rd w g W N P L H) (x : Int) : Rd (w.setCell ⟨g, 3, none⟩ (.int .i32 x)) g W N x L H := by
  unfold Rd at h ⊢; rw [heap_setCell_same w g 3 _ _ _ h]; rfl
theorem Rd.s4 (h : Rd w g W N P L H) (x : Int) : Rd (w.setCell ⟨g, 4, none⟩ (.int .u8 x)) g W N P x H := by
  unfold Rd at h ⊢; rw [heap_setCell_same w g 4 _ _ _ h]; rfl
theorem Rd.s5 (h : Rd w g W N P L H) (x : Int) : Rd (w.setCell ⟨g, 5, none⟩ (.int .u8 x)) g W N P L x := by
  unfold Rd at h ⊢; rw [heap_setCell_same w g 5 _ _ _ h]; rfl
theorem Rd.drew (h : Rd w g W N P L H) : Rd w.drew g W N P L H := h
theorem Rd.below {w' : World} (h : Rd w g W N P L H) (hb : Below w.heap.size w w') : Rd w' g W N P L H := (hb.block g h.lt).trans h
end

theorem new_any (w : World) : Calls Try.prog 12 #[] w fun e w' => e = .returned (.pointer (some ⟨w.heap.size, 0, none⟩)) ∧ w' = w.alloc (.cells #[.bool true, .int .i64 0, .int .i64 0, .int .i32 0, .int .u8 0, .int .u8 0] 35) := by
  go_enter Try.func12, Try.ntmps12
  go_wp2
  go_ret
  exact ⟨rfl, rfl⟩
theorem none_nil (w : World) : Calls Try.prog 31 #[.pointer none] w fun e w' => e = .returned (.bool true) ∧ w = w' := by
  go_enter Try.func31, Try.ntmps31
  go_wp2
  go_ret
  exact ⟨rfl, rfl⟩
/-- A Reader that a call made, or one that none made. -/
theorem none_at (g : Nat) (b : Bool) (w : World) (c0 : w.cell? ⟨g, 0, none⟩ = some (.bool b)) : Calls Try.prog 31 #[.pointer (some ⟨g, 0, none⟩)] w fun e w' => e = .returned (.bool (!b)) ∧ w = w' := by
  go_enter Try.func31, Try.ntmps31
  go_wp2
  go_ret
  exact ⟨rfl, rfl⟩
theorem drop_rd (g : Nat) (W N P L H : Int) (w : World) (h : Rd w g W N P L H) : Calls Try.prog 33 #[.pointer (some ⟨g, 0, none⟩)] w fun e w' => e = .returned (.tuple #[]) ∧ Rd w' g 0 0 0 0 0 ∧ Only g w w' := by
  have HH := Lib.hid h
  have c0 := h.c0
  have c1 := h.c1
  have c2 := h.c2
  have c3 := h.c3
  have c4 := h.c4
  have c5 := h.c5
  have f0 := h.free 0
  have f1 := h.free 1
  have f2 := h.free 2
  have f3 := h.free 3
  have f4 := h.free 4
  have f5 := h.free 5
  clear h
  go_enter Try.func33, Try.ntmps33
  go_wp2
  go_returns
  exact ⟨rfl, (((((HH.out.s0.s1 0).s2 0).s3 0).s4 0).s5 0), ((((((Only.refl g w).setCell 0 _).setCell 1 _).setCell 2 _).setCell 3 _).setCell 4 _).setCell 5 _⟩
theorem waits_nil (w : World) : Calls Try.prog 16 #[.pointer none] w fun e w' => e = .returned (.int .i64 0) ∧ w = w' := by
  go_enter Try.func16, Try.ntmps16
  go_wp2_with fail
  refine (none_nil w).mono ?_
  rintro e wx ⟨rfl, rfl⟩
  go_wp2
  go_ret
  exact ⟨rfl, rfl⟩
theorem waits_rd (g : Nat) (W N P L H : Int) (w : World) (h : Rd w g W N P L H) : Calls Try.prog 16 #[.pointer (some ⟨g, 0, none⟩)] w fun e w' => e = .returned (.int .i64 W) ∧ w = w' := by
  have c0 := h.c0
  have c1 := h.c1
  clear h
  go_enter Try.func16, Try.ntmps16
  go_wp2_with fail
  refine (none_at g true w c0).mono ?_
  rintro e wx ⟨rfl, rfl⟩
  go_wp2
  go_ret
  exact ⟨rfl, rfl⟩
theorem end_nil (w : World) : Calls Try.prog 17 #[.pointer none] w fun e w' => e = .returned (.tuple #[.slice none 0 0, .int .i64 6]) ∧ w = w' := by
  go_enter Try.func17, Try.ntmps17
  go_wp2_with fail
  refine (none_nil w).mono ?_
  rintro e wx ⟨rfl, rfl⟩
  go_wp2
  go_returns
  exact ⟨rfl, rfl⟩
end Go.Proofs.Ytidjcbnjadlbaaa
