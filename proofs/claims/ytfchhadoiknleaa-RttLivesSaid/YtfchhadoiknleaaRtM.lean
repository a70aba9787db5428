/-
  Proved here, for every meter of New, of whatever numbers that may be: New, isNone, begin, goOn, Measure, Back, Backs, Mean and Wait, and what became of the meter's block; nothing else is changed.
-/
import Derived.Test.YtfchhadoiknleaaProg
import Derived.WalkKit
import Derived.Handy
import Derived.Lib.Hide
import Derived.RegionTactic
import Derived.ChangeAlike
import Derived.Deep.QuietTactic
import Derived.BigQuiet
import Derived.Deep.RegionHeld
import Derived.WalkSpells
import Derived.IntWalk
import Derived.WalkLawsBesides
import Derived.Below
import Derived.OneCell
import Derived.Laws.Rows
namespace Go.Proofs.Ytfchhadoiknleaa
open Go.RowKit
/-- Of the blocks that there were, g alone may be another one. -/
structure Only (g : Nat) (w w' : World) : Prop where
  os : w'.os = w.os
  tape : w'.tape = w.tape
  output : w'.output = w.output
  size : w.heap.size ≤ w'.heap.size
  block : ∀ k, k < w.heap.size → k ≠ g → w'.heap[k]? = w.heap[k]?
theorem Only.refl (g : Nat) (w : World) : Only g w w := ⟨rfl, rfl, rfl, Nat.le_refl _, fun _ _ _ => rfl⟩
theorem Only.trans {g : Nat} {a b c : World} (h : Only g a b) (k : Only g b c) : Only g a c :=
  ⟨k.os.trans h.os, k.tape.trans h.tape, k.output.trans h.output, Nat.le_trans h.size k.size, fun i hi hg => (k.block i (Nat.lt_of_lt_of_le hi h.size) hg).trans (h.block i hi hg)⟩
theorem Only.setCell {g : Nat} {a w : World} (h : Only g a w) (i : Nat) (v : Value) : Only g a (w.setCell ⟨g, i, none⟩ v) :=
  h.trans ⟨rfl, rfl, rfl, by simp, fun k _ hk => heap_setCell_other w ⟨g, i, none⟩ k v hk⟩
theorem Only.drew {g : Nat} {a w : World} (h : Only g a w) : Only g a w.drew := ⟨h.os, h.tape, h.output, h.size, h.block⟩
theorem Only.drewN {g : Nat} {a w : World} (h : Only g a w) (n : Nat) : Only g a (w.drewN n) := ⟨h.os, h.tape, h.output, h.size, h.block⟩
theorem Only.below {B g : Nat} {a w w' : World} (h : Only g w w') (hb : Below B a w) (hg : B ≤ g) (hB : B ≤ w.heap.size) : Below B a w' :=
  ⟨h.os.trans hb.os, h.tape.trans hb.tape, h.output.trans hb.output, Nat.le_trans hb.size h.size, fun k hk => (h.block k (by omega) (by omega)).trans (hb.block k hk)⟩
theorem old_block (w : World) (o : Obj) (i : Nat) (h : i < w.heap.size) : (w.alloc o).heap[i]? = w.heap[i]? := by
  show (w.heap.push o)[i]? = w.heap[i]?
  rw [Array.getElem?_push, if_neg (Nat.ne_of_lt h)]
theorem new_block (w : World) (o : Obj) (i : Nat) (h : i = w.heap.size) : (w.alloc o).heap[i]? = some o := by
  subst h; exact heap_alloc_new w o

/-- A meter in block g. -/
def Mt (w : World) (g : Nat) (K : Bool) (a s b : Int) : Prop := w.heap[g]? = some (.cells #[.bool true, .bool K, .int .i64 a, .int .i64 s, .int .i64 b] 35 (0, 0))
theorem Mt.c0 {w : World} {g : Nat} {K : Bool} {a s b : Int} (h : Mt w g K a s b) : w.cell? ⟨g, 0, none⟩ = some (.bool true) := by unfold Mt at h; simp [World.cell?, h]
theorem Mt.c1 {w : World} {g : Nat} {K : Bool} {a s b : Int} (h : Mt w g K a s b) : w.cell? ⟨g, 1, none⟩ = some (.bool K) := by unfold Mt at h; simp [World.cell?, h]
theorem Mt.c2 {w : World} {g : Nat} {K : Bool} {a s b : Int} (h : Mt w g K a s b) : w.cell? ⟨g, 2, none⟩ = some (.int .i64 a) := by unfold Mt at h; simp [World.cell?, h]
theorem Mt.c3 {w : World} {g : Nat} {K : Bool} {a s b : Int} (h : Mt w g K a s b) : w.cell? ⟨g, 3, none⟩ = some (.int .i64 s) := by unfold Mt at h; simp [World.cell?, h]
theorem Mt.c4 {w : World} {g : Nat} {K : Bool} {a s b : Int} (h : Mt w g K a s b) : w.cell? ⟨g, 4, none⟩ = some (.int .i64 b) := by unfold Mt at h; simp [World.cell?, h]
theorem Mt.free {w : World} {g : Nat} {K : Bool} {a s b : Int} (h : Mt w g K a s b) (i : Nat) : w.frozen? ⟨g, i, none⟩ = false := frozen_of_row w g i _ _ h
theorem Mt.lt {w : World} {g : Nat} {K : Bool} {a s b : Int} (h : Mt w g K a s b) : g < w.heap.size := lt_of_block h
theorem Mt.s1 {w : World} {g : Nat} {K : Bool} {a s b : Int} (h : Mt w g K a s b) (x : Bool) : Mt (w.setCell ⟨g, 1, none⟩ (.bool x)) g x a s b := by
  unfold Mt at h ⊢; rw [heap_setCell_same w g 1 _ _ _ h]; rfl
theorem Mt.s2 {w : World} {g : Nat} {K : Bool} {a s b : Int} (h : Mt w g K a s b) (x : Int) : Mt (w.setCell ⟨g, 2, none⟩ (.int .i64 x)) g K x s b := by
  unfold Mt at h ⊢; rw [heap_setCell_same w g 2 _ _ _ h]; rfl
theorem Mt.s3 {w : World} {g : Nat} {K : Bool} {a s b : Int} (h : Mt w g K a s b) (x : Int) : Mt (w.setCell ⟨g, 3, none⟩ (.int .i64 x)) g K a x b := by
  unfold Mt at h ⊢; rw [heap_setCell_same w g 3 _ _ _ h]; rfl
theorem Mt.s4 {w : World} {g : Nat} {K : Bool} {a s b : Int} (h : Mt w g K a s b) (x : Int) : Mt (w.setCell ⟨g, 4, none⟩ (.int .i64 x)) g K a s x := by
  unfold Mt at h ⊢; rw [heap_setCell_same w g 4 _ _ _ h]; rfl
theorem Mt.drew {w : World} {g : Nat} {K : Bool} {a s b : Int} (h : Mt w g K a s b) : Mt w.drew g K a s b := h
theorem Mt.drewN {w : World} {g : Nat} {K : Bool} {a s b : Int} (h : Mt w g K a s b) (n : Nat) : Mt (w.drewN n) g K a s b := h
theorem Mt.below {w w' : World} {g : Nat} {K : Bool} {a s b : Int} (h : Mt w g K a s b) (hb : Below w.heap.size w w') : Mt w' g K a s b := (hb.block g h.lt).trans h

/-- What may stand in a meter. -/
structure Fit (K : Bool) (a s b : Int) : Prop where
  a0 : 0 ≤ a
  a1 : a ≤ 524288
  s0 : 0 ≤ s
  s1 : s ≤ 262144
  b0 : 0 ≤ b
  b1 : b ≤ 6

def absI (d : Int) : Int := if d < 0 then 0 - d else d
/-- Behind a measure. -/
def mA (K : Bool) (a n : Int) : Int := if K then a + (n - a / 8) else 8 * n
def mS (K : Bool) (a s n : Int) : Int := if K then s - s / 4 + absI (n - a / 8) else 2 * n
theorem Fit.measure {K : Bool} {a s b n : Int} (h : Fit K a s b) (h0 : 0 ≤ n) (h1 : n ≤ 65536) : Fit true (mA K a n) (mS K a s n) 0 := by
  obtain ⟨a0, a1, s0, s1, b0, b1⟩ := h
  have q1 : absI (n - a / 8) ≤ 65536 := by unfold absI; split <;> omega
  have q2 : 0 ≤ absI (n - a / 8) := by unfold absI; split <;> omega
  cases K
  · exact ⟨by simp [mA]; omega, by simp [mA]; omega, by simp [mS]; omega, by simp [mS]; omega, by omega, by omega⟩
  · exact ⟨by simp [mA]; omega, by simp [mA]; omega, by simp [mS]; omega, by simp [mS]; omega, by omega, by omega⟩
theorem Fit.back {K : Bool} {a s b : Int} (h : Fit K a s b) : Fit K a s (min (b + 1) 6) := ⟨h.a0, h.a1, h.s0, h.s1, by have := h.b0; omega, by omega⟩
/-- The wait ahead of being doubled. -/
def w0 (K : Bool) (a s : Int) : Int := if K then a / 8 + max 1 s else 4
def waitS (K : Bool) (a s b : Int) : Int := max 2 (min (w0 K a s * 2 ^ b.toNat) 64)

theorem new_any (w : World) : Calls Try.prog 6 #[] w fun e w' => e = .returned (.pointer (some ⟨w.heap.size, 0, none⟩)) ∧ w' = w.alloc (.cells #[.bool true, .bool false, .int .i64 0, .int .i64 0, .int .i64 0] 35) := by
  go_enter Try.func6, Try.ntmps6
  go_wp2
  go_ret
  exact ⟨rfl, rfl⟩
theorem none_nil (w : World) : Calls Try.prog 16 #[.pointer none] w fun e w' => e = .returned (.bool true) ∧ w = w' := by
  go_enter Try.func16, Try.ntmps16
  go_wp2
  go_ret
  exact ⟨rfl, rfl⟩
theorem none_cell (g : Nat) (m : Bool) (w : World) (h : w.cell? ⟨g, 0, none⟩ = some (.bool m)) : Calls Try.prog 16 #[.pointer (some ⟨g, 0, none⟩)] w fun e w' => e = .returned (.bool (!m)) ∧ w = w' := by
  go_enter Try.func16, Try.ntmps16
  go_wp2
  go_ret
  exact ⟨rfl, rfl⟩
theorem none_mt (g : Nat) (K : Bool) (a s b : Int) (w : World) (h : Mt w g K a s b) : Calls Try.prog 16 #[.pointer (some ⟨g, 0, none⟩)] w fun e w' => e = .returned (.bool false) ∧ w = w' :=
  (none_cell g true w h.c0).mono fun _ _ h => h
theorem begin_any (g : Nat) (K : Bool) (a s b n : Int) (w : World) (h : Mt w g K a s b) (n0 : 0 ≤ n) (n1 : n ≤ 65536) :
    Calls Try.prog 18 #[.pointer (some ⟨g, 0, none⟩), .int .i64 n] w fun e w' => e = .returned (.tuple #[]) ∧ Mt w' g true (8 * n) (2 * n) b ∧ Only g w w' := by
  have H := Lib.hid h
  have c1 := h.c1
  have f1 := h.free 1
  have c2 := (h.s1 true).c2
  have f2 := (h.s1 true).free 2
  have c3 := ((h.s1 true).s2 (8 * n)).c3
  have f3 := ((h.s1 true).s2 (8 * n)).free 3
  clear h
  go_enter Try.func18, Try.ntmps18
  go_wp2
  go_returns
  exact ⟨rfl, ((H.out.s1 true).s2 _).s3 _, (((Only.refl g w).setCell 1 _).setCell 2 _).setCell 3 _⟩
end Go.Proofs.Ytfchhadoiknleaa
