/-
  Proved here, for every peer of New, of whatever numbers that may be: New, isNone, isSilent, Newest, From, Moves and Heard; nothing is changed.
-/
import Derived.Test.YtjbnoggmnfannaaProg
import Derived.WalkKit
import Derived.Handy
import Derived.Lib.Hide
import Derived.RegionTactic
import Derived.ChangeAlike
import Derived.Deep.QuietTactic
import Derived.BigQuiet
import Derived.Deep.RegionHeld
import Derived.Deep.RegionHeld3
import Derived.BigRegion
import Derived.WalkSpells
import Derived.IntWalk
import Derived.WalkLawsBesides
import Derived.Below
import Derived.OneCell
import Derived.Laws.Rows
namespace Go.Proofs.Ytjbnoggmnfannaa
open Go.RowKit
/-- Of the blocks that there were, g alone may be another one. -/
structure Only (g : Nat) (w w' : World) : Prop where
  os : w'.os = w.os
  tape : w'.tape = w.tape
  output : w'.output = w.output
  size : w.heap.size ≤ w'.heap.size
  block : ∀ k, k < w.heap.size → k ≠ g → w'.heap[k]? = w.heap[k]?
theorem Only.refl (g : Nat) (w : World) : Only g w w := ⟨rfl, rfl, rfl, Nat.le_refl _, fun _ _ _ => rfl⟩
theorem Only.trans {g : Nat} {a b c : World} (h : Only g a b) (k : Only g b c) : Only g a c :=
  ⟨k.os.trans h.os, k.tape.trans h.tape, k.output.trans h.output, Nat.le_trans h.size k.size, fun i hi hg => (k.block i (Nat.lt_of_lt_of_le hi h.size) hg).trans (h.block i hi hg)⟩
theorem Only.setCell {g : Nat} {a w : World} (h : Only g a w) (i : Nat) (v : Value) : Only g a (w.setCell ⟨g, i, none⟩ v) :=
  h.trans ⟨rfl, rfl, rfl, by simp, fun k _ hk => heap_setCell_other w ⟨g, i, none⟩ k v hk⟩
theorem Only.drew {g : Nat} {a w : World} (h : Only g a w) : Only g a w.drew := ⟨h.os, h.tape, h.output, h.size, h.block⟩
theorem Only.drewN {g : Nat} {a w : World} (h : Only g a w) (n : Nat) : Only g a (w.drewN n) := ⟨h.os, h.tape, h.output, h.size, h.block⟩
theorem Only.below {B g : Nat} {a w w' : World} (h : Only g w w') (hb : Below B a w) (hg : B ≤ g) (hB : B ≤ w.heap.size) : Below B a w' :=
  ⟨h.os.trans hb.os, h.tape.trans hb.tape, h.output.trans hb.output, Nat.le_trans hb.size h.size, fun k hk => (h.block k (by omega) (by omega)).trans (hb.block k hk)⟩
theorem old_block (w : World) (o : Obj) (i : Nat) (h : i < w.heap.size) : (w.alloc o).heap[i]? = w.heap[i]? := by
  show (w.heap.push o)[i]? = w.heap[i]?
  rw [Array.getElem?_push, if_neg (Nat.ne_of_lt h)]
theorem new_block (w : World) (o : Obj) (i : Nat) (h : i = w.heap.size) : (w.alloc o).heap[i]? = some o := by
  subst h; exact heap_alloc_new w o

/-- A peer in block g: the greatest nonce, the window's bits, the address, the moves. -/
def Pr (w : World) (g : Nat) (N H F M : Int) : Prop := w.heap[g]? = some (.cells #[.bool true, .int .u64 N, .int .u64 H, .int .u32 F, .int .i64 M] 45 (0, 0))
section
variable {w : World} {g : Nat} {N H F M : Int}
theorem Pr.c0 (h : Pr w g N H F M) : w.cell? ⟨g, 0, none⟩ = some (.bool true) := by unfold Pr at h; simp [World.cell?, h]
theorem Pr.c1 (h : Pr w g N H F M) : w.cell? ⟨g, 1, none⟩ = some (.int .u64 N) := by unfold Pr at h; simp [World.cell?, h]
theorem Pr.c2 (h : Pr w g N H F M) : w.cell? ⟨g, 2, none⟩ = some (.int .u64 H) := by unfold Pr at h; simp [World.cell?, h]
theorem Pr.c3 (h : Pr w g N H F M) : w.cell? ⟨g, 3, none⟩ = some (.int .u32 F) := by unfold Pr at h; simp [World.cell?, h]
theorem Pr.c4 (h : Pr w g N H F M) : w.cell? ⟨g, 4, none⟩ = some (.int .i64 M) := by unfold Pr at h; simp [World.cell?, h]
theorem Pr.free (h : Pr w g N H F M) (i : Nat) : w.frozen? ⟨g, i, none⟩ = false := frozen_of_row w g i _ _ h
theorem Pr.lt (h : Pr w g N H F M) : g < w.heap.size := lt_of_block h
theorem Pr.s1 (h : Pr w g N H F M) (x : Int) : Pr (w.setCell ⟨g, 1, none⟩ (.int .u64 x)) g x H F M := by
  unfold Pr at h ⊢; rw [heap_setCell_same w g 1 _ _ _ h]; rfl
theorem Pr.s2 (h : Pr w g N H F M) (x : Int) : Pr (w.setCell ⟨g, 2, none⟩ (.int .u64 x)) g N x F M := by
  unfold Pr at h ⊢; rw [heap_setCell_same w g 2 _ _ _ h]; rfl
theorem Pr.s3 (h : Pr w g N H F M) (x : Int) : Pr (w.setCell ⟨g, 3, none⟩ (.int .u32 x)) g N H x M := by
  unfold Pr at h ⊢; rw [heap_setCell_same w g 3 _ _ _ h]; rfl
theorem Pr.s4 (h : Pr w g N H F M) (x : Int) : Pr (w.setCell ⟨g, 4, none⟩ (.int .i64 x)) g N H F x := by
  unfold Pr at h ⊢; rw [heap_setCell_same w g 4 _ _ _ h]; rfl
theorem Pr.drew (h : Pr w g N H F M) : Pr w.drew g N H F M := h
theorem Pr.drewN (h : Pr w g N H F M) (n : Nat) : Pr (w.drewN n) g N H F M := h
theorem Pr.below {w' : World} (h : Pr w g N H F M) (hb : Below w.heap.size w w') : Pr w' g N H F M := (hb.block g h.lt).trans h
end

theorem new_any (w : World) : Calls Try.prog 7 #[] w fun e w' => e = .returned (.pointer (some ⟨w.heap.size, 0, none⟩)) ∧ w' = w.alloc (.cells #[.bool true, .int .u64 0, .int .u64 0, .int .u32 0, .int .i64 0] 45) := by
  go_enter Try.func7, Try.ntmps7
  go_wp2
  go_ret
  exact ⟨rfl, rfl⟩
theorem none_nil (w : World) : Calls Try.prog 17 #[.pointer none] w fun e w' => e = .returned (.bool true) ∧ w = w' := by
  go_enter Try.func17, Try.ntmps17
  go_wp2
  go_ret
  exact ⟨rfl, rfl⟩
theorem none_pr (g : Nat) (N H F M : Int) (w : World) (h : Pr w g N H F M) : Calls Try.prog 17 #[.pointer (some ⟨g, 0, none⟩)] w fun e w' => e = .returned (.bool false) ∧ w = w' := by
  have c0 := h.c0
  have c1 := h.c1
  have c2 := h.c2
  have c3 := h.c3
  have c4 := h.c4
  clear h
  go_enter Try.func17, Try.ntmps17
  go_wp2
  go_ret
  exact ⟨rfl, rfl⟩
end Go.Proofs.Ytjbnoggmnfannaa
