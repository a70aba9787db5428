/-
  Proved here, for every state: sha's stateBytes answers its 32 bytes, as 'outS' says, and nothing that was there is changed.
-/
import Derived.Test.YtdlhpmbgpjjkoaaDoorSInto
namespace Go.Proofs.YtdlhpmbgpjjkoaaDoor
open Go.RowKit
/-- A block that holds an array of bytes. -/
def Blk8 (w : World) (g : Nat) (t : TypeId) (l : List Nat) : Prop := w.heap[g]? = some (.cells (V8 l).toArray t (0, 0))
theorem Blk8.cell {w : World} {g : Nat} {t : TypeId} {l : List Nat} (h : Blk8 w g t l) {i : Nat} (hi : i < l.length) : w.cell? ⟨g, i, none⟩ = some (.int .u8 (l.getD i 0 : Nat)) := by
  rw [cell_of_row w g i _ t _ h]; simpa using V8_get hi
theorem Blk8.free {w : World} {g : Nat} {t : TypeId} {l : List Nat} (h : Blk8 w g t l) (i : Nat) : w.frozen? ⟨g, i, none⟩ = false := frozen_of_row w g i _ t h
theorem Blk8.set {w : World} {g : Nat} {t : TypeId} {l : List Nat} (h : Blk8 w g t l) (i v : Nat) : Blk8 (w.setCell ⟨g, i, none⟩ (.int .u8 (v : Int))) g t (l.set i v) := by
  unfold Blk8
  rw [heap_setCell_same w g i _ t _ h]
  simp [← V8_set]
theorem Blk8.other {w : World} {g : Nat} {t : TypeId} {l : List Nat} (h : Blk8 w g t l) (a : Addr) (v : Value) (ha : g ≠ a.block) : Blk8 (w.setCell a v) g t l := (heap_setCell_other w a g v ha).trans h

def by0 (x : Nat) : Nat := x / 16777216 % 256
def by1 (x : Nat) : Nat := x / 65536 % 256
def by2 (x : Nat) : Nat := x / 256 % 256
def by3 (x : Nat) : Nat := x % 256
theorem u8_by0 (x : Nat) : (x : Int) / 16777216 % 256 = ((by0 x : Nat) : Int) := by unfold by0; omega
theorem u8_by1 (x : Nat) : (x : Int) / 65536 % 256 = ((by1 x : Nat) : Int) := by unfold by1; omega
theorem u8_by2 (x : Nat) : (x : Int) / 256 % 256 = ((by2 x : Nat) : Int) := by unfold by2; omega
theorem u8_by3 (x : Nat) : (x : Int) % 256 = ((by3 x : Nat) : Int) := by unfold by3; omega
def byAt (x j : Nat) : Nat := match j with | 0 => by0 x | 1 => by1 x | 2 => by2 x | _ => by3 x
/-- The first n bytes of a state are laid. -/
def sb (l : List Nat) : Nat → List Nat
  | 0 => List.replicate 32 0
  | n + 1 => (sb l n).set n (byAt (l.getD (n / 4) 0) (n % 4))
theorem length_sb (l : List Nat) : ∀ n, (sb l n).length = 32
  | 0 => by simp [sb]
  | n + 1 => by simp [sb, length_sb l n]
/-- A state's bytes. -/
def outS (s : S8) : List Nat := sb s.list 32
theorem info29 : (Tryd.prog.info? 32).map (·.size) = some 32 := by kernel_rfl
structure Z0 (w : World) (l : List Nat) (W : World) : Prop where
  sum : Blk8 W (w.heap.size + 1 + 1) 32 l
  ans : Blk8 W (w.heap.size + 1) 32 (List.replicate 32 0)
  size : W.heap.size = w.heap.size + 3
  below : Below w.heap.size w W
theorem Z0.set {w : World} {l : List Nat} {W : World} (h : Z0 w l W) (i v : Nat) : Z0 w (l.set i v) (W.setCell ⟨w.heap.size + 1 + 1, i, none⟩ (.int .u8 (v : Int))) :=
  ⟨h.sum.set i v, h.ans.other _ _ (by simp only [ne_eq]; omega), by simp [h.size], h.below.setCell (by simp only []; omega) _⟩
theorem ix34l (S : S8) (i : Nat) (hi : i < 8) (w : World) : (Instr.index 82 (.agg (V32 S.list).toArray) (.int .i64 (i : Int))).run Tryd.prog w = .ok (.int .u32 (S.list.getD i 0 : Nat)) w :=
  ix_agg w 82 81 8 (V32 S.list).toArray i _ Tryd.underlying82 agg33 size33 hi (by simpa using V32_get (l := S.list) (i := i) hi)

set_option maxRecDepth 100000 in
set_option maxHeartbeats 1000000 in
theorem stateBytes_any (s : S8) (w : World) : Calls Tryd.prog 52 #[.agg (V32 s.list).toArray] w fun e w' => e = .returned (.agg (V8 (outS s)).toArray) ∧ Below w.heap.size w w' := by
  have HI := Lib.hid (show (Tryd.prog.info? 82).map (·.size) = some (V32 s.list).toArray.size from info34)
  go_enter Tryd.func52, Tryd.ntmps52
  go_wp2_with (refine wpList_load_row rfl 82 _ rfl w.heap.size rfl 82 (V32 s.list).toArray (0,0) _ ?hg Tryd.underlying82 rfl HI.out ?_)
  case hg => exact (old_block _ _ _ (by simp; omega)).trans ((old_block _ _ _ (by simp)).trans (heap_alloc_new _ _))
  clear HI
  go_loopw [4, 5, 6, 8, 12] (fun _ _ _ i _ wr => ∃ k : Nat, k ≤ 8 ∧ i = .int .i64 k ∧ Hid (Z0 w (sb s.list (4 * k)) wr)) (fun _ _ _ i _ _ => 8 - (intOf i).toNat)
  case atStart =>
    refine ⟨0, by omega, rfl, Lib.hid ⟨new_block _ _ _ (by simp), (old_block _ _ _ (by simp)).trans (new_block _ _ _ (by simp)), by simp, (((Below.refl _ _).alloc (Nat.le_refl _) _).alloc (by simp) _).alloc (by simp; omega) _⟩⟩
  case round =>
    obtain ⟨k, hk, rfl, HZ⟩ := hrel
    by_cases hlt : k < 8
    · have ix := ix34l s k hlt
      obtain ⟨x, hx⟩ : ∃ x, s.list.getD k 0 = x := ⟨_, rfl⟩
      rw [hx] at ix
      have HX := Lib.hid hx
      clear hx
      have hsz : ∀ n, (sb s.list n).length = 32 := length_sb s.list
      have c0 := HZ.out.sum.cell (i := 4 * k) (by rw [hsz]; omega)
      have c1 := HZ.out.sum.cell (i := 4 * k + 1) (by rw [hsz]; omega)
      have c2 := HZ.out.sum.cell (i := 4 * k + 2) (by rw [hsz]; omega)
      have c3 := HZ.out.sum.cell (i := 4 * k + 3) (by rw [hsz]; omega)
      have f0 := HZ.out.sum.free (4 * k)
      have f1 := HZ.out.sum.free (4 * k + 1)
      have f2 := HZ.out.sum.free (4 * k + 2)
      have f3 := HZ.out.sum.free (4 * k + 3)
      clear hsz
      have r0 := u8_by0
      have r1 := u8_by1
      have r2 := u8_by2
      have r3 := u8_by3
      go_wp2
      go_rounds 5
      go_roundw
      case rel =>
        refine ⟨k + 1, by omega, by go_num, Lib.hid ?_⟩
        have h4 := (((HZ.out.set (4 * k) (by0 x)).set (4 * k + 1) (by1 x)).set (4 * k + 2) (by2 x)).set (4 * k + 3) (by3 x)
        rw [show 4 * (k + 1) = 4 * k + 1 + 1 + 1 + 1 by omega, sb, sb, sb, sb]
        rw [show 4 * k / 4 = k by omega, show (4 * k + 1) / 4 = k by omega, show (4 * k + 1 + 1) / 4 = k by omega, show (4 * k + 1 + 1 + 1) / 4 = k by omega, show 4 * k % 4 = 0 by omega, show (4 * k + 1) % 4 = 1 by omega, show (4 * k + 1 + 1) % 4 = 2 by omega, show (4 * k + 1 + 1 + 1) % 4 = 3 by omega, HX.out]
        exact h4
      case measure => simp [intOf]; omega
    · obtain rfl : k = 8 := by omega
      have hsz : (Tryd.prog.info? 32).map (·.size) = some (V8 (outS s)).toArray.size := by rw [show (V8 (outS s)).toArray.size = 32 by simp [outS, length_sb]]; exact info29
      have HS := Lib.hid hsz
      clear hsz
      have HZ1 := Lib.hid (show Z0 w (outS s) wr from HZ.out)
      clear HZ
      have HA := Lib.hid (show ((List.replicate 32 0).length = (outS s).length) by simp [outS, length_sb])
      go_wp2_with (first | refine wpList_load_row rfl 32 _ rfl (w.heap.size + 1 + 1) rfl 32 (V8 (outS s)).toArray (0,0) _ HZ1.out.sum Tryd.underlying32 rfl HS.out ?_ | refine wpList_store_row rfl 32 _ _ rfl (w.heap.size + 1) _ rfl rfl 32 (V8 (List.replicate 32 0)).toArray HZ1.out.ans HS.out ?c1 ?c2 ?_)
      case c1 => simpa using HA.out
      case c2 => simpa using one_V8 (outS s)
      exact bodyPost_ret (v := .agg (V8 (outS s)).toArray) (results_cell_row (p := 2) (ty := 32) Tryd.results52 _ _ (w.heap.size + 1) 32 _ (0, 0) _ rfl (setRow_heap _ _ _ _ _ _ HZ1.out.ans) Tryd.underlying32 rfl HS.out) rfl ⟨rfl, below_setRow HZ1.out.below (by omega) _⟩
end Go.Proofs.YtdlhpmbgpjjkoaaDoor
