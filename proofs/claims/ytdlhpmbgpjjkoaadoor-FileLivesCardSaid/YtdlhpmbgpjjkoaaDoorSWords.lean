/-
  Proved here, for every block of 64 bytes: sha's words answers the 64 words that 'wordsS' says, and nothing that was there is changed.
-/
import Derived.Test.YtdlhpmbgpjjkoaaDoorSMem
import Derived.Deep.QuietTactic
import Derived.BigQuiet
import Derived.IntWalk
import Derived.Laws.CopyOwn
import Derived.StillTailTactics
import Derived.BigRegion
namespace Go.Proofs.YtdlhpmbgpjjkoaaDoor
open Go.RowKit
theorem u32_shlor' (x c : Nat) : bits .or .u32 ((x : Int) * 256 % 4294967296) ((c : Int) % 4294967296) = ((shlor x c : Nat) : Int) := by
  rw [show ((x : Int) * 256 % 4294967296) = ((x * 256 % 4294967296 : Nat) : Int) by omega, show (c : Int) % 4294967296 = ((c % 4294967296 : Nat) : Int) by omega, u32_or]
  unfold shlor or32
  rw [show (4294967296 : Nat) = 2 ^ 32 from rfl, Nat.or_mod_two_pow, Nat.or_mod_two_pow, Nat.mod_mod]
  simp
def wl1 (blk : List Nat) : Nat → List Nat
  | 0 => List.replicate 64 0
  | i + 1 => (wl1 blk i).set (i / 4) (shlor ((wl1 blk i).getD (i / 4) 0) (blk.getD i 0))
def sg0 (x : Nat) : Nat := xor32 (xor32 (rot32 7 x) (rot32 18 x)) (shr3 x)
def sg1 (x : Nat) : Nat := xor32 (xor32 (rot32 17 x) (rot32 19 x)) (shr10 x)
def wnext (p : List Nat) (k : Nat) : Nat := add32 (add32 (add32 (p.getD k 0) (p.getD (k + 9) 0)) (sg0 (p.getD (k + 1) 0))) (sg1 (p.getD (k + 14) 0))
def wl2 (l : List Nat) : Nat → List Nat
  | 0 => l
  | k + 1 => (wl2 l k).set (16 + k) (wnext (wl2 l k) k)
def wordsS (blk : List Nat) : List Nat := wl2 (wl1 blk 64) 48
theorem length_wl1 (blk : List Nat) : ∀ i, (wl1 blk i).length = 64
  | 0 => by simp [wl1]
  | i + 1 => by simp [wl1, length_wl1 blk i]
theorem length_wl2 (l : List Nat) (h : l.length = 64) : ∀ i, (wl2 l i).length = 64
  | 0 => h
  | i + 1 => by simp [wl2, length_wl2 l h i]
theorem length_wordsS (blk : List Nat) : (wordsS blk).length = 64 := length_wl2 _ (length_wl1 _ _) _
theorem zeros64 : (V32 (List.replicate 64 0)).toArray = #[.int .u32 0, .int .u32 0, .int .u32 0, .int .u32 0, .int .u32 0, .int .u32 0, .int .u32 0, .int .u32 0, .int .u32 0, .int .u32 0, .int .u32 0, .int .u32 0, .int .u32 0, .int .u32 0, .int .u32 0, .int .u32 0, .int .u32 0, .int .u32 0, .int .u32 0, .int .u32 0, .int .u32 0, .int .u32 0, .int .u32 0, .int .u32 0, .int .u32 0, .int .u32 0, .int .u32 0, .int .u32 0, .int .u32 0, .int .u32 0, .int .u32 0, .int .u32 0, .int .u32 0, .int .u32 0, .int .u32 0, .int .u32 0, .int .u32 0, .int .u32 0, .int .u32 0, .int .u32 0, .int .u32 0, .int .u32 0, .int .u32 0, .int .u32 0, .int .u32 0, .int .u32 0, .int .u32 0, .int .u32 0, .int .u32 0, .int .u32 0, .int .u32 0, .int .u32 0, .int .u32 0, .int .u32 0, .int .u32 0, .int .u32 0, .int .u32 0, .int .u32 0, .int .u32 0, .int .u32 0, .int .u32 0, .int .u32 0, .int .u32 0, .int .u32 0] := by kernel_rfl
theorem info35 : (Tryd.prog.info? 83).map (·.size) = some 64 := by kernel_rfl
theorem info72 : (Tryd.prog.info? 89).map (·.size) = some 64 := by kernel_rfl
theorem agg5 : ∀ w, (isAgg 5).run Tryd.prog w = .ok false w := fun _ => by kernel_rfl
theorem size5 : ∀ w, (sizeOf 5).run Tryd.prog w = .ok 1 w := fun _ => by kernel_rfl
theorem ix35 (l : List Nat) (hl : l.length = 64) (i : Nat) (hi : i < 64) (w : World) : (Instr.index 83 (.agg (V8 l).toArray) (.int .i64 (i : Int))).run Tryd.prog w = .ok (.int .u8 (l.getD i 0 : Nat)) w :=
  ix_agg w 83 5 64 _ i _ Tryd.underlying83 agg5 size5 hi (by simpa using V8_get (by omega))
/-- A block that holds an array of words. -/
def Blk32 (w : World) (g : Nat) (t : TypeId) (l : List Nat) : Prop := w.heap[g]? = some (.cells (V32 l).toArray t (0, 0))
theorem Blk32.cell {w : World} {g : Nat} {t : TypeId} {l : List Nat} (h : Blk32 w g t l) {i : Nat} (hi : i < l.length) : w.cell? ⟨g, i, none⟩ = some (.int .u32 (l.getD i 0 : Nat)) := by
  rw [cell_of_row w g i _ t _ h]; simpa using V32_get hi
theorem Blk32.free {w : World} {g : Nat} {t : TypeId} {l : List Nat} (h : Blk32 w g t l) (i : Nat) : w.frozen? ⟨g, i, none⟩ = false := frozen_of_row w g i _ t h
theorem Blk32.set {w : World} {g : Nat} {t : TypeId} {l : List Nat} (h : Blk32 w g t l) (i v : Nat) : Blk32 (w.setCell ⟨g, i, none⟩ (.int .u32 (v : Int))) g t (l.set i v) := by
  unfold Blk32
  rw [heap_setCell_same w g i _ t _ h]
  simp [← V32_set]
theorem Blk32.other {w : World} {g : Nat} {t : TypeId} {l : List Nat} (h : Blk32 w g t l) (a : Addr) (v : Value) (ha : g ≠ a.block) : Blk32 (w.setCell a v) g t l := (heap_setCell_other w a g v ha).trans h
theorem Blk32.drew {w : World} {g : Nat} {t : TypeId} {l : List Nat} (h : Blk32 w g t l) : Blk32 w.drew g t l := h

theorem old_block (w : World) (o : Obj) (i : Nat) (h : i < w.heap.size) : (w.alloc o).heap[i]? = w.heap[i]? := by
  show (w.heap.push o)[i]? = w.heap[i]?
  rw [Array.getElem?_push, if_neg (Nat.ne_of_lt h)]
theorem new_block (w : World) (o : Obj) (i : Nat) (h : i = w.heap.size) : (w.alloc o).heap[i]? = some o := by
  subst h
  show (w.heap.push o)[w.heap.size]? = some o
  simp
def W2 (w : World) (blk : List Nat) (i : Nat) (wr : World) : Prop := Blk32 wr (w.heap.size + 1 + 1) 89 (wl2 (wl1 blk 64) i) ∧ Blk32 wr (w.heap.size + 1) 89 (List.replicate 64 0) ∧ wr.heap.size = w.heap.size + 3 ∧ Below w.heap.size w wr
theorem W2.drewN {w : World} {blk : List Nat} {i : Nat} {wr : World} (h : W2 w blk i wr) {n : Nat} : W2 w blk i (wr.drewN n) := ⟨h.1, h.2.1, h.2.2.1, belowN h.2.2.2 n⟩
def W1 (w : World) (blk : List Nat) (i : Nat) (wr : World) : Prop := Blk32 wr (w.heap.size + 1 + 1) 89 (wl1 blk i) ∧ Blk32 wr (w.heap.size + 1) 89 (List.replicate 64 0) ∧ wr.heap.size = w.heap.size + 3 ∧ Below w.heap.size w wr

set_option maxRecDepth 100000 in
set_option maxHeartbeats 1000000 in
theorem words_any (blk : List Nat) (w : World) (hl : blk.length = 64) : Calls Tryd.prog 53 #[.agg (V8 blk).toArray] w fun e w' => e = .returned (.agg (V32 (wordsS blk)).toArray) ∧ Below w.heap.size w w' := by
  have HL := Lib.hid hl
  have hsz : (V8 blk).toArray.size = 64 := by simp [hl]
  have HI : (Tryd.prog.info? 83).map (·.size) = some (V8 blk).toArray.size := by rw [hsz]; exact info35
  have HII := Lib.hid HI
  clear HI hsz hl
  go_enter Tryd.func53, Tryd.ntmps53
  go_wp2_with (refine wpList_load_row rfl 83 _ rfl w.heap.size rfl 83 (V8 blk).toArray (0,0) _ ?hg Tryd.underlying83 rfl HII.out ?_)
  case hg => exact (old_block _ _ _ (by simp; omega)).trans ((old_block _ _ _ (by simp)).trans (heap_alloc_new _ _))
  go_loopw [4, 5, 12] (fun _ _ i wr => ∃ k : Nat, k ≤ 64 ∧ i = .int .i64 k ∧ Hid (W1 w blk k wr)) (fun _ _ i _ => 64 - (intOf i).toNat)
  case atStart =>
    refine ⟨0, by omega, rfl, Lib.hid ⟨?_, ?_, by simp, ?_⟩⟩
    · exact (new_block _ _ _ (by simp)).trans (congrArg (fun c => some (Obj.cells c 89 (0, 0))) zeros64.symm)
    · exact (old_block _ _ _ (by simp)).trans ((new_block _ _ _ (by simp)).trans (congrArg (fun c => some (Obj.cells c 89 (0, 0))) zeros64.symm))
    · exact (((Below.refl _ _).alloc (Nat.le_refl _) _).alloc (by simp) _).alloc (by simp; omega) _
  case round =>
    obtain ⟨k, hk, rfl, hrel⟩ := hrel
    by_cases hlt : k < 64
    · have hb := hrel.out.1
      have c0 := hb.cell (i := k / 4) (by rw [length_wl1]; omega)
      have f0 := hb.free (k / 4)
      clear hb
      obtain ⟨x, hx⟩ : ∃ x, (wl1 blk k).getD (k / 4) 0 = x := ⟨_, rfl⟩
      rw [hx] at c0
      have HX := Lib.hid hx
      clear hx
      have ix := ix35 blk HL.out k hlt
      obtain ⟨c, hc⟩ : ∃ c, blk.getD k 0 = c := ⟨_, rfl⟩
      rw [hc] at ix
      have HC := Lib.hid hc
      clear hc
      have so := u32_shlor'
      go_wp2
      go_roundw
      case rel =>
        refine ⟨k + 1, by omega, by go_num, Lib.hid ?_⟩
        obtain ⟨h1, h2, h3, h4⟩ := hrel.out
        refine ⟨?_, h2.other _ _ (by simp), by simp [h3], h4.setCell (by simp; omega) _⟩
        have := h1.set (k / 4) (shlor x c)
        rw [← HX.out, ← HC.out] at this ⊢
        exact this
      case measure => simp [intOf]; omega
    · obtain rfl : k = 64 := by omega
      rw [show ((64 : Nat) : Int) = (64 : Int) from rfl]
      go_wp2
      go_loopw [6, 7, 8, 9, 10] (fun i _ _ _ _ wr => ∃ j : Nat, 16 ≤ j ∧ j ≤ 64 ∧ i = .int .i64 (j : Int) ∧ Hid (W2 w blk (j - 16) wr)) (fun i _ _ _ _ _ => 64 - (intOf i).toNat)
      case atStart =>
        obtain ⟨h1, h2, h3, h4⟩ := hrel.out
        exact ⟨16, by omega, by omega, rfl, Lib.hid ⟨h1, h2, h3, h4⟩⟩
      case round =>
        obtain ⟨j, hj0, hj, rfl, hrel2⟩ := hrel
        by_cases hlt : j < 64
        · have hb := hrel2.out.1
          have c0 := hb.cell (i := j - 16) (by rw [length_wl2 _ (length_wl1 _ _)]; omega)
          have c1 := hb.cell (i := j - 15) (by rw [length_wl2 _ (length_wl1 _ _)]; omega)
          have c2 := hb.cell (i := j - 7) (by rw [length_wl2 _ (length_wl1 _ _)]; omega)
          have c3 := hb.cell (i := j - 2) (by rw [length_wl2 _ (length_wl1 _ _)]; omega)
          have f0 := hb.free j
          have cj := hb.cell (i := j) (by rw [length_wl2 _ (length_wl1 _ _)]; omega)
          clear hb
          obtain ⟨x0, hx0⟩ : ∃ x, (wl2 (wl1 blk 64) (j - 16)).getD (j - 16) 0 = x := ⟨_, rfl⟩
          obtain ⟨x1, hx1⟩ : ∃ x, (wl2 (wl1 blk 64) (j - 16)).getD (j - 15) 0 = x := ⟨_, rfl⟩
          obtain ⟨x2, hx2⟩ : ∃ x, (wl2 (wl1 blk 64) (j - 16)).getD (j - 7) 0 = x := ⟨_, rfl⟩
          obtain ⟨x3, hx3⟩ : ∃ x, (wl2 (wl1 blk 64) (j - 16)).getD (j - 2) 0 = x := ⟨_, rfl⟩
          obtain ⟨xj, hxj⟩ : ∃ x, (wl2 (wl1 blk 64) (j - 16)).getD j 0 = x := ⟨_, rfl⟩
          rw [hx0] at c0
          rw [hx1] at c1
          rw [hx2] at c2
          rw [hx3] at c3
          rw [hxj] at cj
          have HX0 := Lib.hid hx0
          have HX1 := Lib.hid hx1
          have HX2 := Lib.hid hx2
          have HX3 := Lib.hid hx3
          clear hx0 hx1 hx2 hx3 hxj
          have s15 : IntKind.i64.wrap ((j : Int) - 15) = (j : Int) - 15 := IntWalk.i64_in _ (by omega)
          have s2 : IntKind.i64.wrap ((j : Int) - 2) = (j : Int) - 2 := IntWalk.i64_in _ (by omega)
          have s16 : IntKind.i64.wrap ((j : Int) - 16) = (j : Int) - 16 := IntWalk.i64_in _ (by omega)
          have s7 : IntKind.i64.wrap ((j : Int) - 7) = (j : Int) - 7 := IntWalk.i64_in _ (by omega)
          have n15 : ((j : Int) - 15).toNat = j - 15 := by omega
          have n2 : ((j : Int) - 2).toNat = j - 2 := by omega
          have n16 : ((j : Int) - 16).toNat = j - 16 := by omega
          have n7 : ((j : Int) - 7).toNat = j - 7 := by omega
          have p15 : (0 : Int) ≤ (j : Int) - 15 := by omega
          have p2 : (0 : Int) ≤ (j : Int) - 2 := by omega
          have p16 : (0 : Int) ≤ (j : Int) - 16 := by omega
          have p7 : (0 : Int) ≤ (j : Int) - 7 := by omega
          have q15 : (j : Int) - 15 < 64 := by omega
          have q2 : (j : Int) - 2 < 64 := by omega
          have q16 : (j : Int) - 16 < 64 := by omega
          have q7 : (j : Int) - 7 < 64 := by omega
          have ha := u32_add
          have hx := u32_xor
          have h3 := u32_shr3
          have h10 := u32_shr10
          go_wp2
          go_quiet (fail)
          go_wp2_with (first | (go_at_call 54; (first | (with_reducible refine (turn7 x1 _).mono ?_) | (with_reducible refine (turn18 x1 _).mono ?_) | (with_reducible refine (turn17 x3 _).mono ?_) | (with_reducible refine (turn19 x3 _).mono ?_)); rintro e w' ⟨rfl, rfl⟩))
          have e0 : (wr.drewN nq).cell? ⟨w.heap.size + 1 + 1, j - 16, none⟩ = some (.int .u32 (x0 : Int)) := c0
          have e2 : (wr.drewN nq).cell? ⟨w.heap.size + 1 + 1, j - 7, none⟩ = some (.int .u32 (x2 : Int)) := c2
          have ej : (wr.drewN nq).cell? ⟨w.heap.size + 1 + 1, j, none⟩ = some (.int .u32 (xj : Int)) := cj
          have ef : (wr.drewN nq).frozen? ⟨w.heap.size + 1 + 1, j, none⟩ = false := f0
          have R2 : Hid (W2 w blk (j - 16) (wr.drewN nq)) := Lib.hid hrel2.out.drewN
          clear c0 c1 c2 c3 cj f0 hrel2 hx h3 h10 s15 s2 n15 n2 p15 p2 q15 q2
          generalize wr.drewN nq = wq at e0 e2 ej ef R2 ⊢
          go_region
          go_wp2
          go_roundw
          case rel =>
            refine ⟨j + 1, by omega, by omega, by go_num, Lib.hid ?_⟩
            obtain ⟨h1, h2, h3, h4⟩ := R2.out
            have hn : j + 1 - 16 = (j - 16) + 1 := by omega
            rw [hn]
            refine ⟨?_, h2.other _ _ (by simp), by simp [h3], (h4.setCell (by simp only []; omega) _).drew⟩
            have := h1.set j (wnext (wl2 (wl1 blk 64) (j - 16)) (j - 16))
            rw [wl2, show 16 + (j - 16) = j by omega]
            unfold wnext sg0 sg1 at this ⊢
            rw [show j - 16 + 9 = j - 7 by omega, show j - 16 + 1 = j - 15 by omega, show j - 16 + 14 = j - 2 by omega, HX0.out, HX1.out, HX2.out, HX3.out] at this ⊢
            exact this
          case measure => simp [intOf]; omega
        · obtain rfl : j = 64 := by omega
          obtain ⟨h1, h2, h3, h4⟩ := hrel2.out
          have hsz : (Tryd.prog.info? 89).map (·.size) = some (V32 (wordsS blk)).toArray.size := by rw [show (V32 (wordsS blk)).toArray.size = 64 by simp [length_wordsS]]; exact info72
          have HS := Lib.hid hsz
          have H1 := Lib.hid h1
          have H2 := Lib.hid h2
          clear h1 h2 h3 hsz
          go_wp2_with (first | refine wpList_load_row rfl 89 _ rfl (w.heap.size + 1 + 1) rfl 89 (V32 (wordsS blk)).toArray (0,0) _ H1.out Tryd.underlying89 rfl HS.out ?_ | refine wpList_store_row rfl 89 _ _ rfl (w.heap.size + 1) _ rfl rfl 89 (V32 (List.replicate 64 0)).toArray H2.out HS.out ?c1 ?c2 ?_)
          case c1 => simp [length_wordsS]
          case c2 => simpa using one_V32 (wordsS blk)
          refine bodyPost_ret (v := .agg (V32 (wordsS blk)).toArray) (results_cell_row (p := 2) (ty := 89) Tryd.results53 _ _ (w.heap.size + 1) 89 _ (0, 0) _ rfl (setRow_heap _ _ _ _ _ _ H2.out) Tryd.underlying89 rfl HS.out) rfl ⟨rfl, ?_⟩
          exact below_setRow h4 (by omega) _
end Go.Proofs.YtdlhpmbgpjjkoaaDoor
