/-
  Proved here: of the program's styles: changeByOne.
-/
import Derived.Test.YtohhmpkmcodoeaaDoorZa
import Derived.BigRegion
set_option linter.unusedSimpArgs false
set_option linter.unusedVariables false
namespace Go.Proofs.YtohhmpkmcodoeaaDoor
open Go.RowKit
/-- The table of flags, as it lies in memory. -/
structure FT (w : World) : Prop where
  cell : ∀ y : Nat, y < 10 → w.cell? ⟨0, y, none⟩ = some (.int .u8 (flT (y : Int)))
  big : 0 < w.heap.size
theorem FT.below {B : Nat} {w w' : World} (h : FT w) (hb : Below B w w') (hB : 0 < B) : FT w' :=
  ⟨fun y hy => (hb.cell hB).trans (h.cell y hy), Nat.lt_of_lt_of_le h.big hb.size⟩

theorem cell2 (w : World) (a b c : Value) (t : TypeId) (o : Obj) : ((w.alloc (.cells #[a, b, c] t)).alloc o).cell? ⟨w.heap.size, 0, none⟩ = some a := by
  have h : ((w.alloc (.cells #[a, b, c] t)).alloc o).heap[w.heap.size]? = some (.cells #[a, b, c] t (0, 0)) := (heap_alloc_old _ _ (by simp)).trans (heap_alloc_new _ _)
  unfold World.cell?
  simp only [h]
  rfl
theorem free2 (w : World) (C : Array Value) (t : TypeId) (o : Obj) : ((w.alloc (.cells C t)).alloc o).frozen? ⟨w.heap.size, 0, none⟩ = false :=
  frozen_of_row _ _ 0 C t ((heap_alloc_old _ _ (by simp)).trans (heap_alloc_new _ _))
theorem old2 {w : World} {o1 o2 : Obj} {a : Addr} {v : Value} (h : w.cell? a = some v) (ha : a.block < w.heap.size) : ((w.alloc o1).alloc o2).cell? a = some v :=
  (((Below.refl _ _).alloc (Nat.le_refl _) o1).alloc (by simp) o2 |>.cell ha).trans h

set_option maxHeartbeats 1000000 in
theorem p_one_0 (f fg bg n : Int) (w : World) (hT : FT w) (f0 : 0 ≤ f) (f1 : f < 256) (g0 : 0 ≤ fg) (g1 : fg < 4294967296) (b0 : 0 ≤ bg) (b1 : bg < 4294967296) (hn : n = 0) :
    Calls Tryd.prog 26 #[.agg #[.int .u8 f, .int .u32 fg, .int .u32 bg], .int .i64 n] w fun e w' => e = .returned (.agg #[.int .u8 0, .int .u32 0, .int .u32 0]) ∧ Below w.heap.size w w' := by
  have hbig := hT.big
  subst hn
  clear hT
  go_enter Tryd.func26, Tryd.ntmps26
  go_wp2
  exact bodyPost_ret (v := .agg #[.int .u8 0, .int .u32 0, .int .u32 0]) (results_cell_row (p := 4) (ty := 24) Tryd.results26 _ _ (w.heap.size + 1) 24 #[.int .u8 0, .int .u32 0, .int .u32 0] (0, 0) _ rfl (by first | exact heap_alloc2_new _ _ _) Tryd.underlying24 rfl (by kernel_rfl)) rfl ⟨rfl, by first | exact ((Below.refl _ _).alloc (Nat.le_refl _) _).alloc (by simp) _ | exact (((Below.refl _ _).alloc (Nat.le_refl _) _).alloc (by simp) _).drew⟩

set_option maxHeartbeats 1000000 in
theorem p_one_set (f fg bg n : Int) (w : World) (hT : FT w) (f0 : 0 ≤ f) (f1 : f < 256) (g0 : 0 ≤ fg) (g1 : fg < 4294967296) (b0 : 0 ≤ bg) (b1 : bg < 4294967296) (y : Nat) (hy : n = (y : Int)) (h1 : 1 ≤ y) (h2 : y ≤ 9) :
    Calls Tryd.prog 26 #[.agg #[.int .u8 f, .int .u32 fg, .int .u32 bg], .int .i64 n] w fun e w' => e = .returned (.agg #[.int .u8 (bits .or .u8 f (flT (y : Int))), .int .u32 fg, .int .u32 bg]) ∧ Below w.heap.size w w' := by
  have hbig := hT.big
  subst hy
  have c := hT.cell y (by omega)
  obtain ⟨t, ht⟩ : ∃ t, flT (y : Int) = t := ⟨_, rfl⟩
  rw [ht] at c ⊢
  clear ht
  have hy10 : y < 10 := by omega
  have z0 : ((y : Int) == 0) = false := by simp; omega
  have z22 : ((y : Int) == 22) = false := by simp; omega
  have z39 : ((y : Int) == 39) = false := by simp; omega
  have z49 : ((y : Int) == 49) = false := by simp; omega
  have a1 : decide (1 ≤ (y : Int)) = true := by simp; omega
  have b9 : decide ((y : Int) ≤ 9) = true := by simp; omega
  have a23 : decide (23 ≤ (y : Int)) = false := by simp; omega
  have a30 : decide (30 ≤ (y : Int)) = false := by simp; omega
  have a40 : decide (40 ≤ (y : Int)) = false := by simp; omega
  have a90 : decide (90 ≤ (y : Int)) = false := by simp; omega
  have a100 : decide (100 ≤ (y : Int)) = false := by simp; omega
  clear hT
  have k0 := Lib.hid (cell2 w (.int .u8 f) (.int .u32 fg) (.int .u32 bg) 24 (.cells #[.int .u8 0, .int .u32 0, .int .u32 0] 24))
  have k1 := Lib.hid (free2 w #[.int .u8 f, .int .u32 fg, .int .u32 bg] 24 (.cells #[.int .u8 0, .int .u32 0, .int .u32 0] 24))
  have k2 := Lib.hid (old2 (o1 := .cells #[.int .u8 f, .int .u32 fg, .int .u32 bg] 24) (o2 := .cells #[.int .u8 0, .int .u32 0, .int .u32 0] 24) c hbig)
  go_enter Tryd.func26, Tryd.ntmps26
  go_wp2
  obtain ⟨U, hU⟩ : ∃ U, (w.alloc (.cells #[.int .u8 f, .int .u32 fg, .int .u32 bg] 24)).alloc (.cells #[.int .u8 0, .int .u32 0, .int .u32 0] 24) = U := ⟨_, rfl⟩
  rw [hU] at k0 k1 k2 ⊢
  have k0 := k0.out
  have k1 := k1.out
  have k2 := k2.out
  have HU := Lib.hid (fun (_ : Unit) => hU)
  clear hU
  go_region
  all_goals obtain rfl := HU.out ()
  go_wp2
  exact bodyPost_ret (v := .agg #[.int .u8 (bits .or .u8 f t), .int .u32 fg, .int .u32 bg]) (results_cell_row (p := 4) (ty := 24) Tryd.results26 _ _ (w.heap.size + 1) 24 #[.int .u8 (bits .or .u8 f t), .int .u32 fg, .int .u32 bg] (0, 0) _ rfl (by first | exact heap_alloc2_new _ _ _) Tryd.underlying24 rfl (by kernel_rfl)) rfl ⟨rfl, by first | exact ((Below.refl _ _).alloc (Nat.le_refl _) _).alloc (by simp) _ | exact (((Below.refl _ _).alloc (Nat.le_refl _) _).alloc (by simp) _).drew⟩

set_option maxHeartbeats 1000000 in
theorem p_one_22 (f fg bg n : Int) (w : World) (hT : FT w) (f0 : 0 ≤ f) (f1 : f < 256) (g0 : 0 ≤ fg) (g1 : fg < 4294967296) (b0 : 0 ≤ bg) (b1 : bg < 4294967296) (hn : n = 22) :
    Calls Tryd.prog 26 #[.agg #[.int .u8 f, .int .u32 fg, .int .u32 bg], .int .i64 n] w fun e w' => e = .returned (.agg #[.int .u8 (bits .andNot .u8 f 3), .int .u32 fg, .int .u32 bg]) ∧ Below w.heap.size w w' := by
  have hbig := hT.big
  subst hn
  clear hT
  go_enter Tryd.func26, Tryd.ntmps26
  go_wp2
  exact bodyPost_ret (v := .agg #[.int .u8 (bits .andNot .u8 f 3), .int .u32 fg, .int .u32 bg]) (results_cell_row (p := 4) (ty := 24) Tryd.results26 _ _ (w.heap.size + 1) 24 #[.int .u8 (bits .andNot .u8 f 3), .int .u32 fg, .int .u32 bg] (0, 0) _ rfl (by first | exact heap_alloc2_new _ _ _) Tryd.underlying24 rfl (by kernel_rfl)) rfl ⟨rfl, by first | exact ((Below.refl _ _).alloc (Nat.le_refl _) _).alloc (by simp) _ | exact (((Below.refl _ _).alloc (Nat.le_refl _) _).alloc (by simp) _).drew⟩

set_option maxHeartbeats 1000000 in
theorem p_one_un (f fg bg n : Int) (w : World) (hT : FT w) (f0 : 0 ≤ f) (f1 : f < 256) (g0 : 0 ≤ fg) (g1 : fg < 4294967296) (b0 : 0 ≤ bg) (b1 : bg < 4294967296) (y : Nat) (hy : n = ((y + 20 : Nat) : Int)) (h1 : 3 ≤ y) (h2 : y ≤ 9) :
    Calls Tryd.prog 26 #[.agg #[.int .u8 f, .int .u32 fg, .int .u32 bg], .int .i64 n] w fun e w' => e = .returned (.agg #[.int .u8 (bits .andNot .u8 f (flT (y : Int))), .int .u32 fg, .int .u32 bg]) ∧ Below w.heap.size w w' := by
  have hbig := hT.big
  obtain rfl : n = (y : Int) + 20 := by omega
  clear hy
  have c := hT.cell y (by omega)
  obtain ⟨t, ht⟩ : ∃ t, flT (y : Int) = t := ⟨_, rfl⟩
  rw [ht] at c ⊢
  clear ht
  have hy10 : y < 10 := by omega
  have ey : (y : Int) + 20 - 20 = (y : Int) := by omega
  have z0 : ((y : Int) + 20 == 0) = false := by simp; omega
  have z22 : ((y : Int) + 20 == 22) = false := by simp; omega
  have z39 : ((y : Int) + 20 == 39) = false := by simp; omega
  have z49 : ((y : Int) + 20 == 49) = false := by simp; omega
  have a1 : decide (1 ≤ (y : Int) + 20) = true := by simp; omega
  have b9 : decide ((y : Int) + 20 ≤ 9) = false := by simp; omega
  have a23 : decide (23 ≤ (y : Int) + 20) = true := by simp; omega
  have b29 : decide ((y : Int) + 20 ≤ 29) = true := by simp; omega
  have a30 : decide (30 ≤ (y : Int) + 20) = false := by simp; omega
  have a40 : decide (40 ≤ (y : Int) + 20) = false := by simp; omega
  have a90 : decide (90 ≤ (y : Int) + 20) = false := by simp; omega
  have a100 : decide (100 ≤ (y : Int) + 20) = false := by simp; omega
  clear hT
  have k0 := Lib.hid (cell2 w (.int .u8 f) (.int .u32 fg) (.int .u32 bg) 24 (.cells #[.int .u8 0, .int .u32 0, .int .u32 0] 24))
  have k1 := Lib.hid (free2 w #[.int .u8 f, .int .u32 fg, .int .u32 bg] 24 (.cells #[.int .u8 0, .int .u32 0, .int .u32 0] 24))
  have k2 := Lib.hid (old2 (o1 := .cells #[.int .u8 f, .int .u32 fg, .int .u32 bg] 24) (o2 := .cells #[.int .u8 0, .int .u32 0, .int .u32 0] 24) c hbig)
  go_enter Tryd.func26, Tryd.ntmps26
  go_wp2
  obtain ⟨U, hU⟩ : ∃ U, (w.alloc (.cells #[.int .u8 f, .int .u32 fg, .int .u32 bg] 24)).alloc (.cells #[.int .u8 0, .int .u32 0, .int .u32 0] 24) = U := ⟨_, rfl⟩
  rw [hU] at k0 k1 k2 ⊢
  have k0 := k0.out
  have k1 := k1.out
  have k2 := k2.out
  have HU := Lib.hid (fun (_ : Unit) => hU)
  clear hU
  go_region
  all_goals obtain rfl := HU.out ()
  go_wp2
  exact bodyPost_ret (v := .agg #[.int .u8 (bits .andNot .u8 f t), .int .u32 fg, .int .u32 bg]) (results_cell_row (p := 4) (ty := 24) Tryd.results26 _ _ (w.heap.size + 1) 24 #[.int .u8 (bits .andNot .u8 f t), .int .u32 fg, .int .u32 bg] (0, 0) _ rfl (by first | exact heap_alloc2_new _ _ _) Tryd.underlying24 rfl (by kernel_rfl)) rfl ⟨rfl, by first | exact ((Below.refl _ _).alloc (Nat.le_refl _) _).alloc (by simp) _ | exact (((Below.refl _ _).alloc (Nat.le_refl _) _).alloc (by simp) _).drew⟩

set_option maxHeartbeats 1000000 in
theorem p_one_fg (f fg bg n : Int) (w : World) (hT : FT w) (f0 : 0 ≤ f) (f1 : f < 256) (g0 : 0 ≤ fg) (g1 : fg < 4294967296) (b0 : 0 ≤ bg) (b1 : bg < 4294967296) (h1 : 30 ≤ n) (h2 : n ≤ 37) :
    Calls Tryd.prog 26 #[.agg #[.int .u8 f, .int .u32 fg, .int .u32 bg], .int .i64 n] w fun e w' => e = .returned (.agg #[.int .u8 f, .int .u32 (16777216 + (n - 30)), .int .u32 bg]) ∧ Below w.heap.size w w' := by
  have hbig := hT.big
  have z0 : (n == 0) = false := by simp; omega
  have z22 : (n == 22) = false := by simp; omega
  have z39 : (n == 39) = false := by simp; omega
  have z49 : (n == 49) = false := by simp; omega
  have a1 : decide (1 ≤ n) = true := by simp; omega
  have b9 : decide (n ≤ 9) = false := by simp; omega
  have a23 : decide (23 ≤ n) = true := by simp; omega
  have b29 : decide (n ≤ 29) = false := by simp; omega
  have a30 : decide (30 ≤ n) = true := by simp; omega
  have b37 : decide (n ≤ 37) = true := by simp; omega
  have a40 : decide (40 ≤ n) = false := by simp; omega
  have a90 : decide (90 ≤ n) = false := by simp; omega
  have a100 : decide (100 ≤ n) = false := by simp; omega
  clear hT
  go_enter Tryd.func26, Tryd.ntmps26
  go_wp2
  exact bodyPost_ret (v := .agg #[.int .u8 f, .int .u32 (16777216 + (n - 30)), .int .u32 bg]) (results_cell_row (p := 4) (ty := 24) Tryd.results26 _ _ (w.heap.size + 1) 24 #[.int .u8 f, .int .u32 (16777216 + (n - 30)), .int .u32 bg] (0, 0) _ rfl (by first | exact heap_alloc2_new _ _ _) Tryd.underlying24 rfl (by kernel_rfl)) rfl ⟨rfl, by first | exact ((Below.refl _ _).alloc (Nat.le_refl _) _).alloc (by simp) _ | exact (((Below.refl _ _).alloc (Nat.le_refl _) _).alloc (by simp) _).drew⟩

set_option maxHeartbeats 1000000 in
theorem p_one_fgb (f fg bg n : Int) (w : World) (hT : FT w) (f0 : 0 ≤ f) (f1 : f < 256) (g0 : 0 ≤ fg) (g1 : fg < 4294967296) (b0 : 0 ≤ bg) (b1 : bg < 4294967296) (h1 : 90 ≤ n) (h2 : n ≤ 97) :
    Calls Tryd.prog 26 #[.agg #[.int .u8 f, .int .u32 fg, .int .u32 bg], .int .i64 n] w fun e w' => e = .returned (.agg #[.int .u8 f, .int .u32 (16777224 + (n - 90)), .int .u32 bg]) ∧ Below w.heap.size w w' := by
  have hbig := hT.big
  have z0 : (n == 0) = false := by simp; omega
  have z22 : (n == 22) = false := by simp; omega
  have z39 : (n == 39) = false := by simp; omega
  have z49 : (n == 49) = false := by simp; omega
  have a1 : decide (1 ≤ n) = true := by simp; omega
  have b9 : decide (n ≤ 9) = false := by simp; omega
  have a23 : decide (23 ≤ n) = true := by simp; omega
  have b29 : decide (n ≤ 29) = false := by simp; omega
  have a30 : decide (30 ≤ n) = true := by simp; omega
  have b37 : decide (n ≤ 37) = false := by simp; omega
  have a40 : decide (40 ≤ n) = true := by simp; omega
  have b47 : decide (n ≤ 47) = false := by simp; omega
  have a90 : decide (90 ≤ n) = true := by simp; omega
  have b97 : decide (n ≤ 97) = true := by simp; omega
  have a100 : decide (100 ≤ n) = false := by simp; omega
  clear hT
  go_enter Tryd.func26, Tryd.ntmps26
  go_wp2
  exact bodyPost_ret (v := .agg #[.int .u8 f, .int .u32 (16777224 + (n - 90)), .int .u32 bg]) (results_cell_row (p := 4) (ty := 24) Tryd.results26 _ _ (w.heap.size + 1) 24 #[.int .u8 f, .int .u32 (16777224 + (n - 90)), .int .u32 bg] (0, 0) _ rfl (by first | exact heap_alloc2_new _ _ _) Tryd.underlying24 rfl (by kernel_rfl)) rfl ⟨rfl, by first | exact ((Below.refl _ _).alloc (Nat.le_refl _) _).alloc (by simp) _ | exact (((Below.refl _ _).alloc (Nat.le_refl _) _).alloc (by simp) _).drew⟩

set_option maxHeartbeats 1000000 in
theorem p_one_bg (f fg bg n : Int) (w : World) (hT : FT w) (f0 : 0 ≤ f) (f1 : f < 256) (g0 : 0 ≤ fg) (g1 : fg < 4294967296) (b0 : 0 ≤ bg) (b1 : bg < 4294967296) (h1 : 40 ≤ n) (h2 : n ≤ 47) :
    Calls Tryd.prog 26 #[.agg #[.int .u8 f, .int .u32 fg, .int .u32 bg], .int .i64 n] w fun e w' => e = .returned (.agg #[.int .u8 f, .int .u32 fg, .int .u32 (16777216 + (n - 40))]) ∧ Below w.heap.size w w' := by
  have hbig := hT.big
  have z0 : (n == 0) = false := by simp; omega
  have z22 : (n == 22) = false := by simp; omega
  have z39 : (n == 39) = false := by simp; omega
  have z49 : (n == 49) = false := by simp; omega
  have a1 : decide (1 ≤ n) = true := by simp; omega
  have b9 : decide (n ≤ 9) = false := by simp; omega
  have a23 : decide (23 ≤ n) = true := by simp; omega
  have b29 : decide (n ≤ 29) = false := by simp; omega
  have a30 : decide (30 ≤ n) = true := by simp; omega
  have b37 : decide (n ≤ 37) = false := by simp; omega
  have a40 : decide (40 ≤ n) = true := by simp; omega
  have b47 : decide (n ≤ 47) = true := by simp; omega
  have a90 : decide (90 ≤ n) = false := by simp; omega
  have a100 : decide (100 ≤ n) = false := by simp; omega
  clear hT
  go_enter Tryd.func26, Tryd.ntmps26
  go_wp2
  exact bodyPost_ret (v := .agg #[.int .u8 f, .int .u32 fg, .int .u32 (16777216 + (n - 40))]) (results_cell_row (p := 4) (ty := 24) Tryd.results26 _ _ (w.heap.size + 1) 24 #[.int .u8 f, .int .u32 fg, .int .u32 (16777216 + (n - 40))] (0, 0) _ rfl (by first | exact heap_alloc2_new _ _ _) Tryd.underlying24 rfl (by kernel_rfl)) rfl ⟨rfl, by first | exact ((Below.refl _ _).alloc (Nat.le_refl _) _).alloc (by simp) _ | exact (((Below.refl _ _).alloc (Nat.le_refl _) _).alloc (by simp) _).drew⟩

set_option maxHeartbeats 1000000 in
theorem p_one_bgb (f fg bg n : Int) (w : World) (hT : FT w) (f0 : 0 ≤ f) (f1 : f < 256) (g0 : 0 ≤ fg) (g1 : fg < 4294967296) (b0 : 0 ≤ bg) (b1 : bg < 4294967296) (h1 : 100 ≤ n) (h2 : n ≤ 107) :
    Calls Tryd.prog 26 #[.agg #[.int .u8 f, .int .u32 fg, .int .u32 bg], .int .i64 n] w fun e w' => e = .returned (.agg #[.int .u8 f, .int .u32 fg, .int .u32 (16777224 + (n - 100))]) ∧ Below w.heap.size w w' := by
  have hbig := hT.big
  have z0 : (n == 0) = false := by simp; omega
  have z22 : (n == 22) = false := by simp; omega
  have z39 : (n == 39) = false := by simp; omega
  have z49 : (n == 49) = false := by simp; omega
  have a1 : decide (1 ≤ n) = true := by simp; omega
  have b9 : decide (n ≤ 9) = false := by simp; omega
  have a23 : decide (23 ≤ n) = true := by simp; omega
  have b29 : decide (n ≤ 29) = false := by simp; omega
  have a30 : decide (30 ≤ n) = true := by simp; omega
  have b37 : decide (n ≤ 37) = false := by simp; omega
  have a40 : decide (40 ≤ n) = true := by simp; omega
  have b47 : decide (n ≤ 47) = false := by simp; omega
  have a90 : decide (90 ≤ n) = true := by simp; omega
  have b97 : decide (n ≤ 97) = false := by simp; omega
  have a100 : decide (100 ≤ n) = true := by simp; omega
  have b107 : decide (n ≤ 107) = true := by simp; omega
  clear hT
  go_enter Tryd.func26, Tryd.ntmps26
  go_wp2
  exact bodyPost_ret (v := .agg #[.int .u8 f, .int .u32 fg, .int .u32 (16777224 + (n - 100))]) (results_cell_row (p := 4) (ty := 24) Tryd.results26 _ _ (w.heap.size + 1) 24 #[.int .u8 f, .int .u32 fg, .int .u32 (16777224 + (n - 100))] (0, 0) _ rfl (by first | exact heap_alloc2_new _ _ _) Tryd.underlying24 rfl (by kernel_rfl)) rfl ⟨rfl, by first | exact ((Below.refl _ _).alloc (Nat.le_refl _) _).alloc (by simp) _ | exact (((Below.refl _ _).alloc (Nat.le_refl _) _).alloc (by simp) _).drew⟩

set_option maxHeartbeats 1000000 in
theorem p_one_39 (f fg bg n : Int) (w : World) (hT : FT w) (f0 : 0 ≤ f) (f1 : f < 256) (g0 : 0 ≤ fg) (g1 : fg < 4294967296) (b0 : 0 ≤ bg) (b1 : bg < 4294967296) (hn : n = 39) :
    Calls Tryd.prog 26 #[.agg #[.int .u8 f, .int .u32 fg, .int .u32 bg], .int .i64 n] w fun e w' => e = .returned (.agg #[.int .u8 f, .int .u32 0, .int .u32 bg]) ∧ Below w.heap.size w w' := by
  have hbig := hT.big
  subst hn
  clear hT
  go_enter Tryd.func26, Tryd.ntmps26
  go_wp2
  exact bodyPost_ret (v := .agg #[.int .u8 f, .int .u32 0, .int .u32 bg]) (results_cell_row (p := 4) (ty := 24) Tryd.results26 _ _ (w.heap.size + 1) 24 #[.int .u8 f, .int .u32 0, .int .u32 bg] (0, 0) _ rfl (by first | exact heap_alloc2_new _ _ _) Tryd.underlying24 rfl (by kernel_rfl)) rfl ⟨rfl, by first | exact ((Below.refl _ _).alloc (Nat.le_refl _) _).alloc (by simp) _ | exact (((Below.refl _ _).alloc (Nat.le_refl _) _).alloc (by simp) _).drew⟩

set_option maxHeartbeats 1000000 in
theorem p_one_49 (f fg bg n : Int) (w : World) (hT : FT w) (f0 : 0 ≤ f) (f1 : f < 256) (g0 : 0 ≤ fg) (g1 : fg < 4294967296) (b0 : 0 ≤ bg) (b1 : bg < 4294967296) (hn : n = 49) :
    Calls Tryd.prog 26 #[.agg #[.int .u8 f, .int .u32 fg, .int .u32 bg], .int .i64 n] w fun e w' => e = .returned (.agg #[.int .u8 f, .int .u32 fg, .int .u32 0]) ∧ Below w.heap.size w w' := by
  have hbig := hT.big
  subst hn
  clear hT
  go_enter Tryd.func26, Tryd.ntmps26
  go_wp2
  exact bodyPost_ret (v := .agg #[.int .u8 f, .int .u32 fg, .int .u32 0]) (results_cell_row (p := 4) (ty := 24) Tryd.results26 _ _ (w.heap.size + 1) 24 #[.int .u8 f, .int .u32 fg, .int .u32 0] (0, 0) _ rfl (by first | exact heap_alloc2_new _ _ _) Tryd.underlying24 rfl (by kernel_rfl)) rfl ⟨rfl, by first | exact ((Below.refl _ _).alloc (Nat.le_refl _) _).alloc (by simp) _ | exact (((Below.refl _ _).alloc (Nat.le_refl _) _).alloc (by simp) _).drew⟩

set_option maxHeartbeats 1000000 in
theorem p_one_n0 (f fg bg n : Int) (w : World) (hT : FT w) (f0 : 0 ≤ f) (f1 : f < 256) (g0 : 0 ≤ fg) (g1 : fg < 4294967296) (b0 : 0 ≤ bg) (b1 : bg < 4294967296) (h : n < 0) :
    Calls Tryd.prog 26 #[.agg #[.int .u8 f, .int .u32 fg, .int .u32 bg], .int .i64 n] w fun e w' => e = .returned (.agg #[.int .u8 f, .int .u32 fg, .int .u32 bg]) ∧ Below w.heap.size w w' := by
  have hbig := hT.big
  have z0 : (n == 0) = false := by simp; omega
  have z22 : (n == 22) = false := by simp; omega
  have z39 : (n == 39) = false := by simp; omega
  have z49 : (n == 49) = false := by simp; omega
  have a1 : decide (1 ≤ n) = false := by simp; omega
  have a23 : decide (23 ≤ n) = false := by simp; omega
  have a30 : decide (30 ≤ n) = false := by simp; omega
  have a40 : decide (40 ≤ n) = false := by simp; omega
  have a90 : decide (90 ≤ n) = false := by simp; omega
  have a100 : decide (100 ≤ n) = false := by simp; omega
  clear hT
  go_enter Tryd.func26, Tryd.ntmps26
  go_wp2
  exact bodyPost_ret (v := .agg #[.int .u8 f, .int .u32 fg, .int .u32 bg]) (results_cell_row (p := 4) (ty := 24) Tryd.results26 _ _ (w.heap.size + 1) 24 #[.int .u8 f, .int .u32 fg, .int .u32 bg] (0, 0) _ rfl (by first | exact heap_alloc2_new _ _ _) Tryd.underlying24 rfl (by kernel_rfl)) rfl ⟨rfl, by first | exact ((Below.refl _ _).alloc (Nat.le_refl _) _).alloc (by simp) _ | exact (((Below.refl _ _).alloc (Nat.le_refl _) _).alloc (by simp) _).drew⟩

set_option maxHeartbeats 1000000 in
theorem p_one_n1 (f fg bg n : Int) (w : World) (hT : FT w) (f0 : 0 ≤ f) (f1 : f < 256) (g0 : 0 ≤ fg) (g1 : fg < 4294967296) (b0 : 0 ≤ bg) (b1 : bg < 4294967296) (h1 : 10 ≤ n) (h2 : n ≤ 21) :
    Calls Tryd.prog 26 #[.agg #[.int .u8 f, .int .u32 fg, .int .u32 bg], .int .i64 n] w fun e w' => e = .returned (.agg #[.int .u8 f, .int .u32 fg, .int .u32 bg]) ∧ Below w.heap.size w w' := by
  have hbig := hT.big
  have z0 : (n == 0) = false := by simp; omega
  have z22 : (n == 22) = false := by simp; omega
  have z39 : (n == 39) = false := by simp; omega
  have z49 : (n == 49) = false := by simp; omega
  have a1 : decide (1 ≤ n) = true := by simp; omega
  have b9 : decide (n ≤ 9) = false := by simp; omega
  have a23 : decide (23 ≤ n) = false := by simp; omega
  have a30 : decide (30 ≤ n) = false := by simp; omega
  have a40 : decide (40 ≤ n) = false := by simp; omega
  have a90 : decide (90 ≤ n) = false := by simp; omega
  have a100 : decide (100 ≤ n) = false := by simp; omega
  clear hT
  go_enter Tryd.func26, Tryd.ntmps26
  go_wp2
  exact bodyPost_ret (v := .agg #[.int .u8 f, .int .u32 fg, .int .u32 bg]) (results_cell_row (p := 4) (ty := 24) Tryd.results26 _ _ (w.heap.size + 1) 24 #[.int .u8 f, .int .u32 fg, .int .u32 bg] (0, 0) _ rfl (by first | exact heap_alloc2_new _ _ _) Tryd.underlying24 rfl (by kernel_rfl)) rfl ⟨rfl, by first | exact ((Below.refl _ _).alloc (Nat.le_refl _) _).alloc (by simp) _ | exact (((Below.refl _ _).alloc (Nat.le_refl _) _).alloc (by simp) _).drew⟩

set_option maxHeartbeats 1000000 in
theorem p_one_n2 (f fg bg n : Int) (w : World) (hT : FT w) (f0 : 0 ≤ f) (f1 : f < 256) (g0 : 0 ≤ fg) (g1 : fg < 4294967296) (b0 : 0 ≤ bg) (b1 : bg < 4294967296) (h1 : n = 38) :
    Calls Tryd.prog 26 #[.agg #[.int .u8 f, .int .u32 fg, .int .u32 bg], .int .i64 n] w fun e w' => e = .returned (.agg #[.int .u8 f, .int .u32 fg, .int .u32 bg]) ∧ Below w.heap.size w w' := by
  have hbig := hT.big
  have z0 : (n == 0) = false := by simp; omega
  have z22 : (n == 22) = false := by simp; omega
  have z39 : (n == 39) = false := by simp; omega
  have z49 : (n == 49) = false := by simp; omega
  have a1 : decide (1 ≤ n) = true := by simp; omega
  have b9 : decide (n ≤ 9) = false := by simp; omega
  have a23 : decide (23 ≤ n) = true := by simp; omega
  have b29 : decide (n ≤ 29) = false := by simp; omega
  have a30 : decide (30 ≤ n) = true := by simp; omega
  have b37 : decide (n ≤ 37) = false := by simp; omega
  have a40 : decide (40 ≤ n) = false := by simp; omega
  have a90 : decide (90 ≤ n) = false := by simp; omega
  have a100 : decide (100 ≤ n) = false := by simp; omega
  clear hT
  go_enter Tryd.func26, Tryd.ntmps26
  go_wp2
  exact bodyPost_ret (v := .agg #[.int .u8 f, .int .u32 fg, .int .u32 bg]) (results_cell_row (p := 4) (ty := 24) Tryd.results26 _ _ (w.heap.size + 1) 24 #[.int .u8 f, .int .u32 fg, .int .u32 bg] (0, 0) _ rfl (by first | exact heap_alloc2_new _ _ _) Tryd.underlying24 rfl (by kernel_rfl)) rfl ⟨rfl, by first | exact ((Below.refl _ _).alloc (Nat.le_refl _) _).alloc (by simp) _ | exact (((Below.refl _ _).alloc (Nat.le_refl _) _).alloc (by simp) _).drew⟩

set_option maxHeartbeats 1000000 in
theorem p_one_n3 (f fg bg n : Int) (w : World) (hT : FT w) (f0 : 0 ≤ f) (f1 : f < 256) (g0 : 0 ≤ fg) (g1 : fg < 4294967296) (b0 : 0 ≤ bg) (b1 : bg < 4294967296) (h1 : n = 48) :
    Calls Tryd.prog 26 #[.agg #[.int .u8 f, .int .u32 fg, .int .u32 bg], .int .i64 n] w fun e w' => e = .returned (.agg #[.int .u8 f, .int .u32 fg, .int .u32 bg]) ∧ Below w.heap.size w w' := by
  have hbig := hT.big
  have z0 : (n == 0) = false := by simp; omega
  have z22 : (n == 22) = false := by simp; omega
  have z39 : (n == 39) = false := by simp; omega
  have z49 : (n == 49) = false := by simp; omega
  have a1 : decide (1 ≤ n) = true := by simp; omega
  have b9 : decide (n ≤ 9) = false := by simp; omega
  have a23 : decide (23 ≤ n) = true := by simp; omega
  have b29 : decide (n ≤ 29) = false := by simp; omega
  have a30 : decide (30 ≤ n) = true := by simp; omega
  have b37 : decide (n ≤ 37) = false := by simp; omega
  have a40 : decide (40 ≤ n) = true := by simp; omega
  have b47 : decide (n ≤ 47) = false := by simp; omega
  have a90 : decide (90 ≤ n) = false := by simp; omega
  have a100 : decide (100 ≤ n) = false := by simp; omega
  clear hT
  go_enter Tryd.func26, Tryd.ntmps26
  go_wp2
  exact bodyPost_ret (v := .agg #[.int .u8 f, .int .u32 fg, .int .u32 bg]) (results_cell_row (p := 4) (ty := 24) Tryd.results26 _ _ (w.heap.size + 1) 24 #[.int .u8 f, .int .u32 fg, .int .u32 bg] (0, 0) _ rfl (by first | exact heap_alloc2_new _ _ _) Tryd.underlying24 rfl (by kernel_rfl)) rfl ⟨rfl, by first | exact ((Below.refl _ _).alloc (Nat.le_refl _) _).alloc (by simp) _ | exact (((Below.refl _ _).alloc (Nat.le_refl _) _).alloc (by simp) _).drew⟩

set_option maxHeartbeats 1000000 in
theorem p_one_n4 (f fg bg n : Int) (w : World) (hT : FT w) (f0 : 0 ≤ f) (f1 : f < 256) (g0 : 0 ≤ fg) (g1 : fg < 4294967296) (b0 : 0 ≤ bg) (b1 : bg < 4294967296) (h1 : 50 ≤ n) (h2 : n ≤ 89) :
    Calls Tryd.prog 26 #[.agg #[.int .u8 f, .int .u32 fg, .int .u32 bg], .int .i64 n] w fun e w' => e = .returned (.agg #[.int .u8 f, .int .u32 fg, .int .u32 bg]) ∧ Below w.heap.size w w' := by
  have hbig := hT.big
  have z0 : (n == 0) = false := by simp; omega
  have z22 : (n == 22) = false := by simp; omega
  have z39 : (n == 39) = false := by simp; omega
  have z49 : (n == 49) = false := by simp; omega
  have a1 : decide (1 ≤ n) = true := by simp; omega
  have b9 : decide (n ≤ 9) = false := by simp; omega
  have a23 : decide (23 ≤ n) = true := by simp; omega
  have b29 : decide (n ≤ 29) = false := by simp; omega
  have a30 : decide (30 ≤ n) = true := by simp; omega
  have b37 : decide (n ≤ 37) = false := by simp; omega
  have a40 : decide (40 ≤ n) = true := by simp; omega
  have b47 : decide (n ≤ 47) = false := by simp; omega
  have a90 : decide (90 ≤ n) = false := by simp; omega
  have a100 : decide (100 ≤ n) = false := by simp; omega
  clear hT
  go_enter Tryd.func26, Tryd.ntmps26
  go_wp2
  exact bodyPost_ret (v := .agg #[.int .u8 f, .int .u32 fg, .int .u32 bg]) (results_cell_row (p := 4) (ty := 24) Tryd.results26 _ _ (w.heap.size + 1) 24 #[.int .u8 f, .int .u32 fg, .int .u32 bg] (0, 0) _ rfl (by first | exact heap_alloc2_new _ _ _) Tryd.underlying24 rfl (by kernel_rfl)) rfl ⟨rfl, by first | exact ((Below.refl _ _).alloc (Nat.le_refl _) _).alloc (by simp) _ | exact (((Below.refl _ _).alloc (Nat.le_refl _) _).alloc (by simp) _).drew⟩

set_option maxHeartbeats 1000000 in
theorem p_one_n5 (f fg bg n : Int) (w : World) (hT : FT w) (f0 : 0 ≤ f) (f1 : f < 256) (g0 : 0 ≤ fg) (g1 : fg < 4294967296) (b0 : 0 ≤ bg) (b1 : bg < 4294967296) (h1 : 98 ≤ n) (h2 : n ≤ 99) :
    Calls Tryd.prog 26 #[.agg #[.int .u8 f, .int .u32 fg, .int .u32 bg], .int .i64 n] w fun e w' => e = .returned (.agg #[.int .u8 f, .int .u32 fg, .int .u32 bg]) ∧ Below w.heap.size w w' := by
  have hbig := hT.big
  have z0 : (n == 0) = false := by simp; omega
  have z22 : (n == 22) = false := by simp; omega
  have z39 : (n == 39) = false := by simp; omega
  have z49 : (n == 49) = false := by simp; omega
  have a1 : decide (1 ≤ n) = true := by simp; omega
  have b9 : decide (n ≤ 9) = false := by simp; omega
  have a23 : decide (23 ≤ n) = true := by simp; omega
  have b29 : decide (n ≤ 29) = false := by simp; omega
  have a30 : decide (30 ≤ n) = true := by simp; omega
  have b37 : decide (n ≤ 37) = false := by simp; omega
  have a40 : decide (40 ≤ n) = true := by simp; omega
  have b47 : decide (n ≤ 47) = false := by simp; omega
  have a90 : decide (90 ≤ n) = true := by simp; omega
  have b97 : decide (n ≤ 97) = false := by simp; omega
  have a100 : decide (100 ≤ n) = false := by simp; omega
  clear hT
  go_enter Tryd.func26, Tryd.ntmps26
  go_wp2
  exact bodyPost_ret (v := .agg #[.int .u8 f, .int .u32 fg, .int .u32 bg]) (results_cell_row (p := 4) (ty := 24) Tryd.results26 _ _ (w.heap.size + 1) 24 #[.int .u8 f, .int .u32 fg, .int .u32 bg] (0, 0) _ rfl (by first | exact heap_alloc2_new _ _ _) Tryd.underlying24 rfl (by kernel_rfl)) rfl ⟨rfl, by first | exact ((Below.refl _ _).alloc (Nat.le_refl _) _).alloc (by simp) _ | exact (((Below.refl _ _).alloc (Nat.le_refl _) _).alloc (by simp) _).drew⟩

set_option maxHeartbeats 1000000 in
theorem p_one_n6 (f fg bg n : Int) (w : World) (hT : FT w) (f0 : 0 ≤ f) (f1 : f < 256) (g0 : 0 ≤ fg) (g1 : fg < 4294967296) (b0 : 0 ≤ bg) (b1 : bg < 4294967296) (h1 : 108 ≤ n) :
    Calls Tryd.prog 26 #[.agg #[.int .u8 f, .int .u32 fg, .int .u32 bg], .int .i64 n] w fun e w' => e = .returned (.agg #[.int .u8 f, .int .u32 fg, .int .u32 bg]) ∧ Below w.heap.size w w' := by
  have hbig := hT.big
  have z0 : (n == 0) = false := by simp; omega
  have z22 : (n == 22) = false := by simp; omega
  have z39 : (n == 39) = false := by simp; omega
  have z49 : (n == 49) = false := by simp; omega
  have a1 : decide (1 ≤ n) = true := by simp; omega
  have b9 : decide (n ≤ 9) = false := by simp; omega
  have a23 : decide (23 ≤ n) = true := by simp; omega
  have b29 : decide (n ≤ 29) = false := by simp; omega
  have a30 : decide (30 ≤ n) = true := by simp; omega
  have b37 : decide (n ≤ 37) = false := by simp; omega
  have a40 : decide (40 ≤ n) = true := by simp; omega
  have b47 : decide (n ≤ 47) = false := by simp; omega
  have a90 : decide (90 ≤ n) = true := by simp; omega
  have b97 : decide (n ≤ 97) = false := by simp; omega
  have a100 : decide (100 ≤ n) = true := by simp; omega
  have b107 : decide (n ≤ 107) = false := by simp; omega
  clear hT
  go_enter Tryd.func26, Tryd.ntmps26
  go_wp2
  exact bodyPost_ret (v := .agg #[.int .u8 f, .int .u32 fg, .int .u32 bg]) (results_cell_row (p := 4) (ty := 24) Tryd.results26 _ _ (w.heap.size + 1) 24 #[.int .u8 f, .int .u32 fg, .int .u32 bg] (0, 0) _ rfl (by first | exact heap_alloc2_new _ _ _) Tryd.underlying24 rfl (by kernel_rfl)) rfl ⟨rfl, by first | exact ((Below.refl _ _).alloc (Nat.le_refl _) _).alloc (by simp) _ | exact (((Below.refl _ _).alloc (Nat.le_refl _) _).alloc (by simp) _).drew⟩

end Go.Proofs.YtohhmpkmcodoeaaDoor
