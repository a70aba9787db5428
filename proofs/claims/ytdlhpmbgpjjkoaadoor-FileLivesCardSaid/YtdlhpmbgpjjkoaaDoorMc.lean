/-
  Proved here: what New, With and Or answer of any map.
-/
import Derived.Test.YtdlhpmbgpjjkoaaDoorMb
import Derived.Laws.Tables
set_option linter.unusedSimpArgs false
set_option linter.unusedVariables false
namespace Go.Proofs.YtdlhpmbgpjjkoaaDoor
open Go.RowKit
/-- What is answered: a map and a number. -/
def MPost (n b : Int) (E : Int) (w : World) (e : Ending) (w' : World) : Prop := e = .returned (.tuple #[mV n b, .int .i64 E]) ∧ Below w.heap.size w w'
theorem below_cell {B g : Nat} {a w : World} (h : Below B a w) (hg : B ≤ g) (i : Nat) (v : Value) : Below B a (w.setCell ⟨g, i, none⟩ v) :=
  ⟨h.os, h.tape, h.output, by simpa using h.size, fun k hk => by rw [heap_setCell_other w ⟨g, i, none⟩ k v (by simp; omega)]; exact h.block k hk⟩
section
variable {w : World} {g : Nat} {n b : Int}
theorem MB.s0 (h : MB w g n b) (x : Int) : MB (w.setCell ⟨g, 0, none⟩ (.int .i64 x)) g x b := by
  unfold MB at h ⊢; rw [heap_setCell_same w g 0 _ _ _ h]; rfl
theorem MB.s1 (h : MB w g n b) (x : Int) : MB (w.setCell ⟨g, 1, none⟩ (.int .u64 x)) g n x := by
  unfold MB at h ⊢; rw [heap_setCell_same w g 1 _ _ _ h]; rfl
theorem MB.far (h : MB w g n b) (k i : Nat) (v : Value) (hk : g ≠ k) : MB (w.setCell ⟨k, i, none⟩ v) g n b := (heap_setCell_other w ⟨k, i, none⟩ g v hk).trans h
theorem MB.put (h : MB w g n b) (x y : Int) : MB ((w.setCell ⟨g, 0, none⟩ (.int .i64 x)).setCell ⟨g, 1, none⟩ (.int .u64 y)) g x y := (h.s0 x).s1 y
end
theorem below_put {B g : Nat} {a w : World} (h : Below B a w) (hg : B ≤ g) (x y : Int) : Below B a ((w.setCell ⟨g, 0, none⟩ (.int .i64 x)).setCell ⟨g, 1, none⟩ (.int .u64 y)) := below_cell (below_cell h hg _ _) hg _ _
theorem new_yes {n : Int} (h : 0 ≤ n ∧ n ≤ 64) (w : World) : Calls Tryd.prog 27 #[.int .i64 n] w (MPost n 0 0 w) := by
  have HC := Lib.hid (fun W => count_yes h W)
  have HB := Lib.hid ((Below.refl _ w).alloc (Nat.le_refl _) (.cells #[.int .i64 n, .int .u64 0] 38))
  go_enter Tryd.func27, Tryd.ntmps27
  go_wp2_with ((go_at_call 44; refine (HC.out _).mono ?_; rintro e wx ⟨rfl, rfl⟩))
  exact bodyPost_ret (rc_tmp Tryd.results27 _ _ w.heap.size 38 _ (0, 0) _ (.int .i64 0) rfl rfl (MB.new w n 0) Tryd.underlying38 rfl info_map) rfl ⟨rfl, HB.out⟩
theorem new_no {n : Int} (h : ¬ (0 ≤ n ∧ n ≤ 64)) (w : World) : Calls Tryd.prog 27 #[.int .i64 n] w (MPost 0 0 1 w) := by
  have HC := Lib.hid (fun W => count_no h W)
  have HB := Lib.hid ((Below.refl _ w).alloc (Nat.le_refl _) (.cells #[.int .i64 0, .int .u64 0] 38))
  clear h
  go_enter Tryd.func27, Tryd.ntmps27
  go_wp2_with ((go_at_call 44; refine (HC.out _).mono ?_; rintro e wx ⟨rfl, rfl⟩))
  exact bodyPost_ret (rc_tmp Tryd.results27 _ _ w.heap.size 38 _ (0, 0) _ (.int .i64 1) rfl rfl (MB.new w 0 0) Tryd.underlying38 rfl info_map) rfl ⟨rfl, HB.out⟩
theorem with_bad {n : Int} {b : Nat} (hb : b < 18446744073709551616) {i : Int} (hr : rB n b = false) (w : World) : Calls Tryd.prog 28 #[mV n b, .int .i64 i] w (MPost 0 0 3 w) := by
  have HR := Lib.hid (fun W => right_any n hb W)
  have HC := Lib.hid (fun W => chunk_any n b i W)
  have HU0 := Lib.hid ((MB.new w n b).alloc (.cells #[.int .i64 0, .int .u64 0] 38))
  have HZ0 := Lib.hid (show MB ((w.alloc (.cells #[.int .i64 n, .int .u64 b] 38)).alloc (.cells #[.int .i64 0, .int .u64 0] 38)) (w.heap.size + 1) 0 0 from by
    have := MB.new (w.alloc (.cells #[.int .i64 n, .int .u64 b] 38)) 0 0
    rwa [show (w.alloc (.cells #[.int .i64 n, .int .u64 b] 38)).heap.size = w.heap.size + 1 by simp] at this)
  have HB := Lib.hid (((Below.refl _ w).alloc (Nat.le_refl _) (.cells #[.int .i64 n, .int .u64 b] 38)).alloc (by simp) (.cells #[.int .i64 0, .int .u64 0] 38))
  rw [hr] at HR
  clear hr
  clear hb
  unfold mV at HR HC ⊢
  go_enter Tryd.func28, Tryd.ntmps28
  go_upto_region 1 with fail
  obtain ⟨U, hU⟩ : ∃ U, (w.alloc (.cells #[.int .i64 n, .int .u64 b] 38)).alloc (.cells #[.int .i64 0, .int .u64 0] 38) = U := ⟨_, rfl⟩
  rw [hU] at HU0 HZ0 HB ⊢
  clear hU
  have c0 := HU0.out.c0
  have c1 := HU0.out.c1
  go_wp2_with fail
  refine (HR.out _).mono ?_
  rintro e wx ⟨rfl, hx⟩
  have HU := Lib.hid (HU0.out.below hx)
  have HZ := Lib.hid (HZ0.out.below hx)
  have HB2 := Lib.hid (HB.out.trans (hx.mono HB.out.size))
  clear hx HU0 HZ0 HB c0 c1
  have z0 := HZ.out.c0
  have z1 := HZ.out.c1
  have f0 := HZ.out.free 0
  have f1 := HZ.out.free 1
  go_wp2
  exact bodyPost_ret (rc_tmp Tryd.results28 _ _ (w.heap.size + 1) 38 _ (0, 0) _ (.int .i64 3) rfl rfl (HZ.out.put 0 0) Tryd.underlying38 rfl info_map) rfl ⟨rfl, below_put HB2.out (by omega) _ _⟩
theorem with_out {n : Int} {b : Nat} (hb : b < 18446744073709551616) {i : Int} (hr : rB n b = true) (hi : ¬ (0 ≤ i ∧ i < n)) (w : World) : Calls Tryd.prog 28 #[mV n b, .int .i64 i] w (MPost 0 0 1 w) := by
  have HR := Lib.hid (fun W => right_any n hb W)
  have HC := Lib.hid (fun W => chunk_any n b i W)
  have HU0 := Lib.hid ((MB.new w n b).alloc (.cells #[.int .i64 0, .int .u64 0] 38))
  have HZ0 := Lib.hid (show MB ((w.alloc (.cells #[.int .i64 n, .int .u64 b] 38)).alloc (.cells #[.int .i64 0, .int .u64 0] 38)) (w.heap.size + 1) 0 0 from by
    have := MB.new (w.alloc (.cells #[.int .i64 n, .int .u64 b] 38)) 0 0
    rwa [show (w.alloc (.cells #[.int .i64 n, .int .u64 b] 38)).heap.size = w.heap.size + 1 by simp] at this)
  have HB := Lib.hid (((Below.refl _ w).alloc (Nat.le_refl _) (.cells #[.int .i64 n, .int .u64 b] 38)).alloc (by simp) (.cells #[.int .i64 0, .int .u64 0] 38))
  rw [hr] at HR
  rw [decide_eq_false hi] at HC
  clear hr hi
  clear hb
  unfold mV at HR HC ⊢
  go_enter Tryd.func28, Tryd.ntmps28
  go_upto_region 1 with fail
  obtain ⟨U, hU⟩ : ∃ U, (w.alloc (.cells #[.int .i64 n, .int .u64 b] 38)).alloc (.cells #[.int .i64 0, .int .u64 0] 38) = U := ⟨_, rfl⟩
  rw [hU] at HU0 HZ0 HB ⊢
  clear hU
  have c0 := HU0.out.c0
  have c1 := HU0.out.c1
  go_wp2_with fail
  refine (HR.out _).mono ?_
  rintro e wx ⟨rfl, hx⟩
  have HU := Lib.hid (HU0.out.below hx)
  have HZ := Lib.hid (HZ0.out.below hx)
  have HB2 := Lib.hid (HB.out.trans (hx.mono HB.out.size))
  clear hx HU0 HZ0 HB c0 c1
  have c0 := HU.out.c0
  have c1 := HU.out.c1
  go_wp2_with fail
  refine (HC.out _).mono ?_
  rintro e wy ⟨rfl, hy⟩
  have HU := Lib.hid (HU.out.below hy)
  have HZ := Lib.hid (HZ.out.below hy)
  have HB2 := Lib.hid (HB2.out.trans (hy.mono HB2.out.size))
  clear hy c0 c1
  have z0 := HZ.out.c0
  have z1 := HZ.out.c1
  have f0 := HZ.out.free 0
  have f1 := HZ.out.free 1
  go_wp2
  exact bodyPost_ret (rc_tmp Tryd.results28 _ _ (w.heap.size + 1) 38 _ (0, 0) _ (.int .i64 1) rfl rfl (HZ.out.put 0 0) Tryd.underlying38 rfl info_map) rfl ⟨rfl, below_put HB2.out (by omega) _ _⟩
theorem with_in {n : Int} {b : Nat} (hb : b < 18446744073709551616) {i : Int} {k : Nat} (hk : i = k) (hr : rB n b = true) (hi : (k : Int) < n) (w : World) : Calls Tryd.prog 28 #[mV n b, .int .i64 i] w (MPost n ((b ||| 2 ^ k : Nat) : Int) 0 w) := by
  have HR := Lib.hid (fun W => right_any n hb W)
  have HC := Lib.hid (fun W => chunk_any n b i W)
  have HU0 := Lib.hid ((MB.new w n b).alloc (.cells #[.int .i64 0, .int .u64 0] 38))
  have HZ0 := Lib.hid (show MB ((w.alloc (.cells #[.int .i64 n, .int .u64 b] 38)).alloc (.cells #[.int .i64 0, .int .u64 0] 38)) (w.heap.size + 1) 0 0 from by
    have := MB.new (w.alloc (.cells #[.int .i64 n, .int .u64 b] 38)) 0 0
    rwa [show (w.alloc (.cells #[.int .i64 n, .int .u64 b] 38)).heap.size = w.heap.size + 1 by simp] at this)
  have HB := Lib.hid (((Below.refl _ w).alloc (Nat.le_refl _) (.cells #[.int .i64 n, .int .u64 b] 38)).alloc (by simp) (.cells #[.int .i64 0, .int .u64 0] 38))
  rw [hr] at HR
  rw [decide_eq_true (show 0 ≤ i ∧ i < n by omega)] at HC
  subst hk
  have hk64 : k < 64 := by
    obtain ⟨m, rfl, h3, _⟩ := rB_yes hr
    omega
  have HOR := Lib.hid (show bits .or .u64 (b : Int) (IntKind.u64.wrap (2 ^ k)) = ((b ||| 2 ^ k : Nat) : Int) from by
    have hp : 2 ^ k < 2 ^ 64 := Nat.pow_lt_pow_right (by omega) hk64
    rw [show ((2 : Int) ^ k) = ((2 ^ k : Nat) : Int) by simp, wrap64, Nat.mod_eq_of_lt hp, u64_or' hb hp])
  obtain ⟨x, hx⟩ : ∃ x, b ||| 2 ^ k = x := ⟨_, rfl⟩
  rw [hx] at HOR ⊢
  have g0 : (0 : Int) ≤ (k : Int) := by omega
  clear hr hi hx
  clear hb
  unfold mV at HR HC ⊢
  go_enter Tryd.func28, Tryd.ntmps28
  go_upto_region 1 with fail
  obtain ⟨U, hU⟩ : ∃ U, (w.alloc (.cells #[.int .i64 n, .int .u64 b] 38)).alloc (.cells #[.int .i64 0, .int .u64 0] 38) = U := ⟨_, rfl⟩
  rw [hU] at HU0 HZ0 HB ⊢
  clear hU
  have c0 := HU0.out.c0
  have c1 := HU0.out.c1
  go_wp2_with fail
  refine (HR.out _).mono ?_
  rintro e wx ⟨rfl, hx⟩
  have HU := Lib.hid (HU0.out.below hx)
  have HZ := Lib.hid (HZ0.out.below hx)
  have HB2 := Lib.hid (HB.out.trans (hx.mono HB.out.size))
  clear hx HU0 HZ0 HB c0 c1
  have c0 := HU.out.c0
  have c1 := HU.out.c1
  go_wp2_with fail
  refine (HC.out _).mono ?_
  rintro e wy ⟨rfl, hy⟩
  have HU := Lib.hid (HU.out.below hy)
  have HZ := Lib.hid (HZ.out.below hy)
  have HB2 := Lib.hid (HB2.out.trans (hy.mono HB2.out.size))
  clear hy c0 c1
  have c0 := HU.out.c0
  have c1 := HU.out.c1
  have z0 := HZ.out.c0
  have z1 := HZ.out.c1
  have f0 := HZ.out.free 0
  have f1 := HZ.out.free 1
  have fz := HU.out.free 1
  go_wp2_with fail
  go_region
  rw [HOR.out]
  have HU := Lib.hid ((HU.out.s1 x).drew)
  have HZ := Lib.hid ((HZ.out.far w.heap.size 1 (.int .u64 x) (by omega)).drew)
  have HB2 := Lib.hid (belowN (below_cell HB2.out (Nat.le_refl _) 1 (.int .u64 x)) 1)
  obtain ⟨V, hV⟩ : ∃ V, (wy.setCell ⟨w.heap.size, 1, none⟩ (.int .u64 x)).drew = V := ⟨_, rfl⟩
  rw [show (wy.setCell ⟨w.heap.size, 1, none⟩ (.int .u64 x)).drewN 1 = V from hV] at HB2
  rw [hV] at HU HZ ⊢
  clear hV c0 c1 z0 z1 f0 f1 fz
  have c0 := HU.out.c0
  have c1 := HU.out.c1
  have z0 := HZ.out.c0
  have z1 := HZ.out.c1
  have f0 := HZ.out.free 0
  have f1 := HZ.out.free 1
  go_wp2
  exact bodyPost_ret (rc_tmp Tryd.results28 _ _ (w.heap.size + 1) 38 _ (0, 0) _ (.int .i64 0) rfl rfl (HZ.out.put n x) Tryd.underlying38 rfl info_map) rfl ⟨rfl, below_put HB2.out (by omega) _ _⟩
theorem rB_lt {n : Int} {b : Nat} (h : rB n b = true) : b < 18446744073709551616 := by
  obtain ⟨k, _, h1, h2⟩ := rB_yes h
  exact Nat.lt_of_lt_of_le h2 (pow_le64 h1)
theorem or_bad1 {n m : Int} {a b : Nat} (ha : a < 18446744073709551616) (hb : b < 18446744073709551616) (hr : rB n a = false) (w : World) : Calls Tryd.prog 37 #[mV n a, mV m b] w (MPost 0 0 3 w) := by
  have HP := Lib.hid (fun W => right_any n ha W)
  have HQ := Lib.hid (fun W => right_any m hb W)
  have HU0 := Lib.hid (((MB.new w n a).alloc (.cells #[.int .i64 m, .int .u64 b] 38)).alloc (.cells #[.int .i64 0, .int .u64 0] 38))
  have HV0 := Lib.hid (show MB (((w.alloc (.cells #[.int .i64 n, .int .u64 a] 38)).alloc (.cells #[.int .i64 m, .int .u64 b] 38)).alloc (.cells #[.int .i64 0, .int .u64 0] 38)) (w.heap.size + 1) m b from by
    have := (MB.new (w.alloc (.cells #[.int .i64 n, .int .u64 a] 38)) m b).alloc (.cells #[.int .i64 0, .int .u64 0] 38)
    rwa [show (w.alloc (.cells #[.int .i64 n, .int .u64 a] 38)).heap.size = w.heap.size + 1 by simp] at this)
  have HZ0 := Lib.hid (show MB (((w.alloc (.cells #[.int .i64 n, .int .u64 a] 38)).alloc (.cells #[.int .i64 m, .int .u64 b] 38)).alloc (.cells #[.int .i64 0, .int .u64 0] 38)) (w.heap.size + 2) 0 0 from by
    have := MB.new ((w.alloc (.cells #[.int .i64 n, .int .u64 a] 38)).alloc (.cells #[.int .i64 m, .int .u64 b] 38)) 0 0
    rwa [show ((w.alloc (.cells #[.int .i64 n, .int .u64 a] 38)).alloc (.cells #[.int .i64 m, .int .u64 b] 38)).heap.size = w.heap.size + 2 by simp] at this)
  have HB0 := Lib.hid ((((Below.refl _ w).alloc (Nat.le_refl _) (.cells #[.int .i64 n, .int .u64 a] 38)).alloc (by simp) (.cells #[.int .i64 m, .int .u64 b] 38)).alloc (by simp; omega) (.cells #[.int .i64 0, .int .u64 0] 38))
  rw [hr] at HP
  clear ha hb hr
  unfold mV at HP HQ ⊢
  go_enter Tryd.func37, Tryd.ntmps37
  go_upto_region 1 with fail
  obtain ⟨U, hU⟩ : ∃ U, ((w.alloc (.cells #[.int .i64 n, .int .u64 a] 38)).alloc (.cells #[.int .i64 m, .int .u64 b] 38)).alloc (.cells #[.int .i64 0, .int .u64 0] 38) = U := ⟨_, rfl⟩
  rw [hU] at HU0 HV0 HZ0 HB0 ⊢
  clear hU
  have a0 := HU0.out.c0
  have a1 := HU0.out.c1
  go_wp2_with fail
  refine (HP.out _).mono ?_
  rintro e w1 ⟨rfl, h1⟩
  have HU := Lib.hid (HU0.out.below h1)
  have HV := Lib.hid (HV0.out.below h1)
  have HZ := Lib.hid (HZ0.out.below h1)
  have HB := Lib.hid (HB0.out.trans (h1.mono HB0.out.size))
  clear h1 HU0 HV0 HZ0 HB0 a0 a1
  have a0 := HU.out.c0
  have a1 := HU.out.c1
  have b0 := HV.out.c0
  have b1 := HV.out.c1
  have z0 := HZ.out.c0
  have z1 := HZ.out.c1
  have f0 := HZ.out.free 0
  have f1 := HZ.out.free 1
  go_wp2
  exact bodyPost_ret (rc_tmp Tryd.results37 _ _ (w.heap.size + 2) 38 _ (0, 0) _ (.int .i64 3) rfl rfl (HZ.out.put 0 0) Tryd.underlying38 rfl info_map) rfl ⟨rfl, below_put HB.out (by omega) _ _⟩
theorem or_bad2 {n m : Int} {a b : Nat} (ha : a < 18446744073709551616) (hb : b < 18446744073709551616) (hr : rB n a = true) (hq : rB m b = false) (w : World) : Calls Tryd.prog 37 #[mV n a, mV m b] w (MPost 0 0 3 w) := by
  have HP := Lib.hid (fun W => right_any n ha W)
  have HQ := Lib.hid (fun W => right_any m hb W)
  have HU0 := Lib.hid (((MB.new w n a).alloc (.cells #[.int .i64 m, .int .u64 b] 38)).alloc (.cells #[.int .i64 0, .int .u64 0] 38))
  have HV0 := Lib.hid (show MB (((w.alloc (.cells #[.int .i64 n, .int .u64 a] 38)).alloc (.cells #[.int .i64 m, .int .u64 b] 38)).alloc (.cells #[.int .i64 0, .int .u64 0] 38)) (w.heap.size + 1) m b from by
    have := (MB.new (w.alloc (.cells #[.int .i64 n, .int .u64 a] 38)) m b).alloc (.cells #[.int .i64 0, .int .u64 0] 38)
    rwa [show (w.alloc (.cells #[.int .i64 n, .int .u64 a] 38)).heap.size = w.heap.size + 1 by simp] at this)
  have HZ0 := Lib.hid (show MB (((w.alloc (.cells #[.int .i64 n, .int .u64 a] 38)).alloc (.cells #[.int .i64 m, .int .u64 b] 38)).alloc (.cells #[.int .i64 0, .int .u64 0] 38)) (w.heap.size + 2) 0 0 from by
    have := MB.new ((w.alloc (.cells #[.int .i64 n, .int .u64 a] 38)).alloc (.cells #[.int .i64 m, .int .u64 b] 38)) 0 0
    rwa [show ((w.alloc (.cells #[.int .i64 n, .int .u64 a] 38)).alloc (.cells #[.int .i64 m, .int .u64 b] 38)).heap.size = w.heap.size + 2 by simp] at this)
  have HB0 := Lib.hid ((((Below.refl _ w).alloc (Nat.le_refl _) (.cells #[.int .i64 n, .int .u64 a] 38)).alloc (by simp) (.cells #[.int .i64 m, .int .u64 b] 38)).alloc (by simp; omega) (.cells #[.int .i64 0, .int .u64 0] 38))
  rw [hr] at HP
  rw [hq] at HQ
  clear ha hb hr hq
  unfold mV at HP HQ ⊢
  go_enter Tryd.func37, Tryd.ntmps37
  go_upto_region 1 with fail
  obtain ⟨U, hU⟩ : ∃ U, ((w.alloc (.cells #[.int .i64 n, .int .u64 a] 38)).alloc (.cells #[.int .i64 m, .int .u64 b] 38)).alloc (.cells #[.int .i64 0, .int .u64 0] 38) = U := ⟨_, rfl⟩
  rw [hU] at HU0 HV0 HZ0 HB0 ⊢
  clear hU
  have a0 := HU0.out.c0
  have a1 := HU0.out.c1
  go_wp2_with fail
  refine (HP.out _).mono ?_
  rintro e w1 ⟨rfl, h1⟩
  have HU := Lib.hid (HU0.out.below h1)
  have HV := Lib.hid (HV0.out.below h1)
  have HZ := Lib.hid (HZ0.out.below h1)
  have HB := Lib.hid (HB0.out.trans (h1.mono HB0.out.size))
  clear h1 HU0 HV0 HZ0 HB0 a0 a1
  have a0 := HU.out.c0
  have a1 := HU.out.c1
  have b0 := HV.out.c0
  have b1 := HV.out.c1
  go_wp2_with fail
  refine (HQ.out _).mono ?_
  rintro e w2 ⟨rfl, h2⟩
  have HU := Lib.hid (HU.out.below h2)
  have HV := Lib.hid (HV.out.below h2)
  have HZ := Lib.hid (HZ.out.below h2)
  have HB := Lib.hid (HB.out.trans (h2.mono HB.out.size))
  clear h2 a0 a1 b0 b1
  have a0 := HU.out.c0
  have a1 := HU.out.c1
  have b0 := HV.out.c0
  have b1 := HV.out.c1
  have z0 := HZ.out.c0
  have z1 := HZ.out.c1
  have f0 := HZ.out.free 0
  have f1 := HZ.out.free 1
  go_wp2
  exact bodyPost_ret (rc_tmp Tryd.results37 _ _ (w.heap.size + 2) 38 _ (0, 0) _ (.int .i64 3) rfl rfl (HZ.out.put 0 0) Tryd.underlying38 rfl info_map) rfl ⟨rfl, below_put HB.out (by omega) _ _⟩
theorem or_un {n m : Int} {a b : Nat} (ha : a < 18446744073709551616) (hb : b < 18446744073709551616) (hr : rB n a = true) (hq : rB m b = true) (hne : n ≠ m) (w : World) : Calls Tryd.prog 37 #[mV n a, mV m b] w (MPost 0 0 1 w) := by
  have HP := Lib.hid (fun W => right_any n ha W)
  have HQ := Lib.hid (fun W => right_any m hb W)
  have HU0 := Lib.hid (((MB.new w n a).alloc (.cells #[.int .i64 m, .int .u64 b] 38)).alloc (.cells #[.int .i64 0, .int .u64 0] 38))
  have HV0 := Lib.hid (show MB (((w.alloc (.cells #[.int .i64 n, .int .u64 a] 38)).alloc (.cells #[.int .i64 m, .int .u64 b] 38)).alloc (.cells #[.int .i64 0, .int .u64 0] 38)) (w.heap.size + 1) m b from by
    have := (MB.new (w.alloc (.cells #[.int .i64 n, .int .u64 a] 38)) m b).alloc (.cells #[.int .i64 0, .int .u64 0] 38)
    rwa [show (w.alloc (.cells #[.int .i64 n, .int .u64 a] 38)).heap.size = w.heap.size + 1 by simp] at this)
  have HZ0 := Lib.hid (show MB (((w.alloc (.cells #[.int .i64 n, .int .u64 a] 38)).alloc (.cells #[.int .i64 m, .int .u64 b] 38)).alloc (.cells #[.int .i64 0, .int .u64 0] 38)) (w.heap.size + 2) 0 0 from by
    have := MB.new ((w.alloc (.cells #[.int .i64 n, .int .u64 a] 38)).alloc (.cells #[.int .i64 m, .int .u64 b] 38)) 0 0
    rwa [show ((w.alloc (.cells #[.int .i64 n, .int .u64 a] 38)).alloc (.cells #[.int .i64 m, .int .u64 b] 38)).heap.size = w.heap.size + 2 by simp] at this)
  have HB0 := Lib.hid ((((Below.refl _ w).alloc (Nat.le_refl _) (.cells #[.int .i64 n, .int .u64 a] 38)).alloc (by simp) (.cells #[.int .i64 m, .int .u64 b] 38)).alloc (by simp; omega) (.cells #[.int .i64 0, .int .u64 0] 38))
  rw [hr] at HP
  rw [hq] at HQ
  have hn1 : (n != m) = true := by simpa using hne
  clear ha hb hr hq
  unfold mV at HP HQ ⊢
  go_enter Tryd.func37, Tryd.ntmps37
  go_upto_region 1 with fail
  obtain ⟨U, hU⟩ : ∃ U, ((w.alloc (.cells #[.int .i64 n, .int .u64 a] 38)).alloc (.cells #[.int .i64 m, .int .u64 b] 38)).alloc (.cells #[.int .i64 0, .int .u64 0] 38) = U := ⟨_, rfl⟩
  rw [hU] at HU0 HV0 HZ0 HB0 ⊢
  clear hU
  have a0 := HU0.out.c0
  have a1 := HU0.out.c1
  go_wp2_with fail
  refine (HP.out _).mono ?_
  rintro e w1 ⟨rfl, h1⟩
  have HU := Lib.hid (HU0.out.below h1)
  have HV := Lib.hid (HV0.out.below h1)
  have HZ := Lib.hid (HZ0.out.below h1)
  have HB := Lib.hid (HB0.out.trans (h1.mono HB0.out.size))
  clear h1 HU0 HV0 HZ0 HB0 a0 a1
  have a0 := HU.out.c0
  have a1 := HU.out.c1
  have b0 := HV.out.c0
  have b1 := HV.out.c1
  go_wp2_with fail
  refine (HQ.out _).mono ?_
  rintro e w2 ⟨rfl, h2⟩
  have HU := Lib.hid (HU.out.below h2)
  have HV := Lib.hid (HV.out.below h2)
  have HZ := Lib.hid (HZ.out.below h2)
  have HB := Lib.hid (HB.out.trans (h2.mono HB.out.size))
  clear h2 a0 a1 b0 b1
  have a0 := HU.out.c0
  have a1 := HU.out.c1
  have b0 := HV.out.c0
  have b1 := HV.out.c1
  have z0 := HZ.out.c0
  have z1 := HZ.out.c1
  have f0 := HZ.out.free 0
  have f1 := HZ.out.free 1
  go_wp2
  exact bodyPost_ret (rc_tmp Tryd.results37 _ _ (w.heap.size + 2) 38 _ (0, 0) _ (.int .i64 1) rfl rfl (HZ.out.put 0 0) Tryd.underlying38 rfl info_map) rfl ⟨rfl, below_put HB.out (by omega) _ _⟩
theorem or_in {n : Int} {a b : Nat} (ha : a < 18446744073709551616) (hb : b < 18446744073709551616) (hr : rB n a = true) (hq : rB n b = true) (w : World) : Calls Tryd.prog 37 #[mV n a, mV n b] w (MPost n ((a ||| b : Nat) : Int) 0 w) := by
  have HP := Lib.hid (fun W => right_any n ha W)
  have HQ := Lib.hid (fun W => right_any n hb W)
  have HU0 := Lib.hid (((MB.new w n a).alloc (.cells #[.int .i64 n, .int .u64 b] 38)).alloc (.cells #[.int .i64 0, .int .u64 0] 38))
  have HV0 := Lib.hid (show MB (((w.alloc (.cells #[.int .i64 n, .int .u64 a] 38)).alloc (.cells #[.int .i64 n, .int .u64 b] 38)).alloc (.cells #[.int .i64 0, .int .u64 0] 38)) (w.heap.size + 1) n b from by
    have := (MB.new (w.alloc (.cells #[.int .i64 n, .int .u64 a] 38)) n b).alloc (.cells #[.int .i64 0, .int .u64 0] 38)
    rwa [show (w.alloc (.cells #[.int .i64 n, .int .u64 a] 38)).heap.size = w.heap.size + 1 by simp] at this)
  have HZ0 := Lib.hid (show MB (((w.alloc (.cells #[.int .i64 n, .int .u64 a] 38)).alloc (.cells #[.int .i64 n, .int .u64 b] 38)).alloc (.cells #[.int .i64 0, .int .u64 0] 38)) (w.heap.size + 2) 0 0 from by
    have := MB.new ((w.alloc (.cells #[.int .i64 n, .int .u64 a] 38)).alloc (.cells #[.int .i64 n, .int .u64 b] 38)) 0 0
    rwa [show ((w.alloc (.cells #[.int .i64 n, .int .u64 a] 38)).alloc (.cells #[.int .i64 n, .int .u64 b] 38)).heap.size = w.heap.size + 2 by simp] at this)
  have HB0 := Lib.hid ((((Below.refl _ w).alloc (Nat.le_refl _) (.cells #[.int .i64 n, .int .u64 a] 38)).alloc (by simp) (.cells #[.int .i64 n, .int .u64 b] 38)).alloc (by simp; omega) (.cells #[.int .i64 0, .int .u64 0] 38))
  rw [hr] at HP
  rw [hq] at HQ
  have hn1 : (n != n) = false := by simp
  have HOR := Lib.hid (u64_or' ha hb)
  obtain ⟨x, hx⟩ : ∃ x, a ||| b = x := ⟨_, rfl⟩
  rw [hx] at HOR ⊢
  clear ha hb hr hq hx
  unfold mV at HP HQ ⊢
  go_enter Tryd.func37, Tryd.ntmps37
  go_upto_region 1 with fail
  obtain ⟨U, hU⟩ : ∃ U, ((w.alloc (.cells #[.int .i64 n, .int .u64 a] 38)).alloc (.cells #[.int .i64 n, .int .u64 b] 38)).alloc (.cells #[.int .i64 0, .int .u64 0] 38) = U := ⟨_, rfl⟩
  rw [hU] at HU0 HV0 HZ0 HB0 ⊢
  clear hU
  have a0 := HU0.out.c0
  have a1 := HU0.out.c1
  go_wp2_with fail
  refine (HP.out _).mono ?_
  rintro e w1 ⟨rfl, h1⟩
  have HU := Lib.hid (HU0.out.below h1)
  have HV := Lib.hid (HV0.out.below h1)
  have HZ := Lib.hid (HZ0.out.below h1)
  have HB := Lib.hid (HB0.out.trans (h1.mono HB0.out.size))
  clear h1 HU0 HV0 HZ0 HB0 a0 a1
  have a0 := HU.out.c0
  have a1 := HU.out.c1
  have b0 := HV.out.c0
  have b1 := HV.out.c1
  go_wp2_with fail
  refine (HQ.out _).mono ?_
  rintro e w2 ⟨rfl, h2⟩
  have HU := Lib.hid (HU.out.below h2)
  have HV := Lib.hid (HV.out.below h2)
  have HZ := Lib.hid (HZ.out.below h2)
  have HB := Lib.hid (HB.out.trans (h2.mono HB.out.size))
  clear h2 a0 a1 b0 b1
  have a0 := HU.out.c0
  have a1 := HU.out.c1
  have b0 := HV.out.c0
  have b1 := HV.out.c1
  have z0 := HZ.out.c0
  have z1 := HZ.out.c1
  have f0 := HZ.out.free 0
  have f1 := HZ.out.free 1
  go_wp2
  rw [HOR.out]
  exact bodyPost_ret (rc_tmp Tryd.results37 _ _ (w.heap.size + 2) 38 _ (0, 0) _ (.int .i64 0) rfl rfl (HZ.out.put n x) Tryd.underlying38 rfl info_map) rfl ⟨rfl, below_put HB.out (by omega) _ _⟩
end Go.Proofs.YtdlhpmbgpjjkoaaDoor
