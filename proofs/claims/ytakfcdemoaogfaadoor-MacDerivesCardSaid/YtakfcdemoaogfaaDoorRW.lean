/-
  Proved here: the document's own 'words' of a block of 64 bytes are the program's, in memory of its own.
-/
import Derived.Test.YtakfcdemoaogfaaDoorRApp
import Derived.Test.YtakfcdemoaogfaaDoorSAlive
import Derived.Deep.RegionHeld
import Derived.Deep.DrawnRows
import Derived.Deep.DeepCutAuto
namespace Go.Proofs.YtakfcdemoaogfaaDoor
open Go.RowKit
theorem lt_app {l : List Nat} {z n : Nat} (h : ∀ k, l.getD k 0 < n) (hz : z < n) (k : Nat) : (l ++ [z]).getD k 0 < n := by
  by_cases hk : k < l.length
  · have := h k
    simpa [List.getD_eq_getElem?_getD, List.getElem?_append_left hk] using this
  · by_cases e : k = l.length
    · subst e; simpa [List.getD_eq_getElem?_getD] using hz
    · have h0 := h l.length
      rw [show (l ++ [z]).getD k 0 = 0 by simp [List.getD_eq_getElem?_getD, List.getElem?_eq_none (show (l ++ [z]).length ≤ k by simp; omega)]]
      omega
structure WK (w : World) (l : List Nat) (n : Nat) (v : Value) (W : World) : Prop where
  own : W.ownsRow w.heap.size 33 1 v n (V32 l)
  len : l.length = n
  below : Below w.heap.size w W
theorem WK.drew {w : World} {l : List Nat} {n : Nat} {v : Value} {W : World} (h : WK w l n v W) : WK w l n v W.drew := ⟨h.own, h.len, h.below.drew⟩
/-- One word more. -/
theorem WK.app {w : World} {l : List Nat} {n : Nat} {v : Value} {W : World} (h : WK w l n v W) (hn : n ≤ 100000) (x : Nat) : ∃ g cap w', (Builtin.append_ #[61, 61] 61 #[v, .slice (some ⟨W.heap.size, 0, none⟩) 1 1]).run Tryd.prog (W.alloc (.cells #[.int .u32 (x : Int)] 33)) = .ok (.slice (some ⟨g, 0, none⟩) (n + 1) cap) w' ∧
    WK w (l ++ [x]) (n + 1) (.slice (some ⟨g, 0, none⟩) (n + 1) cap) w' ∧ ∀ g0 k, v.ownBlock = some g0 → k < n → w'.cell? ⟨g0, k, none⟩ = W.cell? ⟨g0, k, none⟩ := by
  obtain ⟨g, cap, w', hr, ho, hg, _, _, hk⟩ := app32 w.heap.size v l n x W _ rfl h.len h.own h.below.size hn
  exact ⟨g, cap, w', hr, ⟨ho, by simp [h.len], (h.below.alloc h.below.size _).grown hg (by have := h.below.size; simp; omega) (own_le h.own)⟩, hk⟩
set_option maxRecDepth 100000 in
set_option maxHeartbeats 4000000 in
theorem rwords_any (blk : List Nat) (B : Option Addr) (cb : Nat) (w : World) (hB : R0 w B blk) (hlb : blk.length = 64) (hb : ∀ j, blk.getD j 0 < 256) :
    Calls Tryd.prog 40 #[.slice B 64 cb] w fun e w' => ∃ v, e = .returned v ∧ WK w (wordsS blk) 64 v w' := by
  obtain ⟨bb, ob, rfl, hbb, hc⟩ := hB (by omega)
  have HC := Lib.hid (fun i (hi : i < 64) => hc i (by omega))
  have HB := Lib.hid hb
  clear hB hc hb
  go_enter Tryd.func40, Tryd.ntmps40
  go_wp2
  go_loopw [3, 4] (fun v i wr => ∃ i' : Nat, i' ≤ 16 ∧ i = .int .i64 i' ∧ Hid (WK w ((wl1 blk (4 * i')).take i') i' v wr) ∧ Hid (∀ k, ((wl1 blk (4 * i')).take i').getD k 0 < 4294967296)) (fun _ i _ => 16 - (intOf i).toNat)
  case atStart => exact ⟨0, by omega, rfl, Lib.hid ⟨World.ownsRow_nil _ _ _ _, rfl, Below.refl _ _⟩, Lib.hid (fun k => by simp)⟩
  case round =>
    obtain ⟨i, hi, rfl, HK, HI⟩ := hrel
    by_cases hlt : i < 16
    · have c0 := HC.out (4 * i) (by omega)
      have c1 := HC.out (4 * i + 1) (by omega)
      have c2 := HC.out (4 * i + 2) (by omega)
      have c3 := HC.out (4 * i + 3) (by omega)
      have l0 := HB.out (4 * i)
      have l1 := HB.out (4 * i + 1)
      have l2 := HB.out (4 * i + 2)
      have l3 := HB.out (4 * i + 3)
      have HT := Lib.hid (take_words blk HB.out i hlt)
      have hw : word4 blk i = 16777216 * blk.getD (4 * i) 0 + 65536 * blk.getD (4 * i + 1) 0 + 256 * blk.getD (4 * i + 2) 0 + blk.getD (4 * i + 3) 0 := rfl
      generalize word4 blk i = z at HT hw
      generalize blk.getD (4 * i) 0 = x0 at c0 l0 hw
      generalize blk.getD (4 * i + 1) 0 = x1 at c1 l1 hw
      generalize blk.getD (4 * i + 2) 0 = x2 at c2 l2 hw
      generalize blk.getD (4 * i + 3) 0 = x3 at c3 l3 hw
      obtain ⟨g, cap, w1, hr, hw1, _⟩ := HK.out.drew.app (by omega) z
      rw [← HT.out] at hw1
      have hzz : z < 4294967296 := by omega
      have HLT := Lib.hid (show ∀ k, ((wl1 blk (4 * (i + 1))).take (i + 1)).getD k 0 < 4294967296 by rw [HT.out]; exact lt_app HI.out hzz)
      have HR := Lib.hid hr
      have HW := Lib.hid hw1
      clear hr hw1
      have hz : z < 4294967296 := by omega
      obtain ⟨j0, hj0⟩ : ∃ j, 4 * i = j := ⟨_, rfl⟩
      obtain ⟨j1, hj1⟩ : ∃ j, 4 * i + 1 = j := ⟨_, rfl⟩
      obtain ⟨j2, hj2⟩ : ∃ j, 4 * i + 2 = j := ⟨_, rfl⟩
      obtain ⟨j3, hj3⟩ : ∃ j, 4 * i + 3 = j := ⟨_, rfl⟩
      rw [hj0] at c0
      rw [hj1] at c1
      rw [hj2] at c2
      rw [hj3] at c3
      have C0 := Lib.hid c0
      have C1 := Lib.hid c1
      have C2 := Lib.hid c2
      have C3 := Lib.hid c3
      have a0 : IntKind.i64.wrap (4 * (i : Int)) = (j0 : Int) := by rw [show 4 * (i : Int) = (j0 : Int) by omega]; exact IntWalk.i64_in _ (by omega)
      have a1 : IntKind.i64.wrap ((j0 : Int) + 1) = (j1 : Int) := by rw [show (j0 : Int) + 1 = (j1 : Int) by omega]; exact IntWalk.i64_in _ (by omega)
      have a2 : IntKind.i64.wrap ((j0 : Int) + 2) = (j2 : Int) := by rw [show (j0 : Int) + 2 = (j2 : Int) by omega]; exact IntWalk.i64_in _ (by omega)
      have a3 : IntKind.i64.wrap ((j0 : Int) + 3) = (j3 : Int) := by rw [show (j0 : Int) + 3 = (j3 : Int) by omega]; exact IntWalk.i64_in _ (by omega)
      have b0 : (j0 : Int) < 64 := by omega
      have b1 : (j1 : Int) < 64 := by omega
      have b2 : (j2 : Int) < 64 := by omega
      have b3 : (j3 : Int) < 64 := by omega
      obtain ⟨y0, hy0⟩ : ∃ y, 16777216 * x0 = y := ⟨_, rfl⟩
      obtain ⟨y1, hy1⟩ : ∃ y, 65536 * x1 = y := ⟨_, rfl⟩
      obtain ⟨y2, hy2⟩ : ∃ y, 256 * x2 = y := ⟨_, rfl⟩
      obtain ⟨t1, ht1⟩ : ∃ y, y0 + y1 = y := ⟨_, rfl⟩
      obtain ⟨t2, ht2⟩ : ∃ y, t1 + y2 = y := ⟨_, rfl⟩
      have q0 : IntKind.u32.wrap (x0 : Int) = (x0 : Int) := IntWalk.u32_in _ (by omega)
      have q1 : IntKind.u32.wrap (x1 : Int) = (x1 : Int) := IntWalk.u32_in _ (by omega)
      have q2 : IntKind.u32.wrap (x2 : Int) = (x2 : Int) := IntWalk.u32_in _ (by omega)
      have q3 : IntKind.u32.wrap (x3 : Int) = (x3 : Int) := IntWalk.u32_in _ (by omega)
      have m0 : IntKind.u32.wrap (16777216 * (x0 : Int)) = (y0 : Int) := by rw [show 16777216 * (x0 : Int) = (y0 : Int) by omega]; exact IntWalk.u32_in _ (by omega)
      have m1 : IntKind.u32.wrap (65536 * (x1 : Int)) = (y1 : Int) := by rw [show 65536 * (x1 : Int) = (y1 : Int) by omega]; exact IntWalk.u32_in _ (by omega)
      have m2 : IntKind.u32.wrap (256 * (x2 : Int)) = (y2 : Int) := by rw [show 256 * (x2 : Int) = (y2 : Int) by omega]; exact IntWalk.u32_in _ (by omega)
      have s1 : IntKind.u32.wrap ((y0 : Int) + (y1 : Int)) = (t1 : Int) := by rw [show (y0 : Int) + (y1 : Int) = (t1 : Int) by omega]; exact IntWalk.u32_in _ (by omega)
      have s2 : IntKind.u32.wrap ((t1 : Int) + (y2 : Int)) = (t2 : Int) := by rw [show (t1 : Int) + (y2 : Int) = (t2 : Int) by omega]; exact IntWalk.u32_in _ (by omega)
      have s3 : IntKind.u32.wrap ((t2 : Int) + (x3 : Int)) = (z : Int) := by rw [show (t2 : Int) + (x3 : Int) = (z : Int) by omega]; exact IntWalk.u32_in _ (by omega)
      clear hj0 hj1 hj2 hj3 hy0 hy1 hy2 ht1 ht2 hw l0 l1 l2 l3
      clear c0 c1 c2 c3
      go_upto_region 5 with fail
      refine wp_region_held_drew (S := fun W => Below w.heap.size w W) (by kernel_rfl) HK.out.below.drew (fun hHeld => ?_)
      refine wpAnyH_take (i := 0) (v := ?_) (by simp; rfl) (by kernel_rfl) (by kernel_rfl) (by kernel_rfl) (by exact fun _ _ _ h => h) (Or.inl ⟨by rfl, fun wx hSx => ?_⟩) hHeld ?_
      rotate_left
      · clear hSx; go_simp; (try with_reducible rfl)
      simp only [Act.put, List.setIfInBounds_toArray, List.set_cons_zero, List.set_cons_succ]
      refine wpAnyH_take (i := 1) (v := ?_) (by simp; rfl) (by kernel_rfl) (by kernel_rfl) (by kernel_rfl) (by exact fun _ _ _ h => h) (Or.inl ⟨by rfl, fun wx hSx => ?_⟩) hHeld ?_
      rotate_left
      · clear hSx; go_simp; (try with_reducible rfl)
      simp only [Act.put, List.setIfInBounds_toArray, List.set_cons_zero, List.set_cons_succ]
      refine wpAnyH_take (i := 2) (v := ?_) (by simp; rfl) (by kernel_rfl) (by kernel_rfl) (by kernel_rfl) (by exact fun _ _ _ h => h) (Or.inl ⟨by rfl, fun wx hSx => ?_⟩) hHeld ?_
      rotate_left
      · clear hSx; go_simp; (try with_reducible rfl)
      simp only [Act.put, List.setIfInBounds_toArray, List.set_cons_zero, List.set_cons_succ]
      refine wpAnyH_take (i := 3) (v := ?_) (by simp; rfl) (by kernel_rfl) (by kernel_rfl) (by kernel_rfl) (by exact fun _ _ _ h => h) (Or.inl ⟨by rfl, fun wx hSx => ?_⟩) hHeld ?_
      rotate_left
      · clear hSx; go_simp; (try with_reducible rfl)
      simp only [Act.put, List.setIfInBounds_toArray, List.set_cons_zero, List.set_cons_succ]
      refine wpAnyH_take (i := 4) (v := ?_) (by simp; rfl) (by kernel_rfl) (by kernel_rfl) (by kernel_rfl) (by exact fun _ _ _ h => h) (Or.inl ⟨by rfl, fun wx hSx => ?_⟩) hHeld ?_
      rotate_left
      · clear hSx; go_simp; (try with_reducible rfl)
      simp only [Act.put, List.setIfInBounds_toArray, List.set_cons_zero, List.set_cons_succ]
      refine wpAnyH_take (i := 5) (v := ?_) (by simp; rfl) (by kernel_rfl) (by kernel_rfl) (by kernel_rfl) (by exact fun _ _ _ h => h) (Or.inl ⟨by rfl, fun wx hSx => ?_⟩) hHeld ?_
      rotate_left
      · have hc := (hSx.cell (p := ⟨bb, ob + j0, none⟩) hbb).trans C0.out; clear hSx; go_simp; (try with_reducible rfl)
      simp only [Act.put, List.setIfInBounds_toArray, List.set_cons_zero, List.set_cons_succ]
      refine wpAnyH_take (i := 6) (v := ?_) (by simp; rfl) (by kernel_rfl) (by kernel_rfl) (by kernel_rfl) (by exact fun _ _ _ h => h) (Or.inl ⟨by rfl, fun wx hSx => ?_⟩) hHeld ?_
      rotate_left
      · clear hSx; go_simp; (try with_reducible rfl)
      simp only [Act.put, List.setIfInBounds_toArray, List.set_cons_zero, List.set_cons_succ]
      refine wpAnyH_take (i := 7) (v := ?_) (by simp; rfl) (by kernel_rfl) (by kernel_rfl) (by kernel_rfl) (by exact fun _ _ _ h => h) (Or.inl ⟨by rfl, fun wx hSx => ?_⟩) hHeld ?_
      rotate_left
      · clear hSx; go_simp; (try with_reducible rfl)
      simp only [Act.put, List.setIfInBounds_toArray, List.set_cons_zero, List.set_cons_succ]
      refine wpAnyH_take (i := 8) (v := ?_) (by simp; rfl) (by kernel_rfl) (by kernel_rfl) (by kernel_rfl) (by exact fun _ _ _ h => h) (Or.inl ⟨by rfl, fun wx hSx => ?_⟩) hHeld ?_
      rotate_left
      · clear hSx; go_simp; (try with_reducible rfl)
      simp only [Act.put, List.setIfInBounds_toArray, List.set_cons_zero, List.set_cons_succ]
      refine wpAnyH_take (i := 9) (v := ?_) (by simp; rfl) (by kernel_rfl) (by kernel_rfl) (by kernel_rfl) (by exact fun _ _ _ h => h) (Or.inl ⟨by rfl, fun wx hSx => ?_⟩) hHeld ?_
      rotate_left
      · clear hSx; go_simp; (try with_reducible rfl)
      simp only [Act.put, List.setIfInBounds_toArray, List.set_cons_zero, List.set_cons_succ]
      refine wpAnyH_take (i := 10) (v := ?_) (by simp; rfl) (by kernel_rfl) (by kernel_rfl) (by kernel_rfl) (by exact fun _ _ _ h => h) (Or.inl ⟨by rfl, fun wx hSx => ?_⟩) hHeld ?_
      rotate_left
      · clear hSx; go_simp; (try with_reducible rfl)
      simp only [Act.put, List.setIfInBounds_toArray, List.set_cons_zero, List.set_cons_succ]
      refine wpAnyH_take (i := 11) (v := ?_) (by simp; rfl) (by kernel_rfl) (by kernel_rfl) (by kernel_rfl) (by exact fun _ _ _ h => h) (Or.inl ⟨by rfl, fun wx hSx => ?_⟩) hHeld ?_
      rotate_left
      · clear hSx; go_simp; (try with_reducible rfl)
      simp only [Act.put, List.setIfInBounds_toArray, List.set_cons_zero, List.set_cons_succ]
      refine wpAnyH_take (i := 12) (v := ?_) (by simp; rfl) (by kernel_rfl) (by kernel_rfl) (by kernel_rfl) (by exact fun _ _ _ h => h) (Or.inl ⟨by rfl, fun wx hSx => ?_⟩) hHeld ?_
      rotate_left
      · clear hSx; go_simp; (try with_reducible rfl)
      simp only [Act.put, List.setIfInBounds_toArray, List.set_cons_zero, List.set_cons_succ]
      refine wpAnyH_take (i := 13) (v := ?_) (by simp; rfl) (by kernel_rfl) (by kernel_rfl) (by kernel_rfl) (by exact fun _ _ _ h => h) (Or.inl ⟨by rfl, fun wx hSx => ?_⟩) hHeld ?_
      rotate_left
      · have hc := (hSx.cell (p := ⟨bb, ob + j1, none⟩) hbb).trans C1.out; clear hSx; go_simp; (try with_reducible rfl)
      simp only [Act.put, List.setIfInBounds_toArray, List.set_cons_zero, List.set_cons_succ]
      refine wpAnyH_take (i := 14) (v := ?_) (by simp; rfl) (by kernel_rfl) (by kernel_rfl) (by kernel_rfl) (by exact fun _ _ _ h => h) (Or.inl ⟨by rfl, fun wx hSx => ?_⟩) hHeld ?_
      rotate_left
      · clear hSx; go_simp; (try with_reducible rfl)
      simp only [Act.put, List.setIfInBounds_toArray, List.set_cons_zero, List.set_cons_succ]
      refine wpAnyH_take (i := 15) (v := ?_) (by simp; rfl) (by kernel_rfl) (by kernel_rfl) (by kernel_rfl) (by exact fun _ _ _ h => h) (Or.inl ⟨by rfl, fun wx hSx => ?_⟩) hHeld ?_
      rotate_left
      · clear hSx; go_simp; (try with_reducible rfl)
      simp only [Act.put, List.setIfInBounds_toArray, List.set_cons_zero, List.set_cons_succ]
      refine wpAnyH_take (i := 16) (v := ?_) (by simp; rfl) (by kernel_rfl) (by kernel_rfl) (by kernel_rfl) (by exact fun _ _ _ h => h) (Or.inl ⟨by rfl, fun wx hSx => ?_⟩) hHeld ?_
      rotate_left
      · clear hSx; go_simp; (try with_reducible rfl)
      simp only [Act.put, List.setIfInBounds_toArray, List.set_cons_zero, List.set_cons_succ]
      refine wpAnyH_take (i := 17) (v := ?_) (by simp; rfl) (by kernel_rfl) (by kernel_rfl) (by kernel_rfl) (by exact fun _ _ _ h => h) (Or.inl ⟨by rfl, fun wx hSx => ?_⟩) hHeld ?_
      rotate_left
      · clear hSx; go_simp; (try with_reducible rfl)
      simp only [Act.put, List.setIfInBounds_toArray, List.set_cons_zero, List.set_cons_succ]
      refine wpAnyH_take (i := 18) (v := ?_) (by simp; rfl) (by kernel_rfl) (by kernel_rfl) (by kernel_rfl) (by exact fun _ _ _ h => h) (Or.inl ⟨by rfl, fun wx hSx => ?_⟩) hHeld ?_
      rotate_left
      · clear hSx; go_simp; (try with_reducible rfl)
      simp only [Act.put, List.setIfInBounds_toArray, List.set_cons_zero, List.set_cons_succ]
      refine wpAnyH_take (i := 19) (v := ?_) (by simp; rfl) (by kernel_rfl) (by kernel_rfl) (by kernel_rfl) (by exact fun _ _ _ h => h) (Or.inl ⟨by rfl, fun wx hSx => ?_⟩) hHeld ?_
      rotate_left
      · clear hSx; go_simp; (try with_reducible rfl)
      simp only [Act.put, List.setIfInBounds_toArray, List.set_cons_zero, List.set_cons_succ]
      refine wpAnyH_take (i := 20) (v := ?_) (by simp; rfl) (by kernel_rfl) (by kernel_rfl) (by kernel_rfl) (by exact fun _ _ _ h => h) (Or.inl ⟨by rfl, fun wx hSx => ?_⟩) hHeld ?_
      rotate_left
      · clear hSx; go_simp; (try with_reducible rfl)
      simp only [Act.put, List.setIfInBounds_toArray, List.set_cons_zero, List.set_cons_succ]
      refine wpAnyH_take (i := 21) (v := ?_) (by simp; rfl) (by kernel_rfl) (by kernel_rfl) (by kernel_rfl) (by exact fun _ _ _ h => h) (Or.inl ⟨by rfl, fun wx hSx => ?_⟩) hHeld ?_
      rotate_left
      · clear hSx; go_simp; (try with_reducible rfl)
      simp only [Act.put, List.setIfInBounds_toArray, List.set_cons_zero, List.set_cons_succ]
      refine wpAnyH_take (i := 22) (v := ?_) (by simp; rfl) (by kernel_rfl) (by kernel_rfl) (by kernel_rfl) (by exact fun _ _ _ h => h) (Or.inl ⟨by rfl, fun wx hSx => ?_⟩) hHeld ?_
      rotate_left
      · have hc := (hSx.cell (p := ⟨bb, ob + j2, none⟩) hbb).trans C2.out; clear hSx; go_simp; (try with_reducible rfl)
      simp only [Act.put, List.setIfInBounds_toArray, List.set_cons_zero, List.set_cons_succ]
      refine wpAnyH_take (i := 23) (v := ?_) (by simp; rfl) (by kernel_rfl) (by kernel_rfl) (by kernel_rfl) (by exact fun _ _ _ h => h) (Or.inl ⟨by rfl, fun wx hSx => ?_⟩) hHeld ?_
      rotate_left
      · clear hSx; go_simp; (try with_reducible rfl)
      simp only [Act.put, List.setIfInBounds_toArray, List.set_cons_zero, List.set_cons_succ]
      refine wpAnyH_take (i := 24) (v := ?_) (by simp; rfl) (by kernel_rfl) (by kernel_rfl) (by kernel_rfl) (by exact fun _ _ _ h => h) (Or.inl ⟨by rfl, fun wx hSx => ?_⟩) hHeld ?_
      rotate_left
      · clear hSx; go_simp; (try with_reducible rfl)
      simp only [Act.put, List.setIfInBounds_toArray, List.set_cons_zero, List.set_cons_succ]
      refine wpAnyH_take (i := 25) (v := ?_) (by simp; rfl) (by kernel_rfl) (by kernel_rfl) (by kernel_rfl) (by exact fun _ _ _ h => h) (Or.inl ⟨by rfl, fun wx hSx => ?_⟩) hHeld ?_
      rotate_left
      · clear hSx; go_simp; (try with_reducible rfl)
      simp only [Act.put, List.setIfInBounds_toArray, List.set_cons_zero, List.set_cons_succ]
      refine wpAnyH_take (i := 26) (v := ?_) (by simp; rfl) (by kernel_rfl) (by kernel_rfl) (by kernel_rfl) (by exact fun _ _ _ h => h) (Or.inl ⟨by rfl, fun wx hSx => ?_⟩) hHeld ?_
      rotate_left
      · clear hSx; go_simp; (try with_reducible rfl)
      simp only [Act.put, List.setIfInBounds_toArray, List.set_cons_zero, List.set_cons_succ]
      refine wpAnyH_take (i := 27) (v := ?_) (by simp; rfl) (by kernel_rfl) (by kernel_rfl) (by kernel_rfl) (by exact fun _ _ _ h => h) (Or.inl ⟨by rfl, fun wx hSx => ?_⟩) hHeld ?_
      rotate_left
      · clear hSx; go_simp; (try with_reducible rfl)
      simp only [Act.put, List.setIfInBounds_toArray, List.set_cons_zero, List.set_cons_succ]
      refine wpAnyH_take (i := 28) (v := ?_) (by simp; rfl) (by kernel_rfl) (by kernel_rfl) (by kernel_rfl) (by exact fun _ _ _ h => h) (Or.inl ⟨by rfl, fun wx hSx => ?_⟩) hHeld ?_
      rotate_left
      · clear hSx; go_simp; (try with_reducible rfl)
      simp only [Act.put, List.setIfInBounds_toArray, List.set_cons_zero, List.set_cons_succ]
      refine wpAnyH_take (i := 29) (v := ?_) (by simp; rfl) (by kernel_rfl) (by kernel_rfl) (by kernel_rfl) (by exact fun _ _ _ h => h) (Or.inl ⟨by rfl, fun wx hSx => ?_⟩) hHeld ?_
      rotate_left
      · clear hSx; go_simp; (try with_reducible rfl)
      simp only [Act.put, List.setIfInBounds_toArray, List.set_cons_zero, List.set_cons_succ]
      refine wpAnyH_take (i := 30) (v := ?_) (by simp; rfl) (by kernel_rfl) (by kernel_rfl) (by kernel_rfl) (by exact fun _ _ _ h => h) (Or.inl ⟨by rfl, fun wx hSx => ?_⟩) hHeld ?_
      rotate_left
      · clear hSx; go_simp; (try with_reducible rfl)
      simp only [Act.put, List.setIfInBounds_toArray, List.set_cons_zero, List.set_cons_succ]
      refine wpAnyH_take (i := 31) (v := ?_) (by simp; rfl) (by kernel_rfl) (by kernel_rfl) (by kernel_rfl) (by exact fun _ _ _ h => h) (Or.inl ⟨by rfl, fun wx hSx => ?_⟩) hHeld ?_
      rotate_left
      · have hc := (hSx.cell (p := ⟨bb, ob + j3, none⟩) hbb).trans C3.out; clear hSx; go_simp; (try with_reducible rfl)
      simp only [Act.put, List.setIfInBounds_toArray, List.set_cons_zero, List.set_cons_succ]
      refine wpAnyH_take (i := 32) (v := ?_) (by simp; rfl) (by kernel_rfl) (by kernel_rfl) (by kernel_rfl) (by exact fun _ _ _ h => h) (Or.inl ⟨by rfl, fun wx hSx => ?_⟩) hHeld ?_
      rotate_left
      · clear hSx; go_simp; (try with_reducible rfl)
      simp only [Act.put, List.setIfInBounds_toArray, List.set_cons_zero, List.set_cons_succ]
      refine wpAnyH_take (i := 33) (v := ?_) (by simp; rfl) (by kernel_rfl) (by kernel_rfl) (by kernel_rfl) (by exact fun _ _ _ h => h) (Or.inl ⟨by rfl, fun wx hSx => ?_⟩) hHeld ?_
      rotate_left
      · clear hSx; go_simp; (try with_reducible rfl)
      simp only [Act.put, List.setIfInBounds_toArray, List.set_cons_zero, List.set_cons_succ]
      refine wpAnyH_ready (rs := [34]) (by kernel_rfl) (by simp) ?_
      refine AllReadyH.cons (by simp; rfl) (fun K0 hK0 => ?_) AllReadyH.nil
      go_simp
      refine hK0.out _ _ (hHeld.alloc HK.out.below.size _) (fun hHeld => ?_)
      clear hK0 K0
      refine wpAnyH_ready (rs := [35]) (by kernel_rfl) (by simp) ?_
      refine AllReadyH.cons (by simp; rfl) (fun K0 hK0 => ?_) AllReadyH.nil
      refine step_run rfl (.tmp 12) (.tmp 46) 61 61 rfl _ _ rfl rfl _ _ HR.out ?_
      simp only [Act.put, List.setIfInBounds_toArray, List.set_cons_zero, List.set_cons_succ]
      refine hK0.out _ _ HW.out.below (fun hHeld => ?_)
      clear hK0 K0
      refine wpAnyH_take (i := 36) (v := ?_) (by simp; rfl) (by kernel_rfl) (by kernel_rfl) (by kernel_rfl) (by exact fun _ _ _ h => h) (Or.inl ⟨by rfl, fun wx hSx => ?_⟩) hHeld ?_
      rotate_left
      · clear hSx; go_simp; (try with_reducible rfl)
      simp only [Act.put, List.setIfInBounds_toArray, List.set_cons_zero, List.set_cons_succ]
      refine wpAnyH_done (by kernel_rfl) ?_ _
      go_wp2
      go_roundw
      case rel => exact ⟨i + 1, by omega, by go_num, HW, HLT⟩
      case measure => simp [intOf]; omega
    · obtain rfl : i = 16 := by omega
      have H2 := Lib.hid (show WK w ((wl2 (wl1 blk 64) (16 - 16)).take 16) 16 _ wr from HK.out)
      clear HK HB
      rw [show ((16 : Nat) : Int) = (16 : Int) from rfl]
      go_wp2
      go_loopw [3, 5, 6, 7] (fun v i _ _ wr => ∃ j' : Nat, 16 ≤ j' ∧ j' ≤ 64 ∧ i = .int .i64 j' ∧ Hid (WK w ((wl2 (wl1 blk 64) (j' - 16)).take j') j' v wr) ∧ Hid (∀ k, ((wl2 (wl1 blk 64) (j' - 16)).take j').getD k 0 < 4294967296)) (fun _ i _ _ _ => 64 - (intOf i).toNat)
      case atStart => exact ⟨16, by omega, by omega, rfl, H2, HI⟩
      case round =>
        obtain ⟨j, hj1, hj, rfl, HK, HJ⟩ := hrel
        clear H2 HI
        by_cases hlj : j < 64
        · have HT := Lib.hid (take_next (wl1 blk 64) (length_wl1 _ _) (j - 16) (by omega))
          rw [show 16 + (j - 16 + 1) = j + 1 by omega, show 16 + (j - 16) = j by omega, show j - 16 + 1 = j + 1 - 16 by omega] at HT
          obtain ⟨l2, hl2⟩ : ∃ l, (wl2 (wl1 blk 64) (j + 1 - 16)).take (j + 1) = l := ⟨_, rfl⟩
          rw [hl2] at HT
          have HL2 := Lib.hid hl2
          clear hl2
          generalize (wl2 (wl1 blk 64) (j - 16)).take j = l at HK HT HJ
          obtain ⟨g, cp, rfl, hgb, hgl⟩ := HK.out.own.form (by omega)
          have hll := HK.out.len
          have cell : ∀ k, k < j → wr.cell? ⟨g, k, none⟩ = some (.int .u32 (l.getD k 0 : Nat)) := fun k hk => (HK.out.own.cellAt k (by omega)).trans (V32_get (by omega))
          have hwn : wnext l (j - 16) = add32 (add32 (add32 (l.getD (j - 16) 0) (l.getD (j - 16 + 9) 0)) (sg0 (l.getD (j - 16 + 1) 0))) (sg1 (l.getD (j - 16 + 14) 0)) := rfl
          rw [show j - 16 + 9 = j - 7 by omega, show j - 16 + 1 = j - 15 by omega, show j - 16 + 14 = j - 2 by omega] at hwn
          have hzz : wnext l (j - 16) < 4294967296 := wnext_lt _ _
          have HLT := Lib.hid (show ∀ k, l2.getD k 0 < 4294967296 by rw [HT.out]; exact lt_app HJ.out hzz)
          obtain ⟨i16, e16⟩ : ∃ y, j - 16 = y := ⟨_, rfl⟩
          obtain ⟨i15, e15⟩ : ∃ y, j - 15 = y := ⟨_, rfl⟩
          obtain ⟨i7, e7⟩ : ∃ y, j - 7 = y := ⟨_, rfl⟩
          obtain ⟨i2, e2⟩ : ∃ y, j - 2 = y := ⟨_, rfl⟩
          rw [e16, e15, e7, e2] at hwn
          rw [e16] at HT
          have c16 := cell i16 (by omega)
          have c15 := cell i15 (by omega)
          have c7 := cell i7 (by omega)
          have c2 := cell i2 (by omega)
          have lx := HJ.out i15
          have ly := HJ.out i2
          rw [hwn] at HT
          clear hwn hzz
          generalize l.getD i16 0 = a at c16 HT
          generalize l.getD i15 0 = x at c15 HT lx
          generalize l.getD i7 0 = b at c7 HT
          generalize l.getD i2 0 = y at c2 HT ly
          have s16 : IntKind.i64.wrap ((j : Int) - 16) = (i16 : Int) := by rw [show (j : Int) - 16 = (i16 : Int) by omega]; exact IntWalk.i64_in _ (by omega)
          have s15 : IntKind.i64.wrap ((j : Int) - 15) = (i15 : Int) := by rw [show (j : Int) - 15 = (i15 : Int) by omega]; exact IntWalk.i64_in _ (by omega)
          have s7 : IntKind.i64.wrap ((j : Int) - 7) = (i7 : Int) := by rw [show (j : Int) - 7 = (i7 : Int) by omega]; exact IntWalk.i64_in _ (by omega)
          have s2 : IntKind.i64.wrap ((j : Int) - 2) = (i2 : Int) := by rw [show (j : Int) - 2 = (i2 : Int) by omega]; exact IntWalk.i64_in _ (by omega)
          have b16 : (i16 : Int) < (j : Int) := by omega
          have b15 : (i15 : Int) < (j : Int) := by omega
          have b7 : (i7 : Int) < (j : Int) := by omega
          have b2 : (i2 : Int) < (j : Int) := by omega
          have g16 : i16 < j := by omega
          have g7 : i7 < j := by omega
          unfold sg0 sg1 at HT
          obtain ⟨g', cap', w2, hr, hw2, hkp⟩ := HK.out.drew.drew.app (by omega) (add32 (add32 (add32 a b) (xor32 (xor32 (rot32 7 x) (rot32 18 x)) (shr3 x))) (xor32 (xor32 (rot32 17 y) (rot32 19 y)) (shr10 y)))
          rw [← HT.out] at hw2
          have HR := Lib.hid hr
          have HW := Lib.hid hw2
          have HKP := Lib.hid (And.intro ((hkp g i16 rfl g16).trans c16) ((hkp g i7 rfl g7).trans c7))
          have ha : ∀ p q : Nat, IntKind.u32.wrap ((p : Int) + (q : Int)) = ((add32 p q : Nat) : Int) := fun p q => by rw [IntKind.wrap_u32]; exact u32_add p q
          have hx := u32_xor
          have D := Lib.hid (And.intro c16 (And.intro c15 (And.intro c7 c2)))
          have LX := Lib.hid lx
          have LY := Lib.hid ly
          have hmx : wr.heap.size = wr.heap.size := rfl
          clear hr hw2 hkp c16 c15 c7 c2 cell e16 e15 e7 e2 hll lx ly hmx hgb
          go_upto_region 9 with fail
          refine wp_region_held_drew (S := fun W => W.cell? ⟨g, i15, none⟩ = some (.int .u32 (x : Int)) ∧ W.cell? ⟨g, i2, none⟩ = some (.int .u32 (y : Int))) (by kernel_rfl) ⟨D.out.2.1, D.out.2.2.2⟩ (fun hHeld => ?_)
          refine wpAnyH_take (i := 0) (v := ?_) (by simp; rfl) (by kernel_rfl) (by kernel_rfl) (by kernel_rfl) (by exact fun _ _ _ h => h) (Or.inl ⟨by rfl, fun wx hSx => ?_⟩) hHeld ?_
          rotate_left
          · clear hSx; go_simp; (try with_reducible rfl)
          simp only [Act.put, List.setIfInBounds_toArray, List.set_cons_zero, List.set_cons_succ]
          refine wpAnyH_take (i := 1) (v := ?_) (by simp; rfl) (by kernel_rfl) (by kernel_rfl) (by kernel_rfl) (by exact fun _ _ _ h => h) (Or.inl ⟨by rfl, fun wx hSx => ?_⟩) hHeld ?_
          rotate_left
          · clear hSx; go_simp; (try with_reducible rfl)
          simp only [Act.put, List.setIfInBounds_toArray, List.set_cons_zero, List.set_cons_succ]
          refine wpAnyH_take (i := 2) (v := ?_) (by simp; rfl) (by kernel_rfl) (by kernel_rfl) (by kernel_rfl) (by exact fun _ _ _ h => h) (Or.inl ⟨by rfl, fun wx hSx => ?_⟩) hHeld ?_
          rotate_left
          · clear hSx; go_simp; (try with_reducible rfl)
          simp only [Act.put, List.setIfInBounds_toArray, List.set_cons_zero, List.set_cons_succ]
          refine wpAnyH_take (i := 3) (v := ?_) (by simp; rfl) (by kernel_rfl) (by kernel_rfl) (by kernel_rfl) (by exact fun _ _ _ h => h) (Or.inl ⟨by rfl, fun wx hSx => ?_⟩) hHeld ?_
          rotate_left
          · clear hSx; go_simp; (try with_reducible rfl)
          simp only [Act.put, List.setIfInBounds_toArray, List.set_cons_zero, List.set_cons_succ]
          refine wpAnyH_take (i := 4) (v := ?_) (by simp; rfl) (by kernel_rfl) (by kernel_rfl) (by kernel_rfl) (by exact fun _ _ _ h => h) (Or.inl ⟨by rfl, fun wx hSx => ?_⟩) hHeld ?_
          rotate_left
          · have hc := hSx.1; clear hSx; go_simp; (try with_reducible rfl)
          simp only [Act.put, List.setIfInBounds_toArray, List.set_cons_zero, List.set_cons_succ]
          refine wpAnyH_take (i := 5) (v := ?_) (by simp; rfl) (by kernel_rfl) (by kernel_rfl) (by kernel_rfl) (by exact fun _ _ _ h => h) (Or.inl ⟨by rfl, fun wx hSx => ?_⟩) hHeld ?_
          rotate_left
          · clear hSx; go_simp; (try with_reducible rfl)
          simp only [Act.put, List.setIfInBounds_toArray, List.set_cons_zero, List.set_cons_succ]
          refine wpAnyH_take (i := 6) (v := ?_) (by simp; rfl) (by kernel_rfl) (by kernel_rfl) (by kernel_rfl) (by exact fun _ _ _ h => h) (Or.inl ⟨by rfl, fun wx hSx => ?_⟩) hHeld ?_
          rotate_left
          · clear hSx; go_simp; (try with_reducible rfl)
          simp only [Act.put, List.setIfInBounds_toArray, List.set_cons_zero, List.set_cons_succ]
          refine wpAnyH_take (i := 7) (v := ?_) (by simp; rfl) (by kernel_rfl) (by kernel_rfl) (by kernel_rfl) (by exact fun _ _ _ h => h) (Or.inl ⟨by rfl, fun wx hSx => ?_⟩) hHeld ?_
          rotate_left
          · clear hSx; go_simp; (try with_reducible rfl)
          simp only [Act.put, List.setIfInBounds_toArray, List.set_cons_zero, List.set_cons_succ]
          refine wpAnyH_take (i := 8) (v := ?_) (by simp; rfl) (by kernel_rfl) (by kernel_rfl) (by kernel_rfl) (by exact fun _ _ _ h => h) (Or.inl ⟨by rfl, fun wx hSx => ?_⟩) hHeld ?_
          rotate_left
          · clear hSx; go_simp; (try with_reducible rfl)
          simp only [Act.put, List.setIfInBounds_toArray, List.set_cons_zero, List.set_cons_succ]
          refine wpAnyH_take (i := 9) (v := ?_) (by simp; rfl) (by kernel_rfl) (by kernel_rfl) (by kernel_rfl) (by exact fun _ _ _ h => h) (Or.inl ⟨by rfl, fun wx hSx => ?_⟩) hHeld ?_
          rotate_left
          · have hc := hSx.2; clear hSx; go_simp; (try with_reducible rfl)
          simp only [Act.put, List.setIfInBounds_toArray, List.set_cons_zero, List.set_cons_succ]
          refine wpAnyH_take (i := 10) (v := ?_) (by simp; rfl) (by kernel_rfl) (by kernel_rfl) (by kernel_rfl) (by exact fun _ _ _ h => h) (Or.inl ⟨by rfl, fun wx hSx => ?_⟩) hHeld ?_
          rotate_left
          · clear hSx; go_simp; (try with_reducible rfl)
          simp only [Act.put, List.setIfInBounds_toArray, List.set_cons_zero, List.set_cons_succ]
          refine wpAnyH_take (i := 11) (v := ?_) (by simp; rfl) (by kernel_rfl) (by kernel_rfl) (by kernel_rfl) (by exact fun _ _ _ h => h) (Or.inl ⟨by rfl, fun wx hSx => ?_⟩) hHeld ?_
          rotate_left
          · clear hSx; go_simp; (try with_reducible rfl)
          simp only [Act.put, List.setIfInBounds_toArray, List.set_cons_zero, List.set_cons_succ]
          refine wpAnyH_done (by kernel_rfl) ?_ _
          clear hHeld
          go_upto_region 10 with fail
          refine wp_region_held_drew (S := fun W => W.cell? ⟨g, i16, none⟩ = some (.int .u32 (a : Int)) ∧ W.cell? ⟨g, i7, none⟩ = some (.int .u32 (b : Int))) (by kernel_rfl) ⟨D.out.1, D.out.2.2.1⟩ (fun hHeld => ?_)
          refine wpAnyH_take (i := 0) (v := ?_) (by simp; rfl) (by kernel_rfl) (by kernel_rfl) (by kernel_rfl) (by exact fun _ _ _ h => h) (Or.inl ⟨by rfl, fun wx hSx => ?_⟩) hHeld ?_
          rotate_left
          · clear hSx; go_simp; (try with_reducible rfl)
          simp only [Act.put, List.setIfInBounds_toArray, List.set_cons_zero, List.set_cons_succ]
          refine wpAnyH_take (i := 1) (v := ?_) (by simp; rfl) (by kernel_rfl) (by kernel_rfl) (by kernel_rfl) (by exact fun _ _ _ h => h) (Or.inl ⟨by rfl, fun wx hSx => ?_⟩) hHeld ?_
          rotate_left
          · clear hSx; go_simp; (try with_reducible rfl)
          simp only [Act.put, List.setIfInBounds_toArray, List.set_cons_zero, List.set_cons_succ]
          refine wpAnyH_take (i := 2) (v := ?_) (by simp; rfl) (by kernel_rfl) (by kernel_rfl) (by kernel_rfl) (by exact fun _ _ _ h => h) (Or.inl ⟨by rfl, fun wx hSx => ?_⟩) hHeld ?_
          rotate_left
          · clear hSx; go_simp; (try with_reducible rfl)
          simp only [Act.put, List.setIfInBounds_toArray, List.set_cons_zero, List.set_cons_succ]
          refine wpAnyH_take (i := 3) (v := ?_) (by simp; rfl) (by kernel_rfl) (by kernel_rfl) (by kernel_rfl) (by exact fun _ _ _ h => h) (Or.inl ⟨by rfl, fun wx hSx => ?_⟩) hHeld ?_
          rotate_left
          · clear hSx; go_simp; (try with_reducible rfl)
          simp only [Act.put, List.setIfInBounds_toArray, List.set_cons_zero, List.set_cons_succ]
          refine wpAnyH_take (i := 4) (v := ?_) (by simp; rfl) (by kernel_rfl) (by kernel_rfl) (by kernel_rfl) (by exact fun _ _ _ h => h) (Or.inl ⟨by rfl, fun wx hSx => ?_⟩) hHeld ?_
          rotate_left
          · clear hSx; go_simp; (try with_reducible rfl)
          simp only [Act.put, List.setIfInBounds_toArray, List.set_cons_zero, List.set_cons_succ]
          refine wpAnyH_take (i := 5) (v := ?_) (by simp; rfl) (by kernel_rfl) (by kernel_rfl) (by kernel_rfl) (by exact fun _ _ _ h => h) (Or.inl ⟨by rfl, fun wx hSx => ?_⟩) hHeld ?_
          rotate_left
          · have hc := hSx.1; clear hSx; go_simp; (try with_reducible rfl)
          simp only [Act.put, List.setIfInBounds_toArray, List.set_cons_zero, List.set_cons_succ]
          refine wpAnyH_take (i := 6) (v := ?_) (by simp; rfl) (by kernel_rfl) (by kernel_rfl) (by kernel_rfl) (by exact fun _ _ _ h => h) (Or.inl ⟨by rfl, fun wx hSx => ?_⟩) hHeld ?_
          rotate_left
          · clear hSx; go_simp; (try with_reducible rfl)
          simp only [Act.put, List.setIfInBounds_toArray, List.set_cons_zero, List.set_cons_succ]
          refine wpAnyH_take (i := 7) (v := ?_) (by simp; rfl) (by kernel_rfl) (by kernel_rfl) (by kernel_rfl) (by exact fun _ _ _ h => h) (Or.inl ⟨by rfl, fun wx hSx => ?_⟩) hHeld ?_
          rotate_left
          · clear hSx; go_simp; (try with_reducible rfl)
          simp only [Act.put, List.setIfInBounds_toArray, List.set_cons_zero, List.set_cons_succ]
          refine wpAnyH_take (i := 8) (v := ?_) (by simp; rfl) (by kernel_rfl) (by kernel_rfl) (by kernel_rfl) (by exact fun _ _ _ h => h) (Or.inl ⟨by rfl, fun wx hSx => ?_⟩) hHeld ?_
          rotate_left
          · clear hSx; go_simp; (try with_reducible rfl)
          simp only [Act.put, List.setIfInBounds_toArray, List.set_cons_zero, List.set_cons_succ]
          refine wpAnyH_take (i := 9) (v := ?_) (by simp; rfl) (by kernel_rfl) (by kernel_rfl) (by kernel_rfl) (by exact fun _ _ _ h => h) (Or.inl ⟨by rfl, fun wx hSx => ?_⟩) hHeld ?_
          rotate_left
          · clear hSx; go_simp; (try with_reducible rfl)
          simp only [Act.put, List.setIfInBounds_toArray, List.set_cons_zero, List.set_cons_succ]
          refine wpAnyH_take (i := 10) (v := ?_) (by simp; rfl) (by kernel_rfl) (by kernel_rfl) (by kernel_rfl) (by exact fun _ _ _ h => h) (Or.inl ⟨by rfl, fun wx hSx => ?_⟩) hHeld ?_
          rotate_left
          · have hc := hSx.2; clear hSx; go_simp; (try with_reducible rfl)
          simp only [Act.put, List.setIfInBounds_toArray, List.set_cons_zero, List.set_cons_succ]
          refine wpAnyH_take (i := 11) (v := ?_) (by simp; rfl) (by kernel_rfl) (by kernel_rfl) (by kernel_rfl) (by exact fun _ _ _ h => h) (Or.inl ⟨by rfl, fun wx hSx => ?_⟩) hHeld ?_
          rotate_left
          · clear hSx; go_simp; (try with_reducible rfl)
          simp only [Act.put, List.setIfInBounds_toArray, List.set_cons_zero, List.set_cons_succ]
          refine wpAnyH_take (i := 12) (v := ?_) (by simp; rfl) (by kernel_rfl) (by kernel_rfl) (by kernel_rfl) (by exact fun _ _ _ h => h) (Or.inl ⟨by rfl, fun wx hSx => ?_⟩) hHeld ?_
          rotate_left
          · clear hSx; go_simp; (try with_reducible rfl)
          simp only [Act.put, List.setIfInBounds_toArray, List.set_cons_zero, List.set_cons_succ]
          refine wpAnyH_take (i := 14) (v := ?_) (by simp; rfl) (by kernel_rfl) (by kernel_rfl) (by kernel_rfl) (by exact fun _ _ _ h => h) (Or.inl ⟨by rfl, fun wx hSx => ?_⟩) hHeld ?_
          rotate_left
          · clear hSx; go_simp; (try with_reducible rfl)
          simp only [Act.put, List.setIfInBounds_toArray, List.set_cons_zero, List.set_cons_succ]
          refine wpAnyH_take (i := 17) (v := ?_) (by simp; rfl) (by kernel_rfl) (by kernel_rfl) (by kernel_rfl) (by exact fun _ _ _ h => h) (Or.inl ⟨by rfl, fun wx hSx => ?_⟩) hHeld ?_
          rotate_left
          · clear hSx; go_simp; (try with_reducible rfl)
          simp only [Act.put, List.setIfInBounds_toArray, List.set_cons_zero, List.set_cons_succ]
          refine wpAnyH_take (i := 21) (v := ?_) (by simp; rfl) (by kernel_rfl) (by kernel_rfl) (by kernel_rfl) (by exact fun _ _ _ h => h) (Or.inl ⟨by rfl, fun wx hSx => ?_⟩) hHeld ?_
          rotate_left
          · clear hSx; go_simp; (try with_reducible rfl)
          simp only [Act.put, List.setIfInBounds_toArray, List.set_cons_zero, List.set_cons_succ]
          refine wpAnyH_take (i := 23) (v := ?_) (by simp; rfl) (by kernel_rfl) (by kernel_rfl) (by kernel_rfl) (by exact fun _ _ _ h => h) (Or.inl ⟨by rfl, fun wx hSx => ?_⟩) hHeld ?_
          rotate_left
          · clear hSx; go_simp; (try with_reducible rfl)
          simp only [Act.put, List.setIfInBounds_toArray, List.set_cons_zero, List.set_cons_succ]
          refine wpAnyH_take (i := 26) (v := ?_) (by simp; rfl) (by kernel_rfl) (by kernel_rfl) (by kernel_rfl) (by exact fun _ _ _ h => h) (Or.inl ⟨by rfl, fun wx hSx => ?_⟩) hHeld ?_
          rotate_left
          · clear hSx; go_simp; (try with_reducible rfl)
          simp only [Act.put, List.setIfInBounds_toArray, List.set_cons_zero, List.set_cons_succ]
          refine wpAnyH_ready (rs := [13]) (by kernel_rfl) (by simp) ?_
          refine AllReadyH.cons (by simp; rfl) (fun K0 hK0 => ?_) AllReadyH.nil
          go_simp
          refine (rturn_r 7 x _ LX.out (by omega) (by omega)).mono ?_
          rintro e w9 ⟨rfl, hw9⟩
          subst hw9
          refine hK0.out _ _ hHeld (fun _ => ?_)
          clear hK0 K0
          refine wpAnyH_ready (rs := [15]) (by kernel_rfl) (by simp) ?_
          refine AllReadyH.cons (by simp; rfl) (fun K0 hK0 => ?_) AllReadyH.nil
          go_simp
          refine (rturn_r 18 x _ LX.out (by omega) (by omega)).mono ?_
          rintro e w9 ⟨rfl, hw9⟩
          subst hw9
          refine hK0.out _ _ hHeld (fun _ => ?_)
          clear hK0 K0
          refine wpAnyH_take (i := 16) (v := ?_) (by simp; rfl) (by kernel_rfl) (by kernel_rfl) (by kernel_rfl) (by exact fun _ _ _ h => h) (Or.inl ⟨by rfl, fun wx hSx => ?_⟩) hHeld ?_
          rotate_left
          · clear hSx; go_simp; (try with_reducible rfl)
          simp only [Act.put, List.setIfInBounds_toArray, List.set_cons_zero, List.set_cons_succ]
          refine wpAnyH_ready (rs := [18]) (by kernel_rfl) (by simp) ?_
          refine AllReadyH.cons (by simp; rfl) (fun K0 hK0 => ?_) AllReadyH.nil
          go_simp
          refine (rdown3 x _ LX.out).mono ?_
          rintro e w9 ⟨rfl, hw9⟩
          subst hw9
          refine hK0.out _ _ hHeld (fun _ => ?_)
          clear hK0 K0
          refine wpAnyH_take (i := 19) (v := ?_) (by simp; rfl) (by kernel_rfl) (by kernel_rfl) (by kernel_rfl) (by exact fun _ _ _ h => h) (Or.inl ⟨by rfl, fun wx hSx => ?_⟩) hHeld ?_
          rotate_left
          · clear hSx; go_simp; (try with_reducible rfl)
          simp only [Act.put, List.setIfInBounds_toArray, List.set_cons_zero, List.set_cons_succ]
          refine wpAnyH_take (i := 20) (v := ?_) (by simp; rfl) (by kernel_rfl) (by kernel_rfl) (by kernel_rfl) (by exact fun _ _ _ h => h) (Or.inl ⟨by rfl, fun wx hSx => ?_⟩) hHeld ?_
          rotate_left
          · clear hSx; go_simp; (try with_reducible rfl)
          simp only [Act.put, List.setIfInBounds_toArray, List.set_cons_zero, List.set_cons_succ]
          refine wpAnyH_ready (rs := [22]) (by kernel_rfl) (by simp) ?_
          refine AllReadyH.cons (by simp; rfl) (fun K0 hK0 => ?_) AllReadyH.nil
          go_simp
          refine (rturn_r 17 y _ LY.out (by omega) (by omega)).mono ?_
          rintro e w9 ⟨rfl, hw9⟩
          subst hw9
          refine hK0.out _ _ hHeld (fun _ => ?_)
          clear hK0 K0
          refine wpAnyH_ready (rs := [24]) (by kernel_rfl) (by simp) ?_
          refine AllReadyH.cons (by simp; rfl) (fun K0 hK0 => ?_) AllReadyH.nil
          go_simp
          refine (rturn_r 19 y _ LY.out (by omega) (by omega)).mono ?_
          rintro e w9 ⟨rfl, hw9⟩
          subst hw9
          refine hK0.out _ _ hHeld (fun _ => ?_)
          clear hK0 K0
          refine wpAnyH_take (i := 25) (v := ?_) (by simp; rfl) (by kernel_rfl) (by kernel_rfl) (by kernel_rfl) (by exact fun _ _ _ h => h) (Or.inl ⟨by rfl, fun wx hSx => ?_⟩) hHeld ?_
          rotate_left
          · clear hSx; go_simp; (try with_reducible rfl)
          simp only [Act.put, List.setIfInBounds_toArray, List.set_cons_zero, List.set_cons_succ]
          refine wpAnyH_ready (rs := [27]) (by kernel_rfl) (by simp) ?_
          refine AllReadyH.cons (by simp; rfl) (fun K0 hK0 => ?_) AllReadyH.nil
          go_simp
          refine (rdown10 y _ LY.out).mono ?_
          rintro e w9 ⟨rfl, hw9⟩
          subst hw9
          refine hK0.out _ _ hHeld (fun _ => ?_)
          clear hK0 K0
          refine wpAnyH_take (i := 28) (v := ?_) (by simp; rfl) (by kernel_rfl) (by kernel_rfl) (by kernel_rfl) (by exact fun _ _ _ h => h) (Or.inl ⟨by rfl, fun wx hSx => ?_⟩) hHeld ?_
          rotate_left
          · clear hSx; go_simp; (try with_reducible rfl)
          simp only [Act.put, List.setIfInBounds_toArray, List.set_cons_zero, List.set_cons_succ]
          refine wpAnyH_take (i := 29) (v := ?_) (by simp; rfl) (by kernel_rfl) (by kernel_rfl) (by kernel_rfl) (by exact fun _ _ _ h => h) (Or.inl ⟨by rfl, fun wx hSx => ?_⟩) hHeld ?_
          rotate_left
          · clear hSx; go_simp; (try with_reducible rfl)
          simp only [Act.put, List.setIfInBounds_toArray, List.set_cons_zero, List.set_cons_succ]
          refine wpAnyH_ready (rs := [30]) (by kernel_rfl) (by simp) ?_
          refine AllReadyH.cons (by simp; rfl) (fun K0 hK0 => ?_) AllReadyH.nil
          go_simp
          refine hK0.out _ _ ⟨(World.cell?_of_block (Below.heap_alloc _ _ g hgl)).trans hHeld.1, (World.cell?_of_block (Below.heap_alloc _ _ g hgl)).trans hHeld.2⟩ (fun hHeld => ?_)
          clear hK0 K0
          refine wpAnyH_ready (rs := [31]) (by kernel_rfl) (by simp) ?_
          refine AllReadyH.cons (by simp; rfl) (fun K0 hK0 => ?_) AllReadyH.nil
          refine step_run rfl (.tmp 62) (.tmp 92) 61 61 rfl _ _ rfl rfl _ _ HR.out ?_
          simp only [Act.put, List.setIfInBounds_toArray, List.set_cons_zero, List.set_cons_succ]
          refine hK0.out _ _ HKP.out (fun hHeld => ?_)
          clear hK0 K0
          refine wpAnyH_take (i := 32) (v := ?_) (by simp; rfl) (by kernel_rfl) (by kernel_rfl) (by kernel_rfl) (by exact fun _ _ _ h => h) (Or.inl ⟨by rfl, fun wx hSx => ?_⟩) hHeld ?_
          rotate_left
          · clear hSx; go_simp; (try with_reducible rfl)
          simp only [Act.put, List.setIfInBounds_toArray, List.set_cons_zero, List.set_cons_succ]
          refine wpAnyH_done (by kernel_rfl) ?_ _
          go_wp2
          go_roundw
          case rel => exact ⟨j + 1, by omega, by omega, by go_num, by rw [HL2.out]; exact HW, by rw [HL2.out]; exact HLT⟩
          case measure => simp [intOf]; omega
        · obtain rfl : j = 64 := by omega
          have HE := Lib.hid (show WK w (wordsS blk) 64 _ wr from by
            have := HK.out
            rw [List.take_of_length_le (by rw [length_wl2 _ (length_wl1 _ _)]; omega)] at this
            exact this)
          clear HK HJ
          go_wp2
          go_ret
          exact ⟨_, rfl, HE.out⟩
end Go.Proofs.YtakfcdemoaogfaaDoor
