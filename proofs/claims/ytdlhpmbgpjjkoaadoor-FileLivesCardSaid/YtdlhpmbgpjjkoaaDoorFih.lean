/-
  Proved here, where sha's table lies as the program lays it: the fixed calls of file's 'alive' come out as they must.
-/
import Derived.Test.YtdlhpmbgpjjkoaaDoorFig
set_option linter.unusedSimpArgs false
set_option linter.unusedVariables false
namespace Go.Proofs.YtdlhpmbgpjjkoaaDoor
open Go.RowKit
def Z65 : List Int := List.replicate 65 0
theorem z65_pos : ∀ i, 0 ≤ Z65.getD i 0 := fun i => by
  unfold Z65
  rw [List.getD_eq_getElem?_getD, List.getElem?_replicate]
  split <;> exact Int.le_refl _
theorem made65 : madeCells (Value.int .u8 0).cells (65 * 1) = (NV .u8 Z65).toArray := by kernel_rfl
theorem mk65 (w : World) : (Instr.makeSlice 23 (.int .i64 65) (.int .i64 65)).run Tryd.prog w = .ok (.slice (some ⟨w.heap.size, 0, none⟩) 65 65) (w.alloc (.cells (NV .u8 Z65).toArray 5)) := by
  obtain ⟨i0, hi, hz0, hz1, hz2⟩ := info_parts info_u8
  have := run_make (P := Tryd.prog) w 23 5 i0 (.int .u8 0) Tryd.underlying23 hi hz0 .i64 .i64 65 65 (by decide) (by decide) (by rw [hz2]; decide) (by decide)
  rw [this, hz1]
  exact congrArg (fun c => Result.ok (Value.slice (some ⟨w.heap.size, 0, none⟩) 65 65) (w.alloc (.cells c 5))) made65
theorem rs_one (bs : List Int) (n : Nat) (w : World) (A : Option Addr) (c : Nat) (hn : bs.length = n) (hb : ∀ i, 0 ≤ bs.getD i 0) (hc : n ≤ c) (hm : c ≤ maxLen) (hr : RI .u8 w A bs) : RS (w.alloc (.cells #[.slice A n c] 23)) (some ⟨w.heap.size, 0, none⟩) [natL bs] := by
  subst hn
  refine RS.one (A := A) (c := c) (t := 23) ?_ ((hr.below ((Below.refl _ _).alloc (Nat.le_refl _) _)).r0 hb) (by rw [natL_len]; exact hc) hm
  rw [natL_len]
  exact heap_alloc_new w _
theorem sha_rs (bs : List Int) {w : World} {h : Nat} (hR : RS w (some ⟨h, 0, none⟩) [natL bs]) (hs : bs.length ≤ 100000) (_u : Unit) (hT : Tab w) :
    Calls Tryd.prog 25 #[.slice (some ⟨h, 0, none⟩) 1 1] w fun e w' => e = .returned (.agg (V8 (sumB bs)).toArray) ∧ Below w.heap.size w w' := by
  refine (of_any [natL bs] _ 1 _ hR (by simp) (by unfold maxLen; omega) hT (by simp [natL_len]; omega)).mono ?_
  rintro e w' ⟨rfl, h⟩
  exact ⟨by simp [sumB], h⟩
theorem fieldSum {id n : Nat} {nm : ByteArray} {X : List Nat} (hX : X.length = 32) (W : World) : (Instr.field 34 (.agg (infL id nm n X).toArray) 3).run Tryd.prog W = .ok (.agg (V8 X).toArray) W := by
  obtain ⟨x0, x1, x2, x3, x4, x5, x6, x7, x8, x9, x10, x11, x12, x13, x14, x15, x16, x17, x18, x19, x20, x21, x22, x23, x24, x25, x26, x27, x28, x29, x30, x31, rfl⟩ := list32 hX
  kernel_rfl
theorem Sd.only {w w' : World} {g : Nat} {id : Nat} {nm : ByteArray} {sum : List Nat} {bs : List Int} {N b p : Nat} {z : Bool} (h : Sd w g id nm sum bs N b p z) {k : Nat} (hk : g < k) (ho : Only k w w') : Sd w' g id nm sum bs N b p z := by
  obtain ⟨A, c, hh, hr, h0, h3⟩ := h.ex
  exact ⟨⟨A, c, (ho.block g h.lt (by omega)).trans hh, hr.apart (fun a ha => Nat.lt_trans (h0 a ha) hk) ho, h0, h3⟩, h.id1, h.sum32, h.right, h.num, h.size, h.at64⟩
def nmF : ByteArray := ⟨#[102]⟩
theorem nx0 {j : Nat} (h : IsNext 2 0 0 j) : j = 0 := h.one ⟨by decide, by decide, .inl ⟨by omega, fun k h1 h2 => absurd h2 (by omega)⟩⟩
theorem nx1 {j : Nat} (h : IsNext 2 1 1 j) : j = 1 := h.one ⟨by decide, by decide, .inl ⟨by omega, fun k h1 h2 => absurd h2 (by omega)⟩⟩
theorem nx2 {j : Nat} (h : IsNext 2 1 2 j) : j = 1 := by
  refine h.one ⟨by decide, by decide, .inr ⟨fun k h1 h2 => absurd h2 (by omega), fun k h1 => ?_⟩⟩
  obtain rfl : k = 0 := by omega
  decide
theorem mnew2 (w : World) : Calls Tryd.prog 27 #[.int .i64 2] w fun e w' => e = .returned (.tuple #[.agg #[.int .i64 2, .int .u64 0], .int .i64 0]) ∧ Below w.heap.size w w' :=
  (new_yes (n := 2) (by decide) w).mono fun _ _ h => h
theorem mwith2 (w : World) : Calls Tryd.prog 28 #[.agg #[.int .i64 2, .int .u64 0], .int .i64 0] w fun e w' => e = .returned (.tuple #[.agg #[.int .i64 2, .int .u64 1], .int .i64 0]) ∧ Below w.heap.size w w' :=
  (with_in (n := 2) (b := 0) (by decide) (i := 0) (k := 0) rfl (by decide) (by decide) w).mono fun _ _ h => h
set_option maxRecDepth 100000 in
set_option maxHeartbeats 4000000 in
theorem alive_any (w : World) (hT : Tab w) : Calls Tryd.prog 5 #[] w fun e w' => e = .returned (.bool true) ∧ Below w.heap.size w w' := by
  have HT := Lib.hid hT
  have mk := mk65
  obtain ⟨X, hX⟩ : ∃ X, sumB Z65 = X := ⟨_, rfl⟩
  have HXE := Lib.hid hX
  have HB0 := Lib.hid ((Below.refl w.heap.size w).alloc (Nat.le_refl _) (.cells (NV .u8 Z65).toArray 5))
  have HNEW := Lib.hid (hX ▸ fnew_yes (id := 7) (nm := ⟨#[102]⟩) (bs := Z65) (n := 65) (c := 65) rfl (by decide) (by decide) z65_pos (by omega) (by unfold maxLen; omega) (fun e => by cases e) _ (RI.lit w Z65 5) (hT.to HB0.out))
  clear hT hX
  go_enter Tryd.func5, Tryd.ntmps5
  go_wp2_with fail
  refine HNEW.out.mono ?_
  rintro e w1 ⟨g, rfl, hg, hs, hb⟩
  have HB1 := Lib.hid (HB0.out.trans (hb.mono HB0.out.size))
  have HG := Lib.hid (show w.heap.size ≤ g from Nat.le_trans (by simp) hg)
  have HS1 := Lib.hid hs
  clear HB0 HNEW hg hs hb mk
  go_wp2_with fail
  refine (pnext_go HS1.out (by decide)).mono ?_
  rintro e w2 ⟨j, v, rfl, hj, hv, hs, ho⟩
  obtain rfl := nx0 hj
  have HB2 := Lib.hid (OnlyBelow ho HB1.out HG.out)
  have HS2 := Lib.hid hs
  obtain ⟨A2, c2, rfl, _⟩ := own_slice hv
  clear HS1 HB1 hj hv hs ho
  rw [show lenS Z65.length 0 = 64 from rfl, show ((0 : Nat) : Int) = (0 : Int) from rfl]
  go_wp2_with fail
  refine (mnew2 _).mono ?_
  rintro e w3 ⟨rfl, hb⟩
  have HGL := Lib.hid (show g < w3.heap.size from (HS2.out.below hb).lt)
  have HWL := Lib.hid (show w.heap.size ≤ w3.heap.size from Nat.le_trans HB2.out.size hb.size)
  have HB3 := Lib.hid (Bal (HB2.out.trans (hb.mono HB2.out.size)) (.cells #[.int .i64 2, .int .u64 0] 38))
  have HS3 := Lib.hid ((HS2.out.below hb).below ((Below.refl _ w3).alloc (Nat.le_refl _) (.cells #[.int .i64 2, .int .u64 0] 38)))
  have HM3 := Lib.hid (MB.new w3 2 0)
  clear hb HB2 HS2
  go_upto_region 6 with fail
  obtain ⟨k3, hk3⟩ : ∃ k, w3.heap.size = k := ⟨_, rfl⟩
  obtain ⟨V3, hV3⟩ : ∃ V, w3.alloc (.cells #[.int .i64 2, .int .u64 0] 38) = V := ⟨_, rfl⟩
  rw [hV3] at HB3 HS3 HM3 ⊢
  rw [hk3] at HM3 HGL HWL ⊢
  clear hV3 hk3
  have c0 := HM3.out.c0
  have c1 := HM3.out.c1
  go_wp2_with fail
  refine (mwith2 _).mono ?_
  rintro e w4 ⟨rfl, hb⟩
  have HM4 := Lib.hid (HM3.out.below hb)
  have HS4 := Lib.hid (HS3.out.below hb)
  have HB4 := Lib.hid (HB3.out.trans (hb.mono HB3.out.size))
  clear hb HB3 HS3 HM3 c0 c1
  have c0 := HM4.out.c0
  have c1 := HM4.out.c1
  have f0 := HM4.out.free 0
  have f1 := HM4.out.free 1
  go_upto_region 7 with fail
  have HM5 := Lib.hid (HM4.out.put 2 1)
  have HS5 := Lib.hid (HS4.out.only HGL.out (((Only.refl k3 w4).setCell 0 (.int .i64 2)).setCell 1 (.int .u64 1)))
  have HB5 := Lib.hid (below_put HB4.out HWL.out 2 1)
  obtain ⟨V5, hV5⟩ : ∃ V, (w4.setCell ⟨k3, 0, none⟩ (.int .i64 2)).setCell ⟨k3, 1, none⟩ (.int .u64 1) = V := ⟨_, rfl⟩
  rw [hV5] at HM5 HS5 HB5 ⊢
  clear hV5 HM4 HS4 HB4 c0 c1 f0 f1
  have c0 := HM5.out.c0
  have c1 := HM5.out.c1
  have HKN := Lib.hid (know_yes (c := 1) (show Sd V5 g 7 ⟨#[102]⟩ X Z65 2 0 1 false from HS5.out) (by decide))
  go_wp2_with fail
  refine HKN.out.mono ?_
  rintro e w6 ⟨rfl, hs, ho⟩
  have HS6 := Lib.hid (show Sd w6 g 7 ⟨#[102]⟩ X Z65 2 1 1 false from hs)
  have HB6 := Lib.hid (OnlyBelow ho HB5.out HG.out)
  clear hs ho HKN HS5 HB5 HM5 c0 c1
  go_wp2_with fail
  refine (pnext_go HS6.out (by decide)).mono ?_
  rintro e w7 ⟨j, v, rfl, hj, hv, hs, ho⟩
  obtain rfl := nx1 hj
  have HB7 := Lib.hid (OnlyBelow ho HB6.out HG.out)
  have HS7 := Lib.hid hs
  obtain ⟨A3, c3, rfl, _⟩ := own_slice hv
  clear HS6 HB6 hj hv hs ho
  rw [show lenS Z65.length 1 = 1 from rfl, show ((1 : Nat) : Int) = (1 : Int) from rfl]
  go_wp2_with fail
  refine (pnext_go (p := 2) HS7.out (by decide)).mono ?_
  rintro e w8 ⟨j, v, rfl, hj, hv, hs, ho⟩
  obtain rfl := nx2 hj
  have HB8 := Lib.hid (OnlyBelow ho HB7.out HG.out)
  have HS8 := Lib.hid hs
  obtain ⟨A4, c4, rfl, _⟩ := own_slice hv
  clear HS7 HB7 hj hv hs ho
  rw [show lenS Z65.length 1 = 1 from rfl, show ((1 : Nat) : Int) = (1 : Int) from rfl]
  go_wp2_with fail
  refine (peek_go (p := 2) HS8.out (by decide)).mono ?_
  rintro e U ⟨j, rfl, hj, hb⟩
  obtain rfl := nx2 hj
  have HBU := Lib.hid (HB8.out.trans (hb.mono HB8.out.size))
  have HSU := Lib.hid (show Sd U g 7 ⟨#[102]⟩ X Z65 2 1 2 false from HS8.out.below hb)
  clear HS8 HB8 hj hb
  rw [show lenS Z65.length 1 = 1 from rfl, show ((1 : Nat) : Int) = (1 : Int) from rfl]
  have HLF := Lib.hid (show ∀ W, Below U.heap.size U W → Calls Tryd.prog 20 #[.pointer (some ⟨g, 0, none⟩)] W fun e w' => e = .returned (.int .i64 1) ∧ Below W.heap.size W w' from fun W hb => (left_sd (HSU.out.below hb)).mono fun _ _ h => h)
  have HSF := Lib.hid (show ∀ W, Below U.heap.size U W → Calls Tryd.prog 22 #[.pointer (some ⟨g, 0, none⟩)] W fun e w' => e = .returned (.int .i64 0) ∧ Below W.heap.size W w' from fun W hb => (state_sd (HSU.out.below hb)).mono fun _ _ h => h)
  have HIF := Lib.hid (show ∀ W, Below U.heap.size U W → Calls Tryd.prog 24 #[.pointer (some ⟨g, 0, none⟩)] W fun e w' => e = .returned (.agg (infL 7 ⟨#[102]⟩ 65 X).toArray) ∧ Below W.heap.size W w' from fun W hb => finfo_sd (HSU.out.below hb))
  have HTU := Lib.hid (HT.out.to HBU.out)
  have hX32 := HSU.out.sum32
  have hfs := fun W => fieldSum (id := 7) (n := 65) (nm := ⟨#[102]⟩) hX32 W
  have heq := fun W => eqSum X X hX32 hX32 W
  have hqq : (X == X) = true := by simp
  have HSH := Lib.hid (show ∀ W h, RS W (some ⟨h, 0, none⟩) [natL Z65] → Below U.heap.size U W → Calls Tryd.prog 25 #[.slice (some ⟨h, 0, none⟩) 1 1] W fun e w' => e = .returned (.agg (V8 X).toArray) ∧ Below W.heap.size W w' from fun W h hr hb => HXE.out ▸ sha_rs Z65 hr (by decide) () (HTU.out.to hb))
  clear hX32 HSU HG HGL HWL
  have HD := Lib.hid (belowN (Below.refl U.heap.size U) 1)
  go_upto_region 11 with fail
  refine wp_region_held_drew (S := fun W => Below U.heap.size U W) (by kernel_rfl) HD.out (fun hHeld => ?_)
  refine wpAnyH_take (i := 0) (v := ?_) (by simp; rfl) (by kernel_rfl) (by kernel_rfl) (by kernel_rfl) (by exact fun _ _ _ h => h) (Or.inl ⟨by rfl, fun wx hSx => ?_⟩) hHeld ?_
  rotate_left
  · clear hSx; go_simp; (try with_reducible rfl)
  simp only [Act.put, List.setIfInBounds_toArray, List.set_cons_zero, List.set_cons_succ]
  refine wpAnyH_take (i := 1) (v := ?_) (by simp; rfl) (by kernel_rfl) (by kernel_rfl) (by kernel_rfl) (by exact fun _ _ _ h => h) (Or.inl ⟨by rfl, fun wx hSx => ?_⟩) hHeld ?_
  rotate_left
  · clear hSx; go_simp; (try with_reducible rfl)
  simp only [Act.put, List.setIfInBounds_toArray, List.set_cons_zero, List.set_cons_succ]
  refine wpAnyH_take (i := 2) (v := ?_) (by simp; rfl) (by kernel_rfl) (by kernel_rfl) (by kernel_rfl) (by exact fun _ _ _ h => h) (Or.inl ⟨by rfl, fun wx hSx => ?_⟩) hHeld ?_
  rotate_left
  · clear hSx; go_simp; (try with_reducible rfl)
  simp only [Act.put, List.setIfInBounds_toArray, List.set_cons_zero, List.set_cons_succ]
  refine wpAnyH_take (i := 3) (v := ?_) (by simp; rfl) (by kernel_rfl) (by kernel_rfl) (by kernel_rfl) (by exact fun _ _ _ h => h) (Or.inl ⟨by rfl, fun wx hSx => ?_⟩) hHeld ?_
  rotate_left
  · clear hSx; go_simp; (try with_reducible rfl)
  simp only [Act.put, List.setIfInBounds_toArray, List.set_cons_zero, List.set_cons_succ]
  refine wpAnyH_take (i := 4) (v := ?_) (by simp; rfl) (by kernel_rfl) (by kernel_rfl) (by kernel_rfl) (by exact fun _ _ _ h => h) (Or.inl ⟨by rfl, fun wx hSx => ?_⟩) hHeld ?_
  rotate_left
  · clear hSx; go_simp; (try with_reducible rfl)
  simp only [Act.put, List.setIfInBounds_toArray, List.set_cons_zero, List.set_cons_succ]
  refine wpAnyH_take (i := 5) (v := ?_) (by simp; rfl) (by kernel_rfl) (by kernel_rfl) (by kernel_rfl) (by exact fun _ _ _ h => h) (Or.inl ⟨by rfl, fun wx hSx => ?_⟩) hHeld ?_
  rotate_left
  · clear hSx; go_simp; (try with_reducible rfl)
  simp only [Act.put, List.setIfInBounds_toArray, List.set_cons_zero, List.set_cons_succ]
  refine wpAnyH_take (i := 6) (v := ?_) (by simp; rfl) (by kernel_rfl) (by kernel_rfl) (by kernel_rfl) (by exact fun _ _ _ h => h) (Or.inl ⟨by rfl, fun wx hSx => ?_⟩) hHeld ?_
  rotate_left
  · clear hSx; go_simp; (try with_reducible rfl)
  simp only [Act.put, List.setIfInBounds_toArray, List.set_cons_zero, List.set_cons_succ]
  refine wpAnyH_take (i := 7) (v := ?_) (by simp; rfl) (by kernel_rfl) (by kernel_rfl) (by kernel_rfl) (by exact fun _ _ _ h => h) (Or.inl ⟨by rfl, fun wx hSx => ?_⟩) hHeld ?_
  rotate_left
  · clear hSx; go_simp; (try with_reducible rfl)
  simp only [Act.put, List.setIfInBounds_toArray, List.set_cons_zero, List.set_cons_succ]
  refine wpAnyH_take (i := 8) (v := ?_) (by simp; rfl) (by kernel_rfl) (by kernel_rfl) (by kernel_rfl) (by exact fun _ _ _ h => h) (Or.inl ⟨by rfl, fun wx hSx => ?_⟩) hHeld ?_
  rotate_left
  · clear hSx; go_simp; (try with_reducible rfl)
  simp only [Act.put, List.setIfInBounds_toArray, List.set_cons_zero, List.set_cons_succ]
  refine wpAnyH_take (i := 9) (v := ?_) (by simp; rfl) (by kernel_rfl) (by kernel_rfl) (by kernel_rfl) (by exact fun _ _ _ h => h) (Or.inl ⟨by rfl, fun wx hSx => ?_⟩) hHeld ?_
  rotate_left
  · clear hSx; go_simp; (try with_reducible rfl)
  simp only [Act.put, List.setIfInBounds_toArray, List.set_cons_zero, List.set_cons_succ]
  refine wpAnyH_take (i := 10) (v := ?_) (by simp; rfl) (by kernel_rfl) (by kernel_rfl) (by kernel_rfl) (by exact fun _ _ _ h => h) (Or.inl ⟨by rfl, fun wx hSx => ?_⟩) hHeld ?_
  rotate_left
  · clear hSx; go_simp; (try with_reducible rfl)
  simp only [Act.put, List.setIfInBounds_toArray, List.set_cons_zero, List.set_cons_succ]
  refine wpAnyH_take (i := 11) (v := ?_) (by simp; rfl) (by kernel_rfl) (by kernel_rfl) (by kernel_rfl) (by exact fun _ _ _ h => h) (Or.inl ⟨by rfl, fun wx hSx => ?_⟩) hHeld ?_
  rotate_left
  · clear hSx; go_simp; (try with_reducible rfl)
  simp only [Act.put, List.setIfInBounds_toArray, List.set_cons_zero, List.set_cons_succ]
  refine wpAnyH_take (i := 12) (v := ?_) (by simp; rfl) (by kernel_rfl) (by kernel_rfl) (by kernel_rfl) (by exact fun _ _ _ h => h) (Or.inl ⟨by rfl, fun wx hSx => ?_⟩) hHeld ?_
  rotate_left
  · clear hSx; go_simp; (try with_reducible rfl)
  simp only [Act.put, List.setIfInBounds_toArray, List.set_cons_zero, List.set_cons_succ]
  refine wpAnyH_take (i := 13) (v := ?_) (by simp; rfl) (by kernel_rfl) (by kernel_rfl) (by kernel_rfl) (by exact fun _ _ _ h => h) (Or.inl ⟨by rfl, fun wx hSx => ?_⟩) hHeld ?_
  rotate_left
  · clear hSx; go_simp; (try with_reducible rfl)
  simp only [Act.put, List.setIfInBounds_toArray, List.set_cons_zero, List.set_cons_succ]
  refine wpAnyH_take (i := 14) (v := ?_) (by simp; rfl) (by kernel_rfl) (by kernel_rfl) (by kernel_rfl) (by exact fun _ _ _ h => h) (Or.inl ⟨by rfl, fun wx hSx => ?_⟩) hHeld ?_
  rotate_left
  · clear hSx; go_simp; (try with_reducible rfl)
  simp only [Act.put, List.setIfInBounds_toArray, List.set_cons_zero, List.set_cons_succ]
  refine wpAnyH_take (i := 15) (v := ?_) (by simp; rfl) (by kernel_rfl) (by kernel_rfl) (by kernel_rfl) (by exact fun _ _ _ h => h) (Or.inl ⟨by rfl, fun wx hSx => ?_⟩) hHeld ?_
  rotate_left
  · clear hSx; go_simp; (try with_reducible rfl)
  simp only [Act.put, List.setIfInBounds_toArray, List.set_cons_zero, List.set_cons_succ]
  refine wpAnyH_take (i := 16) (v := ?_) (by simp; rfl) (by kernel_rfl) (by kernel_rfl) (by kernel_rfl) (by exact fun _ _ _ h => h) (Or.inl ⟨by rfl, fun wx hSx => ?_⟩) hHeld ?_
  rotate_left
  · clear hSx; go_simp; (try with_reducible rfl)
  simp only [Act.put, List.setIfInBounds_toArray, List.set_cons_zero, List.set_cons_succ]
  refine wpAnyH_take (i := 17) (v := ?_) (by simp; rfl) (by kernel_rfl) (by kernel_rfl) (by kernel_rfl) (by exact fun _ _ _ h => h) (Or.inl ⟨by rfl, fun wx hSx => ?_⟩) hHeld ?_
  rotate_left
  · clear hSx; go_simp; (try with_reducible rfl)
  simp only [Act.put, List.setIfInBounds_toArray, List.set_cons_zero, List.set_cons_succ]
  refine wpAnyH_take (i := 18) (v := ?_) (by simp; rfl) (by kernel_rfl) (by kernel_rfl) (by kernel_rfl) (by exact fun _ _ _ h => h) (Or.inl ⟨by rfl, fun wx hSx => ?_⟩) hHeld ?_
  rotate_left
  · clear hSx; go_simp; (try with_reducible rfl)
  simp only [Act.put, List.setIfInBounds_toArray, List.set_cons_zero, List.set_cons_succ]
  refine wpAnyH_take (i := 19) (v := ?_) (by simp; rfl) (by kernel_rfl) (by kernel_rfl) (by kernel_rfl) (by exact fun _ _ _ h => h) (Or.inl ⟨by rfl, fun wx hSx => ?_⟩) hHeld ?_
  rotate_left
  · clear hSx; go_simp; (try with_reducible rfl)
  simp only [Act.put, List.setIfInBounds_toArray, List.set_cons_zero, List.set_cons_succ]
  refine wpAnyH_take (i := 20) (v := ?_) (by simp; rfl) (by kernel_rfl) (by kernel_rfl) (by kernel_rfl) (by exact fun _ _ _ h => h) (Or.inl ⟨by rfl, fun wx hSx => ?_⟩) hHeld ?_
  rotate_left
  · clear hSx; go_simp; (try with_reducible rfl)
  simp only [Act.put, List.setIfInBounds_toArray, List.set_cons_zero, List.set_cons_succ]
  refine wpAnyH_take (i := 21) (v := ?_) (by simp; rfl) (by kernel_rfl) (by kernel_rfl) (by kernel_rfl) (by exact fun _ _ _ h => h) (Or.inl ⟨by rfl, fun wx hSx => ?_⟩) hHeld ?_
  rotate_left
  · clear hSx; go_simp; (try with_reducible rfl)
  simp only [Act.put, List.setIfInBounds_toArray, List.set_cons_zero, List.set_cons_succ]
  refine wpAnyH_take (i := 22) (v := ?_) (by simp; rfl) (by kernel_rfl) (by kernel_rfl) (by kernel_rfl) (by exact fun _ _ _ h => h) (Or.inl ⟨by rfl, fun wx hSx => ?_⟩) hHeld ?_
  rotate_left
  · clear hSx; go_simp; (try with_reducible rfl)
  simp only [Act.put, List.setIfInBounds_toArray, List.set_cons_zero, List.set_cons_succ]
  refine wpAnyH_take (i := 23) (v := ?_) (by simp; rfl) (by kernel_rfl) (by kernel_rfl) (by kernel_rfl) (by exact fun _ _ _ h => h) (Or.inl ⟨by rfl, fun wx hSx => ?_⟩) hHeld ?_
  rotate_left
  · clear hSx; go_simp; (try with_reducible rfl)
  simp only [Act.put, List.setIfInBounds_toArray, List.set_cons_zero, List.set_cons_succ]
  refine wpAnyH_take (i := 24) (v := ?_) (by simp; rfl) (by kernel_rfl) (by kernel_rfl) (by kernel_rfl) (by exact fun _ _ _ h => h) (Or.inl ⟨by rfl, fun wx hSx => ?_⟩) hHeld ?_
  rotate_left
  · clear hSx; go_simp; (try with_reducible rfl)
  simp only [Act.put, List.setIfInBounds_toArray, List.set_cons_zero, List.set_cons_succ]
  refine wpAnyH_take (i := 25) (v := ?_) (by simp; rfl) (by kernel_rfl) (by kernel_rfl) (by kernel_rfl) (by exact fun _ _ _ h => h) (Or.inl ⟨by rfl, fun wx hSx => ?_⟩) hHeld ?_
  rotate_left
  · clear hSx; go_simp; (try with_reducible rfl)
  simp only [Act.put, List.setIfInBounds_toArray, List.set_cons_zero, List.set_cons_succ]
  refine wpAnyH_take (i := 26) (v := ?_) (by simp; rfl) (by kernel_rfl) (by kernel_rfl) (by kernel_rfl) (by exact fun _ _ _ h => h) (Or.inl ⟨by rfl, fun wx hSx => ?_⟩) hHeld ?_
  rotate_left
  · clear hSx; go_simp; (try with_reducible rfl)
  simp only [Act.put, List.setIfInBounds_toArray, List.set_cons_zero, List.set_cons_succ]
  refine wpAnyH_take (i := 27) (v := ?_) (by simp; rfl) (by kernel_rfl) (by kernel_rfl) (by kernel_rfl) (by exact fun _ _ _ h => h) (Or.inl ⟨by rfl, fun wx hSx => ?_⟩) hHeld ?_
  rotate_left
  · clear hSx; go_simp; (try with_reducible rfl)
  simp only [Act.put, List.setIfInBounds_toArray, List.set_cons_zero, List.set_cons_succ]
  refine wpAnyH_take (i := 28) (v := ?_) (by simp; rfl) (by kernel_rfl) (by kernel_rfl) (by kernel_rfl) (by exact fun _ _ _ h => h) (Or.inl ⟨by rfl, fun wx hSx => ?_⟩) hHeld ?_
  rotate_left
  · clear hSx; go_simp; (try with_reducible rfl)
  simp only [Act.put, List.setIfInBounds_toArray, List.set_cons_zero, List.set_cons_succ]
  refine wpAnyH_take (i := 29) (v := ?_) (by simp; rfl) (by kernel_rfl) (by kernel_rfl) (by kernel_rfl) (by exact fun _ _ _ h => h) (Or.inl ⟨by rfl, fun wx hSx => ?_⟩) hHeld ?_
  rotate_left
  · clear hSx; go_simp; (try with_reducible rfl)
  simp only [Act.put, List.setIfInBounds_toArray, List.set_cons_zero, List.set_cons_succ]
  refine wpAnyH_take (i := 30) (v := ?_) (by simp; rfl) (by kernel_rfl) (by kernel_rfl) (by kernel_rfl) (by exact fun _ _ _ h => h) (Or.inl ⟨by rfl, fun wx hSx => ?_⟩) hHeld ?_
  rotate_left
  · clear hSx; go_simp; (try with_reducible rfl)
  simp only [Act.put, List.setIfInBounds_toArray, List.set_cons_zero, List.set_cons_succ]
  refine wpAnyH_take (i := 31) (v := ?_) (by simp; rfl) (by kernel_rfl) (by kernel_rfl) (by kernel_rfl) (by exact fun _ _ _ h => h) (Or.inl ⟨by rfl, fun wx hSx => ?_⟩) hHeld ?_
  rotate_left
  · clear hSx; go_simp; (try with_reducible rfl)
  simp only [Act.put, List.setIfInBounds_toArray, List.set_cons_zero, List.set_cons_succ]
  refine wpAnyH_take (i := 32) (v := ?_) (by simp; rfl) (by kernel_rfl) (by kernel_rfl) (by kernel_rfl) (by exact fun _ _ _ h => h) (Or.inl ⟨by rfl, fun wx hSx => ?_⟩) hHeld ?_
  rotate_left
  · clear hSx; go_simp; (try with_reducible rfl)
  simp only [Act.put, List.setIfInBounds_toArray, List.set_cons_zero, List.set_cons_succ]
  refine wpAnyH_take (i := 33) (v := ?_) (by simp; rfl) (by kernel_rfl) (by kernel_rfl) (by kernel_rfl) (by exact fun _ _ _ h => h) (Or.inl ⟨by rfl, fun wx hSx => ?_⟩) hHeld ?_
  rotate_left
  · clear hSx; go_simp; (try with_reducible rfl)
  simp only [Act.put, List.setIfInBounds_toArray, List.set_cons_zero, List.set_cons_succ]
  refine wpAnyH_take (i := 34) (v := ?_) (by simp; rfl) (by kernel_rfl) (by kernel_rfl) (by kernel_rfl) (by exact fun _ _ _ h => h) (Or.inl ⟨by rfl, fun wx hSx => ?_⟩) hHeld ?_
  rotate_left
  · clear hSx; go_simp; (try with_reducible rfl)
  simp only [Act.put, List.setIfInBounds_toArray, List.set_cons_zero, List.set_cons_succ]
  refine wpAnyH_take (i := 35) (v := ?_) (by simp; rfl) (by kernel_rfl) (by kernel_rfl) (by kernel_rfl) (by exact fun _ _ _ h => h) (Or.inl ⟨by rfl, fun wx hSx => ?_⟩) hHeld ?_
  rotate_left
  · clear hSx; go_simp; (try with_reducible rfl)
  simp only [Act.put, List.setIfInBounds_toArray, List.set_cons_zero, List.set_cons_succ]
  refine wpAnyH_take (i := 36) (v := ?_) (by simp; rfl) (by kernel_rfl) (by kernel_rfl) (by kernel_rfl) (by exact fun _ _ _ h => h) (Or.inl ⟨by rfl, fun wx hSx => ?_⟩) hHeld ?_
  rotate_left
  · clear hSx; go_simp; (try with_reducible rfl)
  simp only [Act.put, List.setIfInBounds_toArray, List.set_cons_zero, List.set_cons_succ]
  refine wpAnyH_take (i := 37) (v := ?_) (by simp; rfl) (by kernel_rfl) (by kernel_rfl) (by kernel_rfl) (by exact fun _ _ _ h => h) (Or.inl ⟨by rfl, fun wx hSx => ?_⟩) hHeld ?_
  rotate_left
  · clear hSx; go_simp; (try with_reducible rfl)
  simp only [Act.put, List.setIfInBounds_toArray, List.set_cons_zero, List.set_cons_succ]
  refine wpAnyH_take (i := 38) (v := ?_) (by simp; rfl) (by kernel_rfl) (by kernel_rfl) (by kernel_rfl) (by exact fun _ _ _ h => h) (Or.inl ⟨by rfl, fun wx hSx => ?_⟩) hHeld ?_
  rotate_left
  · clear hSx; go_simp; (try with_reducible rfl)
  simp only [Act.put, List.setIfInBounds_toArray, List.set_cons_zero, List.set_cons_succ]
  refine wpAnyH_take (i := 39) (v := ?_) (by simp; rfl) (by kernel_rfl) (by kernel_rfl) (by kernel_rfl) (by exact fun _ _ _ h => h) (Or.inl ⟨by rfl, fun wx hSx => ?_⟩) hHeld ?_
  rotate_left
  · clear hSx; go_simp; (try with_reducible rfl)
  simp only [Act.put, List.setIfInBounds_toArray, List.set_cons_zero, List.set_cons_succ]
  refine wpAnyH_take (i := 40) (v := ?_) (by simp; rfl) (by kernel_rfl) (by kernel_rfl) (by kernel_rfl) (by exact fun _ _ _ h => h) (Or.inl ⟨by rfl, fun wx hSx => ?_⟩) hHeld ?_
  rotate_left
  · clear hSx; go_simp; (try with_reducible rfl)
  simp only [Act.put, List.setIfInBounds_toArray, List.set_cons_zero, List.set_cons_succ]
  refine wpAnyH_take (i := 41) (v := ?_) (by simp; rfl) (by kernel_rfl) (by kernel_rfl) (by kernel_rfl) (by exact fun _ _ _ h => h) (Or.inl ⟨by rfl, fun wx hSx => ?_⟩) hHeld ?_
  rotate_left
  · clear hSx; go_simp; (try with_reducible rfl)
  simp only [Act.put, List.setIfInBounds_toArray, List.set_cons_zero, List.set_cons_succ]
  refine wpAnyH_ready (rs := [42]) (by kernel_rfl) (by simp) ?_
  refine AllReadyH.cons (by simp; rfl) (fun K0 hK0 => ?_) AllReadyH.nil
  go_simp
  refine (HLF.out _ hHeld).mono ?_
  rintro e l0 ⟨rfl, hbl0⟩
  have hY : Below U.heap.size U l0 := hHeld.trans (hbl0.mono hHeld.size)
  refine hK0.out _ _ hY (fun _ => ?_)
  clear hK0 K0 hHeld hbl0
  have hHeld := hY
  clear hY
  refine wpAnyH_take (i := 43) (v := ?_) (by simp; rfl) (by kernel_rfl) (by kernel_rfl) (by kernel_rfl) (by exact fun _ _ _ h => h) (Or.inl ⟨by rfl, fun wx hSx => ?_⟩) hHeld ?_
  rotate_left
  · clear hSx; go_simp; (try with_reducible rfl)
  simp only [Act.put, List.setIfInBounds_toArray, List.set_cons_zero, List.set_cons_succ]
  refine wpAnyH_take (i := 44) (v := ?_) (by simp; rfl) (by kernel_rfl) (by kernel_rfl) (by kernel_rfl) (by exact fun _ _ _ h => h) (Or.inl ⟨by rfl, fun wx hSx => ?_⟩) hHeld ?_
  rotate_left
  · clear hSx; go_simp; (try with_reducible rfl)
  simp only [Act.put, List.setIfInBounds_toArray, List.set_cons_zero, List.set_cons_succ]
  refine wpAnyH_take (i := 45) (v := ?_) (by simp; rfl) (by kernel_rfl) (by kernel_rfl) (by kernel_rfl) (by exact fun _ _ _ h => h) (Or.inl ⟨by rfl, fun wx hSx => ?_⟩) hHeld ?_
  rotate_left
  · clear hSx; go_simp; (try with_reducible rfl)
  simp only [Act.put, List.setIfInBounds_toArray, List.set_cons_zero, List.set_cons_succ]
  refine wpAnyH_take (i := 46) (v := ?_) (by simp; rfl) (by kernel_rfl) (by kernel_rfl) (by kernel_rfl) (by exact fun _ _ _ h => h) (Or.inl ⟨by rfl, fun wx hSx => ?_⟩) hHeld ?_
  rotate_left
  · clear hSx; go_simp; (try with_reducible rfl)
  simp only [Act.put, List.setIfInBounds_toArray, List.set_cons_zero, List.set_cons_succ]
  refine wpAnyH_ready (rs := [47]) (by kernel_rfl) (by simp) ?_
  refine AllReadyH.cons (by simp; rfl) (fun K0 hK0 => ?_) AllReadyH.nil
  go_simp
  refine (HSF.out _ hHeld).mono ?_
  rintro e t1 ⟨rfl, hbt1⟩
  have hY : Below U.heap.size U t1 := hHeld.trans (hbt1.mono hHeld.size)
  refine hK0.out _ _ hY (fun _ => ?_)
  clear hK0 K0 hHeld hbt1
  have hHeld := hY
  clear hY
  refine wpAnyH_take (i := 48) (v := ?_) (by simp; rfl) (by kernel_rfl) (by kernel_rfl) (by kernel_rfl) (by exact fun _ _ _ h => h) (Or.inl ⟨by rfl, fun wx hSx => ?_⟩) hHeld ?_
  rotate_left
  · clear hSx; go_simp; (try with_reducible rfl)
  simp only [Act.put, List.setIfInBounds_toArray, List.set_cons_zero, List.set_cons_succ]
  refine wpAnyH_take (i := 49) (v := ?_) (by simp; rfl) (by kernel_rfl) (by kernel_rfl) (by kernel_rfl) (by exact fun _ _ _ h => h) (Or.inl ⟨by rfl, fun wx hSx => ?_⟩) hHeld ?_
  rotate_left
  · clear hSx; go_simp; (try with_reducible rfl)
  simp only [Act.put, List.setIfInBounds_toArray, List.set_cons_zero, List.set_cons_succ]
  refine wpAnyH_take (i := 50) (v := ?_) (by simp; rfl) (by kernel_rfl) (by kernel_rfl) (by kernel_rfl) (by exact fun _ _ _ h => h) (Or.inl ⟨by rfl, fun wx hSx => ?_⟩) hHeld ?_
  rotate_left
  · clear hSx; go_simp; (try with_reducible rfl)
  simp only [Act.put, List.setIfInBounds_toArray, List.set_cons_zero, List.set_cons_succ]
  refine wpAnyH_take (i := 51) (v := ?_) (by simp; rfl) (by kernel_rfl) (by kernel_rfl) (by kernel_rfl) (by exact fun _ _ _ h => h) (Or.inl ⟨by rfl, fun wx hSx => ?_⟩) hHeld ?_
  rotate_left
  · clear hSx; go_simp; (try with_reducible rfl)
  simp only [Act.put, List.setIfInBounds_toArray, List.set_cons_zero, List.set_cons_succ]
  refine wpAnyH_ready (rs := [52, 54]) (by kernel_rfl) (by simp) ?_
  refine AllReadyH.cons (by simp; rfl) (fun K0 hK0 => ?_) (AllReadyH.cons (by simp; rfl) (fun K0 hK0 => ?_) AllReadyH.nil)
  · go_simp
    refine (HIF.out _ hHeld).mono ?_
    rintro e i2 ⟨rfl, hbi2⟩
    have hY : Below U.heap.size U i2 := hHeld.trans (hbi2.mono hHeld.size)
    refine hK0.out _ _ hY (fun _ => ?_)
    clear hK0 K0 hHeld hbi2
    have hHeld := hY
    clear hY
    refine wpAnyH_take (i := 53) (v := ?_) (by simp; rfl) (by kernel_rfl) (by kernel_rfl) (by kernel_rfl) (by exact fun _ _ _ h => h) (Or.inl ⟨by rfl, fun wx hSx => ?_⟩) hHeld ?_
    rotate_left
    · clear hSx; go_simp; (try with_reducible rfl)
    simp only [Act.put, List.setIfInBounds_toArray, List.set_cons_zero, List.set_cons_succ]
    refine wpAnyH_ready (rs := [54]) (by kernel_rfl) (by simp) ?_
    refine AllReadyH.cons (by simp; rfl) (fun K0 hK0 => ?_) AllReadyH.nil
    have mk := mk65
    go_simp
    clear mk
    have hA := (Below.refl i2.heap.size i2).alloc (Nat.le_refl _) (.cells (NV .u8 Z65).toArray 5)
    have HROW := Lib.hid (RI.lit (k := .u8) i2 Z65 5)
    obtain ⟨h1, hh1⟩ : ∃ h, i2.heap.size = h := ⟨_, rfl⟩
    obtain ⟨m3, hV⟩ : ∃ V, i2.alloc (.cells (NV .u8 Z65).toArray 5) = V := ⟨_, rfl⟩
    try rw [hh1] at HROW
    try rw [hh1]
    rw [hV] at hA HROW ⊢
    have hY : Below U.heap.size U m3 := hHeld.trans (hA.mono hHeld.size)
    refine hK0.out _ _ hY (fun _ => ?_)
    clear hK0 K0 hHeld hA hV
    have hHeld := hY
    clear hY
    refine wpAnyH_ready (rs := [55]) (by kernel_rfl) (by simp) ?_
    refine AllReadyH.cons (by simp; rfl) (fun K0 hK0 => ?_) AllReadyH.nil
    go_simp
    have hA := (Below.refl m3.heap.size m3).alloc (Nat.le_refl _) (.cells #[.slice (some ⟨h1, 0, none⟩) 65 65] 23)
    have HRS := Lib.hid (rs_one Z65 65 m3 (some ⟨h1, 0, none⟩) 65 rfl z65_pos (by omega) (by unfold maxLen; omega) HROW.out)
    obtain ⟨h2, hh2⟩ : ∃ h, m3.heap.size = h := ⟨_, rfl⟩
    obtain ⟨s4, hV⟩ : ∃ V, m3.alloc (.cells #[.slice (some ⟨h1, 0, none⟩) 65 65] 23) = V := ⟨_, rfl⟩
    try rw [hh2] at HRS
    try rw [hh2]
    rw [hV] at hA HRS ⊢
    have hY : Below U.heap.size U s4 := hHeld.trans (hA.mono hHeld.size)
    refine hK0.out _ _ hY (fun _ => ?_)
    clear hK0 K0 hHeld hA hV
    have hHeld := hY
    clear hY
    refine wpAnyH_ready (rs := [56]) (by kernel_rfl) (by simp) ?_
    refine AllReadyH.cons (by simp; rfl) (fun K0 hK0 => ?_) AllReadyH.nil
    go_simp
    refine (HSH.out _ _ HRS.out hHeld).mono ?_
    rintro e o5 ⟨rfl, hbo5⟩
    have hY : Below U.heap.size U o5 := hHeld.trans (hbo5.mono hHeld.size)
    refine hK0.out _ _ hY (fun _ => ?_)
    clear hK0 K0 hHeld hbo5
    have hHeld := hY
    clear hY
    refine wpAnyH_take (i := 57) (v := ?_) (by simp; rfl) (by kernel_rfl) (by kernel_rfl) (by kernel_rfl) (by exact fun _ _ _ h => h) (Or.inl ⟨by rfl, fun wx hSx => ?_⟩) hHeld ?_
    rotate_left
    · clear hSx; go_simp; (try with_reducible rfl)
    simp only [Act.put, List.setIfInBounds_toArray, List.set_cons_zero, List.set_cons_succ]
    refine wpAnyH_take (i := 58) (v := ?_) (by simp; rfl) (by kernel_rfl) (by kernel_rfl) (by kernel_rfl) (by exact fun _ _ _ h => h) (Or.inl ⟨by rfl, fun wx hSx => ?_⟩) hHeld ?_
    rotate_left
    · clear hSx; go_simp; (try with_reducible rfl)
    simp only [Act.put, List.setIfInBounds_toArray, List.set_cons_zero, List.set_cons_succ]
    refine wpAnyH_take (i := 59) (v := ?_) (by simp; rfl) (by kernel_rfl) (by kernel_rfl) (by kernel_rfl) (by exact fun _ _ _ h => h) (Or.inl ⟨by rfl, fun wx hSx => ?_⟩) hHeld ?_
    rotate_left
    · clear hSx; go_simp; (try with_reducible rfl)
    simp only [Act.put, List.setIfInBounds_toArray, List.set_cons_zero, List.set_cons_succ]
    refine wpAnyH_done (by kernel_rfl) ?_ _
    have HE := Lib.hid (HBU.out.trans (hHeld.mono HBU.out.size))
    clear hHeld
    go_wp2
    go_ret
    exact ⟨rfl, HE.out⟩
  · have mk := mk65
    go_simp
    clear mk
    have hA := (Below.refl t1.heap.size t1).alloc (Nat.le_refl _) (.cells (NV .u8 Z65).toArray 5)
    have HROW := Lib.hid (RI.lit (k := .u8) t1 Z65 5)
    obtain ⟨h1, hh1⟩ : ∃ h, t1.heap.size = h := ⟨_, rfl⟩
    obtain ⟨m2, hV⟩ : ∃ V, t1.alloc (.cells (NV .u8 Z65).toArray 5) = V := ⟨_, rfl⟩
    try rw [hh1] at HROW
    try rw [hh1]
    rw [hV] at hA HROW ⊢
    have hY : Below U.heap.size U m2 := hHeld.trans (hA.mono hHeld.size)
    refine hK0.out _ _ hY (fun _ => ?_)
    clear hK0 K0 hHeld hA hV
    have hHeld := hY
    clear hY
    refine wpAnyH_ready (rs := [52, 55]) (by kernel_rfl) (by simp) ?_
    refine AllReadyH.cons (by simp; rfl) (fun K0 hK0 => ?_) (AllReadyH.cons (by simp; rfl) (fun K0 hK0 => ?_) AllReadyH.nil)
    · go_simp
      refine (HIF.out _ hHeld).mono ?_
      rintro e i3 ⟨rfl, hbi3⟩
      have hY : Below U.heap.size U i3 := hHeld.trans (hbi3.mono hHeld.size)
      have HROW := Lib.hid (HROW.out.below hbi3)
      refine hK0.out _ _ hY (fun _ => ?_)
      clear hK0 K0 hHeld hbi3
      have hHeld := hY
      clear hY
      refine wpAnyH_take (i := 53) (v := ?_) (by simp; rfl) (by kernel_rfl) (by kernel_rfl) (by kernel_rfl) (by exact fun _ _ _ h => h) (Or.inl ⟨by rfl, fun wx hSx => ?_⟩) hHeld ?_
      rotate_left
      · clear hSx; go_simp; (try with_reducible rfl)
      simp only [Act.put, List.setIfInBounds_toArray, List.set_cons_zero, List.set_cons_succ]
      refine wpAnyH_ready (rs := [55]) (by kernel_rfl) (by simp) ?_
      refine AllReadyH.cons (by simp; rfl) (fun K0 hK0 => ?_) AllReadyH.nil
      go_simp
      have hA := (Below.refl i3.heap.size i3).alloc (Nat.le_refl _) (.cells #[.slice (some ⟨h1, 0, none⟩) 65 65] 23)
      have HRS := Lib.hid (rs_one Z65 65 i3 (some ⟨h1, 0, none⟩) 65 rfl z65_pos (by omega) (by unfold maxLen; omega) HROW.out)
      obtain ⟨h2, hh2⟩ : ∃ h, i3.heap.size = h := ⟨_, rfl⟩
      obtain ⟨s4, hV⟩ : ∃ V, i3.alloc (.cells #[.slice (some ⟨h1, 0, none⟩) 65 65] 23) = V := ⟨_, rfl⟩
      try rw [hh2] at HRS
      try rw [hh2]
      rw [hV] at hA HRS ⊢
      have hY : Below U.heap.size U s4 := hHeld.trans (hA.mono hHeld.size)
      refine hK0.out _ _ hY (fun _ => ?_)
      clear hK0 K0 hHeld hA hV
      have hHeld := hY
      clear hY
      refine wpAnyH_ready (rs := [56]) (by kernel_rfl) (by simp) ?_
      refine AllReadyH.cons (by simp; rfl) (fun K0 hK0 => ?_) AllReadyH.nil
      go_simp
      refine (HSH.out _ _ HRS.out hHeld).mono ?_
      rintro e o5 ⟨rfl, hbo5⟩
      have hY : Below U.heap.size U o5 := hHeld.trans (hbo5.mono hHeld.size)
      refine hK0.out _ _ hY (fun _ => ?_)
      clear hK0 K0 hHeld hbo5
      have hHeld := hY
      clear hY
      refine wpAnyH_take (i := 57) (v := ?_) (by simp; rfl) (by kernel_rfl) (by kernel_rfl) (by kernel_rfl) (by exact fun _ _ _ h => h) (Or.inl ⟨by rfl, fun wx hSx => ?_⟩) hHeld ?_
      rotate_left
      · clear hSx; go_simp; (try with_reducible rfl)
      simp only [Act.put, List.setIfInBounds_toArray, List.set_cons_zero, List.set_cons_succ]
      refine wpAnyH_take (i := 58) (v := ?_) (by simp; rfl) (by kernel_rfl) (by kernel_rfl) (by kernel_rfl) (by exact fun _ _ _ h => h) (Or.inl ⟨by rfl, fun wx hSx => ?_⟩) hHeld ?_
      rotate_left
      · clear hSx; go_simp; (try with_reducible rfl)
      simp only [Act.put, List.setIfInBounds_toArray, List.set_cons_zero, List.set_cons_succ]
      refine wpAnyH_take (i := 59) (v := ?_) (by simp; rfl) (by kernel_rfl) (by kernel_rfl) (by kernel_rfl) (by exact fun _ _ _ h => h) (Or.inl ⟨by rfl, fun wx hSx => ?_⟩) hHeld ?_
      rotate_left
      · clear hSx; go_simp; (try with_reducible rfl)
      simp only [Act.put, List.setIfInBounds_toArray, List.set_cons_zero, List.set_cons_succ]
      refine wpAnyH_done (by kernel_rfl) ?_ _
      have HE := Lib.hid (HBU.out.trans (hHeld.mono HBU.out.size))
      clear hHeld
      go_wp2
      go_ret
      exact ⟨rfl, HE.out⟩
    · go_simp
      have hA := (Below.refl m2.heap.size m2).alloc (Nat.le_refl _) (.cells #[.slice (some ⟨h1, 0, none⟩) 65 65] 23)
      have HRS := Lib.hid (rs_one Z65 65 m2 (some ⟨h1, 0, none⟩) 65 rfl z65_pos (by omega) (by unfold maxLen; omega) HROW.out)
      obtain ⟨h2, hh2⟩ : ∃ h, m2.heap.size = h := ⟨_, rfl⟩
      obtain ⟨s3, hV⟩ : ∃ V, m2.alloc (.cells #[.slice (some ⟨h1, 0, none⟩) 65 65] 23) = V := ⟨_, rfl⟩
      try rw [hh2] at HRS
      try rw [hh2]
      rw [hV] at hA HRS ⊢
      have hY : Below U.heap.size U s3 := hHeld.trans (hA.mono hHeld.size)
      refine hK0.out _ _ hY (fun _ => ?_)
      clear hK0 K0 hHeld hA hV
      have hHeld := hY
      clear hY
      refine wpAnyH_ready (rs := [52]) (by kernel_rfl) (by simp) ?_
      refine AllReadyH.cons (by simp; rfl) (fun K0 hK0 => ?_) AllReadyH.nil
      go_simp
      refine (HIF.out _ hHeld).mono ?_
      rintro e i4 ⟨rfl, hbi4⟩
      have hY : Below U.heap.size U i4 := hHeld.trans (hbi4.mono hHeld.size)
      have HRS := Lib.hid (HRS.out.to hbi4)
      refine hK0.out _ _ hY (fun _ => ?_)
      clear hK0 K0 hHeld hbi4
      have hHeld := hY
      clear hY
      refine wpAnyH_take (i := 53) (v := ?_) (by simp; rfl) (by kernel_rfl) (by kernel_rfl) (by kernel_rfl) (by exact fun _ _ _ h => h) (Or.inl ⟨by rfl, fun wx hSx => ?_⟩) hHeld ?_
      rotate_left
      · clear hSx; go_simp; (try with_reducible rfl)
      simp only [Act.put, List.setIfInBounds_toArray, List.set_cons_zero, List.set_cons_succ]
      refine wpAnyH_ready (rs := [56]) (by kernel_rfl) (by simp) ?_
      refine AllReadyH.cons (by simp; rfl) (fun K0 hK0 => ?_) AllReadyH.nil
      go_simp
      refine (HSH.out _ _ HRS.out hHeld).mono ?_
      rintro e o5 ⟨rfl, hbo5⟩
      have hY : Below U.heap.size U o5 := hHeld.trans (hbo5.mono hHeld.size)
      refine hK0.out _ _ hY (fun _ => ?_)
      clear hK0 K0 hHeld hbo5
      have hHeld := hY
      clear hY
      refine wpAnyH_take (i := 57) (v := ?_) (by simp; rfl) (by kernel_rfl) (by kernel_rfl) (by kernel_rfl) (by exact fun _ _ _ h => h) (Or.inl ⟨by rfl, fun wx hSx => ?_⟩) hHeld ?_
      rotate_left
      · clear hSx; go_simp; (try with_reducible rfl)
      simp only [Act.put, List.setIfInBounds_toArray, List.set_cons_zero, List.set_cons_succ]
      refine wpAnyH_take (i := 58) (v := ?_) (by simp; rfl) (by kernel_rfl) (by kernel_rfl) (by kernel_rfl) (by exact fun _ _ _ h => h) (Or.inl ⟨by rfl, fun wx hSx => ?_⟩) hHeld ?_
      rotate_left
      · clear hSx; go_simp; (try with_reducible rfl)
      simp only [Act.put, List.setIfInBounds_toArray, List.set_cons_zero, List.set_cons_succ]
      refine wpAnyH_take (i := 59) (v := ?_) (by simp; rfl) (by kernel_rfl) (by kernel_rfl) (by kernel_rfl) (by exact fun _ _ _ h => h) (Or.inl ⟨by rfl, fun wx hSx => ?_⟩) hHeld ?_
      rotate_left
      · clear hSx; go_simp; (try with_reducible rfl)
      simp only [Act.put, List.setIfInBounds_toArray, List.set_cons_zero, List.set_cons_succ]
      refine wpAnyH_done (by kernel_rfl) ?_ _
      have HE := Lib.hid (HBU.out.trans (hHeld.mono HBU.out.size))
      clear hHeld
      go_wp2
      go_ret
      exact ⟨rfl, HE.out⟩
end Go.Proofs.YtdlhpmbgpjjkoaaDoor
