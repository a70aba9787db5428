/-
  Proved here: of the program's views: rows of cells that grow; readHead.
-/
import Derived.Test.YtcblohmenfdafaaDoorIe
set_option linter.unusedSimpArgs false
set_option linter.unusedVariables false
namespace Go.Proofs.YtcblohmenfdafaaDoor
open Go.RowKit
theorem info_view : (Tryd.prog.info? 24).map (·.size) = some 6 := by kernel_rfl
set_option maxRecDepth 100000 in
theorem app_c {W : World} {base fb cap2 n m : Nat} {v : Value} {L M : List Ce} (hown : W.ownsRow base 50 4 v n (flat L)) (hM : RowAt W fb cap2 M) (hm : M.length = m) (hn : n + m ≤ 100000) (hb : base ≤ W.heap.size) :
    ∃ v' w', (Builtin.append_ #[22, 22] 22 #[v, .slice (some ⟨fb, 0, none⟩) m cap2]).run Tryd.prog W = .ok v' w' ∧ w'.ownsRow base 50 4 v' (n + m) (flat (L ++ M)) ∧ W.grownBy w' v.ownBlock ∧ (v'.ownBlock = v.ownBlock ∨ v'.ownBlock = some W.heap.size) := by
  subst hm
  obtain ⟨i0, hi, hz0, hz1, hz2⟩ := info_parts infoCell
  obtain ⟨v', w', hr, ho, hg, _, hat⟩ := run_append_own_at (P := Tryd.prog) W base 22 22 50 i0 _ 4 16 Tryd.underlying22 hi hz0 hz1 hz2 rfl (by decide) v n (flat L) hown ⟨fb, 0, none⟩ M.length cap2 (flat M) (by rw [flat_len])
    (fun j u hu => by
      rw [show (⟨fb, 0, none⟩ : Addr).add j = ⟨fb, j, none⟩ by unfold Addr.add; split <;> simp_all]
      rw [hM.at_ (by have := (List.getElem?_eq_some_iff.1 hu).1; rwa [flat_len] at this)]
      exact hu)
    (flat_cells M) (by unfold maxLen; omega) (by omega) hb
  exact ⟨v', w', hr, by rw [flat_app]; exact ho, hg, hat⟩
/-- A view of this call's own, in block hb: its cells M behind v; its answer's place is the first of the call's. -/
structure VS (w : World) (hb : Nat) (R C row col : Int) (vis : Bool) (M : List Ce) (v : Value) (W : World) : Prop where
  blk : W.heap[hb]? = some (.cells #[.int .i64 R, .int .i64 C, v, .int .i64 row, .int .i64 col, .bool vis] 24 (0, 0))
  own : W.ownsRow (hb + 1) 50 4 v M.length (flat M)
  zero : W.heap[w.heap.size]? = some (.cells #[.int .i64 0, .int .i64 0, .slice none 0 0, .int .i64 0, .int .i64 0, .bool false] 24 (0, 0))
  below : Below w.heap.size w W
  gt : w.heap.size < hb
section
variable {w : World} {hb : Nat} {R C row col : Int} {vis : Bool} {M : List Ce} {v : Value} {W X : World}
theorem VS.next (H : VS w hb R C row col vis M v W) (h : Below W.heap.size W X) : VS w hb R C row col vis M v X :=
  ⟨(h.block _ (lt_of_block H.blk)).trans H.blk, own_below H.own h, (h.block _ (lt_of_block H.zero)).trans H.zero, H.below.trans (h.mono H.below.size), H.gt⟩
theorem VS.form (H : VS w hb R C row col vis M v W) : ∃ A c, v = .slice A M.length c := by
  obtain ⟨A, c, e, _⟩ := own_slice H.own
  exact ⟨A, c, e⟩
theorem VS.cr {A : Option Addr} {n c : Nat} (H : VS w hb R C row col vis M (.slice A n c) W) : CR W A M := fun hp => by
  obtain ⟨A0, c0, e, _⟩ := own_slice H.own
  injection e with e1 e2 e3
  subst e1 e2 e3
  rcases H.own.2 with ⟨h, _⟩ | ⟨g, cap, cur, hv, hB, h1, _⟩
  · injection h with h1 h2 h3
    omega
  · injection hv with a b c'
    subst a c'
    obtain ⟨r, _, _⟩ := RowAt.of_own H.own
    refine ⟨g, 0, rfl, lt_of_block h1, fun i hi j u hu => ?_⟩
    have hj : j < 4 := (List.getElem?_eq_some_iff.1 hu).1
    rw [Nat.zero_add, r.cell hi hj]
    rwa [show ceAt M i = M[i] by simp [ceAt, List.getD, hi]] at hu
theorem VS.put {n : Nat} {M2 : List Ce} {v2 : Value} (H : VS w hb R C row col vis M v W) (hg : W.grownBy X v.ownBlock) (ho : X.ownsRow (hb + 1) 50 4 v2 n (flat M2)) (hn : n = M2.length) : VS w hb R C row col vis M2 v2 (X.setCell ⟨hb, 2, none⟩ v2) := by
  subst hn
  have hne : ∀ k, v.ownBlock = some k → hb + 1 ≤ k := ownBlock_le H.own
  have hlt := lt_of_block H.blk
  have hb1 := (hg.block hb hlt (by intro e; have := hne hb e.symm; omega)).trans H.blk
  have hz1 := (hg.block w.heap.size (lt_of_block H.zero) (by intro e; have := hne _ e.symm; have := H.gt; omega)).trans H.zero
  have hgt := H.gt
  refine ⟨?_, ?_, ?_, (H.below.grown hg H.below.size (fun k hk => by have := hne k hk; omega)).setCell (by show w.heap.size ≤ hb; omega) v2, H.gt⟩
  · rw [heap_setCell_same X _ 2 _ _ v2 hb1]; rfl
  · exact ownsRow_setCell_below ho (a := ⟨hb, 2, none⟩) (by show hb < hb + 1; omega) v2
  · rw [heap_setCell_other X _ _ v2 (by simp; omega)]; exact hz1
end
set_option maxRecDepth 100000 in
set_option maxHeartbeats 8000000 in
theorem p_readhead_no {w : World} {A : Option Addr} {bs : List Int} {n cap : Nat} (hR : RB w w.heap.size A bs) (hl : bs.length = n) (hcap : n ≤ cap) (hm : cap ≤ maxLen) (hh : headR bs = false) :
    Calls Tryd.prog 27 #[.slice A n cap] w fun e w' => e = .returned (.tuple #[.agg #[.int .i64 0, .int .i64 0, .slice none 0 0, .int .i64 0, .int .i64 0, .bool false], .bool false]) ∧ Below w.heap.size w w' := by
  have hh2 : n < 5 ∨ 5 ≤ n ∧ 1 < bs.getD 4 0 := by
    unfold headR at hh; rw [hl] at hh
    rcases Bool.and_eq_false_iff.1 hh with h | h
    · exact .inl (by have := of_decide_eq_false h; omega)
    · rcases Nat.lt_or_ge n 5 with h5 | h5
      · exact .inl h5
      · exact .inr ⟨h5, by have := of_decide_eq_false h; omega⟩
  have hq := RB.alloc hR (Nat.le_refl _) (.cells #[.int .i64 0, .int .i64 0, .slice none 0 0, .int .i64 0, .int .i64 0, .bool false] 24)
  have HB0 := Lib.hid ((Below.refl w.heap.size w).alloc (Nat.le_refl _) (.cells #[.int .i64 0, .int .i64 0, .slice none 0 0, .int .i64 0, .int .i64 0, .bool false] 24))
  rcases hh2 with h | ⟨h, h2⟩
  · have d1 : decide ((n : Int) < 5) = true := by simp; omega
    have d1' : decide (n < 5) = true := by simp; omega
    clear hR hq hh h hl
    go_enter Tryd.func27, Tryd.ntmps27
    go_wp2
    exact bodyPost_ret (results_cell_tmp Tryd.results27 _ _ w.heap.size 24 #[.int .i64 0, .int .i64 0, .slice none 0 0, .int .i64 0, .int .i64 0, .bool false] (0, 0) _ (.bool false) rfl rfl (heap_alloc_new w _) Tryd.underlying24 rfl info_view) rfl ⟨rfl, HB0.out⟩
  · have d1 : decide ((n : Int) < 5) = false := by simp; omega
    have d1' : decide (n < 5) = false := by simp; omega
    obtain ⟨b, off, rfl, hbl, hc⟩ := hq (by omega)
    have y4 := hc 4 (by omega)
    obtain ⟨x, hx⟩ : ∃ x, bs.getD 4 0 = x := ⟨_, rfl⟩
    rw [hx] at y4 h2
    have d2 : decide (1 < x) = true := by simpa using h2
    have d2' : decide (x > 1) = true := d2
    have g4 : (4 : Int) < (n : Int) := by omega
    clear hR hc hh h2 hx hl
    go_enter Tryd.func27, Tryd.ntmps27
    go_wp2
    exact bodyPost_ret (results_cell_tmp Tryd.results27 _ _ w.heap.size 24 #[.int .i64 0, .int .i64 0, .slice none 0 0, .int .i64 0, .int .i64 0, .bool false] (0, 0) _ (.bool false) rfl rfl (heap_alloc_new w _) Tryd.underlying24 rfl info_view) rfl ⟨rfl, HB0.out⟩
set_option maxRecDepth 100000 in
set_option maxHeartbeats 16000000 in
theorem p_readhead {w : World} {A : Option Addr} {bs : List Int} {n cap : Nat} {a b c d x : Int} {q : Bool} (hR : RB w w.heap.size A bs) (hl : bs.length = n) (hcap : n ≤ cap) (hm : cap ≤ maxLen) (hB : Bytes bs) (h5 : 5 ≤ n) (h0 : bs.getD 0 0 = a) (h1 : bs.getD 1 0 = b) (h2 : bs.getD 2 0 = c) (h3 : bs.getD 3 0 = d) (h4 : bs.getD 4 0 = x) (hx : x ≤ 1) (hq : (x == 1) = q) :
    Calls Tryd.prog 27 #[.slice A n cap] w fun e w' => e = .returned (.tuple #[.agg #[.int .i64 a, .int .i64 b, .slice none 0 0, .int .i64 c, .int .i64 d, .bool q], .bool (headB a b c d)]) ∧ Below w.heap.size w w' := by
  have c0 := hB 0; have c1 := hB 1; have c2 := hB 2; have c3 := hB 3; have c4 := hB 4
  rw [h0] at c0; rw [h1] at c1; rw [h2] at c2; rw [h3] at c3; rw [h4] at c4
  have d1 : decide ((n : Int) < 5) = false := by simp; omega
  have d1' : decide (n < 5) = false := by simp; omega
  have d2 : decide (1 < x) = false := by simp; omega
  have d2' : decide (x > 1) = false := d2
  have g0 : (0 : Int) < (n : Int) := by omega
  have g1 : (1 : Int) < (n : Int) := by omega
  have g0' : 0 < n := by omega
  have g1' : 1 < n := by omega
  have g2' : 2 < n := by omega
  have g3' : 3 < n := by omega
  have g4' : 4 < n := by omega
  have g2 : (2 : Int) < (n : Int) := by omega
  have g3 : (3 : Int) < (n : Int) := by omega
  have g4 : (4 : Int) < (n : Int) := by omega
  have u0 : IntKind.i64.wrap a = a := IntWalk.i64_in _ (by omega)
  have u1 : IntKind.i64.wrap b = b := IntWalk.i64_in _ (by omega)
  have u2 : IntKind.i64.wrap c = c := IntWalk.i64_in _ (by omega)
  have u3 : IntKind.i64.wrap d = d := IntWalk.i64_in _ (by omega)
  have HIH := Lib.hid (fun W => p_ishead a b c d none 0 0 q W)
  have HB0 := (Below.refl w.heap.size w).alloc (Nat.le_refl _) (.cells #[.int .i64 0, .int .i64 0, .slice none 0 0, .int .i64 0, .int .i64 0, .bool false] 24)
  have HC0 := heap_alloc_new w (.cells #[.int .i64 0, .int .i64 0, .slice none 0 0, .int .i64 0, .int .i64 0, .bool false] 24)
  obtain ⟨bb, off, rfl, hbl, hc⟩ := hR (by omega)
  have HBY0 := Lib.hid (fun (W : World) (hW : Below w.heap.size w W) =>
    (show W.cell? ⟨bb, off + 0, none⟩ = some (.int .u8 a) ∧ W.cell? ⟨bb, off + 1, none⟩ = some (.int .u8 b) ∧ W.cell? ⟨bb, off + 2, none⟩ = some (.int .u8 c) ∧ W.cell? ⟨bb, off + 3, none⟩ = some (.int .u8 d) ∧ W.cell? ⟨bb, off + 4, none⟩ = some (.int .u8 x) from
      ⟨(hW.cell (p := ⟨bb, off + 0, none⟩) hbl).trans (h0 ▸ hc 0 (by omega)), (hW.cell (p := ⟨bb, off + 1, none⟩) hbl).trans (h1 ▸ hc 1 (by omega)), (hW.cell (p := ⟨bb, off + 2, none⟩) hbl).trans (h2 ▸ hc 2 (by omega)), (hW.cell (p := ⟨bb, off + 3, none⟩) hbl).trans (h3 ▸ hc 3 (by omega)), (hW.cell (p := ⟨bb, off + 4, none⟩) hbl).trans (h4 ▸ hc 4 (by omega))⟩))
  obtain ⟨rb, hrb⟩ : ∃ r, w.heap.size = r := ⟨_, rfl⟩
  have HRB := Lib.hid (show w.heap.size ≤ rb by omega)
  clear hR hl hB c0 c1 c2 c3 c4 h0 h1 h2 h3 h4 hc hbl hx h5
  go_enter Tryd.func27, Tryd.ntmps27
  go_upto_region 1 with fail
  simp only [hrb] at HC0 ⊢
  generalize (w.alloc (.cells #[.int .i64 0, .int .i64 0, .slice none 0 0, .int .i64 0, .int .i64 0, .bool false] 24)) = U at HB0 HC0 ⊢
  have HU := Lib.hid HB0
  have HZ0 := Lib.hid HC0
  clear HB0 HC0 hrb
  obtain ⟨b0, b1, b2, b3, b4⟩ := HBY0.out U HU.out
  simp only [Nat.add_zero] at b0
  go_upto_region 3 with fail
  clear b0 b1 b2 b3 b4
  refine wp_region_held_drew (S := fun W => Below U.drew.heap.size U.drew W) (by kernel_rfl) (Below.refl _ _) (fun hHeld => ?_)
  have HD0 := Lib.hid (Below.refl U.heap.size U).drew
  obtain ⟨D0, hD0⟩ : ∃ D, U.drew = D := ⟨_, rfl⟩
  simp only [hD0] at hHeld HD0 ⊢
  have HUD := Lib.hid hD0
  clear hD0
  have HD := Lib.hid (Below.refl D0.heap.size D0)
  have HBY := Lib.hid (fun (W : World) (hW : Below D0.heap.size D0 W) => by
    have hz := HBY0.out W (HU.out.trans ((HD0.out.trans (hW.mono HD0.out.size)).mono HU.out.size))
    simp only [Nat.add_zero] at hz
    exact hz)
  refine wpAnyH_take (i := 0) (v := ?_) (by simp; rfl) (by kernel_rfl) (by kernel_rfl) (by kernel_rfl) (by exact fun _ _ _ h => h) (Or.inl ⟨by rfl, fun wx hSx => ?_⟩) hHeld ?_
  rotate_left
  · clear hSx; go_simp; (try with_reducible rfl)
  simp only [Act.put, List.setIfInBounds_toArray, List.set_cons_zero, List.set_cons_succ]
  refine wpAnyH_take (i := 1) (v := ?_) (by simp; rfl) (by kernel_rfl) (by kernel_rfl) (by kernel_rfl) (by exact fun _ _ _ h => h) (Or.inl ⟨by rfl, fun wx hSx => ?_⟩) hHeld ?_
  rotate_left
  · clear hSx; go_simp; (try with_reducible rfl)
  simp only [Act.put, List.setIfInBounds_toArray, List.set_cons_zero, List.set_cons_succ]
  refine wpAnyH_take (i := 2) (v := ?_) (by simp; rfl) (by kernel_rfl) (by kernel_rfl) (by kernel_rfl) (by exact fun _ _ _ h => h) (Or.inl ⟨by rfl, fun wx hSx => ?_⟩) hHeld ?_
  rotate_left
  · have q := HBY.out wx hSx; obtain ⟨b0, b1, b2, b3, b4⟩ := q; clear hSx; go_simp; (try with_reducible rfl)
  simp only [Act.put, List.setIfInBounds_toArray, List.set_cons_zero, List.set_cons_succ]
  refine wpAnyH_take (i := 3) (v := ?_) (by simp; rfl) (by kernel_rfl) (by kernel_rfl) (by kernel_rfl) (by exact fun _ _ _ h => h) (Or.inl ⟨by rfl, fun wx hSx => ?_⟩) hHeld ?_
  rotate_left
  · clear hSx; go_simp; (try with_reducible rfl)
  simp only [Act.put, List.setIfInBounds_toArray, List.set_cons_zero, List.set_cons_succ]
  refine wpAnyH_take (i := 4) (v := ?_) (by simp; rfl) (by kernel_rfl) (by kernel_rfl) (by kernel_rfl) (by exact fun _ _ _ h => h) (Or.inl ⟨by rfl, fun wx hSx => ?_⟩) hHeld ?_
  rotate_left
  · clear hSx; go_simp; (try with_reducible rfl)
  simp only [Act.put, List.setIfInBounds_toArray, List.set_cons_zero, List.set_cons_succ]
  refine wpAnyH_take (i := 5) (v := ?_) (by simp; rfl) (by kernel_rfl) (by kernel_rfl) (by kernel_rfl) (by exact fun _ _ _ h => h) (Or.inl ⟨by rfl, fun wx hSx => ?_⟩) hHeld ?_
  rotate_left
  · clear hSx; go_simp; (try with_reducible rfl)
  simp only [Act.put, List.setIfInBounds_toArray, List.set_cons_zero, List.set_cons_succ]
  refine wpAnyH_take (i := 6) (v := ?_) (by simp; rfl) (by kernel_rfl) (by kernel_rfl) (by kernel_rfl) (by exact fun _ _ _ h => h) (Or.inl ⟨by rfl, fun wx hSx => ?_⟩) hHeld ?_
  rotate_left
  · have q := HBY.out wx hSx; obtain ⟨b0, b1, b2, b3, b4⟩ := q; clear hSx; go_simp; (try with_reducible rfl)
  simp only [Act.put, List.setIfInBounds_toArray, List.set_cons_zero, List.set_cons_succ]
  refine wpAnyH_take (i := 7) (v := ?_) (by simp; rfl) (by kernel_rfl) (by kernel_rfl) (by kernel_rfl) (by exact fun _ _ _ h => h) (Or.inl ⟨by rfl, fun wx hSx => ?_⟩) hHeld ?_
  rotate_left
  · clear hSx; go_simp; (try with_reducible rfl)
  simp only [Act.put, List.setIfInBounds_toArray, List.set_cons_zero, List.set_cons_succ]
  refine wpAnyH_take (i := 8) (v := ?_) (by simp; rfl) (by kernel_rfl) (by kernel_rfl) (by kernel_rfl) (by exact fun _ _ _ h => h) (Or.inl ⟨by rfl, fun wx hSx => ?_⟩) hHeld ?_
  rotate_left
  · clear hSx; go_simp; (try with_reducible rfl)
  simp only [Act.put, List.setIfInBounds_toArray, List.set_cons_zero, List.set_cons_succ]
  refine wpAnyH_take (i := 9) (v := ?_) (by simp; rfl) (by kernel_rfl) (by kernel_rfl) (by kernel_rfl) (by exact fun _ _ _ h => h) (Or.inl ⟨by rfl, fun wx hSx => ?_⟩) hHeld ?_
  rotate_left
  · clear hSx; go_simp; (try with_reducible rfl)
  simp only [Act.put, List.setIfInBounds_toArray, List.set_cons_zero, List.set_cons_succ]
  refine wpAnyH_take (i := 10) (v := ?_) (by simp; rfl) (by kernel_rfl) (by kernel_rfl) (by kernel_rfl) (by exact fun _ _ _ h => h) (Or.inl ⟨by rfl, fun wx hSx => ?_⟩) hHeld ?_
  rotate_left
  · have q := HBY.out wx hSx; obtain ⟨b0, b1, b2, b3, b4⟩ := q; clear hSx; go_simp; (try with_reducible rfl)
  simp only [Act.put, List.setIfInBounds_toArray, List.set_cons_zero, List.set_cons_succ]
  refine wpAnyH_take (i := 11) (v := ?_) (by simp; rfl) (by kernel_rfl) (by kernel_rfl) (by kernel_rfl) (by exact fun _ _ _ h => h) (Or.inl ⟨by rfl, fun wx hSx => ?_⟩) hHeld ?_
  rotate_left
  · clear hSx; go_simp; (try with_reducible rfl)
  simp only [Act.put, List.setIfInBounds_toArray, List.set_cons_zero, List.set_cons_succ]
  refine wpAnyH_take (i := 12) (v := ?_) (by simp; rfl) (by kernel_rfl) (by kernel_rfl) (by kernel_rfl) (by exact fun _ _ _ h => h) (Or.inl ⟨by rfl, fun wx hSx => ?_⟩) hHeld ?_
  rotate_left
  · clear hSx; go_simp; (try with_reducible rfl)
  simp only [Act.put, List.setIfInBounds_toArray, List.set_cons_zero, List.set_cons_succ]
  refine wpAnyH_take (i := 13) (v := ?_) (by simp; rfl) (by kernel_rfl) (by kernel_rfl) (by kernel_rfl) (by exact fun _ _ _ h => h) (Or.inl ⟨by rfl, fun wx hSx => ?_⟩) hHeld ?_
  rotate_left
  · clear hSx; go_simp; (try with_reducible rfl)
  simp only [Act.put, List.setIfInBounds_toArray, List.set_cons_zero, List.set_cons_succ]
  refine wpAnyH_take (i := 14) (v := ?_) (by simp; rfl) (by kernel_rfl) (by kernel_rfl) (by kernel_rfl) (by exact fun _ _ _ h => h) (Or.inl ⟨by rfl, fun wx hSx => ?_⟩) hHeld ?_
  rotate_left
  · have q := HBY.out wx hSx; obtain ⟨b0, b1, b2, b3, b4⟩ := q; clear hSx; go_simp; (try with_reducible rfl)
  simp only [Act.put, List.setIfInBounds_toArray, List.set_cons_zero, List.set_cons_succ]
  refine wpAnyH_take (i := 15) (v := ?_) (by simp; rfl) (by kernel_rfl) (by kernel_rfl) (by kernel_rfl) (by exact fun _ _ _ h => h) (Or.inl ⟨by rfl, fun wx hSx => ?_⟩) hHeld ?_
  rotate_left
  · clear hSx; go_simp; (try with_reducible rfl)
  simp only [Act.put, List.setIfInBounds_toArray, List.set_cons_zero, List.set_cons_succ]
  refine wpAnyH_take (i := 16) (v := ?_) (by simp; rfl) (by kernel_rfl) (by kernel_rfl) (by kernel_rfl) (by exact fun _ _ _ h => h) (Or.inl ⟨by rfl, fun wx hSx => ?_⟩) hHeld ?_
  rotate_left
  · clear hSx; go_simp; (try with_reducible rfl)
  simp only [Act.put, List.setIfInBounds_toArray, List.set_cons_zero, List.set_cons_succ]
  refine wpAnyH_take (i := 17) (v := ?_) (by simp; rfl) (by kernel_rfl) (by kernel_rfl) (by kernel_rfl) (by exact fun _ _ _ h => h) (Or.inl ⟨by rfl, fun wx hSx => ?_⟩) hHeld ?_
  rotate_left
  · clear hSx; go_simp; (try with_reducible rfl)
  simp only [Act.put, List.setIfInBounds_toArray, List.set_cons_zero, List.set_cons_succ]
  refine wpAnyH_take (i := 18) (v := ?_) (by simp; rfl) (by kernel_rfl) (by kernel_rfl) (by kernel_rfl) (by exact fun _ _ _ h => h) (Or.inl ⟨by rfl, fun wx hSx => ?_⟩) hHeld ?_
  rotate_left
  · have q := HBY.out wx hSx; obtain ⟨b0, b1, b2, b3, b4⟩ := q; clear hSx; go_simp; (try with_reducible rfl)
  simp only [Act.put, List.setIfInBounds_toArray, List.set_cons_zero, List.set_cons_succ]
  refine wpAnyH_take (i := 19) (v := ?_) (by simp; rfl) (by kernel_rfl) (by kernel_rfl) (by kernel_rfl) (by exact fun _ _ _ h => h) (Or.inl ⟨by rfl, fun wx hSx => ?_⟩) hHeld ?_
  rotate_left
  · clear hSx; go_simp; (try with_reducible rfl)
  simp only [Act.put, List.setIfInBounds_toArray, List.set_cons_zero, List.set_cons_succ]
  refine wpAnyH_take (i := 20) (v := ?_) (by simp; rfl) (by kernel_rfl) (by kernel_rfl) (by kernel_rfl) (by exact fun _ _ _ h => h) (Or.inl ⟨by rfl, fun wx hSx => ?_⟩) hHeld ?_
  rotate_left
  · clear hSx; go_simp; (try with_reducible rfl)
  simp only [Act.put, List.setIfInBounds_toArray, List.set_cons_zero, List.set_cons_succ]
  refine wpAnyH_ready (rs := [21]) (by kernel_rfl) (by simp) ?_
  refine AllReadyH.cons (by simp; rfl) (fun K0 hK0 => ?_) AllReadyH.nil
  go_simp
  have hbV : Below D0.heap.size D0 (D0.alloc (.cells #[.int .i64 0, .int .i64 0, .slice none 0 0, .int .i64 0, .int .i64 0, .bool false] 24)) := (Below.refl _ _).alloc (Nat.le_refl _) _
  have HV := Lib.hid (heap_alloc_new D0 (.cells #[.int .i64 0, .int .i64 0, .slice none 0 0, .int .i64 0, .int .i64 0, .bool false] 24))
  have hle := HD.out.size
  have HB2 := Lib.hid (HD.out.trans (hbV.mono HD.out.size))
  clear HD hbV
  have HD := HB2
  clear HB2
  obtain ⟨hb, hhb⟩ : ∃ g, D0.heap.size = g := ⟨_, rfl⟩
  have HLE := Lib.hid (show D0.heap.size ≤ hb from by rw [← hhb]; exact hle)
  rw [hhb] at HV ⊢
  clear hhb hle
  generalize (D0.alloc (.cells #[.int .i64 0, .int .i64 0, .slice none 0 0, .int .i64 0, .int .i64 0, .bool false] 24)) = V at HV HD ⊢
  refine hK0.out _ _ HD.out (fun _ => ?_)
  clear hK0 K0 hHeld
  have hHeld := HD.out
  refine wpAnyH_ready (rs := [22]) (by kernel_rfl) (by simp) ?_
  refine AllReadyH.cons (by simp; rfl) (fun K0 hK0 => ?_) AllReadyH.nil
  have hrow := HV.out
  refine step_store_row rfl 24 (.tmp 4) (.tmp 35) rfl hb #[.int .i64 a, .int .i64 b, .slice none 0 0, .int .i64 c, .int .i64 d, .bool q] rfl rfl 24 _ hrow info_view rfl (by simp [Value.oneCell']) ?_
  simp only [Act.put, List.setIfInBounds_toArray, List.set_cons_zero, List.set_cons_succ]
  have HSB := below_setRow HD.out HLE.out #[.int .i64 a, .int .i64 b, .slice none 0 0, .int .i64 c, .int .i64 d, .bool q]
  have HEND := Lib.hid (And.intro (setRow_heap _ _ _ #[.int .i64 a, .int .i64 b, .slice none 0 0, .int .i64 c, .int .i64 d, .bool q] _ _ hrow) HSB)
  refine hK0.out _ _ HSB (fun _ => ?_)
  clear hK0 K0 hHeld hrow HV
  have hHeld := HSB
  refine wpAnyH_done (by kernel_rfl) ?_ _
  generalize (V.setRow hb #[.int .i64 a, .int .i64 b, .slice none 0 0, .int .i64 c, .int .i64 d, .bool q]) = Y0 at HEND ⊢
  have hud := HU.out.trans ((HD0.out.trans (HEND.out.2.mono HD0.out.size)).mono HU.out.size)
  have HHD := Lib.hid (show Below w.heap.size w Y0.drew ∧ Y0.drew.heap[hb]? = some (.cells #[.int .i64 a, .int .i64 b, .slice none 0 0, .int .i64 c, .int .i64 d, .bool q] 24 (0, 0)) from ⟨hud.drew, ((Below.refl Y0.heap.size Y0).drew.block _ (lt_of_block HEND.out.1)).trans HEND.out.1⟩)
  have hz1 := (HD0.out.block _ (lt_of_block HZ0.out)).trans HZ0.out
  have hz2 := (HEND.out.2.block _ (lt_of_block hz1)).trans hz1
  have HZ := Lib.hid (((Below.refl Y0.heap.size Y0).drew.block _ (lt_of_block hz2)).trans hz2)
  have HNE := Lib.hid (show rb ≠ hb by have := lt_of_block hz1; have := HLE.out; omega)
  clear hud hz1 hz2 hHeld HD HBY HBY0 HU HZ0 HD0 HUD HEND HLE
  go_upto_region 4 with fail
  refine wp_region_held_drew (S := fun W => Below w.heap.size w W ∧ W.heap[hb]? = some (.cells #[.int .i64 a, .int .i64 b, .slice none 0 0, .int .i64 c, .int .i64 d, .bool q] 24 (0, 0))) (by kernel_rfl) HHD.out (fun hHeld => ?_)
  obtain ⟨Y, hY⟩ : ∃ Y, Y0.drew = Y := ⟨_, rfl⟩
  simp only [hY] at hHeld HHD HZ ⊢
  clear hY
  refine wpAnyH_take (i := 0) (v := ?_) (by simp; rfl) (by kernel_rfl) (by kernel_rfl) (by kernel_rfl) (by exact fun _ _ _ h => h) (Or.inl ⟨by rfl, fun wx hSx => ?_⟩) hHeld ?_
  rotate_left
  · obtain ⟨s0, s1, s2, s3, s4, s5⟩ := six_cells hSx.2; clear hSx; go_simp; (try with_reducible rfl)
  simp only [Act.put, List.setIfInBounds_toArray, List.set_cons_zero, List.set_cons_succ]
  refine wpAnyH_take (i := 1) (v := ?_) (by simp; rfl) (by kernel_rfl) (by kernel_rfl) (by kernel_rfl) (by exact fun _ _ _ h => h) (Or.inl ⟨by rfl, fun wx hSx => ?_⟩) hHeld ?_
  rotate_left
  · obtain ⟨s0, s1, s2, s3, s4, s5⟩ := six_cells hSx.2; clear hSx; go_simp; (try with_reducible rfl)
  simp only [Act.put, List.setIfInBounds_toArray, List.set_cons_zero, List.set_cons_succ]
  refine wpAnyH_ready (rs := [2]) (by kernel_rfl) (by simp) ?_
  refine AllReadyH.cons (by simp; rfl) (fun K0 hK0 => ?_) AllReadyH.nil
  go_simp
  refine (HIH.out _).mono ?_
  rintro e X ⟨rfl, hbX⟩
  have HX := Lib.hid (show Below w.heap.size w X ∧ X.heap[hb]? = _ from ⟨HHD.out.1.trans (hbX.mono HHD.out.1.size), (hbX.block _ (lt_of_block HHD.out.2)).trans HHD.out.2⟩)
  have HZX := Lib.hid ((hbX.block _ (lt_of_block HZ.out)).trans HZ.out)
  clear hbX
  refine hK0.out _ _ HX.out (fun _ => ?_)
  clear hK0 K0 hHeld
  have hHeld := HX.out
  refine wpAnyH_ready (rs := [3]) (by kernel_rfl) (by simp) ?_
  refine AllReadyH.cons (by simp; rfl) (fun K0 hK0 => ?_) AllReadyH.nil
  have hrow := HZX.out
  refine step_store_row rfl 24 (.tmp 2) (.tmp 36) rfl rb #[.int .i64 a, .int .i64 b, .slice none 0 0, .int .i64 c, .int .i64 d, .bool q] rfl rfl 24 _ hrow info_view rfl (by simp [Value.oneCell']) ?_
  simp only [Act.put, List.setIfInBounds_toArray, List.set_cons_zero, List.set_cons_succ]
  have HE := Lib.hid (And.intro (setRow_heap _ _ _ #[.int .i64 a, .int .i64 b, .slice none 0 0, .int .i64 c, .int .i64 d, .bool q] _ _ hrow) (below_setRow HX.out.1 HRB.out #[.int .i64 a, .int .i64 b, .slice none 0 0, .int .i64 c, .int .i64 d, .bool q]))
  have HS2 : Below w.heap.size w (X.setRow rb #[.int .i64 a, .int .i64 b, .slice none 0 0, .int .i64 c, .int .i64 d, .bool q]) ∧ (X.setRow rb #[.int .i64 a, .int .i64 b, .slice none 0 0, .int .i64 c, .int .i64 d, .bool q]).heap[hb]? = some (.cells #[.int .i64 a, .int .i64 b, .slice none 0 0, .int .i64 c, .int .i64 d, .bool q] 24 (0, 0)) := ⟨HE.out.2, ((grown_setRow X rb #[.int .i64 a, .int .i64 b, .slice none 0 0, .int .i64 c, .int .i64 d, .bool q]).block hb (lt_of_block HX.out.2) (by intro e; injection e with e; exact HNE.out e.symm)).trans HX.out.2⟩
  refine hK0.out _ _ HS2 (fun _ => ?_)
  clear hK0 K0 hHeld hrow
  have hHeld := HS2
  refine wpAnyH_take (i := 4) (v := ?_) (by simp; rfl) (by kernel_rfl) (by kernel_rfl) (by kernel_rfl) (by exact fun _ _ _ h => h) (Or.inl ⟨by rfl, fun wx hSx => ?_⟩) hHeld ?_
  rotate_left
  · clear hSx; go_simp; (try with_reducible rfl)
  simp only [Act.put, List.setIfInBounds_toArray, List.set_cons_zero, List.set_cons_succ]
  refine wpAnyH_done (by kernel_rfl) ?_ _
  go_wp2
  exact bodyPost_ret (results_cell_tmp Tryd.results27 _ _ rb 24 #[.int .i64 a, .int .i64 b, .slice none 0 0, .int .i64 c, .int .i64 d, .bool q] (0, 0) _ (.bool (headB a b c d)) rfl rfl HE.out.1 Tryd.underlying24 rfl info_view) rfl ⟨by first | rfl | skip, HE.out.2⟩
end Go.Proofs.YtcblohmenfdafaaDoor
