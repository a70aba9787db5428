/-
  Proved here: of the laws of view: alive.
-/
import Derived.Test.YtcblohmenfdafaaDoorIh
import Derived.Test.YtcblohmenfdafaaDoorIi
set_option linter.unusedSimpArgs false
set_option linter.unusedVariables false
namespace Go.Proofs.YtcblohmenfdafaaDoor
open Go.RowKit
theorem conv_text {w : World} {A : Option Addr} {bs : List Int} {n : Nat} (hn : bs.length = n) (c : Nat) (h : RI .u8 w A bs) :
    (convert 25 9 (.slice A n c)).run Tryd.prog w = .ok (.string (strOfNums bs)) w := by
  subst hn
  rcases Nat.eq_zero_or_pos bs.length with h0 | h0
  · obtain rfl : bs = [] := List.eq_nil_of_length_eq_zero h0
    rcases A with _ | ad
    · exact run_convert_bytes_nil (P := Tryd.prog) w 25 5 Tryd.underlying25 Tryd.underlying5 0 c 9 Tryd.underlying9
    · rw [run_convert_bytes_string w 25 9 5 _ _ c Tryd.underlying25 Tryd.underlying5 Tryd.underlying9]
      exact run_bytesToString w ad 0 c [] (run_loadCells_list (P := Tryd.prog) w ad [] (fun j v hj => by simp at hj))
  · obtain ⟨b, off, rfl, _, hc⟩ := h h0
    exact run_convert_bytes_arg (P := Tryd.prog) w 25 5 Tryd.underlying25 Tryd.underlying5 b off _ c bs rfl hc 9 Tryd.underlying9
theorem bytes8 {w : World} {v : Value} {xs : List Int} {W : World} (h : Own8 w v xs W) : ∃ A c, v = .slice A xs.length c ∧ xs.length ≤ c ∧ c ≤ maxLen ∧ RB W W.heap.size A xs := by
  obtain ⟨A, c, rfl, h1, h2, _⟩ := own_slice h.own
  exact ⟨A, c, rfl, h1, h2, h.ri.1⟩
theorem first_cr {W : World} {b : Nat} (h : W.heap[b]? = some (.cells #[.int .i32 32, .int .u8 0, .int .u32 0, .int .u32 0] 50 (0, 0))) : CR W (some ⟨b, 0, none⟩) [blC] := fun _ => ⟨b, 0, rfl, lt_of_block h, fun i hi j v hv => by
  have hi0 : i = 0 := by simpa using hi
  subst hi0
  unfold World.cell?
  simp only [h]
  simpa [gC, ceAt, blC] using hv⟩
theorem ok_bl : ∀ c ∈ [blC], CeOk c := fun c hc => by
  obtain rfl : c = blC := by simpa using hc
  exact ⟨by decide, by decide, by decide⟩
theorem right_first : rightW 1 1 0 0 [blC] = true := by decide +kernel
theorem bytes_first : viewB 1 1 0 0 true [blC] = [1, 1, 0, 0, 1, 1, 0, 0, 0, 32] := by decide +kernel
theorem lok_bl : LOk [blC] := fun c hc => by
  obtain rfl : c = blC := by simpa using hc
  exact ⟨ok_bl _ (by simp), by decide +kernel⟩
theorem view_first : isView [1, 1, 0, 0, 1, 1, 0, 0, 0, 32] 1 1 0 0 true [blC] := ⟨right_first, lok_bl, bytes_first.symm⟩
theorem same_first : sameW 1 1 0 0 true [blC] 1 1 0 0 true [blC] = true := by unfold sameW; simp
theorem bytes_const : Bytes [1, 1, 0, 0, 1, 1, 0, 0, 0, 32] := bytes_of_mem (by decide)
set_option maxRecDepth 100000 in
set_option maxHeartbeats 4000000 in
theorem p_first (w : World) : Calls Tryd.prog 23 #[] w fun e w' => ∃ b, e = .returned (.agg #[.int .i64 1, .int .i64 1, .slice (some ⟨b, 0, none⟩) 1 1, .int .i64 0, .int .i64 0, .bool true]) ∧ w'.heap[b]? = some (.cells #[.int .i32 32, .int .u8 0, .int .u32 0, .int .u32 0] 50 (0, 0)) ∧ w.heap.size ≤ b ∧ Below w.heap.size w w' := by
  have HB0 := (Below.refl w.heap.size w).alloc (Nat.le_refl _) (.cells #[.int .i64 0, .int .i64 0, .slice none 0 0, .int .i64 0, .int .i64 0, .bool false] 24)
  have HC0 := heap_alloc_new w (.cells #[.int .i64 0, .int .i64 0, .slice none 0 0, .int .i64 0, .int .i64 0, .bool false] 24)
  obtain ⟨rb, hrb⟩ : ∃ r, w.heap.size = r := ⟨_, rfl⟩
  have HRB := Lib.hid hrb
  go_enter Tryd.func23, Tryd.ntmps23
  go_upto_region 1 with fail
  simp only [hrb] at HC0 ⊢
  generalize (w.alloc (.cells #[.int .i64 0, .int .i64 0, .slice none 0 0, .int .i64 0, .int .i64 0, .bool false] 24)) = U at HB0 HC0 ⊢
  have HU := Lib.hid HB0
  have HZ := Lib.hid HC0
  clear HB0 HC0 hrb
  go_wp2_with fail
  refine ((blank_any _).mono (R' := fun e w' => e = .returned (.agg #[.int .i32 32, .int .u8 0, .int .u32 0, .int .u32 0]) ∧ Below U.heap.size U w') (fun e w' h => h)).mono ?_
  rintro e w1 ⟨rfl, b1⟩
  have hba := (Below.refl w1.heap.size w1).alloc (Nat.le_refl _) (.cells #[.int .i32 32, .int .u8 0, .int .u32 0, .int .u32 0] 50)
  have HN := Lib.hid (heap_alloc_new w1 (.cells #[.int .i32 32, .int .u8 0, .int .u32 0, .int .u32 0] 50))
  have h1 := (b1.block _ (lt_of_block HZ.out)).trans HZ.out
  have HZ1 := Lib.hid ((hba.block _ (lt_of_block h1)).trans h1)
  have HB1 := Lib.hid (HU.out.trans ((b1.trans (hba.mono b1.size)).mono HU.out.size))
  have HGE := Lib.hid (show w.heap.size ≤ w1.heap.size from by have := HU.out.size; have := b1.size; omega)
  have HNE := Lib.hid (show rb ≠ w1.heap.size from by have := lt_of_block h1; omega)
  clear b1 hba h1 HU HZ
  go_wp2_with (refine wpList_store_row rfl 24 (.tmp 0) (.tmp 3) rfl rb #[.int .i64 1, .int .i64 1, .slice (some ⟨w1.heap.size, 0, none⟩) 1 1, .int .i64 0, .int .i64 0, .bool true] rfl rfl 24 _ HZ1.out info_view rfl (by simp [Value.oneCell']) ?_)
  refine bodyPost_ret (results_cell_row Tryd.results23 _ _ rb 24 #[.int .i64 1, .int .i64 1, .slice (some ⟨w1.heap.size, 0, none⟩) 1 1, .int .i64 0, .int .i64 0, .bool true] (0, 0) _ rfl (setRow_heap _ _ _ #[.int .i64 1, .int .i64 1, .slice (some ⟨w1.heap.size, 0, none⟩) 1 1, .int .i64 0, .int .i64 0, .bool true] _ _ HZ1.out) Tryd.underlying24 rfl info_view) rfl ⟨w1.heap.size, rfl, ?_, HGE.out, below_setRow HB1.out (by rw [HRB.out]; exact Nat.le_refl _) _⟩
  exact ((grown_setRow _ rb _).block _ (lt_of_block HN.out) (by intro e; injection e with e; exact HNE.out e.symm)).trans HN.out
theorem p_isnone (w : World) : Calls Tryd.prog 61 #[.pointer none] w fun e w' => e = .returned (.bool true) ∧ w = w' := by
  go_enter Tryd.func61, Tryd.ntmps61
  go_wp2
  go_ret
  exact ⟨rfl, rfl⟩
theorem p_gridnone (w : World) : Calls Tryd.prog 46 #[.pointer none] w fun e w' => e = .returned (.pointer none) ∧ w = w' := by
  go_enter Tryd.func46, Tryd.ntmps46
  go_wp2_with fail
  refine (p_isnone _).mono ?_
  rintro e w1 ⟨rfl, rfl⟩
  go_wp2
  go_ret
  exact ⟨rfl, rfl⟩
set_option maxRecDepth 100000 in
theorem p_ofnone (w : World) : Calls Tryd.prog 24 #[.pointer none] w fun e w' => e = .returned (.tuple #[.agg #[.int .i64 0, .int .i64 0, .slice none 0 0, .int .i64 0, .int .i64 0, .bool false], .int .i64 6]) ∧ Below w.heap.size w w' := by
  have HB0 := Lib.hid ((Below.refl w.heap.size w).alloc (Nat.le_refl _) (.cells #[.int .i64 0, .int .i64 0, .slice none 0 0, .int .i64 0, .int .i64 0, .bool false] 24))
  go_enter Tryd.func24, Tryd.ntmps24
  go_wp2_with fail
  refine (p_gridnone _).mono ?_
  rintro e w1 ⟨rfl, rfl⟩
  go_wp2
  exact bodyPost_ret (results_cell_tmp Tryd.results24 _ _ w.heap.size 24 #[.int .i64 0, .int .i64 0, .slice none 0 0, .int .i64 0, .int .i64 0, .bool false] (0, 0) _ (.int .i64 6) rfl rfl (heap_alloc_new w _) Tryd.underlying24 rfl info_view) rfl ⟨rfl, HB0.out⟩
set_option maxRecDepth 100000 in
set_option maxHeartbeats 8000000 in
theorem alive_any (w : World) (hT : Tab w) : Calls Tryd.prog 7 #[] w fun e w' => e = .returned (.bool true) ∧ Below w.heap.size w w' := by
  have HT := Lib.hid hT
  clear hT
  go_enter Tryd.func7, Tryd.ntmps7
  go_wp2_with fail
  refine (p_first _).mono ?_
  rintro e w1 ⟨b, rfl, hrow, hge, hb1⟩
  have HB1 := Lib.hid hb1
  have HR1 := Lib.hid (first_cr hrow)
  clear hrow hge hb1
  go_wp2_with fail
  refine (p_viewwrite HR1.out rfl ok_bl (HT.out.below HB1.out HT.out.big) 1 1 0 0 true right_first).mono ?_
  rintro e w2 ⟨u, rfl, o2⟩
  rw [bytes_first] at o2
  obtain ⟨A, c, rfl, hc1, hc2, hrb⟩ := bytes8 o2
  have HB2 := Lib.hid (HB1.out.trans (o2.below.mono HB1.out.size))
  have HRB := Lib.hid hrb
  have HCC := Lib.hid (And.intro hc1 hc2)
  clear o2 hc1 hc2 hrb
  go_wp2_with fail
  refine (p_viewread HRB.out rfl (by decide) HCC.out.1 HCC.out.2 bytes_const (HT.out.below HB2.out HT.out.big)).mono ?_
  intro e w3 hrd
  rcases hrd with ⟨R, C, row, col, vis, L, A1, n1, c1, hv, rfl, hn1, hcr, hb3⟩ | ⟨hno, _⟩
  rotate_left
  · exact absurd view_first (hno 1 1 0 0 true [blC])
  obtain ⟨rfl, rfl, rfl, rfl, rfl, rfl⟩ := isView_inj hv view_first
  obtain rfl : n1 = 1 := hn1
  have hba := (Below.refl w3.heap.size w3).alloc (Nat.le_refl _) (.cells #[.int .i64 1, .int .i64 1, .slice A1 1 c1, .int .i64 0, .int .i64 0, .bool true] 24)
  have HN3 := Lib.hid (heap_alloc_new w3 (.cells #[.int .i64 1, .int .i64 1, .slice A1 1 c1, .int .i64 0, .int .i64 0, .bool true] 24))
  have HB3 := Lib.hid (HB2.out.trans ((hb3.trans (hba.mono hb3.size)).mono HB2.out.size))
  have HRI := Lib.hid (show RI .u8 (w3.alloc (.cells #[.int .i64 1, .int .i64 1, .slice A1 1 c1, .int .i64 0, .int .i64 0, .bool true] 24)) A [1, 1, 0, 0, 1, 1, 0, 0, 0, 32] from RI.below (RI.below (by exact HRB.out) hb3) hba)
  have HCR := Lib.hid ((hcr.below hba))
  obtain ⟨tb, htb⟩ : ∃ t, w3.heap.size = t := ⟨_, rfl⟩
  clear hba hb3 hcr hv HRB HR1 HB1 HB2
  go_upto_region 3 with fail
  simp only [htb] at HN3 ⊢
  generalize (w3.alloc (.cells #[.int .i64 1, .int .i64 1, .slice A1 1 c1, .int .i64 0, .int .i64 0, .bool true] 24)) = W3 at HN3 HB3 HRI HCR ⊢
  clear htb
  go_wp2_with fail
  refine (p_viewwrite_no (L := []) (A := none) (n := 0) (cap := 0) (fun h => absurd h (by simp)) rfl (by decide) (fun c h => absurd h (by simp)) 0 0 0 0 false (by decide +kernel)).mono ?_
  rintro e w4 ⟨rfl, b4⟩
  have HB4 := Lib.hid b4
  clear b4
  go_wp2_with fail
  refine (p_ofnone _).mono ?_
  rintro e w5 ⟨rfl, b5⟩
  have hba := (Below.refl w5.heap.size w5).alloc (Nat.le_refl _) (.cells #[.int .i64 0, .int .i64 0, .slice none 0 0, .int .i64 0, .int .i64 0, .bool false] 24)
  have HB5 := Lib.hid (HB4.out.trans ((b5.trans (hba.mono b5.size)).mono HB4.out.size))
  clear b5 hba HB4
  go_upto_region 5 with fail
  generalize (w5.alloc (.cells #[.int .i64 0, .int .i64 0, .slice none 0 0, .int .i64 0, .int .i64 0, .bool false] 24)) = W5 at HB5 ⊢
  have hbx := HB5.out.drew
  have HBW := Lib.hid (HB3.out.trans (hbx.mono HB3.out.size))
  have HT3 := Lib.hid ((hbx.block _ (lt_of_block HN3.out)).trans HN3.out)
  have HC3 := Lib.hid (HCR.out.below hbx)
  have HRX := Lib.hid (RI.below HRI.out hbx)
  refine wp_region_held_drew (S := fun W => Below W5.drew.heap.size W5.drew W) (by kernel_rfl) (Below.refl _ _) (fun hHeld => ?_)
  obtain ⟨X, hX⟩ : ∃ X, W5.drew = X := ⟨_, rfl⟩
  simp only [hX] at hHeld HBW HT3 HC3 HRX ⊢
  clear hX hbx
  have HBX := Lib.hid (Below.refl X.heap.size X)
  have HCV := Lib.hid (fun (Y : World) (hY : Below X.heap.size X Y) => (show (convert 25 9 (.slice A 10 c)).run Tryd.prog Y = .ok (.string ⟨#[1, 1, 0, 0, 1, 1, 0, 0, 0, 32]⟩) Y from conv_text rfl c (RI.below HRX.out hY)))
  refine wpAnyH_take (i := 0) (v := ?_) (by simp; rfl) (by kernel_rfl) (by kernel_rfl) (by kernel_rfl) (by exact fun _ _ _ h => h) (Or.inl ⟨by rfl, fun wx hSx => ?_⟩) hHeld ?_
  rotate_left
  · clear hSx; go_simp; (try with_reducible rfl)
  simp only [Act.put, List.setIfInBounds_toArray, List.set_cons_zero, List.set_cons_succ]
  refine wpAnyH_take (i := 1) (v := ?_) (by simp; rfl) (by kernel_rfl) (by kernel_rfl) (by kernel_rfl) (by exact fun _ _ _ h => h) (Or.inl ⟨by rfl, fun wx hSx => ?_⟩) hHeld ?_
  rotate_left
  · have hcv := HCV.out wx hSx; clear hSx; go_simp; (try with_reducible rfl)
  simp only [Act.put, List.setIfInBounds_toArray, List.set_cons_zero, List.set_cons_succ]
  refine wpAnyH_take (i := 2) (v := ?_) (by simp; rfl) (by kernel_rfl) (by kernel_rfl) (by kernel_rfl) (by exact fun _ _ _ h => h) (Or.inl ⟨by rfl, fun wx hSx => ?_⟩) hHeld ?_
  rotate_left
  · clear hSx; go_simp; (try with_reducible rfl)
  simp only [Act.put, List.setIfInBounds_toArray, List.set_cons_zero, List.set_cons_succ]
  refine wpAnyH_take (i := 3) (v := ?_) (by simp; rfl) (by kernel_rfl) (by kernel_rfl) (by kernel_rfl) (by exact fun _ _ _ h => h) (Or.inl ⟨by rfl, fun wx hSx => ?_⟩) hHeld ?_
  rotate_left
  · clear hSx; go_simp; (try with_reducible rfl)
  simp only [Act.put, List.setIfInBounds_toArray, List.set_cons_zero, List.set_cons_succ]
  refine wpAnyH_take (i := 4) (v := ?_) (by simp; rfl) (by kernel_rfl) (by kernel_rfl) (by kernel_rfl) (by exact fun _ _ _ h => h) (Or.inl ⟨by rfl, fun wx hSx => ?_⟩) hHeld ?_
  rotate_left
  · clear hSx; go_simp; (try with_reducible rfl)
  simp only [Act.put, List.setIfInBounds_toArray, List.set_cons_zero, List.set_cons_succ]
  refine wpAnyH_take (i := 5) (v := ?_) (by simp; rfl) (by kernel_rfl) (by kernel_rfl) (by kernel_rfl) (by exact fun _ _ _ h => h) (Or.inl ⟨by rfl, fun wx hSx => ?_⟩) hHeld ?_
  rotate_left
  · clear hSx; go_simp; (try with_reducible rfl)
  simp only [Act.put, List.setIfInBounds_toArray, List.set_cons_zero, List.set_cons_succ]
  refine wpAnyH_take (i := 6) (v := ?_) (by simp; rfl) (by kernel_rfl) (by kernel_rfl) (by kernel_rfl) (by exact fun _ _ _ h => h) (Or.inl ⟨by rfl, fun wx hSx => ?_⟩) hHeld ?_
  rotate_left
  · clear hSx; go_simp; (try with_reducible rfl)
  simp only [Act.put, List.setIfInBounds_toArray, List.set_cons_zero, List.set_cons_succ]
  refine wpAnyH_take (i := 7) (v := ?_) (by simp; rfl) (by kernel_rfl) (by kernel_rfl) (by kernel_rfl) (by exact fun _ _ _ h => h) (Or.inl ⟨by rfl, fun wx hSx => ?_⟩) hHeld ?_
  rotate_left
  · clear hSx; go_simp; (try with_reducible rfl)
  simp only [Act.put, List.setIfInBounds_toArray, List.set_cons_zero, List.set_cons_succ]
  refine wpAnyH_take (i := 8) (v := ?_) (by simp; rfl) (by kernel_rfl) (by kernel_rfl) (by kernel_rfl) (by exact fun _ _ _ h => h) (Or.inl ⟨by rfl, fun wx hSx => ?_⟩) hHeld ?_
  rotate_left
  · clear hSx; go_simp; (try with_reducible rfl)
  simp only [Act.put, List.setIfInBounds_toArray, List.set_cons_zero, List.set_cons_succ]
  refine wpAnyH_take (i := 9) (v := ?_) (by simp; rfl) (by kernel_rfl) (by kernel_rfl) (by kernel_rfl) (by exact fun _ _ _ h => h) (Or.inl ⟨by rfl, fun wx hSx => ?_⟩) hHeld ?_
  rotate_left
  · clear hSx; go_simp; (try with_reducible rfl)
  simp only [Act.put, List.setIfInBounds_toArray, List.set_cons_zero, List.set_cons_succ]
  refine wpAnyH_take (i := 10) (v := ?_) (by simp; rfl) (by kernel_rfl) (by kernel_rfl) (by kernel_rfl) (by exact fun _ _ _ h => h) (Or.inl ⟨by rfl, fun wx hSx => ?_⟩) hHeld ?_
  rotate_left
  · clear hSx; go_simp; (try with_reducible rfl)
  simp only [Act.put, List.setIfInBounds_toArray, List.set_cons_zero, List.set_cons_succ]
  refine wpAnyH_take (i := 11) (v := ?_) (by simp; rfl) (by kernel_rfl) (by kernel_rfl) (by kernel_rfl) (by exact fun _ _ _ h => h) (Or.inl ⟨by rfl, fun wx hSx => ?_⟩) hHeld ?_
  rotate_left
  · clear hSx; go_simp; (try with_reducible rfl)
  simp only [Act.put, List.setIfInBounds_toArray, List.set_cons_zero, List.set_cons_succ]
  refine wpAnyH_take (i := 12) (v := ?_) (by simp; rfl) (by kernel_rfl) (by kernel_rfl) (by kernel_rfl) (by exact fun _ _ _ h => h) (Or.inl ⟨by rfl, fun wx hSx => ?_⟩) hHeld ?_
  rotate_left
  · obtain ⟨s0, s1, s2, s3, s4, s5⟩ := six_cells ((hSx.block _ (lt_of_block HT3.out)).trans HT3.out); clear hSx; go_simp; (try with_reducible rfl)
  simp only [Act.put, List.setIfInBounds_toArray, List.set_cons_zero, List.set_cons_succ]
  refine wpAnyH_ready (rs := [13]) (by kernel_rfl) (by simp) ?_
  refine AllReadyH.cons (by simp; rfl) (fun K0 hK0 => ?_) AllReadyH.nil
  go_simp
  refine (p_first _).mono ?_
  rintro e Y1 ⟨b2, rfl, hrow, hge, hb⟩
  have HB2 := Lib.hid (HBX.out.trans (hb.mono HBX.out.size))
  have HR2 := Lib.hid (first_cr hrow)
  clear hrow hge hb
  refine hK0.out _ _ HB2.out (fun _ => ?_)
  clear hK0 K0 hHeld
  have hHeld := HB2.out
  refine wpAnyH_ready (rs := [14]) (by kernel_rfl) (by simp) ?_
  refine AllReadyH.cons (by simp; rfl) (fun K0 hK0 => ?_) AllReadyH.nil
  go_simp
  refine (p_viewsame (HC3.out.below HB2.out) HR2.out rfl rfl (by decide) 1 1 0 0 1 1 0 0 true true).mono ?_
  rintro e Y2 ⟨rfl, hb⟩
  have HB3 := Lib.hid (HB2.out.trans (hb.mono HB2.out.size))
  clear hb
  rw [same_first]
  refine hK0.out _ _ HB3.out (fun _ => ?_)
  clear hK0 K0 hHeld
  have hHeld := HB3.out
  refine wpAnyH_take (i := 15) (v := ?_) (by simp; rfl) (by kernel_rfl) (by kernel_rfl) (by kernel_rfl) (by exact fun _ _ _ h => h) (Or.inl ⟨by rfl, fun wx hSx => ?_⟩) hHeld ?_
  rotate_left
  · clear hSx; go_simp; (try with_reducible rfl)
  simp only [Act.put, List.setIfInBounds_toArray, List.set_cons_zero, List.set_cons_succ]
  refine wpAnyH_take (i := 16) (v := ?_) (by simp; rfl) (by kernel_rfl) (by kernel_rfl) (by kernel_rfl) (by exact fun _ _ _ h => h) (Or.inl ⟨by rfl, fun wx hSx => ?_⟩) hHeld ?_
  rotate_left
  · clear hSx; go_simp; (try with_reducible rfl)
  simp only [Act.put, List.setIfInBounds_toArray, List.set_cons_zero, List.set_cons_succ]
  refine wpAnyH_take (i := 17) (v := ?_) (by simp; rfl) (by kernel_rfl) (by kernel_rfl) (by kernel_rfl) (by exact fun _ _ _ h => h) (Or.inl ⟨by rfl, fun wx hSx => ?_⟩) hHeld ?_
  rotate_left
  · clear hSx; go_simp; (try with_reducible rfl)
  simp only [Act.put, List.setIfInBounds_toArray, List.set_cons_zero, List.set_cons_succ]
  refine wpAnyH_take (i := 18) (v := ?_) (by simp; rfl) (by kernel_rfl) (by kernel_rfl) (by kernel_rfl) (by exact fun _ _ _ h => h) (Or.inl ⟨by rfl, fun wx hSx => ?_⟩) hHeld ?_
  rotate_left
  · clear hSx; go_simp; (try with_reducible rfl)
  simp only [Act.put, List.setIfInBounds_toArray, List.set_cons_zero, List.set_cons_succ]
  refine wpAnyH_take (i := 19) (v := ?_) (by simp; rfl) (by kernel_rfl) (by kernel_rfl) (by kernel_rfl) (by exact fun _ _ _ h => h) (Or.inl ⟨by rfl, fun wx hSx => ?_⟩) hHeld ?_
  rotate_left
  · clear hSx; go_simp; (try with_reducible rfl)
  simp only [Act.put, List.setIfInBounds_toArray, List.set_cons_zero, List.set_cons_succ]
  refine wpAnyH_take (i := 20) (v := ?_) (by simp; rfl) (by kernel_rfl) (by kernel_rfl) (by kernel_rfl) (by exact fun _ _ _ h => h) (Or.inl ⟨by rfl, fun wx hSx => ?_⟩) hHeld ?_
  rotate_left
  · clear hSx; go_simp; (try with_reducible rfl)
  simp only [Act.put, List.setIfInBounds_toArray, List.set_cons_zero, List.set_cons_succ]
  refine wpAnyH_take (i := 21) (v := ?_) (by simp; rfl) (by kernel_rfl) (by kernel_rfl) (by kernel_rfl) (by exact fun _ _ _ h => h) (Or.inl ⟨by rfl, fun wx hSx => ?_⟩) hHeld ?_
  rotate_left
  · clear hSx; go_simp; (try with_reducible rfl)
  simp only [Act.put, List.setIfInBounds_toArray, List.set_cons_zero, List.set_cons_succ]
  refine wpAnyH_take (i := 22) (v := ?_) (by simp; rfl) (by kernel_rfl) (by kernel_rfl) (by kernel_rfl) (by exact fun _ _ _ h => h) (Or.inl ⟨by rfl, fun wx hSx => ?_⟩) hHeld ?_
  rotate_left
  · clear hSx; go_simp; (try with_reducible rfl)
  simp only [Act.put, List.setIfInBounds_toArray, List.set_cons_zero, List.set_cons_succ]
  refine wpAnyH_take (i := 23) (v := ?_) (by simp; rfl) (by kernel_rfl) (by kernel_rfl) (by kernel_rfl) (by exact fun _ _ _ h => h) (Or.inl ⟨by rfl, fun wx hSx => ?_⟩) hHeld ?_
  rotate_left
  · clear hSx; go_simp; (try with_reducible rfl)
  simp only [Act.put, List.setIfInBounds_toArray, List.set_cons_zero, List.set_cons_succ]
  refine wpAnyH_take (i := 24) (v := ?_) (by simp; rfl) (by kernel_rfl) (by kernel_rfl) (by kernel_rfl) (by exact fun _ _ _ h => h) (Or.inl ⟨by rfl, fun wx hSx => ?_⟩) hHeld ?_
  rotate_left
  · clear hSx; go_simp; (try with_reducible rfl)
  simp only [Act.put, List.setIfInBounds_toArray, List.set_cons_zero, List.set_cons_succ]
  refine wpAnyH_done (by kernel_rfl) ?_ _
  go_wp2
  go_ret
  exact ⟨rfl, HBW.out.trans (HB3.out.mono HBW.out.size)⟩
end Go.Proofs.YtcblohmenfdafaaDoor
