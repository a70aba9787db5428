/-
  Proved here: StyleChanges.
-/
import Derived.Test.YtohhmpkmcodoeaaDoorZm
set_option linter.unusedSimpArgs false
set_option linter.unusedVariables false
namespace Go.Proofs.YtohhmpkmcodoeaaDoor
open Go.RowKit
theorem chF_len : ∀ (k : Nat) (s : Sty) (l : List Int), s.fs.length = 8 → (chF k s l).fs.length = 8
  | 0, s, l, h => h
  | _ + 1, s, [], h => h
  | k + 1, s, x :: r, h => by
    rw [chF]
    split
    · split
      · exact chF_len k _ _ (setS_len _ _ _ _ h)
      · split
        · exact chF_len k _ _ (setS_len _ _ _ _ h)
        · exact h
    · exact chF_len k _ _ (oneS_len _ _ h)
theorem changeS_len (s : Sty) (l : List Int) (h : s.fs.length = 8) : (changeS s l).fs.length = 8 := by
  unfold changeS
  split
  · rfl
  · exact chF_len _ _ _ h
set_option maxRecDepth 100000 in
set_option maxHeartbeats 16000000 in
theorem changes_any (s : Sty) (W : World) (h : Both W) (hs : Good s) {A : Option Addr} {n cp : Nat} {l : List Int} (hR : RI .i64 W A l) (hl : l.length = n) (hcp : n ≤ cp) (hcm : cp ≤ maxLen) :
    Calls Tryd.prog 3 #[pV s, .slice A n cp] W fun e w' => e = .returned (.bool true) ∧ Below W.heap.size W w' := by
  have HAL := Lib.hid (fun (U : World) (hU : Below W.heap.size W U) => alive_any U (h.below hU (Nat.le_refl _)))
  have hcl := changeS_len s l hs.len
  have HCH := fun (hn : n ≤ 100) (U : World) (hU : Below W.heap.size W U) => p_change s (w := U) (A := A) (n := n) (cp := cp) hs (h.below hU (Nat.le_refl _)).ft (RI.below hR hU) hl (by omega) hcp hcm
  have HQC := fun (hn : n ≤ 100) (U : World) (hU : Below W.heap.size W U) => ry_change s (w := U) (A := A) (n := n) (cp := cp) hs (RI.below hR hU) hl (by omega)
  have HA2 := fun U : World => p_as (changeS s l) U hcl
  have HPA := Lib.hid (fun (U : World) (hU : Below W.heap.size W U) => p_params s U hs (h.below hU (Nat.le_refl _)).ft)
  have HQA := Lib.hid (fun U : World => ry_params s U hs)
  have HAS := Lib.hid (fun U : World => p_as s U hs.len)
  have HRG := Lib.hid (fun U : World => p_right s U hs)
  have HQR := Lib.hid (fun U : World => ry_right s U hs)
  obtain ⟨a, f, g, hp⟩ := pV_nums s
  obtain ⟨e0, e1, e2, e3, e4, e5, e6, e7, r0, r1, hsv⟩ := styV_nums s hs.len
  obtain ⟨a', f', g', hp'⟩ := pV_nums (changeS s l)
  obtain ⟨f0, f1, f2, f3, f4, f5, f6, f7, q0, q1, hv⟩ := styV_nums (changeS s l) hcl
  rw [hp, hsv] at HAS
  rw [hp] at HPA HRG
  rw [hsv] at HQA HQR
  simp only [hp, hp'] at HCH
  simp only [hsv, hv] at HQC
  simp only [hp', hv] at HA2
  rw [hp]
  have HA2 := Lib.hid HA2
  obtain ⟨P, hP⟩ : ∃ P, paramsS s = P := ⟨_, rfl⟩
  rw [hP] at HPA HQA
  obtain ⟨L, hL⟩ : ∃ L, P.length = L := ⟨_, rfl⟩
  have hL1000 : L ≤ 1000 := by rw [← hL, ← hP]; exact params_len s
  have HPL := Lib.hid (fun (_ : Unit) => hL)
  obtain ⟨rt, hrt⟩ : ∃ r, rightS s = r := ⟨_, rfl⟩
  rw [hrt] at HRG HQR
  have zrt : (rt != rt) = false := by simp
  have zl : ((L : Int) != (L : Int)) = false := by simp
  have HEQ := fun w => eqF f0 f1 f2 f3 f4 f5 f6 f7 w
  have HB0 := Lib.hid ((Below.refl W.heap.size W).alloc (Nat.le_refl _) (.cells #[.int .u8 a, .int .u32 f, .int .u32 g] 24))
  have HROW := Lib.hid (heap_alloc_new W (.cells #[.int .u8 a, .int .u32 f, .int .u32 g] 24))
  clear hp hp' hsv hv h hs hR hl hP hrt hcl
  by_cases hn : 100 < n
  · have d1 : decide (100 < (n : Int)) = true := by simp; omega
    clear HCH HQC
    go_enter Tryd.func3, Tryd.ntmps3
    go_wp2_with fail
    refine (HAL.out _ HB0.out).mono ?_
    rintro e w1 ⟨rfl, hb1⟩
    have HB := Lib.hid (HB0.out.trans (hb1.mono HB0.out.size))
    clear hb1
    go_wp2
    go_ret
    exact ⟨rfl, HB.out⟩
  have d1 : decide (100 < (n : Int)) = false := by simp; omega
  have HCH1 := Lib.hid (HCH (by omega))
  have HQC1 := Lib.hid (HQC (by omega))
  clear HCH HQC hn
  have HCH := HCH1
  have HQC := HQC1
  clear HCH1 HQC1
  go_enter Tryd.func3, Tryd.ntmps3
  go_wp2
  generalize (W.alloc (.cells #[.int .u8 a, .int .u32 f, .int .u32 g] 24)) = U at HB0 HROW ⊢
  have HBB := HB0
  clear HB0
  have HTW := Lib.hid (fun X (hX : Below U.heap.size U X) => (hX.block _ (lt_of_block HROW.out)).trans HROW.out)
  have HDB := Lib.hid (Below.refl U.heap.size U).drew
  refine wp_region_held_drew (S := fun W => Below U.drew.heap.size U.drew W) (by kernel_rfl) (Below.refl _ _) (fun hHeld => ?_)
  refine wpAnyH_take (i := 0) (v := ?_) (by simp; rfl) (by kernel_rfl) (by kernel_rfl) (by kernel_rfl) (by exact fun _ _ _ h => h) (Or.inl ⟨by rfl, fun wx hSx => ?_⟩) hHeld ?_
  rotate_left
  · have hz := HTW.out wx (HDB.out.trans (hSx.mono HDB.out.size)); obtain ⟨p0, p1, p2⟩ := pcell hz; clear hSx hz; go_simp; (try with_reducible rfl)
  simp only [Act.put, List.setIfInBounds_toArray, List.set_cons_zero, List.set_cons_succ]
  refine wpAnyH_take (i := 2) (v := ?_) (by simp; rfl) (by kernel_rfl) (by kernel_rfl) (by kernel_rfl) (by exact fun _ _ _ h => h) (Or.inl ⟨by rfl, fun wx hSx => ?_⟩) hHeld ?_
  rotate_left
  · have hz := HTW.out wx (HDB.out.trans (hSx.mono HDB.out.size)); obtain ⟨p0, p1, p2⟩ := pcell hz; clear hSx hz; go_simp; (try with_reducible rfl)
  simp only [Act.put, List.setIfInBounds_toArray, List.set_cons_zero, List.set_cons_succ]
  refine wpAnyH_ready (rs := [1]) (by kernel_rfl) (by simp) ?_
  refine AllReadyH.cons (by simp; rfl) (fun K0 hK0 => ?_) AllReadyH.nil
  go_simp
  refine (HPA.out _ (HBB.out.trans (HDB.out.mono HBB.out.size))).mono ?_
  rintro e v1 ⟨va, rfl, o1⟩
  have hbv1 : Below U.drew.heap.size U.drew v1 := o1.below
  have HDB2 := Lib.hid (HDB.out.trans (hbv1.mono HDB.out.size))
  clear HDB
  have HDB := HDB2
  clear HDB2
  obtain ⟨A1, c1, rfl, _, _, _, hr1⟩ := o1.slice
  have HR1 := Lib.hid hr1
  clear o1 hr1
  refine hK0.out _ _ hbv1 (fun _ => ?_)
  clear hK0 K0 hHeld
  refine heldMono (S' := fun W => Below v1.heap.size v1 W) (fun _ h => hbv1.trans (h.mono hbv1.size)) _ _ _ _ ?_
  have hHeld := Below.refl v1.heap.size v1
  have HBv1 := Lib.hid hbv1
  clear hbv1
  refine wpAnyH_ready (rs := [3]) (by kernel_rfl) (by simp) ?_
  refine AllReadyH.cons (by simp; rfl) (fun K0 hK0 => ?_) AllReadyH.nil
  go_simp
  refine (HAS.out _).mono ?_
  rintro e v21 ⟨rfl, hx⟩
  have hbv21 : Below v1.heap.size v1 v21 := hx
  have HDB2 := Lib.hid (HDB.out.trans (hbv21.mono HDB.out.size))
  clear HDB
  have HDB := HDB2
  clear HDB2
  have HR1b := Lib.hid (RI.below HR1.out hx)
  clear hx HR1
  refine hK0.out _ _ hbv21 (fun _ => ?_)
  clear hK0 K0 hHeld
  refine heldMono (S' := fun W => Below v21.heap.size v21 W) (fun _ h => hbv21.trans (h.mono hbv21.size)) _ _ _ _ ?_
  have hHeld := Below.refl v21.heap.size v21
  have HBv21 := Lib.hid hbv21
  clear hbv21
  refine wpAnyH_ready (rs := [4]) (by kernel_rfl) (by simp) ?_
  refine AllReadyH.cons (by simp; rfl) (fun K0 hK0 => ?_) AllReadyH.nil
  go_simp
  refine (HQA.out _).mono ?_
  rintro e v33 ⟨vb, rfl, o2⟩
  have hbv33 : Below v21.heap.size v21 v33 := o2.below
  have HDB2 := Lib.hid (HDB.out.trans (hbv33.mono HDB.out.size))
  clear HDB
  have HDB := HDB2
  clear HDB2
  obtain ⟨A2, c2, rfl, _, _, _, hr2⟩ := o2.slice
  have HR2 := Lib.hid hr2
  have HR1 := Lib.hid (RI.below HR1b.out o2.below)
  clear o2 hr2 HR1b
  refine hK0.out _ _ hbv33 (fun _ => ?_)
  clear hK0 K0 hHeld
  refine heldMono (S' := fun W => Below v33.heap.size v33 W) (fun _ h => hbv33.trans (h.mono hbv33.size)) _ _ _ _ ?_
  have hHeld := Below.refl v33.heap.size v33
  have HBv33 := Lib.hid hbv33
  clear hbv33
  refine wpAnyH_take (i := 5) (v := ?_) (by simp; rfl) (by kernel_rfl) (by kernel_rfl) (by kernel_rfl) (by exact fun _ _ _ h => h) (Or.inl ⟨by rfl, fun wx hSx => ?_⟩) hHeld ?_
  rotate_left
  · clear hSx; go_simp; (try with_reducible rfl)
  simp only [Act.put, List.setIfInBounds_toArray, List.set_cons_zero, List.set_cons_succ]
  refine wpAnyH_take (i := 6) (v := ?_) (by simp; rfl) (by kernel_rfl) (by kernel_rfl) (by kernel_rfl) (by exact fun _ _ _ h => h) (Or.inl ⟨by rfl, fun wx hSx => ?_⟩) hHeld ?_
  rotate_left
  · clear hSx; go_simp; (try with_reducible rfl)
  simp only [Act.put, List.setIfInBounds_toArray, List.set_cons_zero, List.set_cons_succ]
  refine wpAnyH_done (by kernel_rfl) ?_ _
  have HB2 := Lib.hid (HBB.out.trans (HDB.out.mono HBB.out.size))
  have HROW2 := Lib.hid (HTW.out _ HDB.out)
  clear hHeld HBB HROW HTW
  have HBB := HB2
  have HROW := HROW2
  clear HB2 HROW2
  clear HDB
  obtain ⟨V1, hV1⟩ : ∃ V1, v33 = V1 := ⟨_, rfl⟩
  rw [hV1] at HBB HROW HR1 HR2 ⊢
  clear hV1
  rw [HPL.out ()]
  go_wp2
  have HTW := Lib.hid (fun X (hX : Below V1.heap.size V1 X) => (hX.block _ (lt_of_block HROW.out)).trans HROW.out)
  have HDB := Lib.hid (Below.refl V1.heap.size V1).drew
  refine wp_region_held_drew (S := fun W => Below V1.drew.heap.size V1.drew W) (by kernel_rfl) (Below.refl _ _) (fun hHeld => ?_)
  refine wpAnyH_take (i := 0) (v := ?_) (by simp; rfl) (by kernel_rfl) (by kernel_rfl) (by kernel_rfl) (by exact fun _ _ _ h => h) (Or.inl ⟨by rfl, fun wx hSx => ?_⟩) hHeld ?_
  rotate_left
  · clear hSx; go_simp; (try with_reducible rfl)
  simp only [Act.put, List.setIfInBounds_toArray, List.set_cons_zero, List.set_cons_succ]
  refine wpAnyH_take (i := 1) (v := ?_) (by simp; rfl) (by kernel_rfl) (by kernel_rfl) (by kernel_rfl) (by exact fun _ _ _ h => h) (Or.inl ⟨by rfl, fun wx hSx => ?_⟩) hHeld ?_
  rotate_left
  · clear hSx; go_simp; (try with_reducible rfl)
  simp only [Act.put, List.setIfInBounds_toArray, List.set_cons_zero, List.set_cons_succ]
  refine wpAnyH_take (i := 2) (v := ?_) (by simp; rfl) (by kernel_rfl) (by kernel_rfl) (by kernel_rfl) (by exact fun _ _ _ h => h) (Or.inl ⟨by rfl, fun wx hSx => ?_⟩) hHeld ?_
  rotate_left
  · clear hSx; go_simp; (try with_reducible rfl)
  simp only [Act.put, List.setIfInBounds_toArray, List.set_cons_zero, List.set_cons_succ]
  refine wpAnyH_take (i := 3) (v := ?_) (by simp; rfl) (by kernel_rfl) (by kernel_rfl) (by kernel_rfl) (by exact fun _ _ _ h => h) (Or.inl ⟨by rfl, fun wx hSx => ?_⟩) hHeld ?_
  rotate_left
  · clear hSx; go_simp; (try with_reducible rfl)
  simp only [Act.put, List.setIfInBounds_toArray, List.set_cons_zero, List.set_cons_succ]
  refine wpAnyH_take (i := 4) (v := ?_) (by simp; rfl) (by kernel_rfl) (by kernel_rfl) (by kernel_rfl) (by exact fun _ _ _ h => h) (Or.inl ⟨by rfl, fun wx hSx => ?_⟩) hHeld ?_
  rotate_left
  · clear hSx; go_simp; (try with_reducible rfl)
  simp only [Act.put, List.setIfInBounds_toArray, List.set_cons_zero, List.set_cons_succ]
  refine wpAnyH_take (i := 5) (v := ?_) (by simp; rfl) (by kernel_rfl) (by kernel_rfl) (by kernel_rfl) (by exact fun _ _ _ h => h) (Or.inl ⟨by rfl, fun wx hSx => ?_⟩) hHeld ?_
  rotate_left
  · clear hSx; go_simp; (try with_reducible rfl)
  simp only [Act.put, List.setIfInBounds_toArray, List.set_cons_zero, List.set_cons_succ]
  refine wpAnyH_take (i := 6) (v := ?_) (by simp; rfl) (by kernel_rfl) (by kernel_rfl) (by kernel_rfl) (by exact fun _ _ _ h => h) (Or.inl ⟨by rfl, fun wx hSx => ?_⟩) hHeld ?_
  rotate_left
  · have hz := HTW.out wx (HDB.out.trans (hSx.mono HDB.out.size)); obtain ⟨p0, p1, p2⟩ := pcell hz; clear hSx hz; go_simp; (try with_reducible rfl)
  simp only [Act.put, List.setIfInBounds_toArray, List.set_cons_zero, List.set_cons_succ]
  refine wpAnyH_take (i := 8) (v := ?_) (by simp; rfl) (by kernel_rfl) (by kernel_rfl) (by kernel_rfl) (by exact fun _ _ _ h => h) (Or.inl ⟨by rfl, fun wx hSx => ?_⟩) hHeld ?_
  rotate_left
  · have hz := HTW.out wx (HDB.out.trans (hSx.mono HDB.out.size)); obtain ⟨p0, p1, p2⟩ := pcell hz; clear hSx hz; go_simp; (try with_reducible rfl)
  simp only [Act.put, List.setIfInBounds_toArray, List.set_cons_zero, List.set_cons_succ]
  refine wpAnyH_ready (rs := [7]) (by kernel_rfl) (by simp) ?_
  refine AllReadyH.cons (by simp; rfl) (fun K0 hK0 => ?_) AllReadyH.nil
  go_simp
  refine (HRG.out _).mono ?_
  rintro e v1 ⟨rfl, hx⟩
  have hbv1 : Below V1.drew.heap.size V1.drew v1 := hx
  have HDB2 := Lib.hid (HDB.out.trans (hbv1.mono HDB.out.size))
  clear HDB
  have HDB := HDB2
  clear HDB2
  clear hx
  refine hK0.out _ _ hbv1 (fun _ => ?_)
  clear hK0 K0 hHeld
  refine heldMono (S' := fun W => Below v1.heap.size v1 W) (fun _ h => hbv1.trans (h.mono hbv1.size)) _ _ _ _ ?_
  have hHeld := Below.refl v1.heap.size v1
  have HBv1 := Lib.hid hbv1
  clear hbv1
  refine wpAnyH_ready (rs := [9]) (by kernel_rfl) (by simp) ?_
  refine AllReadyH.cons (by simp; rfl) (fun K0 hK0 => ?_) AllReadyH.nil
  go_simp
  refine (HAS.out _).mono ?_
  rintro e v27 ⟨rfl, hx⟩
  have hbv27 : Below v1.heap.size v1 v27 := hx
  have HDB2 := Lib.hid (HDB.out.trans (hbv27.mono HDB.out.size))
  clear HDB
  have HDB := HDB2
  clear HDB2
  clear hx
  refine hK0.out _ _ hbv27 (fun _ => ?_)
  clear hK0 K0 hHeld
  refine heldMono (S' := fun W => Below v27.heap.size v27 W) (fun _ h => hbv27.trans (h.mono hbv27.size)) _ _ _ _ ?_
  have hHeld := Below.refl v27.heap.size v27
  have HBv27 := Lib.hid hbv27
  clear hbv27
  refine wpAnyH_ready (rs := [10]) (by kernel_rfl) (by simp) ?_
  refine AllReadyH.cons (by simp; rfl) (fun K0 hK0 => ?_) AllReadyH.nil
  go_simp
  refine (HQR.out _).mono ?_
  rintro e v39 ⟨rfl, hx⟩
  have hbv39 : Below v27.heap.size v27 v39 := hx
  have HDB2 := Lib.hid (HDB.out.trans (hbv39.mono HDB.out.size))
  clear HDB
  have HDB := HDB2
  clear HDB2
  clear hx
  refine hK0.out _ _ hbv39 (fun _ => ?_)
  clear hK0 K0 hHeld
  refine heldMono (S' := fun W => Below v39.heap.size v39 W) (fun _ h => hbv39.trans (h.mono hbv39.size)) _ _ _ _ ?_
  have hHeld := Below.refl v39.heap.size v39
  have HBv39 := Lib.hid hbv39
  clear hbv39
  refine wpAnyH_take (i := 11) (v := ?_) (by simp; rfl) (by kernel_rfl) (by kernel_rfl) (by kernel_rfl) (by exact fun _ _ _ h => h) (Or.inl ⟨by rfl, fun wx hSx => ?_⟩) hHeld ?_
  rotate_left
  · clear hSx; go_simp; (try with_reducible rfl)
  simp only [Act.put, List.setIfInBounds_toArray, List.set_cons_zero, List.set_cons_succ]
  refine wpAnyH_take (i := 12) (v := ?_) (by simp; rfl) (by kernel_rfl) (by kernel_rfl) (by kernel_rfl) (by exact fun _ _ _ h => h) (Or.inl ⟨by rfl, fun wx hSx => ?_⟩) hHeld ?_
  rotate_left
  · clear hSx; go_simp; (try with_reducible rfl)
  simp only [Act.put, List.setIfInBounds_toArray, List.set_cons_zero, List.set_cons_succ]
  refine wpAnyH_done (by kernel_rfl) ?_ _
  have HB2 := Lib.hid (HBB.out.trans (HDB.out.mono HBB.out.size))
  have HROW2 := Lib.hid (HTW.out _ HDB.out)
  clear hHeld HBB HROW HTW
  have HBB := HB2
  have HROW := HROW2
  clear HB2 HROW2
  have hdd := HDB.out
  have HR1b := Lib.hid (RI.below HR1.out hdd)
  have HR2b := Lib.hid (RI.below HR2.out hdd)
  clear HR1 HR2 HDB hdd
  have HR1 := HR1b
  have HR2 := HR2b
  clear HR1b HR2b
  obtain ⟨V2, hV2⟩ : ∃ V2, v39 = V2 := ⟨_, rfl⟩
  rw [hV2] at HBB HROW HR1 HR2 ⊢
  clear hV2
  go_wp2
  go_loopw [7] (fun iv wr => ∃ i : Nat, iv = .int .i64 i ∧ i ≤ L ∧ Hid (Below V2.heap.size V2 wr)) (fun iv _ => L - (intOf iv).toNat)
  case atStart => exact ⟨0, rfl, by omega, Lib.hid (Below.refl _ _)⟩
  case round =>
    obtain ⟨i, rfl, hi, HX⟩ := hrel
    by_cases hin : i < L
    · have d2 : decide ((i : Int) < (L : Int)) = true := by simp; omega
      have d3 : decide (i < L) = true := by simp; omega
      have g3 : (0 : Int) ≤ (i : Int) := by omega
      have g4 : (i : Int) < (L : Int) := by omega
      obtain ⟨b1, o1, rfl, hb1, hc1⟩ := HR1.out (by rw [HPL.out ()]; omega)
      obtain ⟨b2, o2, rfl, hb2, hc2⟩ := HR2.out (by rw [HPL.out ()]; omega)
      have e1 := (HX.out.cell (p := ⟨b1, o1 + i, none⟩) hb1).trans (hc1 i (by rw [HPL.out ()]; exact hin))
      have e2 := (HX.out.cell (p := ⟨b2, o2 + i, none⟩) hb2).trans (hc2 i (by rw [HPL.out ()]; exact hin))
      obtain ⟨x, hx⟩ : ∃ x, P.getD i 0 = x := ⟨_, rfl⟩
      rw [hx] at e1 e2
      have zx : (x != x) = false := by simp
      clear hc1 hc2 hb1 hb2 hx
      go_wp2
      go_quiet (fail)
      go_wp2
      go_roundw
      case rel => exact ⟨i + 1, by go_num, by omega, Lib.hid (belowN HX.out _)⟩
      case measure => simp [intOf]; omega
    · obtain rfl : i = L := by omega
      have d2 : decide ((i : Int) < (i : Int)) = false := by simp
      have d3 : decide (i < i) = false := by simp
      have HB3 := Lib.hid (HBB.out.trans (HX.out.mono HBB.out.size))
      have HROW3 := Lib.hid ((HX.out.block _ (lt_of_block HROW.out)).trans HROW.out)
      clear HBB HROW HX hin hi HR1 HR2
      have HBB := HB3
      have HROW := HROW3
      clear HB3 HROW3
      go_wp2
      have HTW := Lib.hid (fun X (hX : Below wr.heap.size wr X) => (hX.block _ (lt_of_block HROW.out)).trans HROW.out)
      have HDB := Lib.hid (Below.refl wr.heap.size wr).drew
      refine wp_region_held_drew (S := fun W => Below wr.drew.heap.size wr.drew W) (by kernel_rfl) (Below.refl _ _) (fun hHeld => ?_)
      refine wpAnyH_ready (rs := [0]) (by kernel_rfl) (by simp) ?_
      refine AllReadyH.cons (by simp; rfl) (fun K0 hK0 => ?_) AllReadyH.nil
      go_simp
      refine (HAL.out _ (HBB.out.trans (HDB.out.mono HBB.out.size))).mono ?_
      rintro e v1 ⟨rfl, hx⟩
      have hbv1 : Below wr.drew.heap.size wr.drew v1 := hx
      have HDB2 := Lib.hid (HDB.out.trans (hbv1.mono HDB.out.size))
      clear HDB
      have HDB := HDB2
      clear HDB2
      clear hx
      refine hK0.out _ _ hbv1 (fun _ => ?_)
      clear hK0 K0 hHeld
      refine heldMono (S' := fun W => Below v1.heap.size v1 W) (fun _ h => hbv1.trans (h.mono hbv1.size)) _ _ _ _ ?_
      have hHeld := Below.refl v1.heap.size v1
      have HBv1 := Lib.hid hbv1
      clear hbv1
      refine wpAnyH_take (i := 1) (v := ?_) (by simp; rfl) (by kernel_rfl) (by kernel_rfl) (by kernel_rfl) (by exact fun _ _ _ h => h) (Or.inl ⟨by rfl, fun wx hSx => ?_⟩) hHeld ?_
      rotate_left
      · clear hSx; go_simp; (try with_reducible rfl)
      simp only [Act.put, List.setIfInBounds_toArray, List.set_cons_zero, List.set_cons_succ]
      refine wpAnyH_take (i := 2) (v := ?_) (by simp; rfl) (by kernel_rfl) (by kernel_rfl) (by kernel_rfl) (by exact fun _ _ _ h => h) (Or.inl ⟨by rfl, fun wx hSx => ?_⟩) hHeld ?_
      rotate_left
      · have hz := HTW.out wx (HDB.out.trans (hSx.mono HDB.out.size)); obtain ⟨p0, p1, p2⟩ := pcell hz; clear hSx hz; go_simp; (try with_reducible rfl)
      simp only [Act.put, List.setIfInBounds_toArray, List.set_cons_zero, List.set_cons_succ]
      refine wpAnyH_take (i := 3) (v := ?_) (by simp; rfl) (by kernel_rfl) (by kernel_rfl) (by kernel_rfl) (by exact fun _ _ _ h => h) (Or.inl ⟨by rfl, fun wx hSx => ?_⟩) hHeld ?_
      rotate_left
      · clear hSx; go_simp; (try with_reducible rfl)
      simp only [Act.put, List.setIfInBounds_toArray, List.set_cons_zero, List.set_cons_succ]
      refine wpAnyH_take (i := 6) (v := ?_) (by simp; rfl) (by kernel_rfl) (by kernel_rfl) (by kernel_rfl) (by exact fun _ _ _ h => h) (Or.inl ⟨by rfl, fun wx hSx => ?_⟩) hHeld ?_
      rotate_left
      · have hz := HTW.out wx (HDB.out.trans (hSx.mono HDB.out.size)); obtain ⟨p0, p1, p2⟩ := pcell hz; clear hSx hz; go_simp; (try with_reducible rfl)
      simp only [Act.put, List.setIfInBounds_toArray, List.set_cons_zero, List.set_cons_succ]
      refine wpAnyH_take (i := 8) (v := ?_) (by simp; rfl) (by kernel_rfl) (by kernel_rfl) (by kernel_rfl) (by exact fun _ _ _ h => h) (Or.inl ⟨by rfl, fun wx hSx => ?_⟩) hHeld ?_
      rotate_left
      · clear hSx; go_simp; (try with_reducible rfl)
      simp only [Act.put, List.setIfInBounds_toArray, List.set_cons_zero, List.set_cons_succ]
      refine wpAnyH_ready (rs := [4]) (by kernel_rfl) (by simp) ?_
      refine AllReadyH.cons (by simp; rfl) (fun K0 hK0 => ?_) AllReadyH.nil
      go_simp
      refine (HCH.out _ (HBB.out.trans (HDB.out.mono HBB.out.size))).mono ?_
      rintro e v20 ⟨rfl, hx⟩
      have hbv20 : Below v1.heap.size v1 v20 := hx
      have HDB2 := Lib.hid (HDB.out.trans (hbv20.mono HDB.out.size))
      clear HDB
      have HDB := HDB2
      clear HDB2
      clear hx
      refine hK0.out _ _ hbv20 (fun _ => ?_)
      clear hK0 K0 hHeld
      refine heldMono (S' := fun W => Below v20.heap.size v20 W) (fun _ h => hbv20.trans (h.mono hbv20.size)) _ _ _ _ ?_
      have hHeld := Below.refl v20.heap.size v20
      have HBv20 := Lib.hid hbv20
      clear hbv20
      refine wpAnyH_ready (rs := [5]) (by kernel_rfl) (by simp) ?_
      refine AllReadyH.cons (by simp; rfl) (fun K0 hK0 => ?_) AllReadyH.nil
      go_simp
      refine (HA2.out _).mono ?_
      rintro e v34 ⟨rfl, hx⟩
      have hbv34 : Below v20.heap.size v20 v34 := hx
      have HDB2 := Lib.hid (HDB.out.trans (hbv34.mono HDB.out.size))
      clear HDB
      have HDB := HDB2
      clear HDB2
      clear hx
      refine hK0.out _ _ hbv34 (fun _ => ?_)
      clear hK0 K0 hHeld
      refine heldMono (S' := fun W => Below v34.heap.size v34 W) (fun _ h => hbv34.trans (h.mono hbv34.size)) _ _ _ _ ?_
      have hHeld := Below.refl v34.heap.size v34
      have HBv34 := Lib.hid hbv34
      clear hbv34
      refine wpAnyH_ready (rs := [7]) (by kernel_rfl) (by simp) ?_
      refine AllReadyH.cons (by simp; rfl) (fun K0 hK0 => ?_) AllReadyH.nil
      go_simp
      refine (HAS.out _).mono ?_
      rintro e v45 ⟨rfl, hx⟩
      have hbv45 : Below v34.heap.size v34 v45 := hx
      have HDB2 := Lib.hid (HDB.out.trans (hbv45.mono HDB.out.size))
      clear HDB
      have HDB := HDB2
      clear HDB2
      clear hx
      refine hK0.out _ _ hbv45 (fun _ => ?_)
      clear hK0 K0 hHeld
      refine heldMono (S' := fun W => Below v45.heap.size v45 W) (fun _ h => hbv45.trans (h.mono hbv45.size)) _ _ _ _ ?_
      have hHeld := Below.refl v45.heap.size v45
      have HBv45 := Lib.hid hbv45
      clear hbv45
      refine wpAnyH_ready (rs := [9]) (by kernel_rfl) (by simp) ?_
      refine AllReadyH.cons (by simp; rfl) (fun K0 hK0 => ?_) AllReadyH.nil
      go_simp
      refine (HQC.out _ (HBB.out.trans (HDB.out.mono HBB.out.size))).mono ?_
      rintro e v57 ⟨rfl, hx⟩
      have hbv57 : Below v45.heap.size v45 v57 := hx
      have HDB2 := Lib.hid (HDB.out.trans (hbv57.mono HDB.out.size))
      clear HDB
      have HDB := HDB2
      clear HDB2
      clear hx
      refine hK0.out _ _ hbv57 (fun _ => ?_)
      clear hK0 K0 hHeld
      refine heldMono (S' := fun W => Below v57.heap.size v57 W) (fun _ h => hbv57.trans (h.mono hbv57.size)) _ _ _ _ ?_
      have hHeld := Below.refl v57.heap.size v57
      have HBv57 := Lib.hid hbv57
      clear hbv57
      refine wpAnyH_take (i := 10) (v := ?_) (by simp; rfl) (by kernel_rfl) (by kernel_rfl) (by kernel_rfl) (by exact fun _ _ _ h => h) (Or.inl ⟨by rfl, fun wx hSx => ?_⟩) hHeld ?_
      rotate_left
      · clear hSx; go_simp; (try with_reducible rfl)
      simp only [Act.put, List.setIfInBounds_toArray, List.set_cons_zero, List.set_cons_succ]
      refine wpAnyH_take (i := 11) (v := ?_) (by simp; rfl) (by kernel_rfl) (by kernel_rfl) (by kernel_rfl) (by exact fun _ _ _ h => h) (Or.inl ⟨by rfl, fun wx hSx => ?_⟩) hHeld ?_
      rotate_left
      · clear hSx; go_simp; (try with_reducible rfl)
      simp only [Act.put, List.setIfInBounds_toArray, List.set_cons_zero, List.set_cons_succ]
      refine wpAnyH_take (i := 12) (v := ?_) (by simp; rfl) (by kernel_rfl) (by kernel_rfl) (by kernel_rfl) (by exact fun _ _ _ h => h) (Or.inl ⟨by rfl, fun wx hSx => ?_⟩) hHeld ?_
      rotate_left
      · clear hSx; go_simp; (try with_reducible rfl)
      simp only [Act.put, List.setIfInBounds_toArray, List.set_cons_zero, List.set_cons_succ]
      refine wpAnyH_done (by kernel_rfl) ?_ _
      have HBF := Lib.hid (HBB.out.trans (HDB.out.mono HBB.out.size))
      clear hHeld HDB HBB HTW
      go_wp2
      go_ret
      exact ⟨rfl, HBF.out⟩
end Go.Proofs.YtohhmpkmcodoeaaDoor
