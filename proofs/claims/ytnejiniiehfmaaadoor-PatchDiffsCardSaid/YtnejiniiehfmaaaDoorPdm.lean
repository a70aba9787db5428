/-
  Proved here: PatchDiffs.
-/
import Derived.Test.YtnejiniiehfmaaaDoorPdj
import Derived.Test.YtnejiniiehfmaaaDoorPdl
import Derived.Deep.DeepCutAuto
set_option linter.unusedSimpArgs false
set_option linter.unusedVariables false
namespace Go.Proofs.YtnejiniiehfmaaaDoor
open Go.RowKit
theorem CY.place {W : World} {A : Option Addr} {L : List Ce} (h : CY W A L) {k : Nat} {c0 : Int} {cs : List Value} {t : TypeId} (hk : W.heap[k]? = some (.cells (.int .i64 c0 :: cs).toArray t (0, 0))) (B : Array Value) : CY (W.setRow k B) A L := fun hp => by
  obtain ⟨b, e, hy⟩ := h hp
  refine ⟨b, e, hy.grown (grown_setRow _ _ _) (fun e2 => ?_)⟩
  injection e2 with e2
  subst e2
  obtain ⟨p, hp0⟩ : ∃ p, (flatY L)[0]? = some (.int .i32 p) := by
    match L, hp with
    | c :: L, _ => exact ⟨c.p, rfl⟩
  have h1 := hy.2 0 _ hp0
  unfold World.cell? at h1
  simp only [hk] at h1
  simp at h1
set_option maxRecDepth 100000 in
set_option maxHeartbeats 64000000 in
theorem diffs_any {w : World} {v o : Value} (hv : VwV w v) (ho : VwV w o) (hT : Tab w) : Calls Tryd.prog 3 #[v, o] w fun e w' => e = .returned (.bool true) ∧ Below w.heap.size w w' := by
  obtain ⟨R1, C1, A1, n1, cap1, L1, row1, col1, vis1, rfl, hs1, _, _, _, _⟩ := hv
  obtain ⟨R2, C2, A2, n2, cap2, L2, row2, col2, vis2, rfl, hs2, _, _, _, _⟩ := ho
  have hba := (Below.refl w.heap.size w).alloc (Nat.le_refl _) (.cells #[.int .i64 R1, .int .i64 C1, .slice A1 n1 cap1, .int .i64 row1, .int .i64 col1, .bool vis1] 24)
  have hbb := (Below.refl (w.alloc (.cells #[.int .i64 R1, .int .i64 C1, .slice A1 n1 cap1, .int .i64 row1, .int .i64 col1, .bool vis1] 24)).heap.size (w.alloc (.cells #[.int .i64 R1, .int .i64 C1, .slice A1 n1 cap1, .int .i64 row1, .int .i64 col1, .bool vis1] 24))).alloc (Nat.le_refl _) (.cells #[.int .i64 R2, .int .i64 C2, .slice A2 n2 cap2, .int .i64 row2, .int .i64 col2, .bool vis2] 24)
  have HB0 := hba.trans (hbb.mono hba.size)
  have HC0 := (hbb.block w.heap.size (by simp)).trans (heap_alloc_new w (.cells #[.int .i64 R1, .int .i64 C1, .slice A1 n1 cap1, .int .i64 row1, .int .i64 col1, .bool vis1] 24))
  have HC1 := heap_alloc_new (w.alloc (.cells #[.int .i64 R1, .int .i64 C1, .slice A1 n1 cap1, .int .i64 row1, .int .i64 col1, .bool vis1] 24)) (.cells #[.int .i64 R2, .int .i64 C2, .slice A2 n2 cap2, .int .i64 row2, .int .i64 col2, .bool vis2] 24)
  rw [show (w.alloc (.cells #[.int .i64 R1, .int .i64 C1, .slice A1 n1 cap1, .int .i64 row1, .int .i64 col1, .bool vis1] 24)).heap.size = w.heap.size + 1 by simp] at HC1
  have HTB := Lib.hid (hT.below HB0 hT.big)
  have HCR1 := Lib.hid (hs1.cr.below HB0)
  have HCR2 := Lib.hid (hs2.cr.below HB0)
  have HL1 := Lib.hid hs1.len_eq
  have HL2 := Lib.hid hs2.len_eq
  have HC2L := Lib.hid hs2.le
  have HOK1 := Lib.hid hs1.ok
  have HOK2 := Lib.hid hs2.ok
  have HM1 := Lib.hid (show n1 ≤ 9223372036854775807 from by have := hs1.le; have := hs1.max; unfold maxLen at this; omega)
  have HM2 := Lib.hid (show n2 ≤ 9223372036854775807 from by have := hs2.le; have := hs2.max; unfold maxLen at this; omega)
  obtain ⟨q1, hq1⟩ : ∃ q, rightW R1 C1 row1 col1 L1 = q := ⟨_, rfl⟩
  have HQ1 := Lib.hid hq1
  obtain ⟨q2, hq2⟩ : ∃ q, rightW R2 C2 row2 col2 L2 = q := ⟨_, rfl⟩
  have HQ2 := Lib.hid hq2
  obtain ⟨vb, hvb⟩ : ∃ b, w.heap.size = b := ⟨_, rfl⟩
  clear hba hbb hs1 hs2 hT hq1 hq2
  go_enter Tryd.func3, Tryd.ntmps3
  go_upto_region 1 with fail
  simp only [hvb] at HC0 HC1 ⊢
  generalize ((w.alloc (.cells #[.int .i64 R1, .int .i64 C1, .slice A1 n1 cap1, .int .i64 row1, .int .i64 col1, .bool vis1] 24)).alloc (.cells #[.int .i64 R2, .int .i64 C2, .slice A2 n2 cap2, .int .i64 row2, .int .i64 col2, .bool vis2] 24)) = U at HB0 HC0 HC1 HTB HCR1 HCR2 ⊢
  have HB := Lib.hid HB0
  have HVC0 := Lib.hid (fun (W : World) (hW : Below U.heap.size U W) => six_cells ((hW.block _ (lt_of_block HC0)).trans HC0))
  have HOC0 := Lib.hid (fun (W : World) (hW : Below U.heap.size U W) => six_cells ((hW.block _ (lt_of_block HC1)).trans HC1))
  have HSB := Lib.hid (Below.refl U.heap.size U)
  clear HB0 HC0 HC1 hvb
  obtain ⟨x0, x1, x2, x3, x4, x5⟩ := HVC0.out _ HSB.out
  obtain ⟨y0, y1, y2, y3, y4, y5⟩ := HOC0.out _ HSB.out
  by_cases h1 : 600 < n1
  · skip
    have pn1 : decide ((600 : Int) < (n1 : Int)) = true := by simp; omega
    have pn1' : decide (600 < n1) = true := by simp; omega
    have pn1'' : decide ((n1 : Int) > (600 : Int)) = true := pn1
    clear h1
    go_wp2_with fail
    refine (alive_any _ (HTB.out.below HSB.out HTB.out.big)).mono ?_
    rintro e w9 ⟨rfl, b9⟩
    have HB9 := Lib.hid (HB.out.trans ((HSB.out.trans (b9.mono HSB.out.size)).mono HB.out.size))
    clear b9
    go_wp2
    go_ret
    exact ⟨by rfl, HB9.out⟩
  by_cases h2 : 600 < n2
  · skip
    have pn1 : decide ((600 : Int) < (n1 : Int)) = false := by simp; omega
    have pn1' : decide (600 < n1) = false := by simp; omega
    have pn1'' : decide ((n1 : Int) > (600 : Int)) = false := pn1
    have pn2 : decide ((600 : Int) < (n2 : Int)) = true := by simp; omega
    have pn2' : decide (600 < n2) = true := by simp; omega
    have pn2'' : decide ((n2 : Int) > (600 : Int)) = true := pn2
    clear h1 h2
    go_wp2_with fail
    refine (alive_any _ (HTB.out.below HSB.out HTB.out.big)).mono ?_
    rintro e w9 ⟨rfl, b9⟩
    have HB9 := Lib.hid (HB.out.trans ((HSB.out.trans (b9.mono HSB.out.size)).mono HB.out.size))
    clear b9
    go_wp2
    go_ret
    exact ⟨by rfl, HB9.out⟩
  have HN1 := Lib.hid (show n1 ≤ 1000 by omega)
  have HN2 := Lib.hid (show n2 ≤ 1000 by omega)
  have pn1 : decide ((600 : Int) < (n1 : Int)) = false := by simp; omega
  have pn1' : decide (600 < n1) = false := by simp; omega
  have pn1'' : decide ((n1 : Int) > (600 : Int)) = false := pn1
  have pn2 : decide ((600 : Int) < (n2 : Int)) = false := by simp; omega
  have pn2' : decide (600 < n2) = false := by simp; omega
  have pn2'' : decide ((n2 : Int) > (600 : Int)) = false := pn2
  clear h1 h2
  go_upto_region 3 with fail
  clear x0 x1 x2 x3 x4 x5 y0 y1 y2 y3 y4 y5 HSB
  go_cut [5, 6] (fun a b wx => ∃ X1 x1 X2 x2 t7b t8b, a = .pointer (some ⟨t7b, 0, none⟩) ∧ b = .pointer (some ⟨t8b, 0, none⟩) ∧ Hid (CY wx X1 L1 ∧ CY wx X2 L2 ∧ wx.heap[t7b]? = some (.cells #[.int .i64 R1, .int .i64 C1, .slice X1 n1 x1, .int .i64 row1, .int .i64 col1, .bool vis1] 30 (0, 0)) ∧ wx.heap[t8b]? = some (.cells #[.int .i64 R2, .int .i64 C2, .slice X2 n2 x2, .int .i64 row2, .int .i64 col2, .bool vis2] 30 (0, 0)) ∧ Below U.heap.size U wx))
  case first =>
    refine wp_region_held_drew (S := fun W => Below U.drew.heap.size U.drew W) (by kernel_rfl) (Below.refl _ _) (fun hHeld => ?_)
    have HUX := Lib.hid (Below.refl U.heap.size U).drew
    obtain ⟨X, hX⟩ : ∃ X, U.drew = X := ⟨_, rfl⟩
    simp only [hX] at hHeld HUX ⊢
    clear hX
    have HBX := Lib.hid (Below.refl X.heap.size X)
    obtain ⟨sX, hsX⟩ : ∃ k, X.heap.size = k := ⟨_, rfl⟩
    have HSX := Lib.hid hsX
    clear hsX
    refine wpAnyH_take (i := 0) (v := ?_) (by simp; rfl) (by kernel_rfl) (by kernel_rfl) (by kernel_rfl) (by exact fun _ _ _ h => h) (Or.inl ⟨by rfl, fun wx hSx => ?_⟩) hHeld ?_
    rotate_left
    · obtain ⟨s0, s1, s2, s3, s4, s5⟩ := HVC0.out wx (HUX.out.trans (hSx.mono HUX.out.size)); clear hSx; go_simp; (try with_reducible rfl)
    simp only [Act.put, List.setIfInBounds_toArray, List.set_cons_zero, List.set_cons_succ]
    refine wpAnyH_take (i := 2) (v := ?_) (by simp; rfl) (by kernel_rfl) (by kernel_rfl) (by kernel_rfl) (by exact fun _ _ _ h => h) (Or.inl ⟨by rfl, fun wx hSx => ?_⟩) hHeld ?_
    rotate_left
    · obtain ⟨s0, s1, s2, s3, s4, s5⟩ := HOC0.out wx (HUX.out.trans (hSx.mono HUX.out.size)); clear hSx; go_simp; (try with_reducible rfl)
    simp only [Act.put, List.setIfInBounds_toArray, List.set_cons_zero, List.set_cons_succ]
    refine wpAnyH_ready (rs := [1, 4, 5]) (by kernel_rfl) (by simp) ?_
    refine AllReadyH.cons (by simp; rfl) (fun K0 hK0 => ?_) (AllReadyH.cons (by simp; rfl) (fun K0 hK0 => ?_) (AllReadyH.cons (by simp; rfl) (fun K0 hK0 => ?_) AllReadyH.nil))
    · go_simp
      refine (as_view (HCR1.out.below (HUX.out.trans (HBX.out.mono HUX.out.size))) HL1.out HN1.out HOK1.out R1 C1 row1 col1 vis1).mono ?_
      rintro e c0 ⟨X1, x1, rfl, hcy, hbV⟩
      have HBX2 := Lib.hid (HBX.out.trans (hbV.mono HBX.out.size))
      clear HBX
      have HBX := HBX2
      clear HBX2
      have HX1 := Lib.hid hcy
      clear hcy hbV
      refine hK0.out _ _ HBX.out (fun _ => ?_)
      clear hK0 K0 hHeld
      have hHeld := HBX.out
      refine wpAnyH_ready (rs := [3, 4, 5]) (by kernel_rfl) (by simp) ?_
      refine AllReadyH.cons (by simp; rfl) (fun K0 hK0 => ?_) (AllReadyH.cons (by simp; rfl) (fun K0 hK0 => ?_) (AllReadyH.cons (by simp; rfl) (fun K0 hK0 => ?_) AllReadyH.nil))
      · go_simp
        refine (as_view (HCR2.out.below (HUX.out.trans (HBX.out.mono HUX.out.size))) HL2.out HN2.out HOK2.out R2 C2 row2 col2 vis2).mono ?_
        rintro e c1 ⟨X2, x2, rfl, hcy, hbV⟩
        have HBX2 := Lib.hid (HBX.out.trans (hbV.mono HBX.out.size))
        clear HBX
        have HBX := HBX2
        clear HBX2
        have HX1b := Lib.hid (HX1.out.below hbV)
        clear HX1
        have HX1 := HX1b
        clear HX1b
        have HX2 := Lib.hid hcy
        clear hcy hbV
        refine hK0.out _ _ HBX.out (fun _ => ?_)
        clear hK0 K0 hHeld
        have hHeld := HBX.out
        refine wpAnyH_ready (rs := [4, 5]) (by kernel_rfl) (by simp) ?_
        refine AllReadyH.cons (by simp; rfl) (fun K0 hK0 => ?_) (AllReadyH.cons (by simp; rfl) (fun K0 hK0 => ?_) AllReadyH.nil)
        · go_simp
          have hbV : Below c1.heap.size c1 (c1.alloc (.cells #[.int .i64 0, .int .i64 0, .slice none 0 0, .int .i64 0, .int .i64 0, .bool false] 30)) := (Below.refl _ _).alloc (Nat.le_refl _) _
          have H7 := Lib.hid (heap_alloc_new c1 (.cells #[.int .i64 0, .int .i64 0, .slice none 0 0, .int .i64 0, .int .i64 0, .bool false] 30))
          have HG7 := Lib.hid (show sX ≤ c1.heap.size from by rw [← HSX.out]; exact HBX.out.size)
          have HBX2 := Lib.hid (HBX.out.trans (hbV.mono HBX.out.size))
          clear HBX
          have HBX := HBX2
          clear HBX2
          have HX1b := Lib.hid (HX1.out.below hbV)
          clear HX1
          have HX1 := HX1b
          clear HX1b
          have HX2b := Lib.hid (HX2.out.below hbV)
          clear HX2
          have HX2 := HX2b
          clear HX2b
          clear hbV
          obtain ⟨t7b, ht⟩ : ∃ g, c1.heap.size = g := ⟨_, rfl⟩
          rw [ht] at H7 HG7 ⊢
          clear ht
          generalize (c1.alloc (.cells #[.int .i64 0, .int .i64 0, .slice none 0 0, .int .i64 0, .int .i64 0, .bool false] 30)) = a2 at HBX H7 HX1 HX2 ⊢
          refine hK0.out _ _ HBX.out (fun _ => ?_)
          clear hK0 K0 hHeld
          have hHeld := HBX.out
          refine wpAnyH_ready (rs := [5]) (by kernel_rfl) (by simp) ?_
          refine AllReadyH.cons (by simp; rfl) (fun K0 hK0 => ?_) AllReadyH.nil
          go_simp
          have hbV : Below a2.heap.size a2 (a2.alloc (.cells #[.int .i64 0, .int .i64 0, .slice none 0 0, .int .i64 0, .int .i64 0, .bool false] 30)) := (Below.refl _ _).alloc (Nat.le_refl _) _
          have H8 := Lib.hid (heap_alloc_new a2 (.cells #[.int .i64 0, .int .i64 0, .slice none 0 0, .int .i64 0, .int .i64 0, .bool false] 30))
          have HG8 := Lib.hid (show sX ≤ a2.heap.size from by rw [← HSX.out]; exact HBX.out.size)
          have HNE := Lib.hid (show t7b < a2.heap.size from lt_of_block H7.out)
          have HBX2 := Lib.hid (HBX.out.trans (hbV.mono HBX.out.size))
          clear HBX
          have HBX := HBX2
          clear HBX2
          have HX1b := Lib.hid (HX1.out.below hbV)
          clear HX1
          have HX1 := HX1b
          clear HX1b
          have HX2b := Lib.hid (HX2.out.below hbV)
          clear HX2
          have HX2 := HX2b
          clear HX2b
          have H7b := Lib.hid ((hbV.block _ (lt_of_block H7.out)).trans H7.out)
          clear H7
          have H7 := H7b
          clear H7b
          clear hbV
          obtain ⟨t8b, ht⟩ : ∃ g, a2.heap.size = g := ⟨_, rfl⟩
          rw [ht] at H8 HG8 HNE ⊢
          clear ht
          generalize (a2.alloc (.cells #[.int .i64 0, .int .i64 0, .slice none 0 0, .int .i64 0, .int .i64 0, .bool false] 30)) = a3 at HBX H8 HX1 HX2 H7 ⊢
          refine hK0.out _ _ HBX.out (fun _ => ?_)
          clear hK0 K0 hHeld
          have hHeld := HBX.out
          refine wpAnyH_ready (rs := [6]) (by kernel_rfl) (by simp) ?_
          refine AllReadyH.cons (by simp; rfl) (fun K0 hK0 => ?_) AllReadyH.nil
          refine step_store_row rfl 30 (.tmp 5) (.tmp 21) rfl t7b #[.int .i64 R1, .int .i64 C1, .slice X1 n1 x1, .int .i64 row1, .int .i64 col1, .bool vis1] rfl rfl 30 _ H7.out info_wview rfl (by simp [Value.oneCell']) ?_
          simp only [Act.put, List.setIfInBounds_toArray, List.set_cons_zero, List.set_cons_succ]
          have HBXb := Lib.hid (below_setRow HBX.out (by rw [HSX.out]; exact HG7.out) #[.int .i64 R1, .int .i64 C1, .slice X1 n1 x1, .int .i64 row1, .int .i64 col1, .bool vis1])
          have HX1b := Lib.hid (HX1.out.place H7.out #[.int .i64 R1, .int .i64 C1, .slice X1 n1 x1, .int .i64 row1, .int .i64 col1, .bool vis1])
          have HX2b := Lib.hid (HX2.out.place H7.out #[.int .i64 R1, .int .i64 C1, .slice X1 n1 x1, .int .i64 row1, .int .i64 col1, .bool vis1])
          have H8b := Lib.hid (((grown_setRow a3 t7b #[.int .i64 R1, .int .i64 C1, .slice X1 n1 x1, .int .i64 row1, .int .i64 col1, .bool vis1]).block t8b (lt_of_block H8.out) (by intro e; injection e with e; have := HNE.out; omega)).trans H8.out)
          have H7b := Lib.hid (setRow_heap _ _ _ #[.int .i64 R1, .int .i64 C1, .slice X1 n1 x1, .int .i64 row1, .int .i64 col1, .bool vis1] _ _ H7.out)
          clear HBX HX1 HX2 H7 H8
          generalize (a3.setRow t7b #[.int .i64 R1, .int .i64 C1, .slice X1 n1 x1, .int .i64 row1, .int .i64 col1, .bool vis1]) = E6 at HBXb HX1b HX2b H7b H8b ⊢
          have HBX := HBXb
          have HX1 := HX1b
          have HX2 := HX2b
          have H7 := H7b
          have H8 := H8b
          clear HBXb HX1b HX2b H7b H8b
          refine hK0.out _ _ HBX.out (fun _ => ?_)
          clear hK0 K0 hHeld
          have hHeld := HBX.out
          refine wpAnyH_ready (rs := [7]) (by kernel_rfl) (by simp) ?_
          refine AllReadyH.cons (by simp; rfl) (fun K0 hK0 => ?_) AllReadyH.nil
          refine step_store_row rfl 30 (.tmp 6) (.tmp 23) rfl t8b #[.int .i64 R2, .int .i64 C2, .slice X2 n2 x2, .int .i64 row2, .int .i64 col2, .bool vis2] rfl rfl 30 _ H8.out info_wview rfl (by simp [Value.oneCell']) ?_
          simp only [Act.put, List.setIfInBounds_toArray, List.set_cons_zero, List.set_cons_succ]
          have HBXb := Lib.hid (below_setRow HBX.out (by rw [HSX.out]; exact HG8.out) #[.int .i64 R2, .int .i64 C2, .slice X2 n2 x2, .int .i64 row2, .int .i64 col2, .bool vis2])
          have HX1b := Lib.hid (HX1.out.place H8.out #[.int .i64 R2, .int .i64 C2, .slice X2 n2 x2, .int .i64 row2, .int .i64 col2, .bool vis2])
          have HX2b := Lib.hid (HX2.out.place H8.out #[.int .i64 R2, .int .i64 C2, .slice X2 n2 x2, .int .i64 row2, .int .i64 col2, .bool vis2])
          have H7b := Lib.hid (((grown_setRow E6 t8b #[.int .i64 R2, .int .i64 C2, .slice X2 n2 x2, .int .i64 row2, .int .i64 col2, .bool vis2]).block t7b (lt_of_block H7.out) (by intro e; injection e with e; have := HNE.out; omega)).trans H7.out)
          have H8b := Lib.hid (setRow_heap _ _ _ #[.int .i64 R2, .int .i64 C2, .slice X2 n2 x2, .int .i64 row2, .int .i64 col2, .bool vis2] _ _ H8.out)
          clear HBX HX1 HX2 H7 H8
          generalize (E6.setRow t8b #[.int .i64 R2, .int .i64 C2, .slice X2 n2 x2, .int .i64 row2, .int .i64 col2, .bool vis2]) = E7 at HBXb HX1b HX2b H7b H8b ⊢
          have HBX := HBXb
          have HX1 := HX1b
          have HX2 := HX2b
          have H7 := H7b
          have H8 := H8b
          clear HBXb HX1b HX2b H7b H8b
          refine hK0.out _ _ HBX.out (fun _ => ?_)
          clear hK0 K0 hHeld
          have hHeld := HBX.out
          refine wpAnyH_done (by kernel_rfl) ?_ _
          go_wp2
          go_meet
          exact ⟨X1, x1, X2, x2, t7b, t8b, rfl, rfl, Lib.hid ⟨HX1.out, HX2.out, H7.out, H8.out, HUX.out.trans (HBX.out.mono HUX.out.size)⟩⟩
        · go_simp
          have hbV : Below c1.heap.size c1 (c1.alloc (.cells #[.int .i64 0, .int .i64 0, .slice none 0 0, .int .i64 0, .int .i64 0, .bool false] 30)) := (Below.refl _ _).alloc (Nat.le_refl _) _
          have H8 := Lib.hid (heap_alloc_new c1 (.cells #[.int .i64 0, .int .i64 0, .slice none 0 0, .int .i64 0, .int .i64 0, .bool false] 30))
          have HG8 := Lib.hid (show sX ≤ c1.heap.size from by rw [← HSX.out]; exact HBX.out.size)
          have HBX2 := Lib.hid (HBX.out.trans (hbV.mono HBX.out.size))
          clear HBX
          have HBX := HBX2
          clear HBX2
          have HX1b := Lib.hid (HX1.out.below hbV)
          clear HX1
          have HX1 := HX1b
          clear HX1b
          have HX2b := Lib.hid (HX2.out.below hbV)
          clear HX2
          have HX2 := HX2b
          clear HX2b
          clear hbV
          obtain ⟨t8b, ht⟩ : ∃ g, c1.heap.size = g := ⟨_, rfl⟩
          rw [ht] at H8 HG8 ⊢
          clear ht
          generalize (c1.alloc (.cells #[.int .i64 0, .int .i64 0, .slice none 0 0, .int .i64 0, .int .i64 0, .bool false] 30)) = a2 at HBX H8 HX1 HX2 ⊢
          refine hK0.out _ _ HBX.out (fun _ => ?_)
          clear hK0 K0 hHeld
          have hHeld := HBX.out
          refine wpAnyH_ready (rs := [4]) (by kernel_rfl) (by simp) ?_
          refine AllReadyH.cons (by simp; rfl) (fun K0 hK0 => ?_) AllReadyH.nil
          go_simp
          have hbV : Below a2.heap.size a2 (a2.alloc (.cells #[.int .i64 0, .int .i64 0, .slice none 0 0, .int .i64 0, .int .i64 0, .bool false] 30)) := (Below.refl _ _).alloc (Nat.le_refl _) _
          have H7 := Lib.hid (heap_alloc_new a2 (.cells #[.int .i64 0, .int .i64 0, .slice none 0 0, .int .i64 0, .int .i64 0, .bool false] 30))
          have HG7 := Lib.hid (show sX ≤ a2.heap.size from by rw [← HSX.out]; exact HBX.out.size)
          have HNE := Lib.hid (show t8b < a2.heap.size from lt_of_block H8.out)
          have HBX2 := Lib.hid (HBX.out.trans (hbV.mono HBX.out.size))
          clear HBX
          have HBX := HBX2
          clear HBX2
          have HX1b := Lib.hid (HX1.out.below hbV)
          clear HX1
          have HX1 := HX1b
          clear HX1b
          have HX2b := Lib.hid (HX2.out.below hbV)
          clear HX2
          have HX2 := HX2b
          clear HX2b
          have H8b := Lib.hid ((hbV.block _ (lt_of_block H8.out)).trans H8.out)
          clear H8
          have H8 := H8b
          clear H8b
          clear hbV
          obtain ⟨t7b, ht⟩ : ∃ g, a2.heap.size = g := ⟨_, rfl⟩
          rw [ht] at H7 HG7 HNE ⊢
          clear ht
          generalize (a2.alloc (.cells #[.int .i64 0, .int .i64 0, .slice none 0 0, .int .i64 0, .int .i64 0, .bool false] 30)) = a3 at HBX H7 HX1 HX2 H8 ⊢
          refine hK0.out _ _ HBX.out (fun _ => ?_)
          clear hK0 K0 hHeld
          have hHeld := HBX.out
          refine wpAnyH_ready (rs := [6]) (by kernel_rfl) (by simp) ?_
          refine AllReadyH.cons (by simp; rfl) (fun K0 hK0 => ?_) AllReadyH.nil
          refine step_store_row rfl 30 (.tmp 5) (.tmp 21) rfl t7b #[.int .i64 R1, .int .i64 C1, .slice X1 n1 x1, .int .i64 row1, .int .i64 col1, .bool vis1] rfl rfl 30 _ H7.out info_wview rfl (by simp [Value.oneCell']) ?_
          simp only [Act.put, List.setIfInBounds_toArray, List.set_cons_zero, List.set_cons_succ]
          have HBXb := Lib.hid (below_setRow HBX.out (by rw [HSX.out]; exact HG7.out) #[.int .i64 R1, .int .i64 C1, .slice X1 n1 x1, .int .i64 row1, .int .i64 col1, .bool vis1])
          have HX1b := Lib.hid (HX1.out.place H7.out #[.int .i64 R1, .int .i64 C1, .slice X1 n1 x1, .int .i64 row1, .int .i64 col1, .bool vis1])
          have HX2b := Lib.hid (HX2.out.place H7.out #[.int .i64 R1, .int .i64 C1, .slice X1 n1 x1, .int .i64 row1, .int .i64 col1, .bool vis1])
          have H8b := Lib.hid (((grown_setRow a3 t7b #[.int .i64 R1, .int .i64 C1, .slice X1 n1 x1, .int .i64 row1, .int .i64 col1, .bool vis1]).block t8b (lt_of_block H8.out) (by intro e; injection e with e; have := HNE.out; omega)).trans H8.out)
          have H7b := Lib.hid (setRow_heap _ _ _ #[.int .i64 R1, .int .i64 C1, .slice X1 n1 x1, .int .i64 row1, .int .i64 col1, .bool vis1] _ _ H7.out)
          clear HBX HX1 HX2 H7 H8
          generalize (a3.setRow t7b #[.int .i64 R1, .int .i64 C1, .slice X1 n1 x1, .int .i64 row1, .int .i64 col1, .bool vis1]) = E6 at HBXb HX1b HX2b H7b H8b ⊢
          have HBX := HBXb
          have HX1 := HX1b
          have HX2 := HX2b
          have H7 := H7b
          have H8 := H8b
          clear HBXb HX1b HX2b H7b H8b
          refine hK0.out _ _ HBX.out (fun _ => ?_)
          clear hK0 K0 hHeld
          have hHeld := HBX.out
          refine wpAnyH_ready (rs := [7]) (by kernel_rfl) (by simp) ?_
          refine AllReadyH.cons (by simp; rfl) (fun K0 hK0 => ?_) AllReadyH.nil
          refine step_store_row rfl 30 (.tmp 6) (.tmp 23) rfl t8b #[.int .i64 R2, .int .i64 C2, .slice X2 n2 x2, .int .i64 row2, .int .i64 col2, .bool vis2] rfl rfl 30 _ H8.out info_wview rfl (by simp [Value.oneCell']) ?_
          simp only [Act.put, List.setIfInBounds_toArray, List.set_cons_zero, List.set_cons_succ]
          have HBXb := Lib.hid (below_setRow HBX.out (by rw [HSX.out]; exact HG8.out) #[.int .i64 R2, .int .i64 C2, .slice X2 n2 x2, .int .i64 row2, .int .i64 col2, .bool vis2])
          have HX1b := Lib.hid (HX1.out.place H8.out #[.int .i64 R2, .int .i64 C2, .slice X2 n2 x2, .int .i64 row2, .int .i64 col2, .bool vis2])
          have HX2b := Lib.hid (HX2.out.place H8.out #[.int .i64 R2, .int .i64 C2, .slice X2 n2 x2, .int .i64 row2, .int .i64 col2, .bool vis2])
          have H7b := Lib.hid (((grown_setRow E6 t8b #[.int .i64 R2, .int .i64 C2, .slice X2 n2 x2, .int .i64 row2, .int .i64 col2, .bool vis2]).block t7b (lt_of_block H7.out) (by intro e; injection e with e; have := HNE.out; omega)).trans H7.out)
          have H8b := Lib.hid (setRow_heap _ _ _ #[.int .i64 R2, .int .i64 C2, .slice X2 n2 x2, .int .i64 row2, .int .i64 col2, .bool vis2] _ _ H8.out)
          clear HBX HX1 HX2 H7 H8
          generalize (E6.setRow t8b #[.int .i64 R2, .int .i64 C2, .slice X2 n2 x2, .int .i64 row2, .int .i64 col2, .bool vis2]) = E7 at HBXb HX1b HX2b H7b H8b ⊢
          have HBX := HBXb
          have HX1 := HX1b
          have HX2 := HX2b
          have H7 := H7b
          have H8 := H8b
          clear HBXb HX1b HX2b H7b H8b
          refine hK0.out _ _ HBX.out (fun _ => ?_)
          clear hK0 K0 hHeld
          have hHeld := HBX.out
          refine wpAnyH_done (by kernel_rfl) ?_ _
          go_wp2
          go_meet
          exact ⟨X1, x1, X2, x2, t7b, t8b, rfl, rfl, Lib.hid ⟨HX1.out, HX2.out, H7.out, H8.out, HUX.out.trans (HBX.out.mono HUX.out.size)⟩⟩
      · go_simp
        have hbV : Below c0.heap.size c0 (c0.alloc (.cells #[.int .i64 0, .int .i64 0, .slice none 0 0, .int .i64 0, .int .i64 0, .bool false] 30)) := (Below.refl _ _).alloc (Nat.le_refl _) _
        have H7 := Lib.hid (heap_alloc_new c0 (.cells #[.int .i64 0, .int .i64 0, .slice none 0 0, .int .i64 0, .int .i64 0, .bool false] 30))
        have HG7 := Lib.hid (show sX ≤ c0.heap.size from by rw [← HSX.out]; exact HBX.out.size)
        have HBX2 := Lib.hid (HBX.out.trans (hbV.mono HBX.out.size))
        clear HBX
        have HBX := HBX2
        clear HBX2
        have HX1b := Lib.hid (HX1.out.below hbV)
        clear HX1
        have HX1 := HX1b
        clear HX1b
        clear hbV
        obtain ⟨t7b, ht⟩ : ∃ g, c0.heap.size = g := ⟨_, rfl⟩
        rw [ht] at H7 HG7 ⊢
        clear ht
        generalize (c0.alloc (.cells #[.int .i64 0, .int .i64 0, .slice none 0 0, .int .i64 0, .int .i64 0, .bool false] 30)) = a1 at HBX H7 HX1 ⊢
        refine hK0.out _ _ HBX.out (fun _ => ?_)
        clear hK0 K0 hHeld
        have hHeld := HBX.out
        refine wpAnyH_ready (rs := [3, 5]) (by kernel_rfl) (by simp) ?_
        refine AllReadyH.cons (by simp; rfl) (fun K0 hK0 => ?_) (AllReadyH.cons (by simp; rfl) (fun K0 hK0 => ?_) AllReadyH.nil)
        · go_simp
          refine (as_view (HCR2.out.below (HUX.out.trans (HBX.out.mono HUX.out.size))) HL2.out HN2.out HOK2.out R2 C2 row2 col2 vis2).mono ?_
          rintro e c2 ⟨X2, x2, rfl, hcy, hbV⟩
          have HBX2 := Lib.hid (HBX.out.trans (hbV.mono HBX.out.size))
          clear HBX
          have HBX := HBX2
          clear HBX2
          have HX1b := Lib.hid (HX1.out.below hbV)
          clear HX1
          have HX1 := HX1b
          clear HX1b
          have H7b := Lib.hid ((hbV.block _ (lt_of_block H7.out)).trans H7.out)
          clear H7
          have H7 := H7b
          clear H7b
          have HX2 := Lib.hid hcy
          clear hcy hbV
          refine hK0.out _ _ HBX.out (fun _ => ?_)
          clear hK0 K0 hHeld
          have hHeld := HBX.out
          refine wpAnyH_ready (rs := [5]) (by kernel_rfl) (by simp) ?_
          refine AllReadyH.cons (by simp; rfl) (fun K0 hK0 => ?_) AllReadyH.nil
          go_simp
          have hbV : Below c2.heap.size c2 (c2.alloc (.cells #[.int .i64 0, .int .i64 0, .slice none 0 0, .int .i64 0, .int .i64 0, .bool false] 30)) := (Below.refl _ _).alloc (Nat.le_refl _) _
          have H8 := Lib.hid (heap_alloc_new c2 (.cells #[.int .i64 0, .int .i64 0, .slice none 0 0, .int .i64 0, .int .i64 0, .bool false] 30))
          have HG8 := Lib.hid (show sX ≤ c2.heap.size from by rw [← HSX.out]; exact HBX.out.size)
          have HNE := Lib.hid (show t7b < c2.heap.size from lt_of_block H7.out)
          have HBX2 := Lib.hid (HBX.out.trans (hbV.mono HBX.out.size))
          clear HBX
          have HBX := HBX2
          clear HBX2
          have HX1b := Lib.hid (HX1.out.below hbV)
          clear HX1
          have HX1 := HX1b
          clear HX1b
          have HX2b := Lib.hid (HX2.out.below hbV)
          clear HX2
          have HX2 := HX2b
          clear HX2b
          have H7b := Lib.hid ((hbV.block _ (lt_of_block H7.out)).trans H7.out)
          clear H7
          have H7 := H7b
          clear H7b
          clear hbV
          obtain ⟨t8b, ht⟩ : ∃ g, c2.heap.size = g := ⟨_, rfl⟩
          rw [ht] at H8 HG8 HNE ⊢
          clear ht
          generalize (c2.alloc (.cells #[.int .i64 0, .int .i64 0, .slice none 0 0, .int .i64 0, .int .i64 0, .bool false] 30)) = a3 at HBX H8 HX1 HX2 H7 ⊢
          refine hK0.out _ _ HBX.out (fun _ => ?_)
          clear hK0 K0 hHeld
          have hHeld := HBX.out
          refine wpAnyH_ready (rs := [6]) (by kernel_rfl) (by simp) ?_
          refine AllReadyH.cons (by simp; rfl) (fun K0 hK0 => ?_) AllReadyH.nil
          refine step_store_row rfl 30 (.tmp 5) (.tmp 21) rfl t7b #[.int .i64 R1, .int .i64 C1, .slice X1 n1 x1, .int .i64 row1, .int .i64 col1, .bool vis1] rfl rfl 30 _ H7.out info_wview rfl (by simp [Value.oneCell']) ?_
          simp only [Act.put, List.setIfInBounds_toArray, List.set_cons_zero, List.set_cons_succ]
          have HBXb := Lib.hid (below_setRow HBX.out (by rw [HSX.out]; exact HG7.out) #[.int .i64 R1, .int .i64 C1, .slice X1 n1 x1, .int .i64 row1, .int .i64 col1, .bool vis1])
          have HX1b := Lib.hid (HX1.out.place H7.out #[.int .i64 R1, .int .i64 C1, .slice X1 n1 x1, .int .i64 row1, .int .i64 col1, .bool vis1])
          have HX2b := Lib.hid (HX2.out.place H7.out #[.int .i64 R1, .int .i64 C1, .slice X1 n1 x1, .int .i64 row1, .int .i64 col1, .bool vis1])
          have H8b := Lib.hid (((grown_setRow a3 t7b #[.int .i64 R1, .int .i64 C1, .slice X1 n1 x1, .int .i64 row1, .int .i64 col1, .bool vis1]).block t8b (lt_of_block H8.out) (by intro e; injection e with e; have := HNE.out; omega)).trans H8.out)
          have H7b := Lib.hid (setRow_heap _ _ _ #[.int .i64 R1, .int .i64 C1, .slice X1 n1 x1, .int .i64 row1, .int .i64 col1, .bool vis1] _ _ H7.out)
          clear HBX HX1 HX2 H7 H8
          generalize (a3.setRow t7b #[.int .i64 R1, .int .i64 C1, .slice X1 n1 x1, .int .i64 row1, .int .i64 col1, .bool vis1]) = E6 at HBXb HX1b HX2b H7b H8b ⊢
          have HBX := HBXb
          have HX1 := HX1b
          have HX2 := HX2b
          have H7 := H7b
          have H8 := H8b
          clear HBXb HX1b HX2b H7b H8b
          refine hK0.out _ _ HBX.out (fun _ => ?_)
          clear hK0 K0 hHeld
          have hHeld := HBX.out
          refine wpAnyH_ready (rs := [7]) (by kernel_rfl) (by simp) ?_
          refine AllReadyH.cons (by simp; rfl) (fun K0 hK0 => ?_) AllReadyH.nil
          refine step_store_row rfl 30 (.tmp 6) (.tmp 23) rfl t8b #[.int .i64 R2, .int .i64 C2, .slice X2 n2 x2, .int .i64 row2, .int .i64 col2, .bool vis2] rfl rfl 30 _ H8.out info_wview rfl (by simp [Value.oneCell']) ?_
          simp only [Act.put, List.setIfInBounds_toArray, List.set_cons_zero, List.set_cons_succ]
          have HBXb := Lib.hid (below_setRow HBX.out (by rw [HSX.out]; exact HG8.out) #[.int .i64 R2, .int .i64 C2, .slice X2 n2 x2, .int .i64 row2, .int .i64 col2, .bool vis2])
          have HX1b := Lib.hid (HX1.out.place H8.out #[.int .i64 R2, .int .i64 C2, .slice X2 n2 x2, .int .i64 row2, .int .i64 col2, .bool vis2])
          have HX2b := Lib.hid (HX2.out.place H8.out #[.int .i64 R2, .int .i64 C2, .slice X2 n2 x2, .int .i64 row2, .int .i64 col2, .bool vis2])
          have H7b := Lib.hid (((grown_setRow E6 t8b #[.int .i64 R2, .int .i64 C2, .slice X2 n2 x2, .int .i64 row2, .int .i64 col2, .bool vis2]).block t7b (lt_of_block H7.out) (by intro e; injection e with e; have := HNE.out; omega)).trans H7.out)
          have H8b := Lib.hid (setRow_heap _ _ _ #[.int .i64 R2, .int .i64 C2, .slice X2 n2 x2, .int .i64 row2, .int .i64 col2, .bool vis2] _ _ H8.out)
          clear HBX HX1 HX2 H7 H8
          generalize (E6.setRow t8b #[.int .i64 R2, .int .i64 C2, .slice X2 n2 x2, .int .i64 row2, .int .i64 col2, .bool vis2]) = E7 at HBXb HX1b HX2b H7b H8b ⊢
          have HBX := HBXb
          have HX1 := HX1b
          have HX2 := HX2b
          have H7 := H7b
          have H8 := H8b
          clear HBXb HX1b HX2b H7b H8b
          refine hK0.out _ _ HBX.out (fun _ => ?_)
          clear hK0 K0 hHeld
          have hHeld := HBX.out
          refine wpAnyH_done (by kernel_rfl) ?_ _
          go_wp2
          go_meet
          exact ⟨X1, x1, X2, x2, t7b, t8b, rfl, rfl, Lib.hid ⟨HX1.out, HX2.out, H7.out, H8.out, HUX.out.trans (HBX.out.mono HUX.out.size)⟩⟩
        · go_simp
          have hbV : Below a1.heap.size a1 (a1.alloc (.cells #[.int .i64 0, .int .i64 0, .slice none 0 0, .int .i64 0, .int .i64 0, .bool false] 30)) := (Below.refl _ _).alloc (Nat.le_refl _) _
          have H8 := Lib.hid (heap_alloc_new a1 (.cells #[.int .i64 0, .int .i64 0, .slice none 0 0, .int .i64 0, .int .i64 0, .bool false] 30))
          have HG8 := Lib.hid (show sX ≤ a1.heap.size from by rw [← HSX.out]; exact HBX.out.size)
          have HNE := Lib.hid (show t7b < a1.heap.size from lt_of_block H7.out)
          have HBX2 := Lib.hid (HBX.out.trans (hbV.mono HBX.out.size))
          clear HBX
          have HBX := HBX2
          clear HBX2
          have HX1b := Lib.hid (HX1.out.below hbV)
          clear HX1
          have HX1 := HX1b
          clear HX1b
          have H7b := Lib.hid ((hbV.block _ (lt_of_block H7.out)).trans H7.out)
          clear H7
          have H7 := H7b
          clear H7b
          clear hbV
          obtain ⟨t8b, ht⟩ : ∃ g, a1.heap.size = g := ⟨_, rfl⟩
          rw [ht] at H8 HG8 HNE ⊢
          clear ht
          generalize (a1.alloc (.cells #[.int .i64 0, .int .i64 0, .slice none 0 0, .int .i64 0, .int .i64 0, .bool false] 30)) = a2 at HBX H8 HX1 H7 ⊢
          refine hK0.out _ _ HBX.out (fun _ => ?_)
          clear hK0 K0 hHeld
          have hHeld := HBX.out
          refine wpAnyH_ready (rs := [3]) (by kernel_rfl) (by simp) ?_
          refine AllReadyH.cons (by simp; rfl) (fun K0 hK0 => ?_) AllReadyH.nil
          go_simp
          refine (as_view (HCR2.out.below (HUX.out.trans (HBX.out.mono HUX.out.size))) HL2.out HN2.out HOK2.out R2 C2 row2 col2 vis2).mono ?_
          rintro e c3 ⟨X2, x2, rfl, hcy, hbV⟩
          have HBX2 := Lib.hid (HBX.out.trans (hbV.mono HBX.out.size))
          clear HBX
          have HBX := HBX2
          clear HBX2
          have HX1b := Lib.hid (HX1.out.below hbV)
          clear HX1
          have HX1 := HX1b
          clear HX1b
          have H7b := Lib.hid ((hbV.block _ (lt_of_block H7.out)).trans H7.out)
          clear H7
          have H7 := H7b
          clear H7b
          have H8b := Lib.hid ((hbV.block _ (lt_of_block H8.out)).trans H8.out)
          clear H8
          have H8 := H8b
          clear H8b
          have HX2 := Lib.hid hcy
          clear hcy hbV
          refine hK0.out _ _ HBX.out (fun _ => ?_)
          clear hK0 K0 hHeld
          have hHeld := HBX.out
          refine wpAnyH_ready (rs := [6]) (by kernel_rfl) (by simp) ?_
          refine AllReadyH.cons (by simp; rfl) (fun K0 hK0 => ?_) AllReadyH.nil
          refine step_store_row rfl 30 (.tmp 5) (.tmp 21) rfl t7b #[.int .i64 R1, .int .i64 C1, .slice X1 n1 x1, .int .i64 row1, .int .i64 col1, .bool vis1] rfl rfl 30 _ H7.out info_wview rfl (by simp [Value.oneCell']) ?_
          simp only [Act.put, List.setIfInBounds_toArray, List.set_cons_zero, List.set_cons_succ]
          have HBXb := Lib.hid (below_setRow HBX.out (by rw [HSX.out]; exact HG7.out) #[.int .i64 R1, .int .i64 C1, .slice X1 n1 x1, .int .i64 row1, .int .i64 col1, .bool vis1])
          have HX1b := Lib.hid (HX1.out.place H7.out #[.int .i64 R1, .int .i64 C1, .slice X1 n1 x1, .int .i64 row1, .int .i64 col1, .bool vis1])
          have HX2b := Lib.hid (HX2.out.place H7.out #[.int .i64 R1, .int .i64 C1, .slice X1 n1 x1, .int .i64 row1, .int .i64 col1, .bool vis1])
          have H8b := Lib.hid (((grown_setRow c3 t7b #[.int .i64 R1, .int .i64 C1, .slice X1 n1 x1, .int .i64 row1, .int .i64 col1, .bool vis1]).block t8b (lt_of_block H8.out) (by intro e; injection e with e; have := HNE.out; omega)).trans H8.out)
          have H7b := Lib.hid (setRow_heap _ _ _ #[.int .i64 R1, .int .i64 C1, .slice X1 n1 x1, .int .i64 row1, .int .i64 col1, .bool vis1] _ _ H7.out)
          clear HBX HX1 HX2 H7 H8
          generalize (c3.setRow t7b #[.int .i64 R1, .int .i64 C1, .slice X1 n1 x1, .int .i64 row1, .int .i64 col1, .bool vis1]) = E6 at HBXb HX1b HX2b H7b H8b ⊢
          have HBX := HBXb
          have HX1 := HX1b
          have HX2 := HX2b
          have H7 := H7b
          have H8 := H8b
          clear HBXb HX1b HX2b H7b H8b
          refine hK0.out _ _ HBX.out (fun _ => ?_)
          clear hK0 K0 hHeld
          have hHeld := HBX.out
          refine wpAnyH_ready (rs := [7]) (by kernel_rfl) (by simp) ?_
          refine AllReadyH.cons (by simp; rfl) (fun K0 hK0 => ?_) AllReadyH.nil
          refine step_store_row rfl 30 (.tmp 6) (.tmp 23) rfl t8b #[.int .i64 R2, .int .i64 C2, .slice X2 n2 x2, .int .i64 row2, .int .i64 col2, .bool vis2] rfl rfl 30 _ H8.out info_wview rfl (by simp [Value.oneCell']) ?_
          simp only [Act.put, List.setIfInBounds_toArray, List.set_cons_zero, List.set_cons_succ]
          have HBXb := Lib.hid (below_setRow HBX.out (by rw [HSX.out]; exact HG8.out) #[.int .i64 R2, .int .i64 C2, .slice X2 n2 x2, .int .i64 row2, .int .i64 col2, .bool vis2])
          have HX1b := Lib.hid (HX1.out.place H8.out #[.int .i64 R2, .int .i64 C2, .slice X2 n2 x2, .int .i64 row2, .int .i64 col2, .bool vis2])
          have HX2b := Lib.hid (HX2.out.place H8.out #[.int .i64 R2, .int .i64 C2, .slice X2 n2 x2, .int .i64 row2, .int .i64 col2, .bool vis2])
          have H7b := Lib.hid (((grown_setRow E6 t8b #[.int .i64 R2, .int .i64 C2, .slice X2 n2 x2, .int .i64 row2, .int .i64 col2, .bool vis2]).block t7b (lt_of_block H7.out) (by intro e; injection e with e; have := HNE.out; omega)).trans H7.out)
          have H8b := Lib.hid (setRow_heap _ _ _ #[.int .i64 R2, .int .i64 C2, .slice X2 n2 x2, .int .i64 row2, .int .i64 col2, .bool vis2] _ _ H8.out)
          clear HBX HX1 HX2 H7 H8
          generalize (E6.setRow t8b #[.int .i64 R2, .int .i64 C2, .slice X2 n2 x2, .int .i64 row2, .int .i64 col2, .bool vis2]) = E7 at HBXb HX1b HX2b H7b H8b ⊢
          have HBX := HBXb
          have HX1 := HX1b
          have HX2 := HX2b
          have H7 := H7b
          have H8 := H8b
          clear HBXb HX1b HX2b H7b H8b
          refine hK0.out _ _ HBX.out (fun _ => ?_)
          clear hK0 K0 hHeld
          have hHeld := HBX.out
          refine wpAnyH_done (by kernel_rfl) ?_ _
          go_wp2
          go_meet
          exact ⟨X1, x1, X2, x2, t7b, t8b, rfl, rfl, Lib.hid ⟨HX1.out, HX2.out, H7.out, H8.out, HUX.out.trans (HBX.out.mono HUX.out.size)⟩⟩
      · go_simp
        have hbV : Below c0.heap.size c0 (c0.alloc (.cells #[.int .i64 0, .int .i64 0, .slice none 0 0, .int .i64 0, .int .i64 0, .bool false] 30)) := (Below.refl _ _).alloc (Nat.le_refl _) _
        have H8 := Lib.hid (heap_alloc_new c0 (.cells #[.int .i64 0, .int .i64 0, .slice none 0 0, .int .i64 0, .int .i64 0, .bool false] 30))
        have HG8 := Lib.hid (show sX ≤ c0.heap.size from by rw [← HSX.out]; exact HBX.out.size)
        have HBX2 := Lib.hid (HBX.out.trans (hbV.mono HBX.out.size))
        clear HBX
        have HBX := HBX2
        clear HBX2
        have HX1b := Lib.hid (HX1.out.below hbV)
        clear HX1
        have HX1 := HX1b
        clear HX1b
        clear hbV
        obtain ⟨t8b, ht⟩ : ∃ g, c0.heap.size = g := ⟨_, rfl⟩
        rw [ht] at H8 HG8 ⊢
        clear ht
        generalize (c0.alloc (.cells #[.int .i64 0, .int .i64 0, .slice none 0 0, .int .i64 0, .int .i64 0, .bool false] 30)) = a1 at HBX H8 HX1 ⊢
        refine hK0.out _ _ HBX.out (fun _ => ?_)
        clear hK0 K0 hHeld
        have hHeld := HBX.out
        refine wpAnyH_ready (rs := [3, 4]) (by kernel_rfl) (by simp) ?_
        refine AllReadyH.cons (by simp; rfl) (fun K0 hK0 => ?_) (AllReadyH.cons (by simp; rfl) (fun K0 hK0 => ?_) AllReadyH.nil)
        · go_simp
          refine (as_view (HCR2.out.below (HUX.out.trans (HBX.out.mono HUX.out.size))) HL2.out HN2.out HOK2.out R2 C2 row2 col2 vis2).mono ?_
          rintro e c2 ⟨X2, x2, rfl, hcy, hbV⟩
          have HBX2 := Lib.hid (HBX.out.trans (hbV.mono HBX.out.size))
          clear HBX
          have HBX := HBX2
          clear HBX2
          have HX1b := Lib.hid (HX1.out.below hbV)
          clear HX1
          have HX1 := HX1b
          clear HX1b
          have H8b := Lib.hid ((hbV.block _ (lt_of_block H8.out)).trans H8.out)
          clear H8
          have H8 := H8b
          clear H8b
          have HX2 := Lib.hid hcy
          clear hcy hbV
          refine hK0.out _ _ HBX.out (fun _ => ?_)
          clear hK0 K0 hHeld
          have hHeld := HBX.out
          refine wpAnyH_ready (rs := [4]) (by kernel_rfl) (by simp) ?_
          refine AllReadyH.cons (by simp; rfl) (fun K0 hK0 => ?_) AllReadyH.nil
          go_simp
          have hbV : Below c2.heap.size c2 (c2.alloc (.cells #[.int .i64 0, .int .i64 0, .slice none 0 0, .int .i64 0, .int .i64 0, .bool false] 30)) := (Below.refl _ _).alloc (Nat.le_refl _) _
          have H7 := Lib.hid (heap_alloc_new c2 (.cells #[.int .i64 0, .int .i64 0, .slice none 0 0, .int .i64 0, .int .i64 0, .bool false] 30))
          have HG7 := Lib.hid (show sX ≤ c2.heap.size from by rw [← HSX.out]; exact HBX.out.size)
          have HNE := Lib.hid (show t8b < c2.heap.size from lt_of_block H8.out)
          have HBX2 := Lib.hid (HBX.out.trans (hbV.mono HBX.out.size))
          clear HBX
          have HBX := HBX2
          clear HBX2
          have HX1b := Lib.hid (HX1.out.below hbV)
          clear HX1
          have HX1 := HX1b
          clear HX1b
          have HX2b := Lib.hid (HX2.out.below hbV)
          clear HX2
          have HX2 := HX2b
          clear HX2b
          have H8b := Lib.hid ((hbV.block _ (lt_of_block H8.out)).trans H8.out)
          clear H8
          have H8 := H8b
          clear H8b
          clear hbV
          obtain ⟨t7b, ht⟩ : ∃ g, c2.heap.size = g := ⟨_, rfl⟩
          rw [ht] at H7 HG7 HNE ⊢
          clear ht
          generalize (c2.alloc (.cells #[.int .i64 0, .int .i64 0, .slice none 0 0, .int .i64 0, .int .i64 0, .bool false] 30)) = a3 at HBX H7 HX1 HX2 H8 ⊢
          refine hK0.out _ _ HBX.out (fun _ => ?_)
          clear hK0 K0 hHeld
          have hHeld := HBX.out
          refine wpAnyH_ready (rs := [6]) (by kernel_rfl) (by simp) ?_
          refine AllReadyH.cons (by simp; rfl) (fun K0 hK0 => ?_) AllReadyH.nil
          refine step_store_row rfl 30 (.tmp 5) (.tmp 21) rfl t7b #[.int .i64 R1, .int .i64 C1, .slice X1 n1 x1, .int .i64 row1, .int .i64 col1, .bool vis1] rfl rfl 30 _ H7.out info_wview rfl (by simp [Value.oneCell']) ?_
          simp only [Act.put, List.setIfInBounds_toArray, List.set_cons_zero, List.set_cons_succ]
          have HBXb := Lib.hid (below_setRow HBX.out (by rw [HSX.out]; exact HG7.out) #[.int .i64 R1, .int .i64 C1, .slice X1 n1 x1, .int .i64 row1, .int .i64 col1, .bool vis1])
          have HX1b := Lib.hid (HX1.out.place H7.out #[.int .i64 R1, .int .i64 C1, .slice X1 n1 x1, .int .i64 row1, .int .i64 col1, .bool vis1])
          have HX2b := Lib.hid (HX2.out.place H7.out #[.int .i64 R1, .int .i64 C1, .slice X1 n1 x1, .int .i64 row1, .int .i64 col1, .bool vis1])
          have H8b := Lib.hid (((grown_setRow a3 t7b #[.int .i64 R1, .int .i64 C1, .slice X1 n1 x1, .int .i64 row1, .int .i64 col1, .bool vis1]).block t8b (lt_of_block H8.out) (by intro e; injection e with e; have := HNE.out; omega)).trans H8.out)
          have H7b := Lib.hid (setRow_heap _ _ _ #[.int .i64 R1, .int .i64 C1, .slice X1 n1 x1, .int .i64 row1, .int .i64 col1, .bool vis1] _ _ H7.out)
          clear HBX HX1 HX2 H7 H8
          generalize (a3.setRow t7b #[.int .i64 R1, .int .i64 C1, .slice X1 n1 x1, .int .i64 row1, .int .i64 col1, .bool vis1]) = E6 at HBXb HX1b HX2b H7b H8b ⊢
          have HBX := HBXb
          have HX1 := HX1b
          have HX2 := HX2b
          have H7 := H7b
          have H8 := H8b
          clear HBXb HX1b HX2b H7b H8b
          refine hK0.out _ _ HBX.out (fun _ => ?_)
          clear hK0 K0 hHeld
          have hHeld := HBX.out
          refine wpAnyH_ready (rs := [7]) (by kernel_rfl) (by simp) ?_
          refine AllReadyH.cons (by simp; rfl) (fun K0 hK0 => ?_) AllReadyH.nil
          refine step_store_row rfl 30 (.tmp 6) (.tmp 23) rfl t8b #[.int .i64 R2, .int .i64 C2, .slice X2 n2 x2, .int .i64 row2, .int .i64 col2, .bool vis2] rfl rfl 30 _ H8.out info_wview rfl (by simp [Value.oneCell']) ?_
          simp only [Act.put, List.setIfInBounds_toArray, List.set_cons_zero, List.set_cons_succ]
          have HBXb := Lib.hid (below_setRow HBX.out (by rw [HSX.out]; exact HG8.out) #[.int .i64 R2, .int .i64 C2, .slice X2 n2 x2, .int .i64 row2, .int .i64 col2, .bool vis2])
          have HX1b := Lib.hid (HX1.out.place H8.out #[.int .i64 R2, .int .i64 C2, .slice X2 n2 x2, .int .i64 row2, .int .i64 col2, .bool vis2])
          have HX2b := Lib.hid (HX2.out.place H8.out #[.int .i64 R2, .int .i64 C2, .slice X2 n2 x2, .int .i64 row2, .int .i64 col2, .bool vis2])
          have H7b := Lib.hid (((grown_setRow E6 t8b #[.int .i64 R2, .int .i64 C2, .slice X2 n2 x2, .int .i64 row2, .int .i64 col2, .bool vis2]).block t7b (lt_of_block H7.out) (by intro e; injection e with e; have := HNE.out; omega)).trans H7.out)
          have H8b := Lib.hid (setRow_heap _ _ _ #[.int .i64 R2, .int .i64 C2, .slice X2 n2 x2, .int .i64 row2, .int .i64 col2, .bool vis2] _ _ H8.out)
          clear HBX HX1 HX2 H7 H8
          generalize (E6.setRow t8b #[.int .i64 R2, .int .i64 C2, .slice X2 n2 x2, .int .i64 row2, .int .i64 col2, .bool vis2]) = E7 at HBXb HX1b HX2b H7b H8b ⊢
          have HBX := HBXb
          have HX1 := HX1b
          have HX2 := HX2b
          have H7 := H7b
          have H8 := H8b
          clear HBXb HX1b HX2b H7b H8b
          refine hK0.out _ _ HBX.out (fun _ => ?_)
          clear hK0 K0 hHeld
          have hHeld := HBX.out
          refine wpAnyH_done (by kernel_rfl) ?_ _
          go_wp2
          go_meet
          exact ⟨X1, x1, X2, x2, t7b, t8b, rfl, rfl, Lib.hid ⟨HX1.out, HX2.out, H7.out, H8.out, HUX.out.trans (HBX.out.mono HUX.out.size)⟩⟩
        · go_simp
          have hbV : Below a1.heap.size a1 (a1.alloc (.cells #[.int .i64 0, .int .i64 0, .slice none 0 0, .int .i64 0, .int .i64 0, .bool false] 30)) := (Below.refl _ _).alloc (Nat.le_refl _) _
          have H7 := Lib.hid (heap_alloc_new a1 (.cells #[.int .i64 0, .int .i64 0, .slice none 0 0, .int .i64 0, .int .i64 0, .bool false] 30))
          have HG7 := Lib.hid (show sX ≤ a1.heap.size from by rw [← HSX.out]; exact HBX.out.size)
          have HNE := Lib.hid (show t8b < a1.heap.size from lt_of_block H8.out)
          have HBX2 := Lib.hid (HBX.out.trans (hbV.mono HBX.out.size))
          clear HBX
          have HBX := HBX2
          clear HBX2
          have HX1b := Lib.hid (HX1.out.below hbV)
          clear HX1
          have HX1 := HX1b
          clear HX1b
          have H8b := Lib.hid ((hbV.block _ (lt_of_block H8.out)).trans H8.out)
          clear H8
          have H8 := H8b
          clear H8b
          clear hbV
          obtain ⟨t7b, ht⟩ : ∃ g, a1.heap.size = g := ⟨_, rfl⟩
          rw [ht] at H7 HG7 HNE ⊢
          clear ht
          generalize (a1.alloc (.cells #[.int .i64 0, .int .i64 0, .slice none 0 0, .int .i64 0, .int .i64 0, .bool false] 30)) = a2 at HBX H7 HX1 H8 ⊢
          refine hK0.out _ _ HBX.out (fun _ => ?_)
          clear hK0 K0 hHeld
          have hHeld := HBX.out
          refine wpAnyH_ready (rs := [3]) (by kernel_rfl) (by simp) ?_
          refine AllReadyH.cons (by simp; rfl) (fun K0 hK0 => ?_) AllReadyH.nil
          go_simp
          refine (as_view (HCR2.out.below (HUX.out.trans (HBX.out.mono HUX.out.size))) HL2.out HN2.out HOK2.out R2 C2 row2 col2 vis2).mono ?_
          rintro e c3 ⟨X2, x2, rfl, hcy, hbV⟩
          have HBX2 := Lib.hid (HBX.out.trans (hbV.mono HBX.out.size))
          clear HBX
          have HBX := HBX2
          clear HBX2
          have HX1b := Lib.hid (HX1.out.below hbV)
          clear HX1
          have HX1 := HX1b
          clear HX1b
          have H7b := Lib.hid ((hbV.block _ (lt_of_block H7.out)).trans H7.out)
          clear H7
          have H7 := H7b
          clear H7b
          have H8b := Lib.hid ((hbV.block _ (lt_of_block H8.out)).trans H8.out)
          clear H8
          have H8 := H8b
          clear H8b
          have HX2 := Lib.hid hcy
          clear hcy hbV
          refine hK0.out _ _ HBX.out (fun _ => ?_)
          clear hK0 K0 hHeld
          have hHeld := HBX.out
          refine wpAnyH_ready (rs := [6]) (by kernel_rfl) (by simp) ?_
          refine AllReadyH.cons (by simp; rfl) (fun K0 hK0 => ?_) AllReadyH.nil
          refine step_store_row rfl 30 (.tmp 5) (.tmp 21) rfl t7b #[.int .i64 R1, .int .i64 C1, .slice X1 n1 x1, .int .i64 row1, .int .i64 col1, .bool vis1] rfl rfl 30 _ H7.out info_wview rfl (by simp [Value.oneCell']) ?_
          simp only [Act.put, List.setIfInBounds_toArray, List.set_cons_zero, List.set_cons_succ]
          have HBXb := Lib.hid (below_setRow HBX.out (by rw [HSX.out]; exact HG7.out) #[.int .i64 R1, .int .i64 C1, .slice X1 n1 x1, .int .i64 row1, .int .i64 col1, .bool vis1])
          have HX1b := Lib.hid (HX1.out.place H7.out #[.int .i64 R1, .int .i64 C1, .slice X1 n1 x1, .int .i64 row1, .int .i64 col1, .bool vis1])
          have HX2b := Lib.hid (HX2.out.place H7.out #[.int .i64 R1, .int .i64 C1, .slice X1 n1 x1, .int .i64 row1, .int .i64 col1, .bool vis1])
          have H8b := Lib.hid (((grown_setRow c3 t7b #[.int .i64 R1, .int .i64 C1, .slice X1 n1 x1, .int .i64 row1, .int .i64 col1, .bool vis1]).block t8b (lt_of_block H8.out) (by intro e; injection e with e; have := HNE.out; omega)).trans H8.out)
          have H7b := Lib.hid (setRow_heap _ _ _ #[.int .i64 R1, .int .i64 C1, .slice X1 n1 x1, .int .i64 row1, .int .i64 col1, .bool vis1] _ _ H7.out)
          clear HBX HX1 HX2 H7 H8
          generalize (c3.setRow t7b #[.int .i64 R1, .int .i64 C1, .slice X1 n1 x1, .int .i64 row1, .int .i64 col1, .bool vis1]) = E6 at HBXb HX1b HX2b H7b H8b ⊢
          have HBX := HBXb
          have HX1 := HX1b
          have HX2 := HX2b
          have H7 := H7b
          have H8 := H8b
          clear HBXb HX1b HX2b H7b H8b
          refine hK0.out _ _ HBX.out (fun _ => ?_)
          clear hK0 K0 hHeld
          have hHeld := HBX.out
          refine wpAnyH_ready (rs := [7]) (by kernel_rfl) (by simp) ?_
          refine AllReadyH.cons (by simp; rfl) (fun K0 hK0 => ?_) AllReadyH.nil
          refine step_store_row rfl 30 (.tmp 6) (.tmp 23) rfl t8b #[.int .i64 R2, .int .i64 C2, .slice X2 n2 x2, .int .i64 row2, .int .i64 col2, .bool vis2] rfl rfl 30 _ H8.out info_wview rfl (by simp [Value.oneCell']) ?_
          simp only [Act.put, List.setIfInBounds_toArray, List.set_cons_zero, List.set_cons_succ]
          have HBXb := Lib.hid (below_setRow HBX.out (by rw [HSX.out]; exact HG8.out) #[.int .i64 R2, .int .i64 C2, .slice X2 n2 x2, .int .i64 row2, .int .i64 col2, .bool vis2])
          have HX1b := Lib.hid (HX1.out.place H8.out #[.int .i64 R2, .int .i64 C2, .slice X2 n2 x2, .int .i64 row2, .int .i64 col2, .bool vis2])
          have HX2b := Lib.hid (HX2.out.place H8.out #[.int .i64 R2, .int .i64 C2, .slice X2 n2 x2, .int .i64 row2, .int .i64 col2, .bool vis2])
          have H7b := Lib.hid (((grown_setRow E6 t8b #[.int .i64 R2, .int .i64 C2, .slice X2 n2 x2, .int .i64 row2, .int .i64 col2, .bool vis2]).block t7b (lt_of_block H7.out) (by intro e; injection e with e; have := HNE.out; omega)).trans H7.out)
          have H8b := Lib.hid (setRow_heap _ _ _ #[.int .i64 R2, .int .i64 C2, .slice X2 n2 x2, .int .i64 row2, .int .i64 col2, .bool vis2] _ _ H8.out)
          clear HBX HX1 HX2 H7 H8
          generalize (E6.setRow t8b #[.int .i64 R2, .int .i64 C2, .slice X2 n2 x2, .int .i64 row2, .int .i64 col2, .bool vis2]) = E7 at HBXb HX1b HX2b H7b H8b ⊢
          have HBX := HBXb
          have HX1 := HX1b
          have HX2 := HX2b
          have H7 := H7b
          have H8 := H8b
          clear HBXb HX1b HX2b H7b H8b
          refine hK0.out _ _ HBX.out (fun _ => ?_)
          clear hK0 K0 hHeld
          have hHeld := HBX.out
          refine wpAnyH_done (by kernel_rfl) ?_ _
          go_wp2
          go_meet
          exact ⟨X1, x1, X2, x2, t7b, t8b, rfl, rfl, Lib.hid ⟨HX1.out, HX2.out, H7.out, H8.out, HUX.out.trans (HBX.out.mono HUX.out.size)⟩⟩
    · go_simp
      have hbV : Below X.heap.size X (X.alloc (.cells #[.int .i64 0, .int .i64 0, .slice none 0 0, .int .i64 0, .int .i64 0, .bool false] 30)) := (Below.refl _ _).alloc (Nat.le_refl _) _
      have H7 := Lib.hid (heap_alloc_new X (.cells #[.int .i64 0, .int .i64 0, .slice none 0 0, .int .i64 0, .int .i64 0, .bool false] 30))
      have HG7 := Lib.hid (show sX ≤ X.heap.size from by rw [← HSX.out]; exact HBX.out.size)
      have HBX2 := Lib.hid (HBX.out.trans (hbV.mono HBX.out.size))
      clear HBX
      have HBX := HBX2
      clear HBX2
      clear hbV
      obtain ⟨t7b, ht⟩ : ∃ g, X.heap.size = g := ⟨_, rfl⟩
      rw [ht] at H7 HG7 ⊢
      clear ht
      generalize (X.alloc (.cells #[.int .i64 0, .int .i64 0, .slice none 0 0, .int .i64 0, .int .i64 0, .bool false] 30)) = a0 at HBX H7 ⊢
      refine hK0.out _ _ HBX.out (fun _ => ?_)
      clear hK0 K0 hHeld
      have hHeld := HBX.out
      refine wpAnyH_ready (rs := [1, 5]) (by kernel_rfl) (by simp) ?_
      refine AllReadyH.cons (by simp; rfl) (fun K0 hK0 => ?_) (AllReadyH.cons (by simp; rfl) (fun K0 hK0 => ?_) AllReadyH.nil)
      · go_simp
        refine (as_view (HCR1.out.below (HUX.out.trans (HBX.out.mono HUX.out.size))) HL1.out HN1.out HOK1.out R1 C1 row1 col1 vis1).mono ?_
        rintro e c1 ⟨X1, x1, rfl, hcy, hbV⟩
        have HBX2 := Lib.hid (HBX.out.trans (hbV.mono HBX.out.size))
        clear HBX
        have HBX := HBX2
        clear HBX2
        have H7b := Lib.hid ((hbV.block _ (lt_of_block H7.out)).trans H7.out)
        clear H7
        have H7 := H7b
        clear H7b
        have HX1 := Lib.hid hcy
        clear hcy hbV
        refine hK0.out _ _ HBX.out (fun _ => ?_)
        clear hK0 K0 hHeld
        have hHeld := HBX.out
        refine wpAnyH_ready (rs := [3, 5]) (by kernel_rfl) (by simp) ?_
        refine AllReadyH.cons (by simp; rfl) (fun K0 hK0 => ?_) (AllReadyH.cons (by simp; rfl) (fun K0 hK0 => ?_) AllReadyH.nil)
        · go_simp
          refine (as_view (HCR2.out.below (HUX.out.trans (HBX.out.mono HUX.out.size))) HL2.out HN2.out HOK2.out R2 C2 row2 col2 vis2).mono ?_
          rintro e c2 ⟨X2, x2, rfl, hcy, hbV⟩
          have HBX2 := Lib.hid (HBX.out.trans (hbV.mono HBX.out.size))
          clear HBX
          have HBX := HBX2
          clear HBX2
          have HX1b := Lib.hid (HX1.out.below hbV)
          clear HX1
          have HX1 := HX1b
          clear HX1b
          have H7b := Lib.hid ((hbV.block _ (lt_of_block H7.out)).trans H7.out)
          clear H7
          have H7 := H7b
          clear H7b
          have HX2 := Lib.hid hcy
          clear hcy hbV
          refine hK0.out _ _ HBX.out (fun _ => ?_)
          clear hK0 K0 hHeld
          have hHeld := HBX.out
          refine wpAnyH_ready (rs := [5]) (by kernel_rfl) (by simp) ?_
          refine AllReadyH.cons (by simp; rfl) (fun K0 hK0 => ?_) AllReadyH.nil
          go_simp
          have hbV : Below c2.heap.size c2 (c2.alloc (.cells #[.int .i64 0, .int .i64 0, .slice none 0 0, .int .i64 0, .int .i64 0, .bool false] 30)) := (Below.refl _ _).alloc (Nat.le_refl _) _
          have H8 := Lib.hid (heap_alloc_new c2 (.cells #[.int .i64 0, .int .i64 0, .slice none 0 0, .int .i64 0, .int .i64 0, .bool false] 30))
          have HG8 := Lib.hid (show sX ≤ c2.heap.size from by rw [← HSX.out]; exact HBX.out.size)
          have HNE := Lib.hid (show t7b < c2.heap.size from lt_of_block H7.out)
          have HBX2 := Lib.hid (HBX.out.trans (hbV.mono HBX.out.size))
          clear HBX
          have HBX := HBX2
          clear HBX2
          have HX1b := Lib.hid (HX1.out.below hbV)
          clear HX1
          have HX1 := HX1b
          clear HX1b
          have HX2b := Lib.hid (HX2.out.below hbV)
          clear HX2
          have HX2 := HX2b
          clear HX2b
          have H7b := Lib.hid ((hbV.block _ (lt_of_block H7.out)).trans H7.out)
          clear H7
          have H7 := H7b
          clear H7b
          clear hbV
          obtain ⟨t8b, ht⟩ : ∃ g, c2.heap.size = g := ⟨_, rfl⟩
          rw [ht] at H8 HG8 HNE ⊢
          clear ht
          generalize (c2.alloc (.cells #[.int .i64 0, .int .i64 0, .slice none 0 0, .int .i64 0, .int .i64 0, .bool false] 30)) = a3 at HBX H8 HX1 HX2 H7 ⊢
          refine hK0.out _ _ HBX.out (fun _ => ?_)
          clear hK0 K0 hHeld
          have hHeld := HBX.out
          refine wpAnyH_ready (rs := [6]) (by kernel_rfl) (by simp) ?_
          refine AllReadyH.cons (by simp; rfl) (fun K0 hK0 => ?_) AllReadyH.nil
          refine step_store_row rfl 30 (.tmp 5) (.tmp 21) rfl t7b #[.int .i64 R1, .int .i64 C1, .slice X1 n1 x1, .int .i64 row1, .int .i64 col1, .bool vis1] rfl rfl 30 _ H7.out info_wview rfl (by simp [Value.oneCell']) ?_
          simp only [Act.put, List.setIfInBounds_toArray, List.set_cons_zero, List.set_cons_succ]
          have HBXb := Lib.hid (below_setRow HBX.out (by rw [HSX.out]; exact HG7.out) #[.int .i64 R1, .int .i64 C1, .slice X1 n1 x1, .int .i64 row1, .int .i64 col1, .bool vis1])
          have HX1b := Lib.hid (HX1.out.place H7.out #[.int .i64 R1, .int .i64 C1, .slice X1 n1 x1, .int .i64 row1, .int .i64 col1, .bool vis1])
          have HX2b := Lib.hid (HX2.out.place H7.out #[.int .i64 R1, .int .i64 C1, .slice X1 n1 x1, .int .i64 row1, .int .i64 col1, .bool vis1])
          have H8b := Lib.hid (((grown_setRow a3 t7b #[.int .i64 R1, .int .i64 C1, .slice X1 n1 x1, .int .i64 row1, .int .i64 col1, .bool vis1]).block t8b (lt_of_block H8.out) (by intro e; injection e with e; have := HNE.out; omega)).trans H8.out)
          have H7b := Lib.hid (setRow_heap _ _ _ #[.int .i64 R1, .int .i64 C1, .slice X1 n1 x1, .int .i64 row1, .int .i64 col1, .bool vis1] _ _ H7.out)
          clear HBX HX1 HX2 H7 H8
          generalize (a3.setRow t7b #[.int .i64 R1, .int .i64 C1, .slice X1 n1 x1, .int .i64 row1, .int .i64 col1, .bool vis1]) = E6 at HBXb HX1b HX2b H7b H8b ⊢
          have HBX := HBXb
          have HX1 := HX1b
          have HX2 := HX2b
          have H7 := H7b
          have H8 := H8b
          clear HBXb HX1b HX2b H7b H8b
          refine hK0.out _ _ HBX.out (fun _ => ?_)
          clear hK0 K0 hHeld
          have hHeld := HBX.out
          refine wpAnyH_ready (rs := [7]) (by kernel_rfl) (by simp) ?_
          refine AllReadyH.cons (by simp; rfl) (fun K0 hK0 => ?_) AllReadyH.nil
          refine step_store_row rfl 30 (.tmp 6) (.tmp 23) rfl t8b #[.int .i64 R2, .int .i64 C2, .slice X2 n2 x2, .int .i64 row2, .int .i64 col2, .bool vis2] rfl rfl 30 _ H8.out info_wview rfl (by simp [Value.oneCell']) ?_
          simp only [Act.put, List.setIfInBounds_toArray, List.set_cons_zero, List.set_cons_succ]
          have HBXb := Lib.hid (below_setRow HBX.out (by rw [HSX.out]; exact HG8.out) #[.int .i64 R2, .int .i64 C2, .slice X2 n2 x2, .int .i64 row2, .int .i64 col2, .bool vis2])
          have HX1b := Lib.hid (HX1.out.place H8.out #[.int .i64 R2, .int .i64 C2, .slice X2 n2 x2, .int .i64 row2, .int .i64 col2, .bool vis2])
          have HX2b := Lib.hid (HX2.out.place H8.out #[.int .i64 R2, .int .i64 C2, .slice X2 n2 x2, .int .i64 row2, .int .i64 col2, .bool vis2])
          have H7b := Lib.hid (((grown_setRow E6 t8b #[.int .i64 R2, .int .i64 C2, .slice X2 n2 x2, .int .i64 row2, .int .i64 col2, .bool vis2]).block t7b (lt_of_block H7.out) (by intro e; injection e with e; have := HNE.out; omega)).trans H7.out)
          have H8b := Lib.hid (setRow_heap _ _ _ #[.int .i64 R2, .int .i64 C2, .slice X2 n2 x2, .int .i64 row2, .int .i64 col2, .bool vis2] _ _ H8.out)
          clear HBX HX1 HX2 H7 H8
          generalize (E6.setRow t8b #[.int .i64 R2, .int .i64 C2, .slice X2 n2 x2, .int .i64 row2, .int .i64 col2, .bool vis2]) = E7 at HBXb HX1b HX2b H7b H8b ⊢
          have HBX := HBXb
          have HX1 := HX1b
          have HX2 := HX2b
          have H7 := H7b
          have H8 := H8b
          clear HBXb HX1b HX2b H7b H8b
          refine hK0.out _ _ HBX.out (fun _ => ?_)
          clear hK0 K0 hHeld
          have hHeld := HBX.out
          refine wpAnyH_done (by kernel_rfl) ?_ _
          go_wp2
          go_meet
          exact ⟨X1, x1, X2, x2, t7b, t8b, rfl, rfl, Lib.hid ⟨HX1.out, HX2.out, H7.out, H8.out, HUX.out.trans (HBX.out.mono HUX.out.size)⟩⟩
        · go_simp
          have hbV : Below c1.heap.size c1 (c1.alloc (.cells #[.int .i64 0, .int .i64 0, .slice none 0 0, .int .i64 0, .int .i64 0, .bool false] 30)) := (Below.refl _ _).alloc (Nat.le_refl _) _
          have H8 := Lib.hid (heap_alloc_new c1 (.cells #[.int .i64 0, .int .i64 0, .slice none 0 0, .int .i64 0, .int .i64 0, .bool false] 30))
          have HG8 := Lib.hid (show sX ≤ c1.heap.size from by rw [← HSX.out]; exact HBX.out.size)
          have HNE := Lib.hid (show t7b < c1.heap.size from lt_of_block H7.out)
          have HBX2 := Lib.hid (HBX.out.trans (hbV.mono HBX.out.size))
          clear HBX
          have HBX := HBX2
          clear HBX2
          have HX1b := Lib.hid (HX1.out.below hbV)
          clear HX1
          have HX1 := HX1b
          clear HX1b
          have H7b := Lib.hid ((hbV.block _ (lt_of_block H7.out)).trans H7.out)
          clear H7
          have H7 := H7b
          clear H7b
          clear hbV
          obtain ⟨t8b, ht⟩ : ∃ g, c1.heap.size = g := ⟨_, rfl⟩
          rw [ht] at H8 HG8 HNE ⊢
          clear ht
          generalize (c1.alloc (.cells #[.int .i64 0, .int .i64 0, .slice none 0 0, .int .i64 0, .int .i64 0, .bool false] 30)) = a2 at HBX H8 HX1 H7 ⊢
          refine hK0.out _ _ HBX.out (fun _ => ?_)
          clear hK0 K0 hHeld
          have hHeld := HBX.out
          refine wpAnyH_ready (rs := [3]) (by kernel_rfl) (by simp) ?_
          refine AllReadyH.cons (by simp; rfl) (fun K0 hK0 => ?_) AllReadyH.nil
          go_simp
          refine (as_view (HCR2.out.below (HUX.out.trans (HBX.out.mono HUX.out.size))) HL2.out HN2.out HOK2.out R2 C2 row2 col2 vis2).mono ?_
          rintro e c3 ⟨X2, x2, rfl, hcy, hbV⟩
          have HBX2 := Lib.hid (HBX.out.trans (hbV.mono HBX.out.size))
          clear HBX
          have HBX := HBX2
          clear HBX2
          have HX1b := Lib.hid (HX1.out.below hbV)
          clear HX1
          have HX1 := HX1b
          clear HX1b
          have H7b := Lib.hid ((hbV.block _ (lt_of_block H7.out)).trans H7.out)
          clear H7
          have H7 := H7b
          clear H7b
          have H8b := Lib.hid ((hbV.block _ (lt_of_block H8.out)).trans H8.out)
          clear H8
          have H8 := H8b
          clear H8b
          have HX2 := Lib.hid hcy
          clear hcy hbV
          refine hK0.out _ _ HBX.out (fun _ => ?_)
          clear hK0 K0 hHeld
          have hHeld := HBX.out
          refine wpAnyH_ready (rs := [6]) (by kernel_rfl) (by simp) ?_
          refine AllReadyH.cons (by simp; rfl) (fun K0 hK0 => ?_) AllReadyH.nil
          refine step_store_row rfl 30 (.tmp 5) (.tmp 21) rfl t7b #[.int .i64 R1, .int .i64 C1, .slice X1 n1 x1, .int .i64 row1, .int .i64 col1, .bool vis1] rfl rfl 30 _ H7.out info_wview rfl (by simp [Value.oneCell']) ?_
          simp only [Act.put, List.setIfInBounds_toArray, List.set_cons_zero, List.set_cons_succ]
          have HBXb := Lib.hid (below_setRow HBX.out (by rw [HSX.out]; exact HG7.out) #[.int .i64 R1, .int .i64 C1, .slice X1 n1 x1, .int .i64 row1, .int .i64 col1, .bool vis1])
          have HX1b := Lib.hid (HX1.out.place H7.out #[.int .i64 R1, .int .i64 C1, .slice X1 n1 x1, .int .i64 row1, .int .i64 col1, .bool vis1])
          have HX2b := Lib.hid (HX2.out.place H7.out #[.int .i64 R1, .int .i64 C1, .slice X1 n1 x1, .int .i64 row1, .int .i64 col1, .bool vis1])
          have H8b := Lib.hid (((grown_setRow c3 t7b #[.int .i64 R1, .int .i64 C1, .slice X1 n1 x1, .int .i64 row1, .int .i64 col1, .bool vis1]).block t8b (lt_of_block H8.out) (by intro e; injection e with e; have := HNE.out; omega)).trans H8.out)
          have H7b := Lib.hid (setRow_heap _ _ _ #[.int .i64 R1, .int .i64 C1, .slice X1 n1 x1, .int .i64 row1, .int .i64 col1, .bool vis1] _ _ H7.out)
          clear HBX HX1 HX2 H7 H8
          generalize (c3.setRow t7b #[.int .i64 R1, .int .i64 C1, .slice X1 n1 x1, .int .i64 row1, .int .i64 col1, .bool vis1]) = E6 at HBXb HX1b HX2b H7b H8b ⊢
          have HBX := HBXb
          have HX1 := HX1b
          have HX2 := HX2b
          have H7 := H7b
          have H8 := H8b
          clear HBXb HX1b HX2b H7b H8b
          refine hK0.out _ _ HBX.out (fun _ => ?_)
          clear hK0 K0 hHeld
          have hHeld := HBX.out
          refine wpAnyH_ready (rs := [7]) (by kernel_rfl) (by simp) ?_
          refine AllReadyH.cons (by simp; rfl) (fun K0 hK0 => ?_) AllReadyH.nil
          refine step_store_row rfl 30 (.tmp 6) (.tmp 23) rfl t8b #[.int .i64 R2, .int .i64 C2, .slice X2 n2 x2, .int .i64 row2, .int .i64 col2, .bool vis2] rfl rfl 30 _ H8.out info_wview rfl (by simp [Value.oneCell']) ?_
          simp only [Act.put, List.setIfInBounds_toArray, List.set_cons_zero, List.set_cons_succ]
          have HBXb := Lib.hid (below_setRow HBX.out (by rw [HSX.out]; exact HG8.out) #[.int .i64 R2, .int .i64 C2, .slice X2 n2 x2, .int .i64 row2, .int .i64 col2, .bool vis2])
          have HX1b := Lib.hid (HX1.out.place H8.out #[.int .i64 R2, .int .i64 C2, .slice X2 n2 x2, .int .i64 row2, .int .i64 col2, .bool vis2])
          have HX2b := Lib.hid (HX2.out.place H8.out #[.int .i64 R2, .int .i64 C2, .slice X2 n2 x2, .int .i64 row2, .int .i64 col2, .bool vis2])
          have H7b := Lib.hid (((grown_setRow E6 t8b #[.int .i64 R2, .int .i64 C2, .slice X2 n2 x2, .int .i64 row2, .int .i64 col2, .bool vis2]).block t7b (lt_of_block H7.out) (by intro e; injection e with e; have := HNE.out; omega)).trans H7.out)
          have H8b := Lib.hid (setRow_heap _ _ _ #[.int .i64 R2, .int .i64 C2, .slice X2 n2 x2, .int .i64 row2, .int .i64 col2, .bool vis2] _ _ H8.out)
          clear HBX HX1 HX2 H7 H8
          generalize (E6.setRow t8b #[.int .i64 R2, .int .i64 C2, .slice X2 n2 x2, .int .i64 row2, .int .i64 col2, .bool vis2]) = E7 at HBXb HX1b HX2b H7b H8b ⊢
          have HBX := HBXb
          have HX1 := HX1b
          have HX2 := HX2b
          have H7 := H7b
          have H8 := H8b
          clear HBXb HX1b HX2b H7b H8b
          refine hK0.out _ _ HBX.out (fun _ => ?_)
          clear hK0 K0 hHeld
          have hHeld := HBX.out
          refine wpAnyH_done (by kernel_rfl) ?_ _
          go_wp2
          go_meet
          exact ⟨X1, x1, X2, x2, t7b, t8b, rfl, rfl, Lib.hid ⟨HX1.out, HX2.out, H7.out, H8.out, HUX.out.trans (HBX.out.mono HUX.out.size)⟩⟩
      · go_simp
        have hbV : Below a0.heap.size a0 (a0.alloc (.cells #[.int .i64 0, .int .i64 0, .slice none 0 0, .int .i64 0, .int .i64 0, .bool false] 30)) := (Below.refl _ _).alloc (Nat.le_refl _) _
        have H8 := Lib.hid (heap_alloc_new a0 (.cells #[.int .i64 0, .int .i64 0, .slice none 0 0, .int .i64 0, .int .i64 0, .bool false] 30))
        have HG8 := Lib.hid (show sX ≤ a0.heap.size from by rw [← HSX.out]; exact HBX.out.size)
        have HNE := Lib.hid (show t7b < a0.heap.size from lt_of_block H7.out)
        have HBX2 := Lib.hid (HBX.out.trans (hbV.mono HBX.out.size))
        clear HBX
        have HBX := HBX2
        clear HBX2
        have H7b := Lib.hid ((hbV.block _ (lt_of_block H7.out)).trans H7.out)
        clear H7
        have H7 := H7b
        clear H7b
        clear hbV
        obtain ⟨t8b, ht⟩ : ∃ g, a0.heap.size = g := ⟨_, rfl⟩
        rw [ht] at H8 HG8 HNE ⊢
        clear ht
        generalize (a0.alloc (.cells #[.int .i64 0, .int .i64 0, .slice none 0 0, .int .i64 0, .int .i64 0, .bool false] 30)) = a1 at HBX H8 H7 ⊢
        refine hK0.out _ _ HBX.out (fun _ => ?_)
        clear hK0 K0 hHeld
        have hHeld := HBX.out
        refine wpAnyH_ready (rs := [1]) (by kernel_rfl) (by simp) ?_
        refine AllReadyH.cons (by simp; rfl) (fun K0 hK0 => ?_) AllReadyH.nil
        go_simp
        refine (as_view (HCR1.out.below (HUX.out.trans (HBX.out.mono HUX.out.size))) HL1.out HN1.out HOK1.out R1 C1 row1 col1 vis1).mono ?_
        rintro e c2 ⟨X1, x1, rfl, hcy, hbV⟩
        have HBX2 := Lib.hid (HBX.out.trans (hbV.mono HBX.out.size))
        clear HBX
        have HBX := HBX2
        clear HBX2
        have H7b := Lib.hid ((hbV.block _ (lt_of_block H7.out)).trans H7.out)
        clear H7
        have H7 := H7b
        clear H7b
        have H8b := Lib.hid ((hbV.block _ (lt_of_block H8.out)).trans H8.out)
        clear H8
        have H8 := H8b
        clear H8b
        have HX1 := Lib.hid hcy
        clear hcy hbV
        refine hK0.out _ _ HBX.out (fun _ => ?_)
        clear hK0 K0 hHeld
        have hHeld := HBX.out
        refine wpAnyH_ready (rs := [3]) (by kernel_rfl) (by simp) ?_
        refine AllReadyH.cons (by simp; rfl) (fun K0 hK0 => ?_) AllReadyH.nil
        go_simp
        refine (as_view (HCR2.out.below (HUX.out.trans (HBX.out.mono HUX.out.size))) HL2.out HN2.out HOK2.out R2 C2 row2 col2 vis2).mono ?_
        rintro e c3 ⟨X2, x2, rfl, hcy, hbV⟩
        have HBX2 := Lib.hid (HBX.out.trans (hbV.mono HBX.out.size))
        clear HBX
        have HBX := HBX2
        clear HBX2
        have HX1b := Lib.hid (HX1.out.below hbV)
        clear HX1
        have HX1 := HX1b
        clear HX1b
        have H7b := Lib.hid ((hbV.block _ (lt_of_block H7.out)).trans H7.out)
        clear H7
        have H7 := H7b
        clear H7b
        have H8b := Lib.hid ((hbV.block _ (lt_of_block H8.out)).trans H8.out)
        clear H8
        have H8 := H8b
        clear H8b
        have HX2 := Lib.hid hcy
        clear hcy hbV
        refine hK0.out _ _ HBX.out (fun _ => ?_)
        clear hK0 K0 hHeld
        have hHeld := HBX.out
        refine wpAnyH_ready (rs := [6]) (by kernel_rfl) (by simp) ?_
        refine AllReadyH.cons (by simp; rfl) (fun K0 hK0 => ?_) AllReadyH.nil
        refine step_store_row rfl 30 (.tmp 5) (.tmp 21) rfl t7b #[.int .i64 R1, .int .i64 C1, .slice X1 n1 x1, .int .i64 row1, .int .i64 col1, .bool vis1] rfl rfl 30 _ H7.out info_wview rfl (by simp [Value.oneCell']) ?_
        simp only [Act.put, List.setIfInBounds_toArray, List.set_cons_zero, List.set_cons_succ]
        have HBXb := Lib.hid (below_setRow HBX.out (by rw [HSX.out]; exact HG7.out) #[.int .i64 R1, .int .i64 C1, .slice X1 n1 x1, .int .i64 row1, .int .i64 col1, .bool vis1])
        have HX1b := Lib.hid (HX1.out.place H7.out #[.int .i64 R1, .int .i64 C1, .slice X1 n1 x1, .int .i64 row1, .int .i64 col1, .bool vis1])
        have HX2b := Lib.hid (HX2.out.place H7.out #[.int .i64 R1, .int .i64 C1, .slice X1 n1 x1, .int .i64 row1, .int .i64 col1, .bool vis1])
        have H8b := Lib.hid (((grown_setRow c3 t7b #[.int .i64 R1, .int .i64 C1, .slice X1 n1 x1, .int .i64 row1, .int .i64 col1, .bool vis1]).block t8b (lt_of_block H8.out) (by intro e; injection e with e; have := HNE.out; omega)).trans H8.out)
        have H7b := Lib.hid (setRow_heap _ _ _ #[.int .i64 R1, .int .i64 C1, .slice X1 n1 x1, .int .i64 row1, .int .i64 col1, .bool vis1] _ _ H7.out)
        clear HBX HX1 HX2 H7 H8
        generalize (c3.setRow t7b #[.int .i64 R1, .int .i64 C1, .slice X1 n1 x1, .int .i64 row1, .int .i64 col1, .bool vis1]) = E6 at HBXb HX1b HX2b H7b H8b ⊢
        have HBX := HBXb
        have HX1 := HX1b
        have HX2 := HX2b
        have H7 := H7b
        have H8 := H8b
        clear HBXb HX1b HX2b H7b H8b
        refine hK0.out _ _ HBX.out (fun _ => ?_)
        clear hK0 K0 hHeld
        have hHeld := HBX.out
        refine wpAnyH_ready (rs := [7]) (by kernel_rfl) (by simp) ?_
        refine AllReadyH.cons (by simp; rfl) (fun K0 hK0 => ?_) AllReadyH.nil
        refine step_store_row rfl 30 (.tmp 6) (.tmp 23) rfl t8b #[.int .i64 R2, .int .i64 C2, .slice X2 n2 x2, .int .i64 row2, .int .i64 col2, .bool vis2] rfl rfl 30 _ H8.out info_wview rfl (by simp [Value.oneCell']) ?_
        simp only [Act.put, List.setIfInBounds_toArray, List.set_cons_zero, List.set_cons_succ]
        have HBXb := Lib.hid (below_setRow HBX.out (by rw [HSX.out]; exact HG8.out) #[.int .i64 R2, .int .i64 C2, .slice X2 n2 x2, .int .i64 row2, .int .i64 col2, .bool vis2])
        have HX1b := Lib.hid (HX1.out.place H8.out #[.int .i64 R2, .int .i64 C2, .slice X2 n2 x2, .int .i64 row2, .int .i64 col2, .bool vis2])
        have HX2b := Lib.hid (HX2.out.place H8.out #[.int .i64 R2, .int .i64 C2, .slice X2 n2 x2, .int .i64 row2, .int .i64 col2, .bool vis2])
        have H7b := Lib.hid (((grown_setRow E6 t8b #[.int .i64 R2, .int .i64 C2, .slice X2 n2 x2, .int .i64 row2, .int .i64 col2, .bool vis2]).block t7b (lt_of_block H7.out) (by intro e; injection e with e; have := HNE.out; omega)).trans H7.out)
        have H8b := Lib.hid (setRow_heap _ _ _ #[.int .i64 R2, .int .i64 C2, .slice X2 n2 x2, .int .i64 row2, .int .i64 col2, .bool vis2] _ _ H8.out)
        clear HBX HX1 HX2 H7 H8
        generalize (E6.setRow t8b #[.int .i64 R2, .int .i64 C2, .slice X2 n2 x2, .int .i64 row2, .int .i64 col2, .bool vis2]) = E7 at HBXb HX1b HX2b H7b H8b ⊢
        have HBX := HBXb
        have HX1 := HX1b
        have HX2 := HX2b
        have H7 := H7b
        have H8 := H8b
        clear HBXb HX1b HX2b H7b H8b
        refine hK0.out _ _ HBX.out (fun _ => ?_)
        clear hK0 K0 hHeld
        have hHeld := HBX.out
        refine wpAnyH_done (by kernel_rfl) ?_ _
        go_wp2
        go_meet
        exact ⟨X1, x1, X2, x2, t7b, t8b, rfl, rfl, Lib.hid ⟨HX1.out, HX2.out, H7.out, H8.out, HUX.out.trans (HBX.out.mono HUX.out.size)⟩⟩
    · go_simp
      have hbV : Below X.heap.size X (X.alloc (.cells #[.int .i64 0, .int .i64 0, .slice none 0 0, .int .i64 0, .int .i64 0, .bool false] 30)) := (Below.refl _ _).alloc (Nat.le_refl _) _
      have H8 := Lib.hid (heap_alloc_new X (.cells #[.int .i64 0, .int .i64 0, .slice none 0 0, .int .i64 0, .int .i64 0, .bool false] 30))
      have HG8 := Lib.hid (show sX ≤ X.heap.size from by rw [← HSX.out]; exact HBX.out.size)
      have HBX2 := Lib.hid (HBX.out.trans (hbV.mono HBX.out.size))
      clear HBX
      have HBX := HBX2
      clear HBX2
      clear hbV
      obtain ⟨t8b, ht⟩ : ∃ g, X.heap.size = g := ⟨_, rfl⟩
      rw [ht] at H8 HG8 ⊢
      clear ht
      generalize (X.alloc (.cells #[.int .i64 0, .int .i64 0, .slice none 0 0, .int .i64 0, .int .i64 0, .bool false] 30)) = a0 at HBX H8 ⊢
      refine hK0.out _ _ HBX.out (fun _ => ?_)
      clear hK0 K0 hHeld
      have hHeld := HBX.out
      refine wpAnyH_ready (rs := [1, 4]) (by kernel_rfl) (by simp) ?_
      refine AllReadyH.cons (by simp; rfl) (fun K0 hK0 => ?_) (AllReadyH.cons (by simp; rfl) (fun K0 hK0 => ?_) AllReadyH.nil)
      · go_simp
        refine (as_view (HCR1.out.below (HUX.out.trans (HBX.out.mono HUX.out.size))) HL1.out HN1.out HOK1.out R1 C1 row1 col1 vis1).mono ?_
        rintro e c1 ⟨X1, x1, rfl, hcy, hbV⟩
        have HBX2 := Lib.hid (HBX.out.trans (hbV.mono HBX.out.size))
        clear HBX
        have HBX := HBX2
        clear HBX2
        have H8b := Lib.hid ((hbV.block _ (lt_of_block H8.out)).trans H8.out)
        clear H8
        have H8 := H8b
        clear H8b
        have HX1 := Lib.hid hcy
        clear hcy hbV
        refine hK0.out _ _ HBX.out (fun _ => ?_)
        clear hK0 K0 hHeld
        have hHeld := HBX.out
        refine wpAnyH_ready (rs := [3, 4]) (by kernel_rfl) (by simp) ?_
        refine AllReadyH.cons (by simp; rfl) (fun K0 hK0 => ?_) (AllReadyH.cons (by simp; rfl) (fun K0 hK0 => ?_) AllReadyH.nil)
        · go_simp
          refine (as_view (HCR2.out.below (HUX.out.trans (HBX.out.mono HUX.out.size))) HL2.out HN2.out HOK2.out R2 C2 row2 col2 vis2).mono ?_
          rintro e c2 ⟨X2, x2, rfl, hcy, hbV⟩
          have HBX2 := Lib.hid (HBX.out.trans (hbV.mono HBX.out.size))
          clear HBX
          have HBX := HBX2
          clear HBX2
          have HX1b := Lib.hid (HX1.out.below hbV)
          clear HX1
          have HX1 := HX1b
          clear HX1b
          have H8b := Lib.hid ((hbV.block _ (lt_of_block H8.out)).trans H8.out)
          clear H8
          have H8 := H8b
          clear H8b
          have HX2 := Lib.hid hcy
          clear hcy hbV
          refine hK0.out _ _ HBX.out (fun _ => ?_)
          clear hK0 K0 hHeld
          have hHeld := HBX.out
          refine wpAnyH_ready (rs := [4]) (by kernel_rfl) (by simp) ?_
          refine AllReadyH.cons (by simp; rfl) (fun K0 hK0 => ?_) AllReadyH.nil
          go_simp
          have hbV : Below c2.heap.size c2 (c2.alloc (.cells #[.int .i64 0, .int .i64 0, .slice none 0 0, .int .i64 0, .int .i64 0, .bool false] 30)) := (Below.refl _ _).alloc (Nat.le_refl _) _
          have H7 := Lib.hid (heap_alloc_new c2 (.cells #[.int .i64 0, .int .i64 0, .slice none 0 0, .int .i64 0, .int .i64 0, .bool false] 30))
          have HG7 := Lib.hid (show sX ≤ c2.heap.size from by rw [← HSX.out]; exact HBX.out.size)
          have HNE := Lib.hid (show t8b < c2.heap.size from lt_of_block H8.out)
          have HBX2 := Lib.hid (HBX.out.trans (hbV.mono HBX.out.size))
          clear HBX
          have HBX := HBX2
          clear HBX2
          have HX1b := Lib.hid (HX1.out.below hbV)
          clear HX1
          have HX1 := HX1b
          clear HX1b
          have HX2b := Lib.hid (HX2.out.below hbV)
          clear HX2
          have HX2 := HX2b
          clear HX2b
          have H8b := Lib.hid ((hbV.block _ (lt_of_block H8.out)).trans H8.out)
          clear H8
          have H8 := H8b
          clear H8b
          clear hbV
          obtain ⟨t7b, ht⟩ : ∃ g, c2.heap.size = g := ⟨_, rfl⟩
          rw [ht] at H7 HG7 HNE ⊢
          clear ht
          generalize (c2.alloc (.cells #[.int .i64 0, .int .i64 0, .slice none 0 0, .int .i64 0, .int .i64 0, .bool false] 30)) = a3 at HBX H7 HX1 HX2 H8 ⊢
          refine hK0.out _ _ HBX.out (fun _ => ?_)
          clear hK0 K0 hHeld
          have hHeld := HBX.out
          refine wpAnyH_ready (rs := [6]) (by kernel_rfl) (by simp) ?_
          refine AllReadyH.cons (by simp; rfl) (fun K0 hK0 => ?_) AllReadyH.nil
          refine step_store_row rfl 30 (.tmp 5) (.tmp 21) rfl t7b #[.int .i64 R1, .int .i64 C1, .slice X1 n1 x1, .int .i64 row1, .int .i64 col1, .bool vis1] rfl rfl 30 _ H7.out info_wview rfl (by simp [Value.oneCell']) ?_
          simp only [Act.put, List.setIfInBounds_toArray, List.set_cons_zero, List.set_cons_succ]
          have HBXb := Lib.hid (below_setRow HBX.out (by rw [HSX.out]; exact HG7.out) #[.int .i64 R1, .int .i64 C1, .slice X1 n1 x1, .int .i64 row1, .int .i64 col1, .bool vis1])
          have HX1b := Lib.hid (HX1.out.place H7.out #[.int .i64 R1, .int .i64 C1, .slice X1 n1 x1, .int .i64 row1, .int .i64 col1, .bool vis1])
          have HX2b := Lib.hid (HX2.out.place H7.out #[.int .i64 R1, .int .i64 C1, .slice X1 n1 x1, .int .i64 row1, .int .i64 col1, .bool vis1])
          have H8b := Lib.hid (((grown_setRow a3 t7b #[.int .i64 R1, .int .i64 C1, .slice X1 n1 x1, .int .i64 row1, .int .i64 col1, .bool vis1]).block t8b (lt_of_block H8.out) (by intro e; injection e with e; have := HNE.out; omega)).trans H8.out)
          have H7b := Lib.hid (setRow_heap _ _ _ #[.int .i64 R1, .int .i64 C1, .slice X1 n1 x1, .int .i64 row1, .int .i64 col1, .bool vis1] _ _ H7.out)
          clear HBX HX1 HX2 H7 H8
          generalize (a3.setRow t7b #[.int .i64 R1, .int .i64 C1, .slice X1 n1 x1, .int .i64 row1, .int .i64 col1, .bool vis1]) = E6 at HBXb HX1b HX2b H7b H8b ⊢
          have HBX := HBXb
          have HX1 := HX1b
          have HX2 := HX2b
          have H7 := H7b
          have H8 := H8b
          clear HBXb HX1b HX2b H7b H8b
          refine hK0.out _ _ HBX.out (fun _ => ?_)
          clear hK0 K0 hHeld
          have hHeld := HBX.out
          refine wpAnyH_ready (rs := [7]) (by kernel_rfl) (by simp) ?_
          refine AllReadyH.cons (by simp; rfl) (fun K0 hK0 => ?_) AllReadyH.nil
          refine step_store_row rfl 30 (.tmp 6) (.tmp 23) rfl t8b #[.int .i64 R2, .int .i64 C2, .slice X2 n2 x2, .int .i64 row2, .int .i64 col2, .bool vis2] rfl rfl 30 _ H8.out info_wview rfl (by simp [Value.oneCell']) ?_
          simp only [Act.put, List.setIfInBounds_toArray, List.set_cons_zero, List.set_cons_succ]
          have HBXb := Lib.hid (below_setRow HBX.out (by rw [HSX.out]; exact HG8.out) #[.int .i64 R2, .int .i64 C2, .slice X2 n2 x2, .int .i64 row2, .int .i64 col2, .bool vis2])
          have HX1b := Lib.hid (HX1.out.place H8.out #[.int .i64 R2, .int .i64 C2, .slice X2 n2 x2, .int .i64 row2, .int .i64 col2, .bool vis2])
          have HX2b := Lib.hid (HX2.out.place H8.out #[.int .i64 R2, .int .i64 C2, .slice X2 n2 x2, .int .i64 row2, .int .i64 col2, .bool vis2])
          have H7b := Lib.hid (((grown_setRow E6 t8b #[.int .i64 R2, .int .i64 C2, .slice X2 n2 x2, .int .i64 row2, .int .i64 col2, .bool vis2]).block t7b (lt_of_block H7.out) (by intro e; injection e with e; have := HNE.out; omega)).trans H7.out)
          have H8b := Lib.hid (setRow_heap _ _ _ #[.int .i64 R2, .int .i64 C2, .slice X2 n2 x2, .int .i64 row2, .int .i64 col2, .bool vis2] _ _ H8.out)
          clear HBX HX1 HX2 H7 H8
          generalize (E6.setRow t8b #[.int .i64 R2, .int .i64 C2, .slice X2 n2 x2, .int .i64 row2, .int .i64 col2, .bool vis2]) = E7 at HBXb HX1b HX2b H7b H8b ⊢
          have HBX := HBXb
          have HX1 := HX1b
          have HX2 := HX2b
          have H7 := H7b
          have H8 := H8b
          clear HBXb HX1b HX2b H7b H8b
          refine hK0.out _ _ HBX.out (fun _ => ?_)
          clear hK0 K0 hHeld
          have hHeld := HBX.out
          refine wpAnyH_done (by kernel_rfl) ?_ _
          go_wp2
          go_meet
          exact ⟨X1, x1, X2, x2, t7b, t8b, rfl, rfl, Lib.hid ⟨HX1.out, HX2.out, H7.out, H8.out, HUX.out.trans (HBX.out.mono HUX.out.size)⟩⟩
        · go_simp
          have hbV : Below c1.heap.size c1 (c1.alloc (.cells #[.int .i64 0, .int .i64 0, .slice none 0 0, .int .i64 0, .int .i64 0, .bool false] 30)) := (Below.refl _ _).alloc (Nat.le_refl _) _
          have H7 := Lib.hid (heap_alloc_new c1 (.cells #[.int .i64 0, .int .i64 0, .slice none 0 0, .int .i64 0, .int .i64 0, .bool false] 30))
          have HG7 := Lib.hid (show sX ≤ c1.heap.size from by rw [← HSX.out]; exact HBX.out.size)
          have HNE := Lib.hid (show t8b < c1.heap.size from lt_of_block H8.out)
          have HBX2 := Lib.hid (HBX.out.trans (hbV.mono HBX.out.size))
          clear HBX
          have HBX := HBX2
          clear HBX2
          have HX1b := Lib.hid (HX1.out.below hbV)
          clear HX1
          have HX1 := HX1b
          clear HX1b
          have H8b := Lib.hid ((hbV.block _ (lt_of_block H8.out)).trans H8.out)
          clear H8
          have H8 := H8b
          clear H8b
          clear hbV
          obtain ⟨t7b, ht⟩ : ∃ g, c1.heap.size = g := ⟨_, rfl⟩
          rw [ht] at H7 HG7 HNE ⊢
          clear ht
          generalize (c1.alloc (.cells #[.int .i64 0, .int .i64 0, .slice none 0 0, .int .i64 0, .int .i64 0, .bool false] 30)) = a2 at HBX H7 HX1 H8 ⊢
          refine hK0.out _ _ HBX.out (fun _ => ?_)
          clear hK0 K0 hHeld
          have hHeld := HBX.out
          refine wpAnyH_ready (rs := [3]) (by kernel_rfl) (by simp) ?_
          refine AllReadyH.cons (by simp; rfl) (fun K0 hK0 => ?_) AllReadyH.nil
          go_simp
          refine (as_view (HCR2.out.below (HUX.out.trans (HBX.out.mono HUX.out.size))) HL2.out HN2.out HOK2.out R2 C2 row2 col2 vis2).mono ?_
          rintro e c3 ⟨X2, x2, rfl, hcy, hbV⟩
          have HBX2 := Lib.hid (HBX.out.trans (hbV.mono HBX.out.size))
          clear HBX
          have HBX := HBX2
          clear HBX2
          have HX1b := Lib.hid (HX1.out.below hbV)
          clear HX1
          have HX1 := HX1b
          clear HX1b
          have H7b := Lib.hid ((hbV.block _ (lt_of_block H7.out)).trans H7.out)
          clear H7
          have H7 := H7b
          clear H7b
          have H8b := Lib.hid ((hbV.block _ (lt_of_block H8.out)).trans H8.out)
          clear H8
          have H8 := H8b
          clear H8b
          have HX2 := Lib.hid hcy
          clear hcy hbV
          refine hK0.out _ _ HBX.out (fun _ => ?_)
          clear hK0 K0 hHeld
          have hHeld := HBX.out
          refine wpAnyH_ready (rs := [6]) (by kernel_rfl) (by simp) ?_
          refine AllReadyH.cons (by simp; rfl) (fun K0 hK0 => ?_) AllReadyH.nil
          refine step_store_row rfl 30 (.tmp 5) (.tmp 21) rfl t7b #[.int .i64 R1, .int .i64 C1, .slice X1 n1 x1, .int .i64 row1, .int .i64 col1, .bool vis1] rfl rfl 30 _ H7.out info_wview rfl (by simp [Value.oneCell']) ?_
          simp only [Act.put, List.setIfInBounds_toArray, List.set_cons_zero, List.set_cons_succ]
          have HBXb := Lib.hid (below_setRow HBX.out (by rw [HSX.out]; exact HG7.out) #[.int .i64 R1, .int .i64 C1, .slice X1 n1 x1, .int .i64 row1, .int .i64 col1, .bool vis1])
          have HX1b := Lib.hid (HX1.out.place H7.out #[.int .i64 R1, .int .i64 C1, .slice X1 n1 x1, .int .i64 row1, .int .i64 col1, .bool vis1])
          have HX2b := Lib.hid (HX2.out.place H7.out #[.int .i64 R1, .int .i64 C1, .slice X1 n1 x1, .int .i64 row1, .int .i64 col1, .bool vis1])
          have H8b := Lib.hid (((grown_setRow c3 t7b #[.int .i64 R1, .int .i64 C1, .slice X1 n1 x1, .int .i64 row1, .int .i64 col1, .bool vis1]).block t8b (lt_of_block H8.out) (by intro e; injection e with e; have := HNE.out; omega)).trans H8.out)
          have H7b := Lib.hid (setRow_heap _ _ _ #[.int .i64 R1, .int .i64 C1, .slice X1 n1 x1, .int .i64 row1, .int .i64 col1, .bool vis1] _ _ H7.out)
          clear HBX HX1 HX2 H7 H8
          generalize (c3.setRow t7b #[.int .i64 R1, .int .i64 C1, .slice X1 n1 x1, .int .i64 row1, .int .i64 col1, .bool vis1]) = E6 at HBXb HX1b HX2b H7b H8b ⊢
          have HBX := HBXb
          have HX1 := HX1b
          have HX2 := HX2b
          have H7 := H7b
          have H8 := H8b
          clear HBXb HX1b HX2b H7b H8b
          refine hK0.out _ _ HBX.out (fun _ => ?_)
          clear hK0 K0 hHeld
          have hHeld := HBX.out
          refine wpAnyH_ready (rs := [7]) (by kernel_rfl) (by simp) ?_
          refine AllReadyH.cons (by simp; rfl) (fun K0 hK0 => ?_) AllReadyH.nil
          refine step_store_row rfl 30 (.tmp 6) (.tmp 23) rfl t8b #[.int .i64 R2, .int .i64 C2, .slice X2 n2 x2, .int .i64 row2, .int .i64 col2, .bool vis2] rfl rfl 30 _ H8.out info_wview rfl (by simp [Value.oneCell']) ?_
          simp only [Act.put, List.setIfInBounds_toArray, List.set_cons_zero, List.set_cons_succ]
          have HBXb := Lib.hid (below_setRow HBX.out (by rw [HSX.out]; exact HG8.out) #[.int .i64 R2, .int .i64 C2, .slice X2 n2 x2, .int .i64 row2, .int .i64 col2, .bool vis2])
          have HX1b := Lib.hid (HX1.out.place H8.out #[.int .i64 R2, .int .i64 C2, .slice X2 n2 x2, .int .i64 row2, .int .i64 col2, .bool vis2])
          have HX2b := Lib.hid (HX2.out.place H8.out #[.int .i64 R2, .int .i64 C2, .slice X2 n2 x2, .int .i64 row2, .int .i64 col2, .bool vis2])
          have H7b := Lib.hid (((grown_setRow E6 t8b #[.int .i64 R2, .int .i64 C2, .slice X2 n2 x2, .int .i64 row2, .int .i64 col2, .bool vis2]).block t7b (lt_of_block H7.out) (by intro e; injection e with e; have := HNE.out; omega)).trans H7.out)
          have H8b := Lib.hid (setRow_heap _ _ _ #[.int .i64 R2, .int .i64 C2, .slice X2 n2 x2, .int .i64 row2, .int .i64 col2, .bool vis2] _ _ H8.out)
          clear HBX HX1 HX2 H7 H8
          generalize (E6.setRow t8b #[.int .i64 R2, .int .i64 C2, .slice X2 n2 x2, .int .i64 row2, .int .i64 col2, .bool vis2]) = E7 at HBXb HX1b HX2b H7b H8b ⊢
          have HBX := HBXb
          have HX1 := HX1b
          have HX2 := HX2b
          have H7 := H7b
          have H8 := H8b
          clear HBXb HX1b HX2b H7b H8b
          refine hK0.out _ _ HBX.out (fun _ => ?_)
          clear hK0 K0 hHeld
          have hHeld := HBX.out
          refine wpAnyH_done (by kernel_rfl) ?_ _
          go_wp2
          go_meet
          exact ⟨X1, x1, X2, x2, t7b, t8b, rfl, rfl, Lib.hid ⟨HX1.out, HX2.out, H7.out, H8.out, HUX.out.trans (HBX.out.mono HUX.out.size)⟩⟩
      · go_simp
        have hbV : Below a0.heap.size a0 (a0.alloc (.cells #[.int .i64 0, .int .i64 0, .slice none 0 0, .int .i64 0, .int .i64 0, .bool false] 30)) := (Below.refl _ _).alloc (Nat.le_refl _) _
        have H7 := Lib.hid (heap_alloc_new a0 (.cells #[.int .i64 0, .int .i64 0, .slice none 0 0, .int .i64 0, .int .i64 0, .bool false] 30))
        have HG7 := Lib.hid (show sX ≤ a0.heap.size from by rw [← HSX.out]; exact HBX.out.size)
        have HNE := Lib.hid (show t8b < a0.heap.size from lt_of_block H8.out)
        have HBX2 := Lib.hid (HBX.out.trans (hbV.mono HBX.out.size))
        clear HBX
        have HBX := HBX2
        clear HBX2
        have H8b := Lib.hid ((hbV.block _ (lt_of_block H8.out)).trans H8.out)
        clear H8
        have H8 := H8b
        clear H8b
        clear hbV
        obtain ⟨t7b, ht⟩ : ∃ g, a0.heap.size = g := ⟨_, rfl⟩
        rw [ht] at H7 HG7 HNE ⊢
        clear ht
        generalize (a0.alloc (.cells #[.int .i64 0, .int .i64 0, .slice none 0 0, .int .i64 0, .int .i64 0, .bool false] 30)) = a1 at HBX H7 H8 ⊢
        refine hK0.out _ _ HBX.out (fun _ => ?_)
        clear hK0 K0 hHeld
        have hHeld := HBX.out
        refine wpAnyH_ready (rs := [1]) (by kernel_rfl) (by simp) ?_
        refine AllReadyH.cons (by simp; rfl) (fun K0 hK0 => ?_) AllReadyH.nil
        go_simp
        refine (as_view (HCR1.out.below (HUX.out.trans (HBX.out.mono HUX.out.size))) HL1.out HN1.out HOK1.out R1 C1 row1 col1 vis1).mono ?_
        rintro e c2 ⟨X1, x1, rfl, hcy, hbV⟩
        have HBX2 := Lib.hid (HBX.out.trans (hbV.mono HBX.out.size))
        clear HBX
        have HBX := HBX2
        clear HBX2
        have H7b := Lib.hid ((hbV.block _ (lt_of_block H7.out)).trans H7.out)
        clear H7
        have H7 := H7b
        clear H7b
        have H8b := Lib.hid ((hbV.block _ (lt_of_block H8.out)).trans H8.out)
        clear H8
        have H8 := H8b
        clear H8b
        have HX1 := Lib.hid hcy
        clear hcy hbV
        refine hK0.out _ _ HBX.out (fun _ => ?_)
        clear hK0 K0 hHeld
        have hHeld := HBX.out
        refine wpAnyH_ready (rs := [3]) (by kernel_rfl) (by simp) ?_
        refine AllReadyH.cons (by simp; rfl) (fun K0 hK0 => ?_) AllReadyH.nil
        go_simp
        refine (as_view (HCR2.out.below (HUX.out.trans (HBX.out.mono HUX.out.size))) HL2.out HN2.out HOK2.out R2 C2 row2 col2 vis2).mono ?_
        rintro e c3 ⟨X2, x2, rfl, hcy, hbV⟩
        have HBX2 := Lib.hid (HBX.out.trans (hbV.mono HBX.out.size))
        clear HBX
        have HBX := HBX2
        clear HBX2
        have HX1b := Lib.hid (HX1.out.below hbV)
        clear HX1
        have HX1 := HX1b
        clear HX1b
        have H7b := Lib.hid ((hbV.block _ (lt_of_block H7.out)).trans H7.out)
        clear H7
        have H7 := H7b
        clear H7b
        have H8b := Lib.hid ((hbV.block _ (lt_of_block H8.out)).trans H8.out)
        clear H8
        have H8 := H8b
        clear H8b
        have HX2 := Lib.hid hcy
        clear hcy hbV
        refine hK0.out _ _ HBX.out (fun _ => ?_)
        clear hK0 K0 hHeld
        have hHeld := HBX.out
        refine wpAnyH_ready (rs := [6]) (by kernel_rfl) (by simp) ?_
        refine AllReadyH.cons (by simp; rfl) (fun K0 hK0 => ?_) AllReadyH.nil
        refine step_store_row rfl 30 (.tmp 5) (.tmp 21) rfl t7b #[.int .i64 R1, .int .i64 C1, .slice X1 n1 x1, .int .i64 row1, .int .i64 col1, .bool vis1] rfl rfl 30 _ H7.out info_wview rfl (by simp [Value.oneCell']) ?_
        simp only [Act.put, List.setIfInBounds_toArray, List.set_cons_zero, List.set_cons_succ]
        have HBXb := Lib.hid (below_setRow HBX.out (by rw [HSX.out]; exact HG7.out) #[.int .i64 R1, .int .i64 C1, .slice X1 n1 x1, .int .i64 row1, .int .i64 col1, .bool vis1])
        have HX1b := Lib.hid (HX1.out.place H7.out #[.int .i64 R1, .int .i64 C1, .slice X1 n1 x1, .int .i64 row1, .int .i64 col1, .bool vis1])
        have HX2b := Lib.hid (HX2.out.place H7.out #[.int .i64 R1, .int .i64 C1, .slice X1 n1 x1, .int .i64 row1, .int .i64 col1, .bool vis1])
        have H8b := Lib.hid (((grown_setRow c3 t7b #[.int .i64 R1, .int .i64 C1, .slice X1 n1 x1, .int .i64 row1, .int .i64 col1, .bool vis1]).block t8b (lt_of_block H8.out) (by intro e; injection e with e; have := HNE.out; omega)).trans H8.out)
        have H7b := Lib.hid (setRow_heap _ _ _ #[.int .i64 R1, .int .i64 C1, .slice X1 n1 x1, .int .i64 row1, .int .i64 col1, .bool vis1] _ _ H7.out)
        clear HBX HX1 HX2 H7 H8
        generalize (c3.setRow t7b #[.int .i64 R1, .int .i64 C1, .slice X1 n1 x1, .int .i64 row1, .int .i64 col1, .bool vis1]) = E6 at HBXb HX1b HX2b H7b H8b ⊢
        have HBX := HBXb
        have HX1 := HX1b
        have HX2 := HX2b
        have H7 := H7b
        have H8 := H8b
        clear HBXb HX1b HX2b H7b H8b
        refine hK0.out _ _ HBX.out (fun _ => ?_)
        clear hK0 K0 hHeld
        have hHeld := HBX.out
        refine wpAnyH_ready (rs := [7]) (by kernel_rfl) (by simp) ?_
        refine AllReadyH.cons (by simp; rfl) (fun K0 hK0 => ?_) AllReadyH.nil
        refine step_store_row rfl 30 (.tmp 6) (.tmp 23) rfl t8b #[.int .i64 R2, .int .i64 C2, .slice X2 n2 x2, .int .i64 row2, .int .i64 col2, .bool vis2] rfl rfl 30 _ H8.out info_wview rfl (by simp [Value.oneCell']) ?_
        simp only [Act.put, List.setIfInBounds_toArray, List.set_cons_zero, List.set_cons_succ]
        have HBXb := Lib.hid (below_setRow HBX.out (by rw [HSX.out]; exact HG8.out) #[.int .i64 R2, .int .i64 C2, .slice X2 n2 x2, .int .i64 row2, .int .i64 col2, .bool vis2])
        have HX1b := Lib.hid (HX1.out.place H8.out #[.int .i64 R2, .int .i64 C2, .slice X2 n2 x2, .int .i64 row2, .int .i64 col2, .bool vis2])
        have HX2b := Lib.hid (HX2.out.place H8.out #[.int .i64 R2, .int .i64 C2, .slice X2 n2 x2, .int .i64 row2, .int .i64 col2, .bool vis2])
        have H7b := Lib.hid (((grown_setRow E6 t8b #[.int .i64 R2, .int .i64 C2, .slice X2 n2 x2, .int .i64 row2, .int .i64 col2, .bool vis2]).block t7b (lt_of_block H7.out) (by intro e; injection e with e; have := HNE.out; omega)).trans H7.out)
        have H8b := Lib.hid (setRow_heap _ _ _ #[.int .i64 R2, .int .i64 C2, .slice X2 n2 x2, .int .i64 row2, .int .i64 col2, .bool vis2] _ _ H8.out)
        clear HBX HX1 HX2 H7 H8
        generalize (E6.setRow t8b #[.int .i64 R2, .int .i64 C2, .slice X2 n2 x2, .int .i64 row2, .int .i64 col2, .bool vis2]) = E7 at HBXb HX1b HX2b H7b H8b ⊢
        have HBX := HBXb
        have HX1 := HX1b
        have HX2 := HX2b
        have H7 := H7b
        have H8 := H8b
        clear HBXb HX1b HX2b H7b H8b
        refine hK0.out _ _ HBX.out (fun _ => ?_)
        clear hK0 K0 hHeld
        have hHeld := HBX.out
        refine wpAnyH_done (by kernel_rfl) ?_ _
        go_wp2
        go_meet
        exact ⟨X1, x1, X2, x2, t7b, t8b, rfl, rfl, Lib.hid ⟨HX1.out, HX2.out, H7.out, H8.out, HUX.out.trans (HBX.out.mono HUX.out.size)⟩⟩
  case rest =>
    obtain ⟨X1, x1, X2, x2, t7b, t8b, rfl, rfl, HC⟩ := hcut
    have HX1 := Lib.hid HC.out.1
    have HX2 := Lib.hid HC.out.2.1
    have H7 := Lib.hid HC.out.2.2.1
    have H8 := Lib.hid HC.out.2.2.2.1
    have HSB := Lib.hid HC.out.2.2.2.2
    clear HC
    obtain ⟨w0_, w1_, w2_, w3_, w4_, w5_⟩ := HVC0.out _ HSB.out
    obtain ⟨v0_, v1_, v2_, v3_, v4_, v5_⟩ := HOC0.out _ HSB.out
    go_wp2_with fail
    cases q1 with
    | false =>
      have HNQ := Lib.hid (show rightW R1 C1 row1 col1 L1 = false ∨ rightW R2 C2 row2 col2 L2 = false from .inl HQ1.out)
      refine (p_diff_no (ca := cap1) (cb := cap2) (HCR1.out.below HSB.out) (HCR2.out.below HSB.out) HL1.out HL2.out HM1.out HM2.out HOK1.out HOK2.out R1 C1 row1 col1 vis1 R2 C2 row2 col2 vis2 HNQ.out).mono ?_
      rintro e w4 ⟨rfl, b4⟩
      clear w0_ w1_ w2_ w3_ w4_ w5_ v0_ v1_ v2_ v3_ v4_ v5_
      have HX1b := Lib.hid (HX1.out.below b4)
      clear HX1
      have HX1 := HX1b
      clear HX1b
      have HX2b := Lib.hid (HX2.out.below b4)
      clear HX2
      have HX2 := HX2b
      clear HX2b
      have H7b := Lib.hid ((b4.block _ (lt_of_block H7.out)).trans H7.out)
      clear H7
      have H7 := H7b
      clear H7b
      have H8b := Lib.hid ((b4.block _ (lt_of_block H8.out)).trans H8.out)
      clear H8
      have H8 := H8b
      clear H8b
      have HSBb := Lib.hid (HSB.out.trans (b4.mono HSB.out.size))
      clear HSB
      have HSB := HSBb
      clear HSBb
      clear b4
      obtain ⟨s0, s1, s2, s3, s4, s5⟩ := six_cells H7.out
      go_wp2_with fail
      refine (r_viewright (cap := x1) HX1.out HL1.out HN1.out HOK1.out R1 C1 row1 col1 vis1).mono ?_
      rintro e w7 ⟨rfl, b8⟩
      rw [HQ1.out]
      have HX1b := Lib.hid (HX1.out.below b8)
      clear HX1
      have HX1 := HX1b
      clear HX1b
      have HX2b := Lib.hid (HX2.out.below b8)
      clear HX2
      have HX2 := HX2b
      clear HX2b
      have H7b := Lib.hid ((b8.block _ (lt_of_block H7.out)).trans H7.out)
      clear H7
      have H7 := H7b
      clear H7b
      have H8b := Lib.hid ((b8.block _ (lt_of_block H8.out)).trans H8.out)
      clear H8
      have H8 := H8b
      clear H8b
      have HSBb := Lib.hid (HSB.out.trans (b8.mono HSB.out.size))
      clear HSB
      have HSB := HSBb
      clear HSBb
      clear b8 s0 s1 s2 s3 s4 s5
      go_wp2_with fail
      refine (alive_any _ (HTB.out.below HSB.out HTB.out.big)).mono ?_
      rintro e w9 ⟨rfl, b9⟩
      have HB9 := Lib.hid (HB.out.trans ((HSB.out.trans (b9.mono HSB.out.size)).mono HB.out.size))
      clear b9
      go_wp2
      go_ret
      exact ⟨by rfl, HB9.out⟩
    | true =>
      cases q2 with
      | false =>
        have HNQ := Lib.hid (show rightW R1 C1 row1 col1 L1 = false ∨ rightW R2 C2 row2 col2 L2 = false from .inr HQ2.out)
        refine (p_diff_no (ca := cap1) (cb := cap2) (HCR1.out.below HSB.out) (HCR2.out.below HSB.out) HL1.out HL2.out HM1.out HM2.out HOK1.out HOK2.out R1 C1 row1 col1 vis1 R2 C2 row2 col2 vis2 HNQ.out).mono ?_
        rintro e w4 ⟨rfl, b4⟩
        clear w0_ w1_ w2_ w3_ w4_ w5_ v0_ v1_ v2_ v3_ v4_ v5_
        have HX1b := Lib.hid (HX1.out.below b4)
        clear HX1
        have HX1 := HX1b
        clear HX1b
        have HX2b := Lib.hid (HX2.out.below b4)
        clear HX2
        have HX2 := HX2b
        clear HX2b
        have H7b := Lib.hid ((b4.block _ (lt_of_block H7.out)).trans H7.out)
        clear H7
        have H7 := H7b
        clear H7b
        have H8b := Lib.hid ((b4.block _ (lt_of_block H8.out)).trans H8.out)
        clear H8
        have H8 := H8b
        clear H8b
        have HSBb := Lib.hid (HSB.out.trans (b4.mono HSB.out.size))
        clear HSB
        have HSB := HSBb
        clear HSBb
        clear b4
        obtain ⟨s0, s1, s2, s3, s4, s5⟩ := six_cells H7.out
        go_wp2_with fail
        refine (r_viewright (cap := x1) HX1.out HL1.out HN1.out HOK1.out R1 C1 row1 col1 vis1).mono ?_
        rintro e w7 ⟨rfl, b8⟩
        rw [HQ1.out]
        have HX1b := Lib.hid (HX1.out.below b8)
        clear HX1
        have HX1 := HX1b
        clear HX1b
        have HX2b := Lib.hid (HX2.out.below b8)
        clear HX2
        have HX2 := HX2b
        clear HX2b
        have H7b := Lib.hid ((b8.block _ (lt_of_block H7.out)).trans H7.out)
        clear H7
        have H7 := H7b
        clear H7b
        have H8b := Lib.hid ((b8.block _ (lt_of_block H8.out)).trans H8.out)
        clear H8
        have H8 := H8b
        clear H8b
        have HSBb := Lib.hid (HSB.out.trans (b8.mono HSB.out.size))
        clear HSB
        have HSB := HSBb
        clear HSBb
        clear b8 s0 s1 s2 s3 s4 s5
        obtain ⟨s0, s1, s2, s3, s4, s5⟩ := six_cells H8.out
        go_wp2_with fail
        refine (r_viewright (cap := x2) HX2.out HL2.out HN2.out HOK2.out R2 C2 row2 col2 vis2).mono ?_
        rintro e w8 ⟨rfl, b8⟩
        rw [HQ2.out]
        have HX1b := Lib.hid (HX1.out.below b8)
        clear HX1
        have HX1 := HX1b
        clear HX1b
        have HX2b := Lib.hid (HX2.out.below b8)
        clear HX2
        have HX2 := HX2b
        clear HX2b
        have H7b := Lib.hid ((b8.block _ (lt_of_block H7.out)).trans H7.out)
        clear H7
        have H7 := H7b
        clear H7b
        have H8b := Lib.hid ((b8.block _ (lt_of_block H8.out)).trans H8.out)
        clear H8
        have H8 := H8b
        clear H8b
        have HSBb := Lib.hid (HSB.out.trans (b8.mono HSB.out.size))
        clear HSB
        have HSB := HSBb
        clear HSBb
        clear b8 s0 s1 s2 s3 s4 s5
        go_wp2_with fail
        refine (alive_any _ (HTB.out.below HSB.out HTB.out.big)).mono ?_
        rintro e w9 ⟨rfl, b9⟩
        have HB9 := Lib.hid (HB.out.trans ((HSB.out.trans (b9.mono HSB.out.size)).mono HB.out.size))
        clear b9
        go_wp2
        go_ret
        exact ⟨by rfl, HB9.out⟩
      | true =>
        obtain ⟨X4, hX4⟩ : ∃ X, patchB R1 C1 L1 R2 C2 row2 col2 vis2 L2 = X := ⟨_, rfl⟩
        obtain ⟨m4, hm4⟩ : ∃ m, X4.length = m := ⟨_, rfl⟩
        refine (p_diff8 (ca := cap1) (cb := cap2) (visa := vis1) (HCR1.out.below HSB.out) (HCR2.out.below HSB.out) HL1.out HL2.out HC2L.out HOK1.out HOK2.out (HTB.out.below HSB.out HTB.out.big) HQ1.out HQ2.out hX4 hm4).mono ?_
        rintro e w4 ⟨A4, c4, rfl, _, _, hr4, b4⟩
        clear w0_ w1_ w2_ w3_ w4_ w5_ v0_ v1_ v2_ v3_ v4_ v5_
        have HR4 := Lib.hid (show RI .u8 w4 A4 X4 from hr4)
        have HM4 := Lib.hid hm4
        have HXE := Lib.hid (fun (_ : Unit) => hX4)
        clear hr4 hX4 hm4
        have HX1b := Lib.hid (HX1.out.below b4)
        clear HX1
        have HX1 := HX1b
        clear HX1b
        have HX2b := Lib.hid (HX2.out.below b4)
        clear HX2
        have HX2 := HX2b
        clear HX2b
        have H7b := Lib.hid ((b4.block _ (lt_of_block H7.out)).trans H7.out)
        clear H7
        have H7 := H7b
        clear H7b
        have H8b := Lib.hid ((b4.block _ (lt_of_block H8.out)).trans H8.out)
        clear H8
        have H8 := H8b
        clear H8b
        have HSBb := Lib.hid (HSB.out.trans (b4.mono HSB.out.size))
        clear HSB
        have HSB := HSBb
        clear HSBb
        clear b4
        obtain ⟨s0, s1, s2, s3, s4, s5⟩ := six_cells H7.out
        go_wp2_with fail
        refine (r_viewright (cap := x1) HX1.out HL1.out HN1.out HOK1.out R1 C1 row1 col1 vis1).mono ?_
        rintro e w7 ⟨rfl, b8⟩
        rw [HQ1.out]
        have HX1b := Lib.hid (HX1.out.below b8)
        clear HX1
        have HX1 := HX1b
        clear HX1b
        have HX2b := Lib.hid (HX2.out.below b8)
        clear HX2
        have HX2 := HX2b
        clear HX2b
        have H7b := Lib.hid ((b8.block _ (lt_of_block H7.out)).trans H7.out)
        clear H7
        have H7 := H7b
        clear H7b
        have H8b := Lib.hid ((b8.block _ (lt_of_block H8.out)).trans H8.out)
        clear H8
        have H8 := H8b
        clear H8b
        have HR4b := Lib.hid (show RI .u8 _ A4 X4 from RI.below (by exact HR4.out) b8)
        clear HR4
        have HR4 := HR4b
        clear HR4b
        have HSBb := Lib.hid (HSB.out.trans (b8.mono HSB.out.size))
        clear HSB
        have HSB := HSBb
        clear HSBb
        clear b8 s0 s1 s2 s3 s4 s5
        obtain ⟨s0, s1, s2, s3, s4, s5⟩ := six_cells H8.out
        go_wp2_with fail
        refine (r_viewright (cap := x2) HX2.out HL2.out HN2.out HOK2.out R2 C2 row2 col2 vis2).mono ?_
        rintro e w8 ⟨rfl, b8⟩
        rw [HQ2.out]
        have HX1b := Lib.hid (HX1.out.below b8)
        clear HX1
        have HX1 := HX1b
        clear HX1b
        have HX2b := Lib.hid (HX2.out.below b8)
        clear HX2
        have HX2 := HX2b
        clear HX2b
        have H7b := Lib.hid ((b8.block _ (lt_of_block H7.out)).trans H7.out)
        clear H7
        have H7 := H7b
        clear H7b
        have H8b := Lib.hid ((b8.block _ (lt_of_block H8.out)).trans H8.out)
        clear H8
        have H8 := H8b
        clear H8b
        have HR4b := Lib.hid (show RI .u8 _ A4 X4 from RI.below (by exact HR4.out) b8)
        clear HR4
        have HR4 := HR4b
        clear HR4b
        have HSBb := Lib.hid (HSB.out.trans (b8.mono HSB.out.size))
        clear HSB
        have HSB := HSBb
        clear HSBb
        clear b8 s0 s1 s2 s3 s4 s5
        go_upto_region 7 with fail
        have hd := (Below.refl w8.heap.size w8).drew
        have HX1b := Lib.hid (HX1.out.below hd)
        clear HX1
        have HX1 := HX1b
        clear HX1b
        have HX2b := Lib.hid (HX2.out.below hd)
        clear HX2
        have HX2 := HX2b
        clear HX2b
        have H7b := Lib.hid ((hd.block _ (lt_of_block H7.out)).trans H7.out)
        clear H7
        have H7 := H7b
        clear H7b
        have H8b := Lib.hid ((hd.block _ (lt_of_block H8.out)).trans H8.out)
        clear H8
        have H8 := H8b
        clear H8b
        have HR4b := Lib.hid (show RI .u8 _ A4 X4 from RI.below (by exact HR4.out) hd)
        clear HR4
        have HR4 := HR4b
        clear HR4b
        have HSBb := Lib.hid (HSB.out.trans (hd.mono HSB.out.size))
        clear HSB
        have HSB := HSBb
        clear HSBb
        refine wp_region_held_drew (S := fun W => Below w8.drew.heap.size w8.drew W) (by kernel_rfl) (Below.refl _ _) (fun hHeld => ?_)
        obtain ⟨X, hX⟩ : ∃ X, w8.drew = X := ⟨_, rfl⟩
        simp only [hX] at hHeld HSB HX1 HX2 H7 H8 HR4 ⊢
        clear hX hd
        have HUX := HSB
        have HBX := Lib.hid (Below.refl X.heap.size X)
        have HCV1 := Lib.hid (fun (Y : World) (hY : Below X.heap.size X Y) => conv_text (w := Y) HM4.out c4 (RI.below (by exact HR4.out) hY))
        obtain ⟨S4, hS4⟩ : ∃ S, strOfNums X4 = S := ⟨_, rfl⟩
        have hS9 := Lib.hid (fun (_ : Unit) => hS4)
        rw [hS4] at HCV1
        have sS : (S4.toList == S4.toList) = true := by simp
        clear hS4
        refine wpAnyH_ready (rs := [0]) (by kernel_rfl) (by simp) ?_
        refine AllReadyH.cons (by simp; rfl) (fun K0 hK0 => ?_) AllReadyH.nil
        go_simp
        refine (alive_any _ (HTB.out.below (HUX.out.trans (HBX.out.mono HUX.out.size)) HTB.out.big)).mono ?_
        rintro e Y1 ⟨rfl, hb⟩
        have HB2 := Lib.hid (HBX.out.trans (hb.mono HBX.out.size))
        clear HBX hb
        have HBX := HB2
        clear HB2
        refine hK0.out _ _ HBX.out (fun _ => ?_)
        clear hK0 K0 hHeld
        have hHeld := HBX.out
        refine wpAnyH_take (i := 1) (v := ?_) (by simp; rfl) (by kernel_rfl) (by kernel_rfl) (by kernel_rfl) (by exact fun _ _ _ h => h) (Or.inl ⟨by rfl, fun wx hSx => ?_⟩) hHeld ?_
        rotate_left
        · clear hSx; go_simp; (try with_reducible rfl)
        simp only [Act.put, List.setIfInBounds_toArray, List.set_cons_zero, List.set_cons_succ]
        refine wpAnyH_take (i := 2) (v := ?_) (by simp; rfl) (by kernel_rfl) (by kernel_rfl) (by kernel_rfl) (by exact fun _ _ _ h => h) (Or.inl ⟨by rfl, fun wx hSx => ?_⟩) hHeld ?_
        rotate_left
        · clear hSx; go_simp; (try with_reducible rfl)
        simp only [Act.put, List.setIfInBounds_toArray, List.set_cons_zero, List.set_cons_succ]
        refine wpAnyH_take (i := 3) (v := ?_) (by simp; rfl) (by kernel_rfl) (by kernel_rfl) (by kernel_rfl) (by exact fun _ _ _ h => h) (Or.inl ⟨by rfl, fun wx hSx => ?_⟩) hHeld ?_
        rotate_left
        · clear hSx; go_simp; (try with_reducible rfl)
        simp only [Act.put, List.setIfInBounds_toArray, List.set_cons_zero, List.set_cons_succ]
        refine wpAnyH_take (i := 4) (v := ?_) (by simp; rfl) (by kernel_rfl) (by kernel_rfl) (by kernel_rfl) (by exact fun _ _ _ h => h) (Or.inl ⟨by rfl, fun wx hSx => ?_⟩) hHeld ?_
        rotate_left
        · clear hSx; go_simp; (try with_reducible rfl)
        simp only [Act.put, List.setIfInBounds_toArray, List.set_cons_zero, List.set_cons_succ]
        refine wpAnyH_take (i := 5) (v := ?_) (by simp; rfl) (by kernel_rfl) (by kernel_rfl) (by kernel_rfl) (by exact fun _ _ _ h => h) (Or.inl ⟨by rfl, fun wx hSx => ?_⟩) hHeld ?_
        rotate_left
        · clear hSx; go_simp; (try with_reducible rfl)
        simp only [Act.put, List.setIfInBounds_toArray, List.set_cons_zero, List.set_cons_succ]
        refine wpAnyH_take (i := 6) (v := ?_) (by simp; rfl) (by kernel_rfl) (by kernel_rfl) (by kernel_rfl) (by exact fun _ _ _ h => h) (Or.inl ⟨by rfl, fun wx hSx => ?_⟩) hHeld ?_
        rotate_left
        · clear hSx; go_simp; (try with_reducible rfl)
        simp only [Act.put, List.setIfInBounds_toArray, List.set_cons_zero, List.set_cons_succ]
        refine wpAnyH_take (i := 7) (v := ?_) (by simp; rfl) (by kernel_rfl) (by kernel_rfl) (by kernel_rfl) (by exact fun _ _ _ h => h) (Or.inl ⟨by rfl, fun wx hSx => ?_⟩) hHeld ?_
        rotate_left
        · have hcv := HCV1.out wx hSx; clear hSx; go_simp; (try with_reducible rfl)
        simp only [Act.put, List.setIfInBounds_toArray, List.set_cons_zero, List.set_cons_succ]
        refine wpAnyH_take (i := 8) (v := ?_) (by simp; rfl) (by kernel_rfl) (by kernel_rfl) (by kernel_rfl) (by exact fun _ _ _ h => h) (Or.inl ⟨by rfl, fun wx hSx => ?_⟩) hHeld ?_
        rotate_left
        · obtain ⟨s0, s1, s2, s3, s4, s5⟩ := six_cells ((hSx.block _ (lt_of_block H7.out)).trans H7.out); clear hSx; go_simp; (try with_reducible rfl)
        simp only [Act.put, List.setIfInBounds_toArray, List.set_cons_zero, List.set_cons_succ]
        refine wpAnyH_take (i := 9) (v := ?_) (by simp; rfl) (by kernel_rfl) (by kernel_rfl) (by kernel_rfl) (by exact fun _ _ _ h => h) (Or.inl ⟨by rfl, fun wx hSx => ?_⟩) hHeld ?_
        rotate_left
        · obtain ⟨s0, s1, s2, s3, s4, s5⟩ := six_cells ((hSx.block _ (lt_of_block H8.out)).trans H8.out); clear hSx; go_simp; (try with_reducible rfl)
        simp only [Act.put, List.setIfInBounds_toArray, List.set_cons_zero, List.set_cons_succ]
        refine wpAnyH_ready (rs := [10]) (by kernel_rfl) (by simp) ?_
        refine AllReadyH.cons (by simp; rfl) (fun K0 hK0 => ?_) AllReadyH.nil
        go_simp
        refine (r_diff (ca := x1) (cb := x2) (HX1.out.below HBX.out) (HX2.out.below HBX.out) HL1.out HL2.out HOK1.out HOK2.out R1 C1 row1 col1 vis1 R2 C2 row2 col2 vis2 HQ1.out HQ2.out).mono ?_
        rintro e Y2 ⟨u9, rfl, o9⟩
        rw [HXE.out ()] at o9
        obtain ⟨A9, c9, rfl, _, _, hr9⟩ := bytes8 o9
        have HCV2 := Lib.hid (fun (Y : World) (hY : Below Y2.heap.size Y2 Y) => hS9.out () ▸ conv_text (w := Y) HM4.out c9 (RI.below (by exact hr9) hY))
        rw [HM4.out]
        have hbx : Below X.heap.size X Y2 := HBX.out.trans (o9.below.mono HBX.out.size)
        clear o9 hr9
        refine hK0.out _ _ hbx (fun _ => ?_)
        clear hK0 K0 hHeld
        refine heldMono (S' := fun W => Below Y2.heap.size Y2 W) (fun _ h => hbx.trans (h.mono hbx.size)) _ _ _ _ ?_
        have hHeld := Below.refl Y2.heap.size Y2
        clear HBX
        have HBX := Lib.hid hbx
        clear hbx
        refine wpAnyH_take (i := 11) (v := ?_) (by simp; rfl) (by kernel_rfl) (by kernel_rfl) (by kernel_rfl) (by exact fun _ _ _ h => h) (Or.inl ⟨by rfl, fun wx hSx => ?_⟩) hHeld ?_
        rotate_left
        · have hcv := HCV2.out wx hSx; clear hSx; go_simp; (try with_reducible rfl)
        simp only [Act.put, List.setIfInBounds_toArray, List.set_cons_zero, List.set_cons_succ]
        refine wpAnyH_take (i := 12) (v := ?_) (by simp; rfl) (by kernel_rfl) (by kernel_rfl) (by kernel_rfl) (by exact fun _ _ _ h => h) (Or.inl ⟨by rfl, fun wx hSx => ?_⟩) hHeld ?_
        rotate_left
        · clear hSx; go_simp; (try with_reducible rfl)
        simp only [Act.put, List.setIfInBounds_toArray, List.set_cons_zero, List.set_cons_succ]
        refine wpAnyH_take (i := 13) (v := ?_) (by simp; rfl) (by kernel_rfl) (by kernel_rfl) (by kernel_rfl) (by exact fun _ _ _ h => h) (Or.inl ⟨by rfl, fun wx hSx => ?_⟩) hHeld ?_
        rotate_left
        · clear hSx; go_simp; (try with_reducible rfl)
        simp only [Act.put, List.setIfInBounds_toArray, List.set_cons_zero, List.set_cons_succ]
        refine wpAnyH_take (i := 14) (v := ?_) (by simp; rfl) (by kernel_rfl) (by kernel_rfl) (by kernel_rfl) (by exact fun _ _ _ h => h) (Or.inl ⟨by rfl, fun wx hSx => ?_⟩) hHeld ?_
        rotate_left
        · clear hSx; go_simp; (try with_reducible rfl)
        simp only [Act.put, List.setIfInBounds_toArray, List.set_cons_zero, List.set_cons_succ]
        refine wpAnyH_done (by kernel_rfl) ?_ _
        go_wp2
        go_ret
        exact ⟨by rfl, HB.out.trans ((HUX.out.trans (HBX.out.mono HUX.out.size)).mono HB.out.size)⟩
end Go.Proofs.YtnejiniiehfmaaaDoor
