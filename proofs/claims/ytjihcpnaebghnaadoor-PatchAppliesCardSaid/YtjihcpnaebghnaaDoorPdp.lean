/-
  Proved here: of the document's patches: As and Base with their rooms; cells put behind cells.
-/
import Derived.Test.YtjihcpnaebghnaaDoorPdo
set_option linter.unusedSimpArgs false
set_option linter.unusedVariables false
namespace Go.Proofs.YtjihcpnaebghnaaDoor
open Go.RowKit
set_option maxRecDepth 100000 in
set_option maxHeartbeats 16000000 in
theorem as_view2 {w : World} {A : Option Addr} {n cap : Nat} {L : List Ce} (hA : CR w A L) (hl : L.length = n) (hn : n ≤ 1000) (ho : ∀ c ∈ L, CeOk c) (R C row col : Int) (vis : Bool) :
    Calls Tryd.prog 9 #[vV R C A n cap row col vis] w fun e w' => ∃ A1 c1, e = .returned (.agg #[.int .i64 R, .int .i64 C, .slice A1 n c1, .int .i64 row, .int .i64 col, .bool vis]) ∧ n ≤ c1 ∧ CY w' A1 L ∧ Below w.heap.size w w' := by
  have hba := (Below.refl w.heap.size w).alloc (Nat.le_refl _) (.cells #[.int .i64 R, .int .i64 C, .slice A n cap, .int .i64 row, .int .i64 col, .bool vis] 24)
  have hbb := (Below.refl (w.alloc (.cells #[.int .i64 R, .int .i64 C, .slice A n cap, .int .i64 row, .int .i64 col, .bool vis] 24)).heap.size (w.alloc (.cells #[.int .i64 R, .int .i64 C, .slice A n cap, .int .i64 row, .int .i64 col, .bool vis] 24))).alloc (Nat.le_refl _) (.cells #[.int .i64 0, .int .i64 0, .slice none 0 0, .int .i64 0, .int .i64 0, .bool false] 34)
  have HB0 := hba.trans (hbb.mono hba.size)
  have HC0 := (hbb.block w.heap.size (by simp)).trans (heap_alloc_new w (.cells #[.int .i64 R, .int .i64 C, .slice A n cap, .int .i64 row, .int .i64 col, .bool vis] 24))
  have HC1 := heap_alloc_new (w.alloc (.cells #[.int .i64 R, .int .i64 C, .slice A n cap, .int .i64 row, .int .i64 col, .bool vis] 24)) (.cells #[.int .i64 0, .int .i64 0, .slice none 0 0, .int .i64 0, .int .i64 0, .bool false] 34)
  obtain ⟨vb, hvb⟩ : ∃ b, w.heap.size = b := ⟨_, rfl⟩
  rw [show (w.alloc (.cells #[.int .i64 R, .int .i64 C, .slice A n cap, .int .i64 row, .int .i64 col, .bool vis] 24)).heap.size = w.heap.size + 1 by simp] at HC1
  have HVB := Lib.hid hvb
  have HL := Lib.hid hl
  have HN6 := Lib.hid hn
  have HO := Lib.hid ho
  have HCR := Lib.hid (hA.below HB0)
  clear hA hl hn ho hba hbb
  go_enter Tryd.func9, Tryd.ntmps9
  go_upto_region 1 with fail
  simp only [hvb] at HC0 HC1 ⊢
  generalize ((w.alloc (.cells #[.int .i64 R, .int .i64 C, .slice A n cap, .int .i64 row, .int .i64 col, .bool vis] 24)).alloc (.cells #[.int .i64 0, .int .i64 0, .slice none 0 0, .int .i64 0, .int .i64 0, .bool false] 34)) = U at HB0 HC0 HC1 HCR ⊢
  have HB := Lib.hid HB0
  have HC := Lib.hid HC0
  have HZ := Lib.hid HC1
  obtain ⟨x0, x1, x2, x3, x4, x5⟩ := six_cells HC0
  clear HB0 HC0 HC1 hvb
  obtain ⟨hb, hhb⟩ : ∃ b, U.heap.size = b := ⟨_, rfl⟩
  have HV0 : Hid (VY U hb R C row col vis [] (.slice none 0 0) (U.alloc (.cells #[.int .i64 R, .int .i64 C, .slice none 0 0, .int .i64 row, .int .i64 col, .bool vis] 34))) := Lib.hid (by
    have hn := heap_alloc_new U (.cells #[.int .i64 R, .int .i64 C, .slice none 0 0, .int .i64 row, .int .i64 col, .bool vis] 34)
    rw [hhb] at hn
    exact ⟨hn, World.ownsRow_nil _ _ _ _, (Below.refl _ _).alloc (Nat.le_refl _) _, by omega⟩)
  go_upto_region 2 with fail
  try simp only [hhb]
  generalize (U.alloc (.cells #[.int .i64 R, .int .i64 C, .slice none 0 0, .int .i64 row, .int .i64 col, .bool vis] 34)) = V at HV0 ⊢
  clear hhb x0 x1 x2 x3 x4 x5
  obtain ⟨x0, x1, x2, x3, x4, x5⟩ := six_cells ((HV0.out.below.block _ (lt_of_block HC.out)).trans HC.out)
  go_wp2
  go_loopw [4] (fun iv wr => ∃ (i : Nat) (A1 : Option Addr) (n1 c1 : Nat), iv = .int .i64 i ∧ i ≤ n ∧ Hid (VY U hb R C row col vis (L.take i) (.slice A1 n1 c1) wr) ∧ Hid (n1 = i)) (fun iv _ => n - (intOf iv).toNat)
  case atStart => exact ⟨0, none, 0, 0, rfl, by omega, HV0, Lib.hid rfl⟩
  case round =>
    obtain ⟨i, A1, n1, c1, rfl, hi, HVY, HN1⟩ := hrel
    clear HV0 x0 x1 x2 x3 x4 x5
    obtain ⟨x0, x1, x2, x3, x4, x5⟩ := six_cells ((HVY.out.below.block _ (lt_of_block HC.out)).trans HC.out)
    by_cases hin : i < n
    · have e1 : decide ((i : Int) < (n : Int)) = true := by simp; omega
      have e1' : decide (i < n) = true := by simp; omega
      have g1 : (0 : Int) ≤ (i : Int) := by omega
      have g2 : (i : Int) < (n : Int) := by omega
      have wr1 : IntKind.i64.wrap ((i : Int) + 1) = (i : Int) + 1 := IntWalk.i64_in _ (by have := HN6.out; omega)
      have HML := Lib.hid (show (L.take i).length = n1 from by rw [List.length_take, HL.out, HN1.out]; omega)
      have HIN := Lib.hid hin
      obtain ⟨b, off, rfl, hbl, hcs⟩ := HCR.out (by rw [HL.out]; omega)
      have hcel := hcs i (by rw [HL.out]; omega)
      have hcok := HO.out (ceAt L i) (ceAt_mem (by rw [HL.out]; omega))
      have htk : L.take i ++ [ceAt L i] = L.take (i + 1) := by
        rw [List.take_succ_eq_append_getElem (by rw [HL.out]; exact hin)]
        congr 1
        simp [ceAt, List.getD, show i < L.length by rw [HL.out]; exact hin]
      obtain ⟨⟨p, f, gg, bb⟩, hce⟩ : ∃ c, ceAt L i = c := ⟨_, rfl⟩
      rw [hce] at hcel hcok htk
      obtain ⟨f0, f1, f2, f3, f4, f5, f6, f7, hf⟩ := eight (ofF_len 8 f)
      obtain ⟨ey, _⟩ := yV_st (p := p) (gg := gg) (bb := bb) hf
      have hlc := fun W => l_cell ⟨p, f, gg, bb⟩ W hcok.f.1 hcok.f.2
      rw [ey] at hlc
      unfold cV at hlc
      dsimp only at hlc
      have HLC := Lib.hid hlc
      have HTK := Lib.hid htk
      have HYC := Lib.hid (fun (_ : Unit) => show (yC ⟨p, f, gg, bb⟩).toArray = (#[.int .i32 p, .bool f0, .bool f1, .bool f2, .bool f3, .bool f4, .bool f5, .bool f6, .bool f7, .int .u32 gg, .int .u32 bb] : Array Value) from by unfold yC styL; dsimp only; rw [hf]; rfl)
      have HCL := Lib.hid (fun (X : World) (hX : Below U.heap.size U X) => ce_four (fun j v hv => (hX.cell (p := ⟨b, off + i * 4 + j, none⟩) hbl).trans (hcel j v hv)))
      have hdr := (Below.refl wr.heap.size wr).drew
      have HVD := Lib.hid (HVY.out.next hdr)
      clear hi hin hcel hcok hce hf ey hlc htk hbl hcs
      go_upto_region 5 with fail
      clear x0 x1 x2 x3 x4 x5
      refine wp_region_held_drew (S := fun W => Below U.heap.size U W) (by kernel_rfl) HVD.out.below (fun hHeld => ?_)
      obtain ⟨X, hX⟩ : ∃ X, wr.drew = X := ⟨_, rfl⟩
      simp only [hX] at hHeld HVD ⊢
      clear HVY hX hdr
      have HVY := HVD
      clear HVD
      refine wpAnyH_take (i := 0) (v := ?_) (by simp; rfl) (by kernel_rfl) (by kernel_rfl) (by kernel_rfl) (by exact fun _ _ _ h => h) (Or.inl ⟨by rfl, fun wx hSx => ?_⟩) hHeld ?_
      rotate_left
      · clear hSx; go_simp; (try with_reducible rfl)
      simp only [Act.put, List.setIfInBounds_toArray, List.set_cons_zero, List.set_cons_succ]
      refine wpAnyH_take (i := 1) (v := ?_) (by simp; rfl) (by kernel_rfl) (by kernel_rfl) (by kernel_rfl) (by exact fun _ _ _ h => h) (Or.inl ⟨by rfl, fun wx hSx => ?_⟩) hHeld ?_
      rotate_left
      · clear hSx; go_simp; (try with_reducible rfl)
      simp only [Act.put, List.setIfInBounds_toArray, List.set_cons_zero, List.set_cons_succ]
      refine wpAnyH_take (i := 3) (v := ?_) (by simp; rfl) (by kernel_rfl) (by kernel_rfl) (by kernel_rfl) (by exact fun _ _ _ h => h) (Or.inl ⟨by rfl, fun wx hSx => ?_⟩) hHeld ?_
      rotate_left
      · clear hSx; go_simp; (try with_reducible rfl)
      simp only [Act.put, List.setIfInBounds_toArray, List.set_cons_zero, List.set_cons_succ]
      refine wpAnyH_take (i := 4) (v := ?_) (by simp; rfl) (by kernel_rfl) (by kernel_rfl) (by kernel_rfl) (by exact fun _ _ _ h => h) (Or.inl ⟨by rfl, fun wx hSx => ?_⟩) hHeld ?_
      rotate_left
      · obtain ⟨s0, s1, s2, s3, s4, s5⟩ := six_cells ((hSx.block _ (lt_of_block HC.out)).trans HC.out); clear hSx; go_simp; (try with_reducible rfl)
      simp only [Act.put, List.setIfInBounds_toArray, List.set_cons_zero, List.set_cons_succ]
      refine wpAnyH_take (i := 5) (v := ?_) (by simp; rfl) (by kernel_rfl) (by kernel_rfl) (by kernel_rfl) (by exact fun _ _ _ h => h) (Or.inl ⟨by rfl, fun wx hSx => ?_⟩) hHeld ?_
      rotate_left
      · clear hSx; go_simp; (try with_reducible rfl)
      simp only [Act.put, List.setIfInBounds_toArray, List.set_cons_zero, List.set_cons_succ]
      refine wpAnyH_take (i := 6) (v := ?_) (by simp; rfl) (by kernel_rfl) (by kernel_rfl) (by kernel_rfl) (by exact fun _ _ _ h => h) (Or.inl ⟨by rfl, fun wx hSx => ?_⟩) hHeld ?_
      rotate_left
      · clear hSx; go_simp; (try with_reducible rfl)
      simp only [Act.put, List.setIfInBounds_toArray, List.set_cons_zero, List.set_cons_succ]
      refine wpAnyH_take (i := 7) (v := ?_) (by simp; rfl) (by kernel_rfl) (by kernel_rfl) (by kernel_rfl) (by exact fun _ _ _ h => h) (Or.inl ⟨by rfl, fun wx hSx => ?_⟩) hHeld ?_
      rotate_left
      · obtain ⟨k0, k1, k2, k3⟩ := HCL.out wx hSx; clear hSx; go_simp; (try with_reducible rfl)
      simp only [Act.put, List.setIfInBounds_toArray, List.set_cons_zero, List.set_cons_succ]
      refine wpAnyH_ready (rs := [2, 8]) (by kernel_rfl) (by simp) ?_
      refine AllReadyH.cons (by simp; rfl) (fun K0 hK0 => ?_) (AllReadyH.cons (by simp; rfl) (fun K0 hK0 => ?_) AllReadyH.nil)
      · obtain ⟨s0, s1, s2, s3, s4, s5⟩ := six_cells HVY.out.blk
        go_simp
        refine hK0.out _ _ HVY.out.below (fun _ => ?_)
        clear hK0 K0 s0 s1 s2 s3 s4 s5
        refine wpAnyH_ready (rs := [8]) (by kernel_rfl) (by simp) ?_
        refine AllReadyH.cons (by simp; rfl) (fun K0 hK0 => ?_) AllReadyH.nil
        go_simp
        refine (HLC.out _).mono ?_
        rintro e c1 ⟨rfl, hbV⟩
        have HV2 := Lib.hid (HVY.out.next hbV)
        clear HVY hbV
        have HVY := HV2
        clear HV2
        refine hK0.out _ _ HVY.out.below (fun _ => ?_)
        clear hK0 K0 hHeld
        have hHeld := HVY.out.below
        refine wpAnyH_ready (rs := [9]) (by kernel_rfl) (by simp) ?_
        refine AllReadyH.cons (by simp; rfl) (fun K0 hK0 => ?_) AllReadyH.nil
        go_simp
        have HV2 := Lib.hid (HVY.out.next ((Below.refl c1.heap.size c1).alloc (Nat.le_refl _) (.cells #[.int .i32 p, .bool f0, .bool f1, .bool f2, .bool f3, .bool f4, .bool f5, .bool f6, .bool f7, .int .u32 gg, .int .u32 bb] 80)))
        have HBK := Lib.hid (heap_alloc_new c1 (.cells #[.int .i32 p, .bool f0, .bool f1, .bool f2, .bool f3, .bool f4, .bool f5, .bool f6, .bool f7, .int .u32 gg, .int .u32 bb] 80))
        clear HVY
        have HVY := HV2
        clear HV2
        obtain ⟨fb, hfb⟩ : ∃ g, c1.heap.size = g := ⟨_, rfl⟩
        rw [hfb] at HBK ⊢
        clear hfb
        generalize (c1.alloc (.cells #[.int .i32 p, .bool f0, .bool f1, .bool f2, .bool f3, .bool f4, .bool f5, .bool f6, .bool f7, .int .u32 gg, .int .u32 bb] 80)) = b2 at HVY HBK ⊢
        refine hK0.out _ _ HVY.out.below (fun _ => ?_)
        clear hK0 K0 hHeld
        have hHeld := HVY.out.below
        refine wpAnyH_ready (rs := [10]) (by kernel_rfl) (by simp) ?_
        refine AllReadyH.cons (by simp; rfl) (fun K0 hK0 => ?_) AllReadyH.nil
        have how := HVY.out.own
        rw [HML.out] at how
        obtain ⟨v2, W2, hrun, ho, hg, hat⟩ := app_y (c := ⟨p, f, gg, bb⟩) how (by rw [HYC.out ()]; exact HBK.out) (by have := HN6.out; have := HN1.out; have := HIN.out; omega) (by have := lt_of_block HVY.out.blk; omega)
        refine step_app rfl (.tmp 26) (.tmp 33) _ rfl _ _ rfl rfl hrun ?_
        simp only [Act.put, List.setIfInBounds_toArray, List.set_cons_zero, List.set_cons_succ]
        obtain ⟨A2, c2, hv2, _⟩ := own_slice ho
        subst hv2
        have HPV := Lib.hid (HTK.out ▸ HVY.out.put hg ho (by rw [List.length_append, HML.out]; rfl))
        have q0 := Lib.hid ((hg.block hb (lt_of_block HVY.out.blk) (by intro e; have := ownBlock_le HVY.out.own hb e.symm; omega)).trans HVY.out.blk)
        have HB3 := Lib.hid (HVY.out.below.grown hg HVY.out.below.size (fun k hk => by have := ownBlock_le HVY.out.own k hk; have := HVY.out.gt; omega))
        clear hrun ho hg hat how
        refine hK0.out _ _ HB3.out (fun _ => ?_)
        clear hK0 K0 hHeld
        have hHeld := HB3.out
        refine wpAnyH_take (i := 11) (v := ?_) (by simp; rfl) (by kernel_rfl) (by kernel_rfl) (by kernel_rfl) (by exact fun _ _ _ h => h) (Or.inl ⟨by rfl, fun wx hSx => ?_⟩) hHeld ?_
        rotate_left
        · clear hSx; go_simp; (try with_reducible rfl)
        simp only [Act.put, List.setIfInBounds_toArray, List.set_cons_zero, List.set_cons_succ]
        refine wpAnyH_take (i := 12) (v := ?_) (by simp; rfl) (by kernel_rfl) (by kernel_rfl) (by kernel_rfl) (by exact fun _ _ _ h => h) (Or.inl ⟨by rfl, fun wx hSx => ?_⟩) hHeld ?_
        rotate_left
        · clear hSx; go_simp; (try with_reducible rfl)
        simp only [Act.put, List.setIfInBounds_toArray, List.set_cons_zero, List.set_cons_succ]
        refine wpAnyH_ready (rs := [13]) (by kernel_rfl) (by simp) ?_
        refine AllReadyH.cons (by simp; rfl) (fun K0 hK0 => ?_) AllReadyH.nil
        obtain ⟨s0, s1, s2, s3, s4, s5⟩ := six_cells q0.out
        have q1 := frozen_of_row W2 hb 2 _ _ q0.out
        go_simp
        refine hK0.out _ _ HPV.out.below (fun _ => ?_)
        clear hK0 K0 hHeld s0 s1 s2 s3 s4 s5 q1
        have hHeld := HPV.out.below
        refine wpAnyH_done (by kernel_rfl) ?_ _
        generalize (W2.setCell ⟨hb, 2, none⟩ (.slice A2 (n1 + 1) c2)) = W3 at HPV ⊢
        go_wp2
        go_roundw
        case rel => exact ⟨i + 1, A2, n1 + 1, c2, by go_num, by have := HIN.out; omega, HPV, Lib.hid (by have := HN1.out; omega)⟩
        case measure => have := HIN.out; simp [intOf]; omega
      · go_simp
        refine (HLC.out _).mono ?_
        rintro e c0 ⟨rfl, hbV⟩
        have HV2 := Lib.hid (HVY.out.next hbV)
        clear HVY hbV
        have HVY := HV2
        clear HV2
        refine hK0.out _ _ HVY.out.below (fun _ => ?_)
        clear hK0 K0 hHeld
        have hHeld := HVY.out.below
        refine wpAnyH_ready (rs := [2, 9]) (by kernel_rfl) (by simp) ?_
        refine AllReadyH.cons (by simp; rfl) (fun K0 hK0 => ?_) (AllReadyH.cons (by simp; rfl) (fun K0 hK0 => ?_) AllReadyH.nil)
        · obtain ⟨s0, s1, s2, s3, s4, s5⟩ := six_cells HVY.out.blk
          go_simp
          refine hK0.out _ _ HVY.out.below (fun _ => ?_)
          clear hK0 K0 s0 s1 s2 s3 s4 s5
          refine wpAnyH_ready (rs := [9]) (by kernel_rfl) (by simp) ?_
          refine AllReadyH.cons (by simp; rfl) (fun K0 hK0 => ?_) AllReadyH.nil
          go_simp
          have HV2 := Lib.hid (HVY.out.next ((Below.refl c0.heap.size c0).alloc (Nat.le_refl _) (.cells #[.int .i32 p, .bool f0, .bool f1, .bool f2, .bool f3, .bool f4, .bool f5, .bool f6, .bool f7, .int .u32 gg, .int .u32 bb] 80)))
          have HBK := Lib.hid (heap_alloc_new c0 (.cells #[.int .i32 p, .bool f0, .bool f1, .bool f2, .bool f3, .bool f4, .bool f5, .bool f6, .bool f7, .int .u32 gg, .int .u32 bb] 80))
          clear HVY
          have HVY := HV2
          clear HV2
          obtain ⟨fb, hfb⟩ : ∃ g, c0.heap.size = g := ⟨_, rfl⟩
          rw [hfb] at HBK ⊢
          clear hfb
          generalize (c0.alloc (.cells #[.int .i32 p, .bool f0, .bool f1, .bool f2, .bool f3, .bool f4, .bool f5, .bool f6, .bool f7, .int .u32 gg, .int .u32 bb] 80)) = b2 at HVY HBK ⊢
          refine hK0.out _ _ HVY.out.below (fun _ => ?_)
          clear hK0 K0 hHeld
          have hHeld := HVY.out.below
          refine wpAnyH_ready (rs := [10]) (by kernel_rfl) (by simp) ?_
          refine AllReadyH.cons (by simp; rfl) (fun K0 hK0 => ?_) AllReadyH.nil
          have how := HVY.out.own
          rw [HML.out] at how
          obtain ⟨v2, W2, hrun, ho, hg, hat⟩ := app_y (c := ⟨p, f, gg, bb⟩) how (by rw [HYC.out ()]; exact HBK.out) (by have := HN6.out; have := HN1.out; have := HIN.out; omega) (by have := lt_of_block HVY.out.blk; omega)
          refine step_app rfl (.tmp 26) (.tmp 33) _ rfl _ _ rfl rfl hrun ?_
          simp only [Act.put, List.setIfInBounds_toArray, List.set_cons_zero, List.set_cons_succ]
          obtain ⟨A2, c2, hv2, _⟩ := own_slice ho
          subst hv2
          have HPV := Lib.hid (HTK.out ▸ HVY.out.put hg ho (by rw [List.length_append, HML.out]; rfl))
          have q0 := Lib.hid ((hg.block hb (lt_of_block HVY.out.blk) (by intro e; have := ownBlock_le HVY.out.own hb e.symm; omega)).trans HVY.out.blk)
          have HB3 := Lib.hid (HVY.out.below.grown hg HVY.out.below.size (fun k hk => by have := ownBlock_le HVY.out.own k hk; have := HVY.out.gt; omega))
          clear hrun ho hg hat how
          refine hK0.out _ _ HB3.out (fun _ => ?_)
          clear hK0 K0 hHeld
          have hHeld := HB3.out
          refine wpAnyH_take (i := 11) (v := ?_) (by simp; rfl) (by kernel_rfl) (by kernel_rfl) (by kernel_rfl) (by exact fun _ _ _ h => h) (Or.inl ⟨by rfl, fun wx hSx => ?_⟩) hHeld ?_
          rotate_left
          · clear hSx; go_simp; (try with_reducible rfl)
          simp only [Act.put, List.setIfInBounds_toArray, List.set_cons_zero, List.set_cons_succ]
          refine wpAnyH_take (i := 12) (v := ?_) (by simp; rfl) (by kernel_rfl) (by kernel_rfl) (by kernel_rfl) (by exact fun _ _ _ h => h) (Or.inl ⟨by rfl, fun wx hSx => ?_⟩) hHeld ?_
          rotate_left
          · clear hSx; go_simp; (try with_reducible rfl)
          simp only [Act.put, List.setIfInBounds_toArray, List.set_cons_zero, List.set_cons_succ]
          refine wpAnyH_ready (rs := [13]) (by kernel_rfl) (by simp) ?_
          refine AllReadyH.cons (by simp; rfl) (fun K0 hK0 => ?_) AllReadyH.nil
          obtain ⟨s0, s1, s2, s3, s4, s5⟩ := six_cells q0.out
          have q1 := frozen_of_row W2 hb 2 _ _ q0.out
          go_simp
          refine hK0.out _ _ HPV.out.below (fun _ => ?_)
          clear hK0 K0 hHeld s0 s1 s2 s3 s4 s5 q1
          have hHeld := HPV.out.below
          refine wpAnyH_done (by kernel_rfl) ?_ _
          generalize (W2.setCell ⟨hb, 2, none⟩ (.slice A2 (n1 + 1) c2)) = W3 at HPV ⊢
          go_wp2
          go_roundw
          case rel => exact ⟨i + 1, A2, n1 + 1, c2, by go_num, by have := HIN.out; omega, HPV, Lib.hid (by have := HN1.out; omega)⟩
          case measure => have := HIN.out; simp [intOf]; omega
        · go_simp
          have HV2 := Lib.hid (HVY.out.next ((Below.refl c0.heap.size c0).alloc (Nat.le_refl _) (.cells #[.int .i32 p, .bool f0, .bool f1, .bool f2, .bool f3, .bool f4, .bool f5, .bool f6, .bool f7, .int .u32 gg, .int .u32 bb] 80)))
          have HBK := Lib.hid (heap_alloc_new c0 (.cells #[.int .i32 p, .bool f0, .bool f1, .bool f2, .bool f3, .bool f4, .bool f5, .bool f6, .bool f7, .int .u32 gg, .int .u32 bb] 80))
          clear HVY
          have HVY := HV2
          clear HV2
          obtain ⟨fb, hfb⟩ : ∃ g, c0.heap.size = g := ⟨_, rfl⟩
          rw [hfb] at HBK ⊢
          clear hfb
          generalize (c0.alloc (.cells #[.int .i32 p, .bool f0, .bool f1, .bool f2, .bool f3, .bool f4, .bool f5, .bool f6, .bool f7, .int .u32 gg, .int .u32 bb] 80)) = b1 at HVY HBK ⊢
          refine hK0.out _ _ HVY.out.below (fun _ => ?_)
          clear hK0 K0 hHeld
          have hHeld := HVY.out.below
          refine wpAnyH_ready (rs := [2]) (by kernel_rfl) (by simp) ?_
          refine AllReadyH.cons (by simp; rfl) (fun K0 hK0 => ?_) AllReadyH.nil
          obtain ⟨s0, s1, s2, s3, s4, s5⟩ := six_cells HVY.out.blk
          go_simp
          refine hK0.out _ _ HVY.out.below (fun _ => ?_)
          clear hK0 K0 s0 s1 s2 s3 s4 s5
          refine wpAnyH_ready (rs := [10]) (by kernel_rfl) (by simp) ?_
          refine AllReadyH.cons (by simp; rfl) (fun K0 hK0 => ?_) AllReadyH.nil
          have how := HVY.out.own
          rw [HML.out] at how
          obtain ⟨v2, W2, hrun, ho, hg, hat⟩ := app_y (c := ⟨p, f, gg, bb⟩) how (by rw [HYC.out ()]; exact HBK.out) (by have := HN6.out; have := HN1.out; have := HIN.out; omega) (by have := lt_of_block HVY.out.blk; omega)
          refine step_app rfl (.tmp 26) (.tmp 33) _ rfl _ _ rfl rfl hrun ?_
          simp only [Act.put, List.setIfInBounds_toArray, List.set_cons_zero, List.set_cons_succ]
          obtain ⟨A2, c2, hv2, _⟩ := own_slice ho
          subst hv2
          have HPV := Lib.hid (HTK.out ▸ HVY.out.put hg ho (by rw [List.length_append, HML.out]; rfl))
          have q0 := Lib.hid ((hg.block hb (lt_of_block HVY.out.blk) (by intro e; have := ownBlock_le HVY.out.own hb e.symm; omega)).trans HVY.out.blk)
          have HB3 := Lib.hid (HVY.out.below.grown hg HVY.out.below.size (fun k hk => by have := ownBlock_le HVY.out.own k hk; have := HVY.out.gt; omega))
          clear hrun ho hg hat how
          refine hK0.out _ _ HB3.out (fun _ => ?_)
          clear hK0 K0 hHeld
          have hHeld := HB3.out
          refine wpAnyH_take (i := 11) (v := ?_) (by simp; rfl) (by kernel_rfl) (by kernel_rfl) (by kernel_rfl) (by exact fun _ _ _ h => h) (Or.inl ⟨by rfl, fun wx hSx => ?_⟩) hHeld ?_
          rotate_left
          · clear hSx; go_simp; (try with_reducible rfl)
          simp only [Act.put, List.setIfInBounds_toArray, List.set_cons_zero, List.set_cons_succ]
          refine wpAnyH_take (i := 12) (v := ?_) (by simp; rfl) (by kernel_rfl) (by kernel_rfl) (by kernel_rfl) (by exact fun _ _ _ h => h) (Or.inl ⟨by rfl, fun wx hSx => ?_⟩) hHeld ?_
          rotate_left
          · clear hSx; go_simp; (try with_reducible rfl)
          simp only [Act.put, List.setIfInBounds_toArray, List.set_cons_zero, List.set_cons_succ]
          refine wpAnyH_ready (rs := [13]) (by kernel_rfl) (by simp) ?_
          refine AllReadyH.cons (by simp; rfl) (fun K0 hK0 => ?_) AllReadyH.nil
          obtain ⟨s0, s1, s2, s3, s4, s5⟩ := six_cells q0.out
          have q1 := frozen_of_row W2 hb 2 _ _ q0.out
          go_simp
          refine hK0.out _ _ HPV.out.below (fun _ => ?_)
          clear hK0 K0 hHeld s0 s1 s2 s3 s4 s5 q1
          have hHeld := HPV.out.below
          refine wpAnyH_done (by kernel_rfl) ?_ _
          generalize (W2.setCell ⟨hb, 2, none⟩ (.slice A2 (n1 + 1) c2)) = W3 at HPV ⊢
          go_wp2
          go_roundw
          case rel => exact ⟨i + 1, A2, n1 + 1, c2, by go_num, by have := HIN.out; omega, HPV, Lib.hid (by have := HN1.out; omega)⟩
          case measure => have := HIN.out; simp [intOf]; omega
    · have e1 : decide ((i : Int) < (n : Int)) = false := by simp; omega
      have e1' : decide (i < n) = false := by simp; omega
      obtain rfl : i = n := by omega
      obtain rfl : n1 = i := HN1.out
      have HZR := Lib.hid ((HVY.out.below.block _ (lt_of_block HZ.out)).trans HZ.out)
      have HVL : Hid (VY U hb R C row col vis L (.slice A1 n1 c1) wr) := Lib.hid (by
        have hz := HVY.out
        rw [List.take_of_length_le (by rw [HL.out]; exact Nat.le_refl _)] at hz
        exact hz)
      have HRB := Lib.hid (show w.heap.size ≤ vb + 1 by have := HVB.out; omega)
      have HCAP := Lib.hid (show n1 ≤ c1 from by
        obtain ⟨A9, c9, e9, h9, _⟩ := own_slice HVL.out.own
        injection e9 with e1 e2 e3
        omega)
      have HBT := Lib.hid (HB.out.trans (HVY.out.below.mono HB.out.size))
      obtain ⟨s0, s1, s2, s3, s4, s5⟩ := six_cells HVY.out.blk
      clear hi hin
      go_wp2_with (refine wpList_store_row rfl 34 (.tmp 2) (.tmp 37) rfl (vb + 1) #[.int .i64 R, .int .i64 C, .slice A1 n1 c1, .int .i64 row, .int .i64 col, .bool vis] rfl rfl 34 _ HZR.out info_wview rfl (by simp [Value.oneCell']) ?_)
      exact bodyPost_ret (results_cell_row Tryd.results9 _ _ (vb + 1) 34 #[.int .i64 R, .int .i64 C, .slice A1 n1 c1, .int .i64 row, .int .i64 col, .bool vis] (0, 0) _ rfl (setRow_heap _ _ _ #[.int .i64 R, .int .i64 C, .slice A1 n1 c1, .int .i64 row, .int .i64 col, .bool vis] _ _ HZR.out) Tryd.underlying34 rfl info_wview) rfl ⟨A1, c1, rfl, HCAP.out, CY.set HVL.out (lt_of_block HZ.out) _, below_setRow HBT.out HRB.out _⟩
set_option maxRecDepth 100000 in
set_option maxHeartbeats 8000000 in
theorem r_base2 {w : World} {X : Option Addr} {na ca : Nat} {La : List Ce} (h : CY w X La) (hl : La.length = na) (hca : na ≤ ca) (Ra Ca rowa cola : Int) (visa : Bool) {R C : Nat} (hp : 1 ≤ R ∧ R ≤ 12 ∧ 1 ≤ C ∧ C ≤ 40) :
    Calls Tryd.prog 31 #[.agg #[.int .i64 Ra, .int .i64 Ca, .slice X na ca, .int .i64 rowa, .int .i64 cola, .bool visa], .int .i64 R, .int .i64 C] w fun e w' => ∃ A2 n2 c2, e = .returned (.slice A2 n2 c2) ∧ (baseL Ra Ca La R C).length = n2 ∧ n2 ≤ c2 ∧ CY w' A2 (baseL Ra Ca La R C) ∧ Below w.heap.size w w' := by
  have HB0 := (Below.refl w.heap.size w).alloc (Nat.le_refl _) (.cells #[.int .i64 Ra, .int .i64 Ca, .slice X na ca, .int .i64 rowa, .int .i64 cola, .bool visa] 34)
  have HC0 := heap_alloc_new w (.cells #[.int .i64 Ra, .int .i64 Ca, .slice X na ca, .int .i64 rowa, .int .i64 cola, .bool visa] 34)
  have HCY := Lib.hid (h.below HB0)
  have HL := Lib.hid hl
  have HCA := Lib.hid hca
  have HP := Lib.hid hp
  obtain ⟨vb, hvb⟩ : ∃ b, w.heap.size = b := ⟨_, rfl⟩
  clear h hl hp hca
  go_enter Tryd.func31, Tryd.ntmps31
  go_upto_region 1 with fail
  simp only [hvb] at HC0 ⊢
  generalize (w.alloc (.cells #[.int .i64 Ra, .int .i64 Ca, .slice X na ca, .int .i64 rowa, .int .i64 cola, .bool visa] 34)) = U at HB0 HC0 HCY ⊢
  have HB := Lib.hid HB0
  obtain ⟨x0, x1, x2, x3, x4, x5⟩ := six_cells HC0
  clear HB0 HC0 hvb
  by_cases he : Ra = (R : Int) ∧ Ca = (C : Int)
  · obtain ⟨rfl, rfl⟩ := he
    have HBL9 := Lib.hid (show La = baseL (R : Int) (C : Int) La R C from by unfold baseL; rw [if_pos ⟨rfl, rfl⟩])
    go_wp2
    go_ret
    exact ⟨X, na, ca, rfl, HBL9.out ▸ HL.out, HCA.out, HBL9.out ▸ HCY.out, HB.out⟩
  · have HBL9 := Lib.hid (show rep (R * C) blC = baseL Ra Ca La R C from by unfold baseL; rw [if_neg he])
    have HGO : ∀ (Z : Bool × Bool), (decide (Ra = (R : Int)), decide (Ca = (C : Int))) = Z → Z ≠ (true, true) := fun Z hz e => by
      subst e
      have e1 := congrArg Prod.fst hz
      have e2 := congrArg Prod.snd hz
      exact he ⟨by simpa using e1, by simpa using e2⟩
    obtain ⟨z1, hz1⟩ : ∃ z, decide (Ra = (R : Int)) = z := ⟨_, rfl⟩
    obtain ⟨z2, hz2⟩ : ∃ z, decide (Ca = (C : Int)) = z := ⟨_, rfl⟩
    have hz1' : (Ra == (R : Int)) = z1 := by rw [← hz1]; exact (Bool.eq_iff_iff).2 (by simp)
    have hz2' : (Ca == (C : Int)) = z2 := by rw [← hz2]; exact (Bool.eq_iff_iff).2 (by simp)
    have HZ := Lib.hid (HGO (z1, z2) (by rw [hz1, hz2]))
    clear HGO he
    cases z1 <;> cases z2
    case true.true => exact absurd rfl HZ.out
    all_goals
      go_wp2_with fail
      refine (rnew_yes rfl HP.out _).mono ?_
      rintro e w1 ⟨v, rfl, ho, hb⟩
      have hpos : 1 ≤ R * C := Nat.mul_pos HP.out.1 HP.out.2.2.1
      obtain ⟨b2, cap2, rfl, hr, hn, _⟩ := RowY.of_own ho hpos
      have hba := (Below.refl w1.heap.size w1).alloc (Nat.le_refl _) (.cells #[.int .i64 (R : Int), .int .i64 (C : Int), .slice (some ⟨b2, 0, none⟩) (R * C) cap2] 32)
      obtain ⟨nn, hnn⟩ : ∃ n, R * C = n := ⟨_, rfl⟩
      rw [hnn] at hba hn hr HBL9
      rw [hnn]
      have HE := Lib.hid (show (baseL Ra Ca La R C).length = nn ∧ nn ≤ cap2 ∧ CY (w1.alloc (.cells #[.int .i64 (R : Int), .int .i64 (C : Int), .slice (some ⟨b2, 0, none⟩) nn cap2] 32)) (some ⟨b2, 0, none⟩) (baseL Ra Ca La R C) ∧ Below w.heap.size w (w1.alloc (.cells #[.int .i64 (R : Int), .int .i64 (C : Int), .slice (some ⟨b2, 0, none⟩) nn cap2] 32)) from ⟨by rw [← HBL9.out, rep_len], by obtain ⟨_, _, _, h3, _⟩ := hr; rw [rep_len] at h3; exact h3, by rw [← HBL9.out]; exact CY.of_rowY (hr.below hba), HB.out.trans ((hb.trans (hba.mono hb.size)).mono HB.out.size)⟩)
      clear ho hb hr hn hba hpos hnn x0 x1 x2 x3 x4 x5
      go_wp2
      go_ret
      exact ⟨_, _, _, rfl, HE.out⟩

theorem YR.seg {W : World} {b : Nat} {L : List Ce} (h : YR W b L) {s m : Nat} (hs : s + m ≤ L.length) : ∀ j v, (flatY ((L.drop s).take m))[j]? = some v → W.cell? ⟨b, s * 11 + j, none⟩ = some v := by
  intro j v hv
  have hl : ((L.drop s).take m).length = m := by rw [List.length_take, List.length_drop]; omega
  have hj : j < m * 11 := by
    have := (List.getElem?_eq_some_iff.1 hv).1
    rwa [flatY_len, hl] at this
  apply h.2
  rw [flatY_take, flatY_drop, List.getElem?_take_of_lt hj, List.getElem?_drop] at hv
  exact hv
theorem slice_segY {b n cap f q : Nat} (hc : f + q ≤ cap) (W : World) :
    (Instr.slice 30 (.slice (some ⟨b, 0, none⟩) n cap) (some (.int .i64 (f : Int))) (some (.int .i64 ((f + q : Nat) : Int))) none).run Tryd.prog W = .ok (.slice (some (if cap = f then ⟨b, 0, none⟩ else ⟨b, f * 11, none⟩)) q (cap - f)) W := by
  have h1 : ((f + q : Nat) : Int) ≤ (cap : Int) := by omega
  have h2 : (0 : Int) ≤ ((f + q : Nat) : Int) := by omega
  have h3 : (f : Int) ≤ ((f + q : Nat) : Int) := by omega
  have h6 := run_sliceBound (P := Tryd.prog) W .i64 (f : Int) (f + q) .sliceB (by omega) h3
  have ha : (⟨b, 0, none⟩ : Addr).add (f * 11) = ⟨b, f * 11, none⟩ := by unfold Addr.add; split <;> simp_all
  obtain ⟨i0, hi, _, hz1, _⟩ := info_parts infoY
  have h7 := run_sliceBound (P := Tryd.prog) W .i64 ((f + q : Nat) : Int) cap .sliceAcap (by omega) h1
  have e1 : ((f + q : Nat) : Int) = (f : Int) + (q : Int) := by omega
  have e2 : ((f : Int) + (q : Int)).toNat = f + q := by omega
  rw [e1] at h7 ⊢
  rw [e2] at h7
  simp [Instr.slice, run_underlying Tryd.underlying30, Instr.sliceBounds, h6, h7, hi, hz1, ha]
  try (split <;> rfl)
theorem slice_fromY {b n cap f : Nat} (hf : f ≤ n) (hc : n ≤ cap) (W : World) :
    (Instr.slice 30 (.slice (some ⟨b, 0, none⟩) n cap) (some (.int .i64 (f : Int))) none none).run Tryd.prog W = .ok (.slice (some (if cap = f then ⟨b, 0, none⟩ else ⟨b, f * 11, none⟩)) (n - f) (cap - f)) W := by
  have h1 : (f : Int) ≤ (n : Int) := by omega
  have ha : (⟨b, 0, none⟩ : Addr).add (f * 11) = ⟨b, f * 11, none⟩ := by unfold Addr.add; split <;> simp_all
  obtain ⟨i0, hi, _, hz1, _⟩ := info_parts infoY
  simp [Instr.slice, run_underlying Tryd.underlying30, Instr.sliceBounds, run_sliceBound, h1, hi, hz1, ha]
  try (split <;> rfl)
/-- Cells of a row are put behind a row of the call's own. -/
theorem app_yseg {W : World} {base b n s m c : Nat} {v : Value} {L O : List Ce} {ad : Addr} (hown : W.ownsRow base 80 11 v n (flatY L)) (h : YR W b O) (hs : s + m ≤ O.length) (had : 0 < m → ad = ⟨b, s * 11, none⟩) (hn : n + m ≤ 100000) (hb : base ≤ W.heap.size) :
    ∃ v' w', (Builtin.append_ #[30, 30] 30 #[v, .slice (some ad) m c]).run Tryd.prog W = .ok v' w' ∧ w'.ownsRow base 80 11 v' (n + m) (flatY (L ++ (O.drop s).take m)) ∧ W.grownBy w' v.ownBlock ∧ (v'.ownBlock = v.ownBlock ∨ v'.ownBlock = some W.heap.size) := by
  obtain ⟨i0, hi, hz0, hz1, hz2⟩ := info_parts infoY
  have hl : ((O.drop s).take m).length = m := by rw [List.length_take, List.length_drop]; omega
  obtain ⟨v', w', hr, ho, hg, _, hat⟩ := run_append_own_at (P := Tryd.prog) W base 30 30 80 i0 _ 11 20 Tryd.underlying30 hi hz0 hz1 hz2 rfl (by decide) v n (flatY L) hown ad m c (flatY ((O.drop s).take m)) (by rw [flatY_len, hl])
    (fun j u hu => by
      have hj : j < m * 11 := by
        have := (List.getElem?_eq_some_iff.1 hu).1
        rwa [flatY_len, hl] at this
      rw [had (by omega), show (⟨b, s * 11, none⟩ : Addr).add j = ⟨b, s * 11 + j, none⟩ by unfold Addr.add; split <;> simp_all]
      exact h.seg hs j u hu)
    (flatY_cells _) (by unfold maxLen; omega) (by omega) hb
  exact ⟨v', w', hr, by rw [flatY_app]; exact ho, hg, hat⟩
end Go.Proofs.YtjihcpnaebghnaaDoor
