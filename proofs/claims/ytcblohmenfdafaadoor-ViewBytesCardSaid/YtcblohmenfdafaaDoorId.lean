/-
  Proved here: of the program's views: Write.
-/
import Derived.Test.YtcblohmenfdafaaDoorIc
import Derived.BigRegion
import Derived.WalkMore
set_option linter.unusedSimpArgs false
set_option linter.unusedVariables false
namespace Go.Proofs.YtcblohmenfdafaaDoor
open Go.RowKit
set_option maxRecDepth 100000 in
theorem eq_ce (p f g b p' f' g' b' : Int) (w : World) : (Op.equalIn 10000 50 (.agg #[.int .i32 p, .int .u8 f, .int .u32 g, .int .u32 b]) (.agg #[.int .i32 p', .int .u8 f', .int .u32 g', .int .u32 b'])).run Tryd.prog w = .ok (decide ((⟨p, f, g, b⟩ : Ce) = ⟨p', f', g', b'⟩)) w := by
  go_simp
  by_cases h1 : p = p' <;> by_cases h2 : f = f' <;> by_cases h3 : g = g' <;> by_cases h4 : b = b' <;> simp [h1, h2, h3, h4]
/-- A view's bytes. -/
def viewB (R C row col : Int) (vis : Bool) (L : List Ce) : List Int := [R, C, row, col, if vis = true then 1 else 0] ++ runsB 0 L
theorem rightW_parts {R C row col : Int} {L : List Ce} (h : rightW R C row col L = true) : headB R C row col = true ∧ (L.length : Int) = R * C ∧ (∀ c ∈ L, cellR c = true) ∧ L.length ≤ 480 ∧ 1 ≤ L.length ∧ (1 ≤ R ∧ R ≤ 12 ∧ 1 ≤ C ∧ C ≤ 40 ∧ 0 ≤ row ∧ row < R ∧ 0 ≤ col ∧ col < C) := by
  unfold rightW at h
  rw [Bool.and_eq_true, Bool.and_eq_true, List.all_eq_true] at h
  obtain ⟨⟨h1, h2⟩, h3⟩ := h
  have h4 := of_decide_eq_true h2
  have hb : 1 ≤ R ∧ R ≤ 12 ∧ 1 ≤ C ∧ C ≤ 40 ∧ 0 ≤ row ∧ row < R ∧ 0 ≤ col ∧ col < C := by unfold headB at h1; simp at h1; omega
  have h5 := Int.mul_le_mul hb.2.1 hb.2.2.2.1 (by omega) (by omega)
  have h6 := Int.mul_le_mul hb.1 hb.2.2.1 (by omega) (by omega)
  exact ⟨h1, h4, h3, by omega, by omega, hb⟩
theorem viewB_len {R C row col : Int} {vis : Bool} {L : List Ce} (ho : ∀ c ∈ L, CeOk c) (hr : ∀ c ∈ L, cellR c = true) (hn : L.length ≤ 480) : (viewB R C row col vis L).length ≤ 5 + 15 * L.length := by
  have := runs_len L 0 (fun c hc => ⟨ho c hc, hr c hc⟩) (by omega)
  unfold viewB
  simp
  omega
set_option maxRecDepth 100000 in
theorem p_viewwrite_no {w : World} {A : Option Addr} {n cap : Nat} {L : List Ce} (h : CR w A L) (hl : L.length = n) (hm : n ≤ 9223372036854775807) (ho : ∀ c ∈ L, CeOk c) (R C row col : Int) (vis : Bool) (hr : rightW R C row col L = false) : Calls Tryd.prog 9 #[vV R C A n cap row col vis] w fun e w' => e = .returned (.tuple #[.slice none 0 0, .int .i64 3]) ∧ Below w.heap.size w w' := by
  have HB0 := Lib.hid ((Below.refl w.heap.size w).alloc (Nat.le_refl _) (.cells #[.int .i64 R, .int .i64 C, .slice A n cap, .int .i64 row, .int .i64 col, .bool vis] 24))
  have HRT := Lib.hid (fun (W : World) (hb : Below w.heap.size w W) => hr ▸ p_viewright (cap := cap) (h.below hb) hl hm ho R C row col vis)
  clear h hl hm ho hr
  go_enter Tryd.func9, Tryd.ntmps9
  go_upto_region 1 with fail
  go_step3
  go_wp2_with fail
  refine (HRT.out _ HB0.out).mono ?_
  rintro e w1 ⟨rfl, b1⟩
  have HB1 := Lib.hid (HB0.out.trans (b1.mono HB0.out.size))
  clear b1
  go_wp2
  rw [Exit.noGoto_ret]
  go_ret2
  exact ⟨rfl, HB1.out⟩
set_option maxRecDepth 100000 in
set_option maxHeartbeats 16000000 in
theorem p_viewwrite {w : World} {A : Option Addr} {n cap : Nat} {L : List Ce} (h : CR w A L) (hl : L.length = n) (ho : ∀ c ∈ L, CeOk c) (hT : Tab w) (R C row col : Int) (vis : Bool) (hr : rightW R C row col L = true) : Calls Tryd.prog 9 #[vV R C A n cap row col vis] w fun e w' => ∃ u, e = .returned (.tuple #[u, .int .i64 0]) ∧ Own8 w u (viewB R C row col vis L) w' := by
  obtain ⟨r1, r2, r3, r4, r5, r6⟩ := rightW_parts hr
  have HB0 := (Below.refl w.heap.size w).alloc (Nat.le_refl _) (.cells #[.int .i64 R, .int .i64 C, .slice A n cap, .int .i64 row, .int .i64 col, .bool vis] 24)
  have HC0 := heap_alloc_new w (.cells #[.int .i64 R, .int .i64 C, .slice A n cap, .int .i64 row, .int .i64 col, .bool vis] 24)
  have HRT := Lib.hid (fun (W : World) (hb : Below w.heap.size w W) => hr ▸ p_viewright (cap := cap) (h.below hb) hl (by omega) ho R C row col vis)
  have HVL := Lib.hid (show (viewB R C row col vis L).length ≤ 8000 from by have := viewB_len (R := R) (C := C) (row := row) (col := col) (vis := vis) ho r3 r4; omega)
  have u0 : IntKind.u8.wrap R = R := IntWalk.u8_in _ (by omega)
  have u1 : IntKind.u8.wrap C = C := IntWalk.u8_in _ (by omega)
  have u2 : IntKind.u8.wrap row = row := IntWalk.u8_in _ (by omega)
  have u3 : IntKind.u8.wrap col = col := IntWalk.u8_in _ (by omega)
  have HN4 := Lib.hid (show n ≤ 480 by omega)
  have HL := Lib.hid hl
  have HOK := Lib.hid ho
  have HRK := Lib.hid r3
  have HTB0 := Lib.hid hT
  have HCR := Lib.hid (h.below HB0)
  obtain ⟨vb, hvb⟩ : ∃ b, w.heap.size = b := ⟨_, rfl⟩
  clear r1 r2 r3 r4 r5 r6 h hl ho hT hr
  go_enter Tryd.func9, Tryd.ntmps9
  go_upto_region 1 with fail
  simp only [hvb] at HC0 ⊢
  generalize (w.alloc (.cells #[.int .i64 R, .int .i64 C, .slice A n cap, .int .i64 row, .int .i64 col, .bool vis] 24)) = U at HB0 HC0 HCR ⊢
  have HB := Lib.hid HB0
  have HC := Lib.hid HC0
  have HTB := Lib.hid (HTB0.out.below HB0 HTB0.out.big)
  have HTU := HTB
  obtain ⟨x0, x1, x2, x3, x4, x5⟩ := six_cells HC0
  clear HB0 HC0 HTB0
  go_step3
  go_wp2_with fail
  refine (HRT.out _ HB.out).mono ?_
  rintro e w1 ⟨rfl, b1⟩
  have HB1 := Lib.hid b1
  obtain ⟨hb, hhb⟩ : ∃ b, w1.heap.size = b := ⟨_, rfl⟩
  clear HRT x0 x1 x2 x3 x4 x5
  obtain ⟨x0, x1, x2, x3, x4, x5⟩ := six_cells ((b1.block _ (lt_of_block HC.out)).trans HC.out)
  clear b1 hvb
  cases vis with
  | false =>
    have HO2 := Lib.hid (show Own8 U (.slice (some ⟨hb, 0, none⟩) 5 5) [R, C, row, col, 0] (w1.alloc (.cells #[.int .u8 R, .int .u8 C, .int .u8 row, .int .u8 col, .int .u8 0] 5)) from by
      have hz := (Own8.lit w1 [R, C, row, col, 0] 5 rfl (by omega)).from HB1.out
      rw [hhb] at hz
      exact hz)
    go_upto_region 4 with fail
    try simp only [hhb]
    generalize (w1.alloc (.cells #[.int .u8 R, .int .u8 C, .int .u8 row, .int .u8 col, .int .u8 0] 5)) = X1 at HO2 ⊢
    clear hhb x0 x1 x2 x3 x4 x5
    obtain ⟨x0, x1, x2, x3, x4, x5⟩ := six_cells ((HO2.out.below.block _ (lt_of_block HC.out)).trans HC.out)
    have HO3 := HO2
    go_upto_region 6 with fail
    generalize X1 = X0 at HO3 ⊢
    clear HO2
    clear x0 x1 x2 x3 x4 x5
    obtain ⟨x0, x1, x2, x3, x4, x5⟩ := six_cells ((HO3.out.below.block _ (lt_of_block HC.out)).trans HC.out)
    go_wp2
    go_step3
    go_wp2
    go_loopw [4, 5, 33] (fun bv kv iv wr => ∃ (i k : Nat) (A1 : Option Addr) (m1 c1 : Nat) (xs : List Int), bv = .slice A1 m1 c1 ∧ kv = .int .i64 k ∧ iv = .int .i64 i ∧ i ≤ n ∧ k ≤ i ∧ Hid (Own8 U (.slice A1 m1 c1) xs wr) ∧ Hid (xs ++ runsB k (L.drop i) = viewB R C row col false L) ∧ Hid (xs.length ≤ 8000)) (fun _ _ iv _ => n - (intOf iv).toNat)
    case atStart => exact ⟨0, 0, _, _, _, _, rfl, rfl, rfl, by omega, by omega, HO3, Lib.hid (by rw [List.drop_zero]; rfl), Lib.hid (by simp)⟩
    case round =>
      obtain ⟨i, k, A1, m1, c1, xs, rfl, rfl, rfl, hi, hki, HO, HEQ, HLE⟩ := hrel
      clear HO3
      by_cases hin : i < n
      · have e1 : decide ((i : Int) < (n : Int)) = true := by simp; omega
        have e1' : decide (i < n) = true := by simp; omega
        have g1 : (0 : Int) ≤ (i : Int) := by omega
        have g2 : (i : Int) < (n : Int) := by omega
        have wr1 : IntKind.i64.wrap ((i : Int) + 1) = (i : Int) + 1 := IntWalk.i64_in _ (by have := HN4.out; omega)
        have wk1 : IntKind.i64.wrap ((k : Int) + 1) = (k : Int) + 1 := IntWalk.i64_in _ (by have := HN4.out; omega)
        have wk2 : IntKind.u64.wrap ((k : Int) + 1) = (k : Int) + 1 := IntWalk.u64_in _ (by have := HN4.out; omega)
        have tn : ((i : Int) + 1).toNat = i + 1 := by omega
        obtain ⟨b, off, rfl, hbl, hcs⟩ := HCR.out (by rw [HL.out]; omega)
        have hcel := hcs i (by rw [HL.out]; omega)
        have HCK := Lib.hid (And.intro (HOK.out (ceAt L i) (ceAt_mem (by rw [HL.out]; omega))) (HRK.out (ceAt L i) (ceAt_mem (by rw [HL.out]; omega))))
        have hdrop : L.drop i = ceAt L i :: L.drop (i + 1) := by
          rw [List.drop_eq_getElem_cons (by rw [HL.out]; omega)]
          congr 1
          simp [ceAt, List.getD, show i < L.length by rw [HL.out]; omega]
        obtain ⟨⟨p, f, gg, bb⟩, hce⟩ : ∃ c, ceAt L i = c := ⟨_, rfl⟩
        rw [hce] at hcel HCK hdrop
        have HDR := Lib.hid hdrop
        have hbw := HO.out.below
        obtain ⟨k0, k1, k2, k3⟩ := ce_four (fun j v hv => (hbw.cell (p := ⟨b, off + i * 4 + j, none⟩) hbl).trans (hcel j v hv))
        have HOX := Lib.hid (HO.out.to ((Below.refl wr.heap.size wr).alloc (Nat.le_refl _) (.cells #[.int .i32 p, .int .u8 f, .int .u32 gg, .int .u32 bb] 50)))
        have HTX := Lib.hid (heap_alloc_new wr (.cells #[.int .i32 p, .int .u8 f, .int .u32 gg, .int .u32 bb] 50))
        obtain ⟨tb, htb⟩ : ∃ t, wr.heap.size = t := ⟨_, rfl⟩
        have HNE := Lib.hid (fun q (h : (Value.slice A1 m1 c1).ownBlock = some q) => (htb ▸ own_block_lt HO.out.own q h : q < tb))
        have HLX := Lib.hid (show xs.length ≤ 8000 from HLE.out)
        have HIN := Lib.hid (show i < n ∧ k ≤ i from ⟨hin, hki⟩)
        clear hi hki hcel hdrop hce HO hbw
        go_upto_region 10 with fail
        simp only [htb] at HTX ⊢
        generalize (wr.alloc (.cells #[.int .i32 p, .int .u8 f, .int .u32 gg, .int .u32 bb] 50)) = X at HOX HTX ⊢
        clear k0 k1 k2 k3 htb
        obtain ⟨B2, hB2⟩ : ∃ B, numB ((k : Int) + 1) = B := ⟨_, rfl⟩
        have HPU := Lib.hid (fun (W : World) hW => hB2 ▸ p_put ((k : Int) + 1) W (by omega) (by have := HN4.out; have := HIN.out; omega) hW)
        have HLB := Lib.hid (show B2.length ≤ 8 by rw [← hB2, numB_length]; exact (szN_le _).2)
        have HB2 := Lib.hid (fun (_ : Unit) => hB2)
        clear hB2
        have hxd := HOX.out.below.drew
        obtain ⟨x0, x1, x2, x3, x4, x5⟩ := six_cells ((hxd.block _ (lt_of_block HC.out)).trans HC.out)
        obtain ⟨k0, k1, k2, k3⟩ := four_at (((Below.refl X.heap.size X).drew.block _ (lt_of_block HTX.out)).trans HTX.out)
        by_cases hlast : i + 1 < n
        · have e2 : decide ((i : Int) + 1 < (n : Int)) = true := by simp; omega
          have e2' : decide (i + 1 < n) = true := by simp; omega
          have g3 : (0 : Int) ≤ (i : Int) + 1 := by omega
          have g4 : (i : Int) + 1 < (n : Int) := by omega
          have hcel := hcs (i + 1) (by rw [HL.out]; omega)
          have hdrop : L.drop (i + 1) = ceAt L (i + 1) :: L.drop (i + 1 + 1) := by
            rw [List.drop_eq_getElem_cons (by rw [HL.out]; omega)]
            congr 1
            simp [ceAt, List.getD, show i + 1 < L.length by rw [HL.out]; omega]
          obtain ⟨⟨p', f', gg', bb'⟩, hce⟩ : ∃ c, ceAt L (i + 1) = c := ⟨_, rfl⟩
          rw [hce] at hcel hdrop
          obtain ⟨y0, y1, y2, y3⟩ := ce_four (fun j v hv => (hxd.cell (p := ⟨b, off + (i + 1) * 4 + j, none⟩) hbl).trans (hcel j v hv))
          have HEC := fun W => eq_ce p f gg bb p' f' gg' bb' W
          have HDR2 := Lib.hid hdrop
          clear hcel hdrop hce hbl hcs hxd
          by_cases he : (⟨p, f, gg, bb⟩ : Ce) = ⟨p', f', gg', bb'⟩
          · have HEQ2 := Lib.hid (show xs ++ runsB (k + 1) (L.drop (i + 1)) = viewB R C row col false L from by
              have hz := HEQ.out
              rw [HDR.out, HDR2.out, runs_two, if_pos he] at hz
              rw [HDR2.out]; exact hz)
            simp only [decide_eq_true he] at HEC
            clear he
            go_wp2
            go_big_region
            clear HEC x0 x1 x2 x3 x4 x5 y0 y1 y2 y3 k0 k1 k2 k3
            have HOE := Lib.hid (HOX.out.to (Below.refl X.heap.size X).drew)
            go_wp2
            go_roundw
            case rel => exact ⟨i + 1, k + 1, A1, m1, c1, xs, rfl, by go_num, by go_num, by have := HIN.out; omega, by have := HIN.out; omega, HOE, HEQ2, HLE⟩
            case measure => have := HIN.out; simp [intOf]; omega
          · have HEP := Lib.hid (show ((xs ++ B2) ++ cellB ⟨p, f, gg, bb⟩) ++ runsB 0 (L.drop (i + 1)) = viewB R C row col false L from by
              have hz := HEQ.out
              rw [HDR.out, HDR2.out, runs_two, if_neg he] at hz
              rw [HDR2.out, ← hz, ← HB2.out ()]
              simp)
            simp only [decide_eq_false he] at HEC
            have HOD := Lib.hid (HOX.out.to (Below.refl X.heap.size X).drew)
            have HTD := Lib.hid (((Below.refl X.heap.size X).drew.block _ (lt_of_block HTX.out)).trans HTX.out)
            clear he
            go_wp2
            go_big_region
            clear HEC x0 x1 x2 x3 x4 x5 y0 y1 y2 y3 k0 k1 k2 k3 HOX HTX
            have HOX := HOD
            have HTX := HTD
            clear HOD HTD
            go_wp2_with fail
            refine (HPU.out _ (HTB.out.below HOX.out.below HTB.out.big)).mono ?_
            rintro e X2 ⟨u2, rfl, o2⟩
            have ox := HOX.out.to o2.below
            have hd := (Below.refl X2.heap.size X2).drew
            obtain ⟨A6, c6, W6, hrun, o6, hg6⟩ := (ox.to hd).appg (ys := B2) (u := u2) (o2.to hd).rit (by have := HLB.out; have := HLX.out; omega)
            have HRUN := Lib.hid hrun
            have HT2 := (o2.below.block _ (lt_of_block HTX.out)).trans HTX.out
            have HT := Lib.hid ((hd.block _ (lt_of_block HT2)).trans HT2)
            have HT6 := Lib.hid ((hg6.block tb (lt_of_block HT.out) (by intro e; exact absurd (HNE.out tb e.symm) (Nat.lt_irrefl _))).trans HT.out)
            have HBU := Lib.hid (ox.to hd).below
            have HBU6 := Lib.hid o6.below
            have HAC := Lib.hid (p_appendcell o6 (by have := HLB.out; have := HLX.out; simp; omega) HCK.out.1 HCK.out.2 HTU.out)
            have HEQ2 := Lib.hid (show ((xs ++ B2) ++ cellB ⟨p, f, gg, bb⟩) ++ runsB 0 (L.drop (i + 1)) = viewB R C row col false L from HEP.out)
            have HLE2 := Lib.hid (show ((xs ++ B2) ++ cellB ⟨p, f, gg, bb⟩).length ≤ 8000 from by
              have h1 := congrArg List.length HEQ2.out
              have h2 := HVL.out
              rw [List.length_append] at h1
              omega)
            unfold cV at HAC
            dsimp only at HAC
            clear o2 ox hd hrun o6 hg6 HT2 HPU
            go_wp2_with fail
            refine wp_region_held_drew (S := fun W => Below U.heap.size U W) (by kernel_rfl) HBU.out (fun hHeld => ?_)
            refine wpAnyH_take (i := 0) (v := ?_) (by simp; rfl) (by kernel_rfl) (by kernel_rfl) (by kernel_rfl) (by exact fun _ _ _ h => h) (Or.inl ⟨by rfl, fun wx hSx => ?_⟩) hHeld ?_
            rotate_left
            · clear hSx; go_simp; (try with_reducible rfl)
            simp only [Act.put, List.setIfInBounds_toArray, List.set_cons_zero, List.set_cons_succ]
            refine wpAnyH_take (i := 1) (v := ?_) (by simp; rfl) (by kernel_rfl) (by kernel_rfl) (by kernel_rfl) (by exact fun _ _ _ h => h) (Or.inl ⟨by rfl, fun wx hSx => ?_⟩) hHeld ?_
            rotate_left
            · clear hSx; go_simp; (try with_reducible rfl)
            simp only [Act.put, List.setIfInBounds_toArray, List.set_cons_zero, List.set_cons_succ]
            refine wpAnyH_ready (rs := [2, 3]) (by kernel_rfl) (by simp) ?_
            refine AllReadyH.cons (by simp; rfl) (fun K0 hK0 => ?_) (AllReadyH.cons (by simp; rfl) (fun K0 hK0 => ?_) AllReadyH.nil)
            · refine step_app rfl (.tmp 62) (.tmp 63) _ rfl _ _ rfl rfl HRUN.out ?_
              simp only [Act.put, List.setIfInBounds_toArray, List.set_cons_zero, List.set_cons_succ]
              clear HT HBU
              have HT := HT6
              have HBU := HBU6
              refine hK0.out _ _ HBU.out (fun _ => ?_)
              clear hK0 K0 hHeld HT6 HBU6 HRUN
              have hHeld := HBU.out
              refine wpAnyH_ready (rs := [3]) (by kernel_rfl) (by simp) ?_
              refine AllReadyH.cons (by simp; rfl) (fun K0 hK0 => ?_) AllReadyH.nil
              obtain ⟨k0, k1, k2, k3⟩ := four_at HT.out
              go_simp
              refine hK0.out _ _ HBU.out (fun _ => ?_)
              clear hK0 K0 k0 k1 k2 k3
              refine wpAnyH_ready (rs := [4]) (by kernel_rfl) (by simp) ?_
              refine AllReadyH.cons (by simp; rfl) (fun K0 hK0 => ?_) AllReadyH.nil
              go_simp
              refine (HAC.out).mono ?_
              rintro e W8 ⟨u8v, rfl, o8⟩
              obtain ⟨A8, n8, c8, hv8⟩ : ∃ A n c, u8v = .slice A n c := by obtain ⟨A, c, e, _⟩ := own_slice o8.own; exact ⟨A, _, c, e⟩
              subst hv8
              have HO8 := Lib.hid o8
              clear o8
              refine hK0.out _ _ HO8.out.below (fun _ => ?_)
              clear hK0 K0 hHeld
              have hHeld := HO8.out.below
              refine wpAnyH_take (i := 5) (v := ?_) (by simp; rfl) (by kernel_rfl) (by kernel_rfl) (by kernel_rfl) (by exact fun _ _ _ h => h) (Or.inl ⟨by rfl, fun wx hSx => ?_⟩) hHeld ?_
              rotate_left
              · clear hSx; go_simp; (try with_reducible rfl)
              simp only [Act.put, List.setIfInBounds_toArray, List.set_cons_zero, List.set_cons_succ]
              refine wpAnyH_done (by kernel_rfl) ?_ _
              go_wp2
              go_roundw
              case rel => exact ⟨i + 1, 0, A8, n8, c8, _, rfl, rfl, by go_num, by have := HIN.out; omega, by omega, HO8, HEQ2, HLE2⟩
              case measure => have := HIN.out; simp [intOf]; omega
            · obtain ⟨k0, k1, k2, k3⟩ := four_at HT.out
              go_simp
              refine hK0.out _ _ HBU.out (fun _ => ?_)
              clear hK0 K0 k0 k1 k2 k3
              refine wpAnyH_ready (rs := [2]) (by kernel_rfl) (by simp) ?_
              refine AllReadyH.cons (by simp; rfl) (fun K0 hK0 => ?_) AllReadyH.nil
              refine step_app rfl (.tmp 62) (.tmp 63) _ rfl _ _ rfl rfl HRUN.out ?_
              simp only [Act.put, List.setIfInBounds_toArray, List.set_cons_zero, List.set_cons_succ]
              clear HT HBU
              have HT := HT6
              have HBU := HBU6
              refine hK0.out _ _ HBU.out (fun _ => ?_)
              clear hK0 K0 hHeld HT6 HBU6 HRUN
              have hHeld := HBU.out
              refine wpAnyH_ready (rs := [4]) (by kernel_rfl) (by simp) ?_
              refine AllReadyH.cons (by simp; rfl) (fun K0 hK0 => ?_) AllReadyH.nil
              go_simp
              refine (HAC.out).mono ?_
              rintro e W8 ⟨u8v, rfl, o8⟩
              obtain ⟨A8, n8, c8, hv8⟩ : ∃ A n c, u8v = .slice A n c := by obtain ⟨A, c, e, _⟩ := own_slice o8.own; exact ⟨A, _, c, e⟩
              subst hv8
              have HO8 := Lib.hid o8
              clear o8
              refine hK0.out _ _ HO8.out.below (fun _ => ?_)
              clear hK0 K0 hHeld
              have hHeld := HO8.out.below
              refine wpAnyH_take (i := 5) (v := ?_) (by simp; rfl) (by kernel_rfl) (by kernel_rfl) (by kernel_rfl) (by exact fun _ _ _ h => h) (Or.inl ⟨by rfl, fun wx hSx => ?_⟩) hHeld ?_
              rotate_left
              · clear hSx; go_simp; (try with_reducible rfl)
              simp only [Act.put, List.setIfInBounds_toArray, List.set_cons_zero, List.set_cons_succ]
              refine wpAnyH_done (by kernel_rfl) ?_ _
              go_wp2
              go_roundw
              case rel => exact ⟨i + 1, 0, A8, n8, c8, _, rfl, rfl, by go_num, by have := HIN.out; omega, by omega, HO8, HEQ2, HLE2⟩
              case measure => have := HIN.out; simp [intOf]; omega
        · have e2 : decide ((i : Int) + 1 < (n : Int)) = false := by simp; omega
          have e2' : decide (i + 1 < n) = false := by simp; omega
          have HEP := Lib.hid (show ((xs ++ B2) ++ cellB ⟨p, f, gg, bb⟩) ++ runsB 0 (L.drop (i + 1)) = viewB R C row col false L from by
            have hz := HEQ.out
            have hnil : L.drop (i + 1) = [] := List.drop_eq_nil_of_le (by rw [HL.out]; omega)
            rw [HDR.out, hnil, runs_one] at hz
            rw [hnil, ← hz, ← HB2.out (), runs_nil]
            simp)
          have HOD := Lib.hid (HOX.out.to (Below.refl X.heap.size X).drew)
          have HTD := Lib.hid (((Below.refl X.heap.size X).drew.block _ (lt_of_block HTX.out)).trans HTX.out)
          clear hbl hcs hxd
          go_wp2
          go_big_region
          clear x0 x1 x2 x3 x4 x5 k0 k1 k2 k3 HOX HTX
          have HOX := HOD
          have HTX := HTD
          clear HOD HTD
          go_wp2_with fail
          refine (HPU.out _ (HTB.out.below HOX.out.below HTB.out.big)).mono ?_
          rintro e X2 ⟨u2, rfl, o2⟩
          have ox := HOX.out.to o2.below
          have hd := (Below.refl X2.heap.size X2).drew
          obtain ⟨A6, c6, W6, hrun, o6, hg6⟩ := (ox.to hd).appg (ys := B2) (u := u2) (o2.to hd).rit (by have := HLB.out; have := HLX.out; omega)
          have HRUN := Lib.hid hrun
          have HT2 := (o2.below.block _ (lt_of_block HTX.out)).trans HTX.out
          have HT := Lib.hid ((hd.block _ (lt_of_block HT2)).trans HT2)
          have HT6 := Lib.hid ((hg6.block tb (lt_of_block HT.out) (by intro e; exact absurd (HNE.out tb e.symm) (Nat.lt_irrefl _))).trans HT.out)
          have HBU := Lib.hid (ox.to hd).below
          have HBU6 := Lib.hid o6.below
          have HAC := Lib.hid (p_appendcell o6 (by have := HLB.out; have := HLX.out; simp; omega) HCK.out.1 HCK.out.2 HTU.out)
          have HEQ2 := Lib.hid (show ((xs ++ B2) ++ cellB ⟨p, f, gg, bb⟩) ++ runsB 0 (L.drop (i + 1)) = viewB R C row col false L from HEP.out)
          have HLE2 := Lib.hid (show ((xs ++ B2) ++ cellB ⟨p, f, gg, bb⟩).length ≤ 8000 from by
            have h1 := congrArg List.length HEQ2.out
            have h2 := HVL.out
            rw [List.length_append] at h1
            omega)
          unfold cV at HAC
          dsimp only at HAC
          clear o2 ox hd hrun o6 hg6 HT2 HPU
          go_wp2_with fail
          refine wp_region_held_drew (S := fun W => Below U.heap.size U W) (by kernel_rfl) HBU.out (fun hHeld => ?_)
          refine wpAnyH_take (i := 0) (v := ?_) (by simp; rfl) (by kernel_rfl) (by kernel_rfl) (by kernel_rfl) (by exact fun _ _ _ h => h) (Or.inl ⟨by rfl, fun wx hSx => ?_⟩) hHeld ?_
          rotate_left
          · clear hSx; go_simp; (try with_reducible rfl)
          simp only [Act.put, List.setIfInBounds_toArray, List.set_cons_zero, List.set_cons_succ]
          refine wpAnyH_take (i := 1) (v := ?_) (by simp; rfl) (by kernel_rfl) (by kernel_rfl) (by kernel_rfl) (by exact fun _ _ _ h => h) (Or.inl ⟨by rfl, fun wx hSx => ?_⟩) hHeld ?_
          rotate_left
          · clear hSx; go_simp; (try with_reducible rfl)
          simp only [Act.put, List.setIfInBounds_toArray, List.set_cons_zero, List.set_cons_succ]
          refine wpAnyH_ready (rs := [2, 3]) (by kernel_rfl) (by simp) ?_
          refine AllReadyH.cons (by simp; rfl) (fun K0 hK0 => ?_) (AllReadyH.cons (by simp; rfl) (fun K0 hK0 => ?_) AllReadyH.nil)
          · refine step_app rfl (.tmp 62) (.tmp 63) _ rfl _ _ rfl rfl HRUN.out ?_
            simp only [Act.put, List.setIfInBounds_toArray, List.set_cons_zero, List.set_cons_succ]
            clear HT HBU
            have HT := HT6
            have HBU := HBU6
            refine hK0.out _ _ HBU.out (fun _ => ?_)
            clear hK0 K0 hHeld HT6 HBU6 HRUN
            have hHeld := HBU.out
            refine wpAnyH_ready (rs := [3]) (by kernel_rfl) (by simp) ?_
            refine AllReadyH.cons (by simp; rfl) (fun K0 hK0 => ?_) AllReadyH.nil
            obtain ⟨k0, k1, k2, k3⟩ := four_at HT.out
            go_simp
            refine hK0.out _ _ HBU.out (fun _ => ?_)
            clear hK0 K0 k0 k1 k2 k3
            refine wpAnyH_ready (rs := [4]) (by kernel_rfl) (by simp) ?_
            refine AllReadyH.cons (by simp; rfl) (fun K0 hK0 => ?_) AllReadyH.nil
            go_simp
            refine (HAC.out).mono ?_
            rintro e W8 ⟨u8v, rfl, o8⟩
            obtain ⟨A8, n8, c8, hv8⟩ : ∃ A n c, u8v = .slice A n c := by obtain ⟨A, c, e, _⟩ := own_slice o8.own; exact ⟨A, _, c, e⟩
            subst hv8
            have HO8 := Lib.hid o8
            clear o8
            refine hK0.out _ _ HO8.out.below (fun _ => ?_)
            clear hK0 K0 hHeld
            have hHeld := HO8.out.below
            refine wpAnyH_take (i := 5) (v := ?_) (by simp; rfl) (by kernel_rfl) (by kernel_rfl) (by kernel_rfl) (by exact fun _ _ _ h => h) (Or.inl ⟨by rfl, fun wx hSx => ?_⟩) hHeld ?_
            rotate_left
            · clear hSx; go_simp; (try with_reducible rfl)
            simp only [Act.put, List.setIfInBounds_toArray, List.set_cons_zero, List.set_cons_succ]
            refine wpAnyH_done (by kernel_rfl) ?_ _
            go_wp2
            go_roundw
            case rel => exact ⟨i + 1, 0, A8, n8, c8, _, rfl, rfl, by go_num, by have := HIN.out; omega, by omega, HO8, HEQ2, HLE2⟩
            case measure => have := HIN.out; simp [intOf]; omega
          · obtain ⟨k0, k1, k2, k3⟩ := four_at HT.out
            go_simp
            refine hK0.out _ _ HBU.out (fun _ => ?_)
            clear hK0 K0 k0 k1 k2 k3
            refine wpAnyH_ready (rs := [2]) (by kernel_rfl) (by simp) ?_
            refine AllReadyH.cons (by simp; rfl) (fun K0 hK0 => ?_) AllReadyH.nil
            refine step_app rfl (.tmp 62) (.tmp 63) _ rfl _ _ rfl rfl HRUN.out ?_
            simp only [Act.put, List.setIfInBounds_toArray, List.set_cons_zero, List.set_cons_succ]
            clear HT HBU
            have HT := HT6
            have HBU := HBU6
            refine hK0.out _ _ HBU.out (fun _ => ?_)
            clear hK0 K0 hHeld HT6 HBU6 HRUN
            have hHeld := HBU.out
            refine wpAnyH_ready (rs := [4]) (by kernel_rfl) (by simp) ?_
            refine AllReadyH.cons (by simp; rfl) (fun K0 hK0 => ?_) AllReadyH.nil
            go_simp
            refine (HAC.out).mono ?_
            rintro e W8 ⟨u8v, rfl, o8⟩
            obtain ⟨A8, n8, c8, hv8⟩ : ∃ A n c, u8v = .slice A n c := by obtain ⟨A, c, e, _⟩ := own_slice o8.own; exact ⟨A, _, c, e⟩
            subst hv8
            have HO8 := Lib.hid o8
            clear o8
            refine hK0.out _ _ HO8.out.below (fun _ => ?_)
            clear hK0 K0 hHeld
            have hHeld := HO8.out.below
            refine wpAnyH_take (i := 5) (v := ?_) (by simp; rfl) (by kernel_rfl) (by kernel_rfl) (by kernel_rfl) (by exact fun _ _ _ h => h) (Or.inl ⟨by rfl, fun wx hSx => ?_⟩) hHeld ?_
            rotate_left
            · clear hSx; go_simp; (try with_reducible rfl)
            simp only [Act.put, List.setIfInBounds_toArray, List.set_cons_zero, List.set_cons_succ]
            refine wpAnyH_done (by kernel_rfl) ?_ _
            go_wp2
            go_roundw
            case rel => exact ⟨i + 1, 0, A8, n8, c8, _, rfl, rfl, by go_num, by have := HIN.out; omega, by omega, HO8, HEQ2, HLE2⟩
            case measure => have := HIN.out; simp [intOf]; omega
      · have e1 : decide ((i : Int) < (n : Int)) = false := by simp; omega
        have e1' : decide (i < n) = false := by simp; omega
        have HEF := Lib.hid (show xs = viewB R C row col false L from by
          have hz := HEQ.out
          rw [List.drop_eq_nil_of_le (by rw [HL.out]; omega), runs_nil, List.append_nil] at hz
          exact hz)
        clear hi hki hin
        go_wp2
        rw [Exit.noGoto_ret]
        go_ret2
        exact ⟨_, rfl, by rw [← HEF.out]; exact HO.out.from HB.out⟩
  | true =>
    have HO2 := Lib.hid (show Own8 U (.slice (some ⟨hb, 0, none⟩) 5 5) [R, C, row, col, 0] (w1.alloc (.cells #[.int .u8 R, .int .u8 C, .int .u8 row, .int .u8 col, .int .u8 0] 5)) from by
      have hz := (Own8.lit w1 [R, C, row, col, 0] 5 rfl (by omega)).from HB1.out
      rw [hhb] at hz
      exact hz)
    go_upto_region 4 with fail
    try simp only [hhb]
    generalize (w1.alloc (.cells #[.int .u8 R, .int .u8 C, .int .u8 row, .int .u8 col, .int .u8 0] 5)) = X1 at HO2 ⊢
    clear hhb x0 x1 x2 x3 x4 x5
    obtain ⟨x0, x1, x2, x3, x4, x5⟩ := six_cells ((HO2.out.below.block _ (lt_of_block HC.out)).trans HC.out)
    have HO3 := Lib.hid (show Own8 U (.slice (some ⟨hb, 0, none⟩) 5 5) [R, C, row, col, 1] (X1.setCell ⟨hb, 4, none⟩ (.int .u8 1)) from by
      obtain ⟨o, g⟩ := HO2.out.own.stored 4 (.int .u8 1)
      exact ⟨o, HO2.out.below.grown g HO2.out.below.size (ownBlock_le HO2.out.own)⟩)
    have y0 : X1.cell? ⟨hb, 4, none⟩ = some (.int .u8 0) := HO2.out.own.cellAt 4 (by decide)
    have y1 := HO2.out.own.frozenAt 4
    go_upto_region 6 with fail
    generalize (X1.setCell ⟨hb, 4, none⟩ (.int .u8 1)) = X0 at HO3 ⊢
    clear HO2 y0 y1
    clear x0 x1 x2 x3 x4 x5
    obtain ⟨x0, x1, x2, x3, x4, x5⟩ := six_cells ((HO3.out.below.block _ (lt_of_block HC.out)).trans HC.out)
    go_wp2
    go_step3
    go_wp2
    go_loopw [4, 5, 33] (fun bv kv iv wr => ∃ (i k : Nat) (A1 : Option Addr) (m1 c1 : Nat) (xs : List Int), bv = .slice A1 m1 c1 ∧ kv = .int .i64 k ∧ iv = .int .i64 i ∧ i ≤ n ∧ k ≤ i ∧ Hid (Own8 U (.slice A1 m1 c1) xs wr) ∧ Hid (xs ++ runsB k (L.drop i) = viewB R C row col true L) ∧ Hid (xs.length ≤ 8000)) (fun _ _ iv _ => n - (intOf iv).toNat)
    case atStart => exact ⟨0, 0, _, _, _, _, rfl, rfl, rfl, by omega, by omega, HO3, Lib.hid (by rw [List.drop_zero]; rfl), Lib.hid (by simp)⟩
    case round =>
      obtain ⟨i, k, A1, m1, c1, xs, rfl, rfl, rfl, hi, hki, HO, HEQ, HLE⟩ := hrel
      clear HO3
      by_cases hin : i < n
      · have e1 : decide ((i : Int) < (n : Int)) = true := by simp; omega
        have e1' : decide (i < n) = true := by simp; omega
        have g1 : (0 : Int) ≤ (i : Int) := by omega
        have g2 : (i : Int) < (n : Int) := by omega
        have wr1 : IntKind.i64.wrap ((i : Int) + 1) = (i : Int) + 1 := IntWalk.i64_in _ (by have := HN4.out; omega)
        have wk1 : IntKind.i64.wrap ((k : Int) + 1) = (k : Int) + 1 := IntWalk.i64_in _ (by have := HN4.out; omega)
        have wk2 : IntKind.u64.wrap ((k : Int) + 1) = (k : Int) + 1 := IntWalk.u64_in _ (by have := HN4.out; omega)
        have tn : ((i : Int) + 1).toNat = i + 1 := by omega
        obtain ⟨b, off, rfl, hbl, hcs⟩ := HCR.out (by rw [HL.out]; omega)
        have hcel := hcs i (by rw [HL.out]; omega)
        have HCK := Lib.hid (And.intro (HOK.out (ceAt L i) (ceAt_mem (by rw [HL.out]; omega))) (HRK.out (ceAt L i) (ceAt_mem (by rw [HL.out]; omega))))
        have hdrop : L.drop i = ceAt L i :: L.drop (i + 1) := by
          rw [List.drop_eq_getElem_cons (by rw [HL.out]; omega)]
          congr 1
          simp [ceAt, List.getD, show i < L.length by rw [HL.out]; omega]
        obtain ⟨⟨p, f, gg, bb⟩, hce⟩ : ∃ c, ceAt L i = c := ⟨_, rfl⟩
        rw [hce] at hcel HCK hdrop
        have HDR := Lib.hid hdrop
        have hbw := HO.out.below
        obtain ⟨k0, k1, k2, k3⟩ := ce_four (fun j v hv => (hbw.cell (p := ⟨b, off + i * 4 + j, none⟩) hbl).trans (hcel j v hv))
        have HOX := Lib.hid (HO.out.to ((Below.refl wr.heap.size wr).alloc (Nat.le_refl _) (.cells #[.int .i32 p, .int .u8 f, .int .u32 gg, .int .u32 bb] 50)))
        have HTX := Lib.hid (heap_alloc_new wr (.cells #[.int .i32 p, .int .u8 f, .int .u32 gg, .int .u32 bb] 50))
        obtain ⟨tb, htb⟩ : ∃ t, wr.heap.size = t := ⟨_, rfl⟩
        have HNE := Lib.hid (fun q (h : (Value.slice A1 m1 c1).ownBlock = some q) => (htb ▸ own_block_lt HO.out.own q h : q < tb))
        have HLX := Lib.hid (show xs.length ≤ 8000 from HLE.out)
        have HIN := Lib.hid (show i < n ∧ k ≤ i from ⟨hin, hki⟩)
        clear hi hki hcel hdrop hce HO hbw
        go_upto_region 10 with fail
        simp only [htb] at HTX ⊢
        generalize (wr.alloc (.cells #[.int .i32 p, .int .u8 f, .int .u32 gg, .int .u32 bb] 50)) = X at HOX HTX ⊢
        clear k0 k1 k2 k3 htb
        obtain ⟨B2, hB2⟩ : ∃ B, numB ((k : Int) + 1) = B := ⟨_, rfl⟩
        have HPU := Lib.hid (fun (W : World) hW => hB2 ▸ p_put ((k : Int) + 1) W (by omega) (by have := HN4.out; have := HIN.out; omega) hW)
        have HLB := Lib.hid (show B2.length ≤ 8 by rw [← hB2, numB_length]; exact (szN_le _).2)
        have HB2 := Lib.hid (fun (_ : Unit) => hB2)
        clear hB2
        have hxd := HOX.out.below.drew
        obtain ⟨x0, x1, x2, x3, x4, x5⟩ := six_cells ((hxd.block _ (lt_of_block HC.out)).trans HC.out)
        obtain ⟨k0, k1, k2, k3⟩ := four_at (((Below.refl X.heap.size X).drew.block _ (lt_of_block HTX.out)).trans HTX.out)
        by_cases hlast : i + 1 < n
        · have e2 : decide ((i : Int) + 1 < (n : Int)) = true := by simp; omega
          have e2' : decide (i + 1 < n) = true := by simp; omega
          have g3 : (0 : Int) ≤ (i : Int) + 1 := by omega
          have g4 : (i : Int) + 1 < (n : Int) := by omega
          have hcel := hcs (i + 1) (by rw [HL.out]; omega)
          have hdrop : L.drop (i + 1) = ceAt L (i + 1) :: L.drop (i + 1 + 1) := by
            rw [List.drop_eq_getElem_cons (by rw [HL.out]; omega)]
            congr 1
            simp [ceAt, List.getD, show i + 1 < L.length by rw [HL.out]; omega]
          obtain ⟨⟨p', f', gg', bb'⟩, hce⟩ : ∃ c, ceAt L (i + 1) = c := ⟨_, rfl⟩
          rw [hce] at hcel hdrop
          obtain ⟨y0, y1, y2, y3⟩ := ce_four (fun j v hv => (hxd.cell (p := ⟨b, off + (i + 1) * 4 + j, none⟩) hbl).trans (hcel j v hv))
          have HEC := fun W => eq_ce p f gg bb p' f' gg' bb' W
          have HDR2 := Lib.hid hdrop
          clear hcel hdrop hce hbl hcs hxd
          by_cases he : (⟨p, f, gg, bb⟩ : Ce) = ⟨p', f', gg', bb'⟩
          · have HEQ2 := Lib.hid (show xs ++ runsB (k + 1) (L.drop (i + 1)) = viewB R C row col true L from by
              have hz := HEQ.out
              rw [HDR.out, HDR2.out, runs_two, if_pos he] at hz
              rw [HDR2.out]; exact hz)
            simp only [decide_eq_true he] at HEC
            clear he
            go_wp2
            go_big_region
            clear HEC x0 x1 x2 x3 x4 x5 y0 y1 y2 y3 k0 k1 k2 k3
            have HOE := Lib.hid (HOX.out.to (Below.refl X.heap.size X).drew)
            go_wp2
            go_roundw
            case rel => exact ⟨i + 1, k + 1, A1, m1, c1, xs, rfl, by go_num, by go_num, by have := HIN.out; omega, by have := HIN.out; omega, HOE, HEQ2, HLE⟩
            case measure => have := HIN.out; simp [intOf]; omega
          · have HEP := Lib.hid (show ((xs ++ B2) ++ cellB ⟨p, f, gg, bb⟩) ++ runsB 0 (L.drop (i + 1)) = viewB R C row col true L from by
              have hz := HEQ.out
              rw [HDR.out, HDR2.out, runs_two, if_neg he] at hz
              rw [HDR2.out, ← hz, ← HB2.out ()]
              simp)
            simp only [decide_eq_false he] at HEC
            have HOD := Lib.hid (HOX.out.to (Below.refl X.heap.size X).drew)
            have HTD := Lib.hid (((Below.refl X.heap.size X).drew.block _ (lt_of_block HTX.out)).trans HTX.out)
            clear he
            go_wp2
            go_big_region
            clear HEC x0 x1 x2 x3 x4 x5 y0 y1 y2 y3 k0 k1 k2 k3 HOX HTX
            have HOX := HOD
            have HTX := HTD
            clear HOD HTD
            go_wp2_with fail
            refine (HPU.out _ (HTB.out.below HOX.out.below HTB.out.big)).mono ?_
            rintro e X2 ⟨u2, rfl, o2⟩
            have ox := HOX.out.to o2.below
            have hd := (Below.refl X2.heap.size X2).drew
            obtain ⟨A6, c6, W6, hrun, o6, hg6⟩ := (ox.to hd).appg (ys := B2) (u := u2) (o2.to hd).rit (by have := HLB.out; have := HLX.out; omega)
            have HRUN := Lib.hid hrun
            have HT2 := (o2.below.block _ (lt_of_block HTX.out)).trans HTX.out
            have HT := Lib.hid ((hd.block _ (lt_of_block HT2)).trans HT2)
            have HT6 := Lib.hid ((hg6.block tb (lt_of_block HT.out) (by intro e; exact absurd (HNE.out tb e.symm) (Nat.lt_irrefl _))).trans HT.out)
            have HBU := Lib.hid (ox.to hd).below
            have HBU6 := Lib.hid o6.below
            have HAC := Lib.hid (p_appendcell o6 (by have := HLB.out; have := HLX.out; simp; omega) HCK.out.1 HCK.out.2 HTU.out)
            have HEQ2 := Lib.hid (show ((xs ++ B2) ++ cellB ⟨p, f, gg, bb⟩) ++ runsB 0 (L.drop (i + 1)) = viewB R C row col true L from HEP.out)
            have HLE2 := Lib.hid (show ((xs ++ B2) ++ cellB ⟨p, f, gg, bb⟩).length ≤ 8000 from by
              have h1 := congrArg List.length HEQ2.out
              have h2 := HVL.out
              rw [List.length_append] at h1
              omega)
            unfold cV at HAC
            dsimp only at HAC
            clear o2 ox hd hrun o6 hg6 HT2 HPU
            go_wp2_with fail
            refine wp_region_held_drew (S := fun W => Below U.heap.size U W) (by kernel_rfl) HBU.out (fun hHeld => ?_)
            refine wpAnyH_take (i := 0) (v := ?_) (by simp; rfl) (by kernel_rfl) (by kernel_rfl) (by kernel_rfl) (by exact fun _ _ _ h => h) (Or.inl ⟨by rfl, fun wx hSx => ?_⟩) hHeld ?_
            rotate_left
            · clear hSx; go_simp; (try with_reducible rfl)
            simp only [Act.put, List.setIfInBounds_toArray, List.set_cons_zero, List.set_cons_succ]
            refine wpAnyH_take (i := 1) (v := ?_) (by simp; rfl) (by kernel_rfl) (by kernel_rfl) (by kernel_rfl) (by exact fun _ _ _ h => h) (Or.inl ⟨by rfl, fun wx hSx => ?_⟩) hHeld ?_
            rotate_left
            · clear hSx; go_simp; (try with_reducible rfl)
            simp only [Act.put, List.setIfInBounds_toArray, List.set_cons_zero, List.set_cons_succ]
            refine wpAnyH_ready (rs := [2, 3]) (by kernel_rfl) (by simp) ?_
            refine AllReadyH.cons (by simp; rfl) (fun K0 hK0 => ?_) (AllReadyH.cons (by simp; rfl) (fun K0 hK0 => ?_) AllReadyH.nil)
            · refine step_app rfl (.tmp 62) (.tmp 63) _ rfl _ _ rfl rfl HRUN.out ?_
              simp only [Act.put, List.setIfInBounds_toArray, List.set_cons_zero, List.set_cons_succ]
              clear HT HBU
              have HT := HT6
              have HBU := HBU6
              refine hK0.out _ _ HBU.out (fun _ => ?_)
              clear hK0 K0 hHeld HT6 HBU6 HRUN
              have hHeld := HBU.out
              refine wpAnyH_ready (rs := [3]) (by kernel_rfl) (by simp) ?_
              refine AllReadyH.cons (by simp; rfl) (fun K0 hK0 => ?_) AllReadyH.nil
              obtain ⟨k0, k1, k2, k3⟩ := four_at HT.out
              go_simp
              refine hK0.out _ _ HBU.out (fun _ => ?_)
              clear hK0 K0 k0 k1 k2 k3
              refine wpAnyH_ready (rs := [4]) (by kernel_rfl) (by simp) ?_
              refine AllReadyH.cons (by simp; rfl) (fun K0 hK0 => ?_) AllReadyH.nil
              go_simp
              refine (HAC.out).mono ?_
              rintro e W8 ⟨u8v, rfl, o8⟩
              obtain ⟨A8, n8, c8, hv8⟩ : ∃ A n c, u8v = .slice A n c := by obtain ⟨A, c, e, _⟩ := own_slice o8.own; exact ⟨A, _, c, e⟩
              subst hv8
              have HO8 := Lib.hid o8
              clear o8
              refine hK0.out _ _ HO8.out.below (fun _ => ?_)
              clear hK0 K0 hHeld
              have hHeld := HO8.out.below
              refine wpAnyH_take (i := 5) (v := ?_) (by simp; rfl) (by kernel_rfl) (by kernel_rfl) (by kernel_rfl) (by exact fun _ _ _ h => h) (Or.inl ⟨by rfl, fun wx hSx => ?_⟩) hHeld ?_
              rotate_left
              · clear hSx; go_simp; (try with_reducible rfl)
              simp only [Act.put, List.setIfInBounds_toArray, List.set_cons_zero, List.set_cons_succ]
              refine wpAnyH_done (by kernel_rfl) ?_ _
              go_wp2
              go_roundw
              case rel => exact ⟨i + 1, 0, A8, n8, c8, _, rfl, rfl, by go_num, by have := HIN.out; omega, by omega, HO8, HEQ2, HLE2⟩
              case measure => have := HIN.out; simp [intOf]; omega
            · obtain ⟨k0, k1, k2, k3⟩ := four_at HT.out
              go_simp
              refine hK0.out _ _ HBU.out (fun _ => ?_)
              clear hK0 K0 k0 k1 k2 k3
              refine wpAnyH_ready (rs := [2]) (by kernel_rfl) (by simp) ?_
              refine AllReadyH.cons (by simp; rfl) (fun K0 hK0 => ?_) AllReadyH.nil
              refine step_app rfl (.tmp 62) (.tmp 63) _ rfl _ _ rfl rfl HRUN.out ?_
              simp only [Act.put, List.setIfInBounds_toArray, List.set_cons_zero, List.set_cons_succ]
              clear HT HBU
              have HT := HT6
              have HBU := HBU6
              refine hK0.out _ _ HBU.out (fun _ => ?_)
              clear hK0 K0 hHeld HT6 HBU6 HRUN
              have hHeld := HBU.out
              refine wpAnyH_ready (rs := [4]) (by kernel_rfl) (by simp) ?_
              refine AllReadyH.cons (by simp; rfl) (fun K0 hK0 => ?_) AllReadyH.nil
              go_simp
              refine (HAC.out).mono ?_
              rintro e W8 ⟨u8v, rfl, o8⟩
              obtain ⟨A8, n8, c8, hv8⟩ : ∃ A n c, u8v = .slice A n c := by obtain ⟨A, c, e, _⟩ := own_slice o8.own; exact ⟨A, _, c, e⟩
              subst hv8
              have HO8 := Lib.hid o8
              clear o8
              refine hK0.out _ _ HO8.out.below (fun _ => ?_)
              clear hK0 K0 hHeld
              have hHeld := HO8.out.below
              refine wpAnyH_take (i := 5) (v := ?_) (by simp; rfl) (by kernel_rfl) (by kernel_rfl) (by kernel_rfl) (by exact fun _ _ _ h => h) (Or.inl ⟨by rfl, fun wx hSx => ?_⟩) hHeld ?_
              rotate_left
              · clear hSx; go_simp; (try with_reducible rfl)
              simp only [Act.put, List.setIfInBounds_toArray, List.set_cons_zero, List.set_cons_succ]
              refine wpAnyH_done (by kernel_rfl) ?_ _
              go_wp2
              go_roundw
              case rel => exact ⟨i + 1, 0, A8, n8, c8, _, rfl, rfl, by go_num, by have := HIN.out; omega, by omega, HO8, HEQ2, HLE2⟩
              case measure => have := HIN.out; simp [intOf]; omega
        · have e2 : decide ((i : Int) + 1 < (n : Int)) = false := by simp; omega
          have e2' : decide (i + 1 < n) = false := by simp; omega
          have HEP := Lib.hid (show ((xs ++ B2) ++ cellB ⟨p, f, gg, bb⟩) ++ runsB 0 (L.drop (i + 1)) = viewB R C row col true L from by
            have hz := HEQ.out
            have hnil : L.drop (i + 1) = [] := List.drop_eq_nil_of_le (by rw [HL.out]; omega)
            rw [HDR.out, hnil, runs_one] at hz
            rw [hnil, ← hz, ← HB2.out (), runs_nil]
            simp)
          have HOD := Lib.hid (HOX.out.to (Below.refl X.heap.size X).drew)
          have HTD := Lib.hid (((Below.refl X.heap.size X).drew.block _ (lt_of_block HTX.out)).trans HTX.out)
          clear hbl hcs hxd
          go_wp2
          go_big_region
          clear x0 x1 x2 x3 x4 x5 k0 k1 k2 k3 HOX HTX
          have HOX := HOD
          have HTX := HTD
          clear HOD HTD
          go_wp2_with fail
          refine (HPU.out _ (HTB.out.below HOX.out.below HTB.out.big)).mono ?_
          rintro e X2 ⟨u2, rfl, o2⟩
          have ox := HOX.out.to o2.below
          have hd := (Below.refl X2.heap.size X2).drew
          obtain ⟨A6, c6, W6, hrun, o6, hg6⟩ := (ox.to hd).appg (ys := B2) (u := u2) (o2.to hd).rit (by have := HLB.out; have := HLX.out; omega)
          have HRUN := Lib.hid hrun
          have HT2 := (o2.below.block _ (lt_of_block HTX.out)).trans HTX.out
          have HT := Lib.hid ((hd.block _ (lt_of_block HT2)).trans HT2)
          have HT6 := Lib.hid ((hg6.block tb (lt_of_block HT.out) (by intro e; exact absurd (HNE.out tb e.symm) (Nat.lt_irrefl _))).trans HT.out)
          have HBU := Lib.hid (ox.to hd).below
          have HBU6 := Lib.hid o6.below
          have HAC := Lib.hid (p_appendcell o6 (by have := HLB.out; have := HLX.out; simp; omega) HCK.out.1 HCK.out.2 HTU.out)
          have HEQ2 := Lib.hid (show ((xs ++ B2) ++ cellB ⟨p, f, gg, bb⟩) ++ runsB 0 (L.drop (i + 1)) = viewB R C row col true L from HEP.out)
          have HLE2 := Lib.hid (show ((xs ++ B2) ++ cellB ⟨p, f, gg, bb⟩).length ≤ 8000 from by
            have h1 := congrArg List.length HEQ2.out
            have h2 := HVL.out
            rw [List.length_append] at h1
            omega)
          unfold cV at HAC
          dsimp only at HAC
          clear o2 ox hd hrun o6 hg6 HT2 HPU
          go_wp2_with fail
          refine wp_region_held_drew (S := fun W => Below U.heap.size U W) (by kernel_rfl) HBU.out (fun hHeld => ?_)
          refine wpAnyH_take (i := 0) (v := ?_) (by simp; rfl) (by kernel_rfl) (by kernel_rfl) (by kernel_rfl) (by exact fun _ _ _ h => h) (Or.inl ⟨by rfl, fun wx hSx => ?_⟩) hHeld ?_
          rotate_left
          · clear hSx; go_simp; (try with_reducible rfl)
          simp only [Act.put, List.setIfInBounds_toArray, List.set_cons_zero, List.set_cons_succ]
          refine wpAnyH_take (i := 1) (v := ?_) (by simp; rfl) (by kernel_rfl) (by kernel_rfl) (by kernel_rfl) (by exact fun _ _ _ h => h) (Or.inl ⟨by rfl, fun wx hSx => ?_⟩) hHeld ?_
          rotate_left
          · clear hSx; go_simp; (try with_reducible rfl)
          simp only [Act.put, List.setIfInBounds_toArray, List.set_cons_zero, List.set_cons_succ]
          refine wpAnyH_ready (rs := [2, 3]) (by kernel_rfl) (by simp) ?_
          refine AllReadyH.cons (by simp; rfl) (fun K0 hK0 => ?_) (AllReadyH.cons (by simp; rfl) (fun K0 hK0 => ?_) AllReadyH.nil)
          · refine step_app rfl (.tmp 62) (.tmp 63) _ rfl _ _ rfl rfl HRUN.out ?_
            simp only [Act.put, List.setIfInBounds_toArray, List.set_cons_zero, List.set_cons_succ]
            clear HT HBU
            have HT := HT6
            have HBU := HBU6
            refine hK0.out _ _ HBU.out (fun _ => ?_)
            clear hK0 K0 hHeld HT6 HBU6 HRUN
            have hHeld := HBU.out
            refine wpAnyH_ready (rs := [3]) (by kernel_rfl) (by simp) ?_
            refine AllReadyH.cons (by simp; rfl) (fun K0 hK0 => ?_) AllReadyH.nil
            obtain ⟨k0, k1, k2, k3⟩ := four_at HT.out
            go_simp
            refine hK0.out _ _ HBU.out (fun _ => ?_)
            clear hK0 K0 k0 k1 k2 k3
            refine wpAnyH_ready (rs := [4]) (by kernel_rfl) (by simp) ?_
            refine AllReadyH.cons (by simp; rfl) (fun K0 hK0 => ?_) AllReadyH.nil
            go_simp
            refine (HAC.out).mono ?_
            rintro e W8 ⟨u8v, rfl, o8⟩
            obtain ⟨A8, n8, c8, hv8⟩ : ∃ A n c, u8v = .slice A n c := by obtain ⟨A, c, e, _⟩ := own_slice o8.own; exact ⟨A, _, c, e⟩
            subst hv8
            have HO8 := Lib.hid o8
            clear o8
            refine hK0.out _ _ HO8.out.below (fun _ => ?_)
            clear hK0 K0 hHeld
            have hHeld := HO8.out.below
            refine wpAnyH_take (i := 5) (v := ?_) (by simp; rfl) (by kernel_rfl) (by kernel_rfl) (by kernel_rfl) (by exact fun _ _ _ h => h) (Or.inl ⟨by rfl, fun wx hSx => ?_⟩) hHeld ?_
            rotate_left
            · clear hSx; go_simp; (try with_reducible rfl)
            simp only [Act.put, List.setIfInBounds_toArray, List.set_cons_zero, List.set_cons_succ]
            refine wpAnyH_done (by kernel_rfl) ?_ _
            go_wp2
            go_roundw
            case rel => exact ⟨i + 1, 0, A8, n8, c8, _, rfl, rfl, by go_num, by have := HIN.out; omega, by omega, HO8, HEQ2, HLE2⟩
            case measure => have := HIN.out; simp [intOf]; omega
          · obtain ⟨k0, k1, k2, k3⟩ := four_at HT.out
            go_simp
            refine hK0.out _ _ HBU.out (fun _ => ?_)
            clear hK0 K0 k0 k1 k2 k3
            refine wpAnyH_ready (rs := [2]) (by kernel_rfl) (by simp) ?_
            refine AllReadyH.cons (by simp; rfl) (fun K0 hK0 => ?_) AllReadyH.nil
            refine step_app rfl (.tmp 62) (.tmp 63) _ rfl _ _ rfl rfl HRUN.out ?_
            simp only [Act.put, List.setIfInBounds_toArray, List.set_cons_zero, List.set_cons_succ]
            clear HT HBU
            have HT := HT6
            have HBU := HBU6
            refine hK0.out _ _ HBU.out (fun _ => ?_)
            clear hK0 K0 hHeld HT6 HBU6 HRUN
            have hHeld := HBU.out
            refine wpAnyH_ready (rs := [4]) (by kernel_rfl) (by simp) ?_
            refine AllReadyH.cons (by simp; rfl) (fun K0 hK0 => ?_) AllReadyH.nil
            go_simp
            refine (HAC.out).mono ?_
            rintro e W8 ⟨u8v, rfl, o8⟩
            obtain ⟨A8, n8, c8, hv8⟩ : ∃ A n c, u8v = .slice A n c := by obtain ⟨A, c, e, _⟩ := own_slice o8.own; exact ⟨A, _, c, e⟩
            subst hv8
            have HO8 := Lib.hid o8
            clear o8
            refine hK0.out _ _ HO8.out.below (fun _ => ?_)
            clear hK0 K0 hHeld
            have hHeld := HO8.out.below
            refine wpAnyH_take (i := 5) (v := ?_) (by simp; rfl) (by kernel_rfl) (by kernel_rfl) (by kernel_rfl) (by exact fun _ _ _ h => h) (Or.inl ⟨by rfl, fun wx hSx => ?_⟩) hHeld ?_
            rotate_left
            · clear hSx; go_simp; (try with_reducible rfl)
            simp only [Act.put, List.setIfInBounds_toArray, List.set_cons_zero, List.set_cons_succ]
            refine wpAnyH_done (by kernel_rfl) ?_ _
            go_wp2
            go_roundw
            case rel => exact ⟨i + 1, 0, A8, n8, c8, _, rfl, rfl, by go_num, by have := HIN.out; omega, by omega, HO8, HEQ2, HLE2⟩
            case measure => have := HIN.out; simp [intOf]; omega
      · have e1 : decide ((i : Int) < (n : Int)) = false := by simp; omega
        have e1' : decide (i < n) = false := by simp; omega
        have HEF := Lib.hid (show xs = viewB R C row col true L from by
          have hz := HEQ.out
          rw [List.drop_eq_nil_of_le (by rw [HL.out]; omega), runs_nil, List.append_nil] at hz
          exact hz)
        clear hi hki hin
        go_wp2
        rw [Exit.noGoto_ret]
        go_ret2
        exact ⟨_, rfl, by rw [← HEF.out]; exact HO.out.from HB.out⟩
end Go.Proofs.YtcblohmenfdafaaDoor
