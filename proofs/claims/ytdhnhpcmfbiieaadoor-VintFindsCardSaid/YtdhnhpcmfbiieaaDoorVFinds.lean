/-
  Proved here: VintFinds walked: for every slice of fields, every field and every two slices of bytes, the law returns true and changes nothing that was there.
-/
import Derived.Test.YtdhnhpcmfbiieaaDoorVFinds1
import Derived.Deep.DeepCutAuto
namespace Go.Proofs.YtdhnhpcmfbiieaaDoor
open Go.RowKit

/-- The field that came in, in its box. -/
abbrev boxF (t : Int) (A : Option Addr) (l c : Nat) : Obj := .cells #[.int .u8 t, .slice A l c] 54

set_option maxRecDepth 100000 in
set_option maxHeartbeats 4000000 in
theorem finds_long (fs : List Fld) (t : Int) (AF AD AA AB : Option Addr) (cF lD cD lA cA lB cB : Nat) (w : World) (hT : Tab w) (hF : FS w w.heap.size AF fs) (hfl : fs.length ≤ maxLen) (h : 17000 < lD ∨ 2000 < lA ∨ 2000 < lB) :
    Calls Tryd.prog 7 #[.slice AF fs.length cF, .agg #[.int .u8 t, .slice AD lD cD], .slice AA lA cA, .slice AB lB cB] w (Tru w) := by
  have hb0 : Below w.heap.size w (w.alloc (boxF t AD lD cD)) := (Below.refl _ _).alloc (Nat.le_refl _) _
  have hT0 := hT.below hb0 hT.big
  have hF0 := (hF.below hb0)
  by_cases h1 : 17000 < lD
  · have d1 : decide ((17000 : Int) < (lD : Int)) = true := by simp; omega
    go_enter Tryd.func7, Tryd.ntmps7
    go_wp2_with fail
    refine (great_any fs AF cF w.heap.size _ hF0 hfl).mono ?_
    rintro e w' ⟨rfl, he⟩
    rcases he with rfl | ⟨rfl, _⟩
    all_goals (
      go_wp2_with fail
      refine (alive_any _ hT0).mono ?_
      rintro e w1 ⟨rfl, hb1⟩
      go_wp2
      go_ret
      exact ⟨rfl, hb0.trans (hb1.mono hb0.size)⟩)
  · have d1 : decide ((17000 : Int) < (lD : Int)) = false := by simp; omega
    by_cases h2 : 2000 < lA
    · have d2 : decide ((2000 : Int) < (lA : Int)) = true := by simp; omega
      go_enter Tryd.func7, Tryd.ntmps7
      go_wp2_with fail
      refine (great_any fs AF cF w.heap.size _ hF0 hfl).mono ?_
      rintro e w' ⟨rfl, he⟩
      rcases he with rfl | ⟨rfl, _⟩
      all_goals (
        go_wp2_with fail
        refine (alive_any _ hT0).mono ?_
        rintro e w1 ⟨rfl, hb1⟩
        go_wp2
        go_ret
        exact ⟨rfl, hb0.trans (hb1.mono hb0.size)⟩)
    · have d2 : decide ((2000 : Int) < (lA : Int)) = false := by simp; omega
      have d3 : decide ((2000 : Int) < (lB : Int)) = true := by simp; omega
      go_enter Tryd.func7, Tryd.ntmps7
      go_wp2_with fail
      refine (great_any fs AF cF w.heap.size _ hF0 hfl).mono ?_
      rintro e w' ⟨rfl, he⟩
      rcases he with rfl | ⟨rfl, _⟩
      all_goals (
        go_wp2_with fail
        refine (alive_any _ hT0).mono ?_
        rintro e w1 ⟨rfl, hb1⟩
        go_wp2
        go_ret
        exact ⟨rfl, hb0.trans (hb1.mono hb0.size)⟩)

set_option maxRecDepth 100000 in
set_option maxHeartbeats 8000000 in
theorem finds_short (fs : List Fld) (t : Int) (d av bs : List Int) (AF AD AA AB : Option Addr) (cF cD cA cB : Nat) (w : World) (hT : Tab w) (hF : FS w w.heap.size AF fs) (hfl : fs.length ≤ maxLen) (hfn : AF = none → cF = 0)
    (hD : RB w w.heap.size AD d) (hDc : d.length ≤ cD) (hDm : cD ≤ maxLen) (hDn : AD = none → cD = 0) (hdl : d.length ≤ 17000)
    (hRA : RB w w.heap.size AA av) (hBA : Bytes av) (hac : av.length ≤ cA) (ham : cA ≤ maxLen) (han : AA = none → cA = 0) (hal : av.length ≤ 2000)
    (hRB : RB w w.heap.size AB bs) (hBB : Bytes bs) (hbc : bs.length ≤ cB) (hbm : cB ≤ maxLen) (hbn : AB = none → cB = 0) (hbl : bs.length ≤ 2000) :
    Calls Tryd.prog 7 #[.slice AF fs.length cF, .agg #[.int .u8 t, .slice AD d.length cD], .slice AA av.length cA, .slice AB bs.length cB] w (Tru w) := by
  have d1 : decide ((17000 : Int) < (d.length : Int)) = false := by simp; omega
  have d2 : decide ((2000 : Int) < (av.length : Int)) = false := by simp; omega
  have d3 : decide ((2000 : Int) < (bs.length : Int)) = false := by simp; omega
  have hb0 : Below w.heap.size w (w.alloc (boxF t AD d.length cD)) := (Below.refl _ _).alloc (Nat.le_refl _) _
  have hT0 := hT.below hb0 hT.big
  have HF := Lib.hid hF
  have HD := Lib.hid hD
  have HA := Lib.hid hRA
  have HB := Lib.hid hRB
  clear hF hD hRA hRB
  have bx0 : (w.alloc (boxF t AD d.length cD)).cell? ⟨w.heap.size, 0, none⟩ = some (.int .u8 t) := by simp
  have bx1 : (w.alloc (boxF t AD d.length cD)).cell? ⟨w.heap.size, 1, none⟩ = some (.slice AD d.length cD) := by simp
  have hW0 : (w.alloc (boxF t AD d.length cD)).heap.size = w.heap.size + 1 := by simp
  have HW := Lib.hid hW0
  clear hW0
  go_enter Tryd.func7, Tryd.ntmps7
  go_wp2_with fail
  refine (great_any fs AF cF w.heap.size _ (HF.out.below hb0) hfl).mono ?_
  rintro e w' ⟨rfl, he⟩
  rcases he with rfl | ⟨rfl, hfit⟩
  · go_wp2_with fail
    refine (alive_any _ hT0).mono ?_
    rintro e w1 ⟨rfl, hb1⟩
    go_wp2
    go_ret
    exact ⟨rfl, hb0.trans (hb1.mono hb0.size)⟩
  have HFIT := Lib.hid hfit
  clear hfit
  obtain ⟨W, hW⟩ : ∃ W, w.alloc (boxF t AD d.length cD) = W := ⟨_, rfl⟩
  rw [hW] at hb0 hT0 bx0 bx1 HW ⊢
  clear hW
  have hbx : w.heap.size < W.heap.size := by rw [HW.out]; omega
  go_wp2
  go_loopw [9, 10] (fun fi i wr => ∃ k : Nat, k ≤ fs.length ∧ i = .int .i64 k ∧ fi = .int .i64 (firstTo t fs k) ∧ Below W.heap.size W wr) (fun _ i _ => fs.length - (intOf i).toNat)
  case atStart => exact ⟨0, by omega, rfl, rfl, Below.refl _ _⟩
  case round =>
    obtain ⟨k, hk, rfl, rfl, hbel⟩ := hrel
    have hfb := firstTo_bd t fs k
    have hf140 := HFIT.out.1
    have x0 : wr.cell? ⟨w.heap.size, 0, none⟩ = some (.int .u8 t) := (hbel.cell (p := ⟨w.heap.size, 0, none⟩) hbx).trans bx0
    by_cases hlt : k < fs.length
    · obtain ⟨b, off, hA, hb, hc⟩ := ((HF.out.below hb0).below (hbel.mono hb0.size)) (by omega)
      subst hA
      obtain ⟨ct, _⟩ := hc k hlt
      clear hc
      have g3 : (0 : Int) ≤ (k : Int) := by omega
      have g4 : (k : Int) < (fs.length : Int) := by omega
      by_cases hneg : firstTo t fs k < 0
      · have dn : decide (firstTo t fs k < 0) = true := decide_eq_true hneg
        by_cases he : (fAt fs k).1 = t
        · have HN := Lib.hid (firstTo_yes hneg he)
          rw [he] at ct
          have tt : (t == t) = true := by simp
          clear he
          go_wp2
          go_quiet (fail)
          go_wp2
          go_roundw
          case rel => exact ⟨k + 1, by omega, by go_num, by rw [HN.out], belowN hbel _⟩
          case measure => simp [intOf]; omega
        · have HN := Lib.hid (firstTo_no he)
          have tt : ((fAt fs k).1 == t) = false := beq_eq_false_iff_ne.2 he
          obtain ⟨u, hu⟩ : ∃ u, (fAt fs k).1 = u := ⟨_, rfl⟩
          rw [hu] at ct tt
          clear he hu
          go_wp2
          go_quiet (fail)
          go_wp2
          go_roundw
          case rel => exact ⟨k + 1, by omega, by go_num, by rw [HN.out], belowN hbel _⟩
          case measure => simp [intOf]; omega
      · have HN := Lib.hid (firstTo_had hneg)
        have dn : decide (firstTo t fs k < 0) = false := decide_eq_false hneg
        go_wp2
        go_quiet (fail)
        go_wp2
        go_roundw
        case rel => exact ⟨k + 1, by omega, by go_num, by rw [HN.out], belowN hbel _⟩
        case measure => simp [intOf]; omega
    · obtain rfl : k = fs.length := by omega
      have x1 : wr.cell? ⟨w.heap.size, 1, none⟩ = some (.slice AD d.length cD) := (hbel.cell (p := ⟨w.heap.size, 1, none⟩) hbx).trans bx1
      have hbr : Below w.heap.size w wr := hb0.trans (hbel.mono hb0.size)
      have x1 : wr.cell? ⟨w.heap.size, 1, none⟩ = some (.slice AD d.length cD) := (hbel.cell (p := ⟨w.heap.size, 1, none⟩) hbx).trans bx1
      have hbr : Below w.heap.size w wr := hb0.trans (hbel.mono hb0.size)
      have hbw : w.heap.size < wr.heap.size := Nat.lt_of_lt_of_le hbx hbel.size
      have x1 : wr.cell? ⟨w.heap.size, 1, none⟩ = some (.slice AD d.length cD) := (hbel.cell (p := ⟨w.heap.size, 1, none⟩) hbx).trans bx1
      have hbr : Below w.heap.size w wr := hb0.trans (hbel.mono hb0.size)
      have hbw : w.heap.size < wr.heap.size := Nat.lt_of_lt_of_le hbx hbel.size
      have x1 : wr.cell? ⟨w.heap.size, 1, none⟩ = some (.slice AD d.length cD) := (hbel.cell (p := ⟨w.heap.size, 1, none⟩) hbx).trans bx1
      have hbr : Below w.heap.size w wr := hb0.trans (hbel.mono hb0.size)
      have hbw : w.heap.size < wr.heap.size := Nat.lt_of_lt_of_le hbx hbel.size
      have x1 : wr.cell? ⟨w.heap.size, 1, none⟩ = some (.slice AD d.length cD) := (hbel.cell (p := ⟨w.heap.size, 1, none⟩) hbx).trans bx1
      have hbr : Below w.heap.size w wr := hb0.trans (hbel.mono hb0.size)
      have hbw : w.heap.size < wr.heap.size := Nat.lt_of_lt_of_le hbx hbel.size
      have x1 : wr.cell? ⟨w.heap.size, 1, none⟩ = some (.slice AD d.length cD) := (hbel.cell (p := ⟨w.heap.size, 1, none⟩) hbx).trans bx1
      have hbr : Below w.heap.size w wr := hb0.trans (hbel.mono hb0.size)
      have hbw : w.heap.size < wr.heap.size := Nat.lt_of_lt_of_le hbx hbel.size
      have x1 : wr.cell? ⟨w.heap.size, 1, none⟩ = some (.slice AD d.length cD) := (hbel.cell (p := ⟨w.heap.size, 1, none⟩) hbx).trans bx1
      have hbr : Below w.heap.size w wr := hb0.trans (hbel.mono hb0.size)
      have hbw : w.heap.size < wr.heap.size := Nat.lt_of_lt_of_le hbx hbel.size
      have x1 : wr.cell? ⟨w.heap.size, 1, none⟩ = some (.slice AD d.length cD) := (hbel.cell (p := ⟨w.heap.size, 1, none⟩) hbx).trans bx1
      have hbr : Below w.heap.size w wr := hb0.trans (hbel.mono hb0.size)
      have hbw : w.heap.size < wr.heap.size := Nat.lt_of_lt_of_le hbx hbel.size
      have x1 : wr.cell? ⟨w.heap.size, 1, none⟩ = some (.slice AD d.length cD) := (hbel.cell (p := ⟨w.heap.size, 1, none⟩) hbx).trans bx1
      have hbr : Below w.heap.size w wr := hb0.trans (hbel.mono hb0.size)
      have hbw : w.heap.size < wr.heap.size := Nat.lt_of_lt_of_le hbx hbel.size
      have x1 : wr.cell? ⟨w.heap.size, 1, none⟩ = some (.slice AD d.length cD) := (hbel.cell (p := ⟨w.heap.size, 1, none⟩) hbx).trans bx1
      have hbr : Below w.heap.size w wr := hb0.trans (hbel.mono hb0.size)
      have hbw : w.heap.size < wr.heap.size := Nat.lt_of_lt_of_le hbx hbel.size
      have x1 : wr.cell? ⟨w.heap.size, 1, none⟩ = some (.slice AD d.length cD) := (hbel.cell (p := ⟨w.heap.size, 1, none⟩) hbx).trans bx1
      have hbr : Below w.heap.size w wr := hb0.trans (hbel.mono hb0.size)
      have hbw : w.heap.size < wr.heap.size := Nat.lt_of_lt_of_le hbx hbel.size
      have x1 : wr.cell? ⟨w.heap.size, 1, none⟩ = some (.slice AD d.length cD) := (hbel.cell (p := ⟨w.heap.size, 1, none⟩) hbx).trans bx1
      have hbr : Below w.heap.size w wr := hb0.trans (hbel.mono hb0.size)
      have hbw : w.heap.size < wr.heap.size := Nat.lt_of_lt_of_le hbx hbel.size
      go_upto_region 9 with fail
      go_cut [11, 12] (fun x is wx => is = .bool (findS t (fs ++ [(t, d)])).2 ∧ wx.ownsRow wr.heap.size 5 1 x (findS t (fs ++ [(t, d)])).1.length (B8 (findS t (fs ++ [(t, d)])).1) ∧ Below wr.heap.size wr wx)
      case first =>
        refine wp_region_held_drew (S := fun w' => w'.cell? ⟨w.heap.size, 0, none⟩ = some (.int .u8 t) ∧ w'.cell? ⟨w.heap.size, 1, none⟩ = some (.slice AD d.length cD)) (by kernel_rfl) ⟨x0, x1⟩ (fun hHeld => ?_)
        have bV : Below wr.heap.size wr wr.drew := (Below.refl _ _).drew
        obtain ⟨V, hV⟩ : ∃ V, wr.drew = V := ⟨_, rfl⟩
        rw [hV] at hHeld bV ⊢
        clear hV
        refine wpAnyH_take (i := 1) (v := ?_) (by simp; rfl) (by kernel_rfl) (by kernel_rfl) (by kernel_rfl) (by exact fun _ _ _ h => h) (Or.inl ⟨by rfl, fun wx hSx => ?_⟩) hHeld ?_
        rotate_left
        · obtain ⟨hS1, hS2⟩ := hSx; go_simp; (try with_reducible rfl)
        simp only [Act.put, List.setIfInBounds_toArray, List.set_cons_zero, List.set_cons_succ]
        refine wpAnyH_take (i := 3) (v := ?_) (by simp; rfl) (by kernel_rfl) (by kernel_rfl) (by kernel_rfl) (by exact fun _ _ _ h => h) (Or.inl ⟨by rfl, fun wx hSx => ?_⟩) hHeld ?_
        rotate_left
        · obtain ⟨hS1, hS2⟩ := hSx; go_simp; (try with_reducible rfl)
        simp only [Act.put, List.setIfInBounds_toArray, List.set_cons_zero, List.set_cons_succ]
        refine wpAnyH_take (i := 6) (v := ?_) (by simp; rfl) (by kernel_rfl) (by kernel_rfl) (by kernel_rfl) (by exact fun _ _ _ h => h) (Or.inl ⟨by rfl, fun wx hSx => ?_⟩) hHeld ?_
        rotate_left
        · obtain ⟨hS1, hS2⟩ := hSx; go_simp; (try with_reducible rfl)
        simp only [Act.put, List.setIfInBounds_toArray, List.set_cons_zero, List.set_cons_succ]
        refine wpAnyH_take (i := 7) (v := ?_) (by simp; rfl) (by kernel_rfl) (by kernel_rfl) (by kernel_rfl) (by exact fun _ _ _ h => h) (Or.inl ⟨by rfl, fun wx hSx => ?_⟩) hHeld ?_
        rotate_left
        · obtain ⟨hS1, hS2⟩ := hSx; go_simp; (try with_reducible rfl)
        simp only [Act.put, List.setIfInBounds_toArray, List.set_cons_zero, List.set_cons_succ]
        refine wpAnyH_ready (rs := [0, 4]) (by kernel_rfl) (by simp) ?_
        refine AllReadyH.cons (by simp; rfl) (fun K hK => ?_) (AllReadyH.cons (by simp; rfl) (fun K hK => ?_) AllReadyH.nil)
        · go_simp
          have bV1 : Below wr.heap.size wr (V.alloc (.cells #[] 54)) := bV.alloc bV.size _
          have oV1 : (V.alloc (.cells #[] 54)).ownsRow wr.heap.size 54 2 (.slice (some ⟨V.heap.size, 0, none⟩) 0 0) 0 [] := World.ownsRow_made V #[] 0 bV.size (by unfold maxLen; omega) rfl
          have zV1 : (V.alloc (.cells #[] 54)).heap.size = V.heap.size + 1 := by simp
          obtain ⟨V1, hV1⟩ : ∃ V1, V.alloc (.cells #[] 54) = V1 := ⟨_, rfl⟩
          rw [hV1] at bV1 oV1 zV1 ⊢
          refine hK.out _ _ ⟨(bV1.cell (p := ⟨w.heap.size, 0, none⟩) hbw).trans x0, (bV1.cell (p := ⟨w.heap.size, 1, none⟩) hbw).trans x1⟩ (fun hHeld => ?_)
          have ZV1 := Lib.hid zV1
          have HhV1 := Lib.hid hV1
          clear hK K zV1 hV1
          refine wpAnyH_ready (rs := [2, 4]) (by kernel_rfl) (by simp) ?_
          refine AllReadyH.cons (by simp; rfl) (fun K hK => ?_) (AllReadyH.cons (by simp; rfl) (fun K hK => ?_) AllReadyH.nil)
          · obtain ⟨vV2, V2, lc, hrun, hlc, oV2, gV2, atV2⟩ := app_fields cF ((HF.out.below hbr).below (bV1.mono hbr.size)) hfn HFIT.out.1 oV1 bV1.size
            refine step_app rfl (.tmp 61) (.tmp 62) _ rfl _ _ rfl rfl hrun ?_
            have bV2 : Below wr.heap.size wr V2 := bV1.grown gV2 bV1.size (fun k hk => by injection hk with hk; subst hk; exact bV.size)
            refine hK.out _ _ ⟨(bV2.cell (p := ⟨w.heap.size, 0, none⟩) hbw).trans x0, (bV2.cell (p := ⟨w.heap.size, 1, none⟩) hbw).trans x1⟩ (fun hHeld => ?_)
            clear hK K hrun
            simp only [Act.put, List.setIfInBounds_toArray, List.set_cons_zero, List.set_cons_succ]
            refine wpAnyH_ready (rs := [4]) (by kernel_rfl) (by simp) ?_
            refine AllReadyH.cons (by simp; rfl) (fun K hK => ?_) AllReadyH.nil
            go_simp
            have bV3 : Below wr.heap.size wr (V2.alloc (boxF t AD d.length cD)) := bV2.alloc bV2.size _
            have pV3 : (V2.alloc (boxF t AD d.length cD)).cell? ⟨V2.heap.size, 0, none⟩ = some (.int .u8 t) := by simp
            have qV3 : (V2.alloc (boxF t AD d.length cD)).cell? ⟨V2.heap.size, 1, none⟩ = some (.slice AD d.length cD) := by simp
            have zV3 : (V2.alloc (boxF t AD d.length cD)).heap.size = V2.heap.size + 1 := by simp
            obtain ⟨V3, hV3⟩ : ∃ V3, V2.alloc (boxF t AD d.length cD) = V3 := ⟨_, rfl⟩
            rw [hV3] at bV3 pV3 qV3 zV3 ⊢
            refine hK.out _ _ ⟨(bV3.cell (p := ⟨w.heap.size, 0, none⟩) hbw).trans x0, (bV3.cell (p := ⟨w.heap.size, 1, none⟩) hbw).trans x1⟩ (fun hHeld => ?_)
            have ZV3 := Lib.hid zV3
            have HhV3 := Lib.hid hV3
            clear hK K zV3 hV3
            refine wpAnyH_ready (rs := [5]) (by kernel_rfl) (by simp) ?_
            refine AllReadyH.cons (by simp; rfl) (fun K hK => ?_) AllReadyH.nil
            have b23 : Below V2.heap.size V2 V3 := by rw [← HhV3.out]; exact (Below.refl _ _).alloc (Nat.le_refl _) _
            have oV3 := own_below oV2 b23
            obtain ⟨vV5, V5, hrun, oV5, gV5⟩ := app_one oV3 pV3 qV3 HFIT.out.1 bV3.size
            refine step_app rfl (.tmp 63) (.tmp 65) _ rfl _ _ rfl rfl hrun ?_
            have bV5 : Below wr.heap.size wr V5 := bV3.grown gV5 bV3.size (ownBlock_le oV3)
            refine hK.out _ _ ⟨(bV5.cell (p := ⟨w.heap.size, 0, none⟩) hbw).trans x0, (bV5.cell (p := ⟨w.heap.size, 1, none⟩) hbw).trans x1⟩ (fun hHeld => ?_)
            clear hK K hrun
            simp only [Act.put, List.setIfInBounds_toArray, List.set_cons_zero, List.set_cons_succ]
            obtain ⟨A6, c6, e6, hF6⟩ := finds_rows hlc (fun p hp => ((hbr.trans (bV5.mono hbr.size)).cell (p := p) hp).trans ((hbr.trans (bV1.mono hbr.size)).cell (p := p) hp).symm) oV5 ⟨AD, cD, rfl, (HD.out.below hbr).below (bV5.mono hbr.size), hDc, hDm, hDn⟩ (Nat.le_trans hbr.size bV5.size)
            subst e6
            refine wpAnyH_ready (rs := [8]) (by kernel_rfl) (by simp) ?_
            refine AllReadyH.cons (by simp; rfl) (fun K hK => ?_) AllReadyH.nil
            go_simp
            refine (find_n (fs ++ [(t, d)]) (fs.length + 1) (by simp) t A6 c6 V5 hF6 (by simp; unfold maxLen; omega) (fAt_short HFIT.out hdl)).mono ?_
            rintro e w6 ⟨x6, rfl, hx6, hb6⟩
            have b6 : Below wr.heap.size wr w6 := bV5.trans (hb6.mono bV5.size)
            refine hK.out _ _ ⟨(b6.cell (p := ⟨w.heap.size, 0, none⟩) hbw).trans x0, (b6.cell (p := ⟨w.heap.size, 1, none⟩) hbw).trans x1⟩ (fun hHeld => ?_)
            have hx6' := own_mono hx6 bV5.size
            clear hK K hx6
            refine wpAnyH_take (i := 9) (v := ?_) (by simp; rfl) (by kernel_rfl) (by kernel_rfl) (by kernel_rfl) (by exact fun _ _ _ h => h) (Or.inl ⟨by rfl, fun wx hSx => ?_⟩) hHeld ?_
            rotate_left
            · obtain ⟨hS1, hS2⟩ := hSx; go_simp; (try with_reducible rfl)
            simp only [Act.put, List.setIfInBounds_toArray, List.set_cons_zero, List.set_cons_succ]
            refine wpAnyH_take (i := 10) (v := ?_) (by simp; rfl) (by kernel_rfl) (by kernel_rfl) (by kernel_rfl) (by exact fun _ _ _ h => h) (Or.inl ⟨by rfl, fun wx hSx => ?_⟩) hHeld ?_
            rotate_left
            · obtain ⟨hS1, hS2⟩ := hSx; go_simp; (try with_reducible rfl)
            simp only [Act.put, List.setIfInBounds_toArray, List.set_cons_zero, List.set_cons_succ]
            refine wpAnyH_take (i := 11) (v := ?_) (by simp; rfl) (by kernel_rfl) (by kernel_rfl) (by kernel_rfl) (by exact fun _ _ _ h => h) (Or.inl ⟨by rfl, fun wx hSx => ?_⟩) hHeld ?_
            rotate_left
            · obtain ⟨hS1, hS2⟩ := hSx; go_simp; (try with_reducible rfl)
            simp only [Act.put, List.setIfInBounds_toArray, List.set_cons_zero, List.set_cons_succ]
            refine wpAnyH_take (i := 12) (v := ?_) (by simp; rfl) (by kernel_rfl) (by kernel_rfl) (by kernel_rfl) (by exact fun _ _ _ h => h) (Or.inl ⟨by rfl, fun wx hSx => ?_⟩) hHeld ?_
            rotate_left
            · obtain ⟨hS1, hS2⟩ := hSx; go_simp; (try with_reducible rfl)
            simp only [Act.put, List.setIfInBounds_toArray, List.set_cons_zero, List.set_cons_succ]
            refine wpAnyH_take (i := 13) (v := ?_) (by simp; rfl) (by kernel_rfl) (by kernel_rfl) (by kernel_rfl) (by exact fun _ _ _ h => h) (Or.inl ⟨by rfl, fun wx hSx => ?_⟩) hHeld ?_
            rotate_left
            · obtain ⟨hS1, hS2⟩ := hSx; go_simp; (try with_reducible rfl)
            simp only [Act.put, List.setIfInBounds_toArray, List.set_cons_zero, List.set_cons_succ]
            refine wpAnyH_done (by kernel_rfl) ?_ _
            go_wp2_with fail
            go_meet
            exact ⟨rfl, hx6', b6⟩
          · go_simp
            have bV3 : Below wr.heap.size wr (V1.alloc (boxF t AD d.length cD)) := bV1.alloc bV1.size _
            have pV3 : (V1.alloc (boxF t AD d.length cD)).cell? ⟨V1.heap.size, 0, none⟩ = some (.int .u8 t) := by simp
            have qV3 : (V1.alloc (boxF t AD d.length cD)).cell? ⟨V1.heap.size, 1, none⟩ = some (.slice AD d.length cD) := by simp
            have zV3 : (V1.alloc (boxF t AD d.length cD)).heap.size = V1.heap.size + 1 := by simp
            obtain ⟨V3, hV3⟩ : ∃ V3, V1.alloc (boxF t AD d.length cD) = V3 := ⟨_, rfl⟩
            rw [hV3] at bV3 pV3 qV3 zV3 ⊢
            refine hK.out _ _ ⟨(bV3.cell (p := ⟨w.heap.size, 0, none⟩) hbw).trans x0, (bV3.cell (p := ⟨w.heap.size, 1, none⟩) hbw).trans x1⟩ (fun hHeld => ?_)
            have ZV3 := Lib.hid zV3
            have HhV3 := Lib.hid hV3
            clear hK K zV3 hV3
            refine wpAnyH_ready (rs := [2]) (by kernel_rfl) (by simp) ?_
            refine AllReadyH.cons (by simp; rfl) (fun K hK => ?_) AllReadyH.nil
            have b13 : Below V1.heap.size V1 V3 := by rw [← HhV3.out]; exact (Below.refl _ _).alloc (Nat.le_refl _) _
            have oV3 := own_below oV1 b13
            obtain ⟨vV2, V2, lc, hrun, hlc, oV2, gV2, atV2⟩ := app_fields cF ((HF.out.below hbr).below (bV3.mono hbr.size)) hfn HFIT.out.1 oV3 bV3.size
            refine step_app rfl (.tmp 61) (.tmp 62) _ rfl _ _ rfl rfl hrun ?_
            have bV2 : Below wr.heap.size wr V2 := bV3.grown gV2 bV3.size (fun k hk => by injection hk with hk; subst hk; exact bV.size)
            refine hK.out _ _ ⟨(bV2.cell (p := ⟨w.heap.size, 0, none⟩) hbw).trans x0, (bV2.cell (p := ⟨w.heap.size, 1, none⟩) hbw).trans x1⟩ (fun hHeld => ?_)
            clear hK K hrun
            simp only [Act.put, List.setIfInBounds_toArray, List.set_cons_zero, List.set_cons_succ]
            refine wpAnyH_ready (rs := [5]) (by kernel_rfl) (by simp) ?_
            refine AllReadyH.cons (by simp; rfl) (fun K hK => ?_) AllReadyH.nil
            have hne : V1.heap.size ≠ V.heap.size := by have := ZV1.out; omega
            have pV2 := gV2.cell pV3 (fun e => hne (Option.some.inj e))
            have qV2 := gV2.cell qV3 (fun e => hne (Option.some.inj e))
            obtain ⟨vV5, V5, hrun, oV5, gV5⟩ := app_one oV2 pV2 qV2 HFIT.out.1 bV2.size
            refine step_app rfl (.tmp 63) (.tmp 65) _ rfl _ _ rfl rfl hrun ?_
            have bV5 : Below wr.heap.size wr V5 := bV2.grown gV5 bV2.size (ownBlock_le oV2)
            refine hK.out _ _ ⟨(bV5.cell (p := ⟨w.heap.size, 0, none⟩) hbw).trans x0, (bV5.cell (p := ⟨w.heap.size, 1, none⟩) hbw).trans x1⟩ (fun hHeld => ?_)
            clear hK K hrun
            simp only [Act.put, List.setIfInBounds_toArray, List.set_cons_zero, List.set_cons_succ]
            obtain ⟨A6, c6, e6, hF6⟩ := finds_rows hlc (fun p hp => ((hbr.trans (bV5.mono hbr.size)).cell (p := p) hp).trans ((hbr.trans (bV3.mono hbr.size)).cell (p := p) hp).symm) oV5 ⟨AD, cD, rfl, (HD.out.below hbr).below (bV5.mono hbr.size), hDc, hDm, hDn⟩ (Nat.le_trans hbr.size bV5.size)
            subst e6
            refine wpAnyH_ready (rs := [8]) (by kernel_rfl) (by simp) ?_
            refine AllReadyH.cons (by simp; rfl) (fun K hK => ?_) AllReadyH.nil
            go_simp
            refine (find_n (fs ++ [(t, d)]) (fs.length + 1) (by simp) t A6 c6 V5 hF6 (by simp; unfold maxLen; omega) (fAt_short HFIT.out hdl)).mono ?_
            rintro e w6 ⟨x6, rfl, hx6, hb6⟩
            have b6 : Below wr.heap.size wr w6 := bV5.trans (hb6.mono bV5.size)
            refine hK.out _ _ ⟨(b6.cell (p := ⟨w.heap.size, 0, none⟩) hbw).trans x0, (b6.cell (p := ⟨w.heap.size, 1, none⟩) hbw).trans x1⟩ (fun hHeld => ?_)
            have hx6' := own_mono hx6 bV5.size
            clear hK K hx6
            refine wpAnyH_take (i := 9) (v := ?_) (by simp; rfl) (by kernel_rfl) (by kernel_rfl) (by kernel_rfl) (by exact fun _ _ _ h => h) (Or.inl ⟨by rfl, fun wx hSx => ?_⟩) hHeld ?_
            rotate_left
            · obtain ⟨hS1, hS2⟩ := hSx; go_simp; (try with_reducible rfl)
            simp only [Act.put, List.setIfInBounds_toArray, List.set_cons_zero, List.set_cons_succ]
            refine wpAnyH_take (i := 10) (v := ?_) (by simp; rfl) (by kernel_rfl) (by kernel_rfl) (by kernel_rfl) (by exact fun _ _ _ h => h) (Or.inl ⟨by rfl, fun wx hSx => ?_⟩) hHeld ?_
            rotate_left
            · obtain ⟨hS1, hS2⟩ := hSx; go_simp; (try with_reducible rfl)
            simp only [Act.put, List.setIfInBounds_toArray, List.set_cons_zero, List.set_cons_succ]
            refine wpAnyH_take (i := 11) (v := ?_) (by simp; rfl) (by kernel_rfl) (by kernel_rfl) (by kernel_rfl) (by exact fun _ _ _ h => h) (Or.inl ⟨by rfl, fun wx hSx => ?_⟩) hHeld ?_
            rotate_left
            · obtain ⟨hS1, hS2⟩ := hSx; go_simp; (try with_reducible rfl)
            simp only [Act.put, List.setIfInBounds_toArray, List.set_cons_zero, List.set_cons_succ]
            refine wpAnyH_take (i := 12) (v := ?_) (by simp; rfl) (by kernel_rfl) (by kernel_rfl) (by kernel_rfl) (by exact fun _ _ _ h => h) (Or.inl ⟨by rfl, fun wx hSx => ?_⟩) hHeld ?_
            rotate_left
            · obtain ⟨hS1, hS2⟩ := hSx; go_simp; (try with_reducible rfl)
            simp only [Act.put, List.setIfInBounds_toArray, List.set_cons_zero, List.set_cons_succ]
            refine wpAnyH_take (i := 13) (v := ?_) (by simp; rfl) (by kernel_rfl) (by kernel_rfl) (by kernel_rfl) (by exact fun _ _ _ h => h) (Or.inl ⟨by rfl, fun wx hSx => ?_⟩) hHeld ?_
            rotate_left
            · obtain ⟨hS1, hS2⟩ := hSx; go_simp; (try with_reducible rfl)
            simp only [Act.put, List.setIfInBounds_toArray, List.set_cons_zero, List.set_cons_succ]
            refine wpAnyH_done (by kernel_rfl) ?_ _
            go_wp2_with fail
            go_meet
            exact ⟨rfl, hx6', b6⟩
        · go_simp
          have bV3 : Below wr.heap.size wr (V.alloc (boxF t AD d.length cD)) := bV.alloc bV.size _
          have pV3 : (V.alloc (boxF t AD d.length cD)).cell? ⟨V.heap.size, 0, none⟩ = some (.int .u8 t) := by simp
          have qV3 : (V.alloc (boxF t AD d.length cD)).cell? ⟨V.heap.size, 1, none⟩ = some (.slice AD d.length cD) := by simp
          have zV3 : (V.alloc (boxF t AD d.length cD)).heap.size = V.heap.size + 1 := by simp
          obtain ⟨V3, hV3⟩ : ∃ V3, V.alloc (boxF t AD d.length cD) = V3 := ⟨_, rfl⟩
          rw [hV3] at bV3 pV3 qV3 zV3 ⊢
          refine hK.out _ _ ⟨(bV3.cell (p := ⟨w.heap.size, 0, none⟩) hbw).trans x0, (bV3.cell (p := ⟨w.heap.size, 1, none⟩) hbw).trans x1⟩ (fun hHeld => ?_)
          have ZV3 := Lib.hid zV3
          have HhV3 := Lib.hid hV3
          clear hK K zV3 hV3
          refine wpAnyH_ready (rs := [0]) (by kernel_rfl) (by simp) ?_
          refine AllReadyH.cons (by simp; rfl) (fun K hK => ?_) AllReadyH.nil
          go_simp
          have bV1 : Below wr.heap.size wr (V3.alloc (.cells #[] 54)) := bV3.alloc bV3.size _
          have oV1 : (V3.alloc (.cells #[] 54)).ownsRow wr.heap.size 54 2 (.slice (some ⟨V3.heap.size, 0, none⟩) 0 0) 0 [] := World.ownsRow_made V3 #[] 0 bV3.size (by unfold maxLen; omega) rfl
          have zV1 : (V3.alloc (.cells #[] 54)).heap.size = V3.heap.size + 1 := by simp
          obtain ⟨V1, hV1⟩ : ∃ V1, V3.alloc (.cells #[] 54) = V1 := ⟨_, rfl⟩
          rw [hV1] at bV1 oV1 zV1 ⊢
          refine hK.out _ _ ⟨(bV1.cell (p := ⟨w.heap.size, 0, none⟩) hbw).trans x0, (bV1.cell (p := ⟨w.heap.size, 1, none⟩) hbw).trans x1⟩ (fun hHeld => ?_)
          have ZV1 := Lib.hid zV1
          have HhV1 := Lib.hid hV1
          clear hK K zV1 hV1
          refine wpAnyH_ready (rs := [2]) (by kernel_rfl) (by simp) ?_
          refine AllReadyH.cons (by simp; rfl) (fun K hK => ?_) AllReadyH.nil
          have b31 : Below V3.heap.size V3 V1 := by rw [← HhV1.out]; exact (Below.refl _ _).alloc (Nat.le_refl _) _
          have hlt3 : V.heap.size < V3.heap.size := by have := ZV3.out; omega
          have pV1 := (b31.cell (p := ⟨V.heap.size, 0, none⟩) hlt3).trans pV3
          have qV1 := (b31.cell (p := ⟨V.heap.size, 1, none⟩) hlt3).trans qV3
          obtain ⟨vV2, V2, lc, hrun, hlc, oV2, gV2, atV2⟩ := app_fields cF ((HF.out.below hbr).below (bV1.mono hbr.size)) hfn HFIT.out.1 oV1 bV1.size
          refine step_app rfl (.tmp 61) (.tmp 62) _ rfl _ _ rfl rfl hrun ?_
          have bV2 : Below wr.heap.size wr V2 := bV1.grown gV2 bV1.size (fun k hk => by injection hk with hk; subst hk; exact bV3.size)
          refine hK.out _ _ ⟨(bV2.cell (p := ⟨w.heap.size, 0, none⟩) hbw).trans x0, (bV2.cell (p := ⟨w.heap.size, 1, none⟩) hbw).trans x1⟩ (fun hHeld => ?_)
          clear hK K hrun
          simp only [Act.put, List.setIfInBounds_toArray, List.set_cons_zero, List.set_cons_succ]
          refine wpAnyH_ready (rs := [5]) (by kernel_rfl) (by simp) ?_
          refine AllReadyH.cons (by simp; rfl) (fun K hK => ?_) AllReadyH.nil
          have pV2 := gV2.cell pV1 (fun e => (Nat.ne_of_lt hlt3) (Option.some.inj e))
          have qV2 := gV2.cell qV1 (fun e => (Nat.ne_of_lt hlt3) (Option.some.inj e))
          obtain ⟨vV5, V5, hrun, oV5, gV5⟩ := app_one oV2 pV2 qV2 HFIT.out.1 bV2.size
          refine step_app rfl (.tmp 63) (.tmp 65) _ rfl _ _ rfl rfl hrun ?_
          have bV5 : Below wr.heap.size wr V5 := bV2.grown gV5 bV2.size (ownBlock_le oV2)
          refine hK.out _ _ ⟨(bV5.cell (p := ⟨w.heap.size, 0, none⟩) hbw).trans x0, (bV5.cell (p := ⟨w.heap.size, 1, none⟩) hbw).trans x1⟩ (fun hHeld => ?_)
          clear hK K hrun
          simp only [Act.put, List.setIfInBounds_toArray, List.set_cons_zero, List.set_cons_succ]
          obtain ⟨A6, c6, e6, hF6⟩ := finds_rows hlc (fun p hp => ((hbr.trans (bV5.mono hbr.size)).cell (p := p) hp).trans ((hbr.trans (bV1.mono hbr.size)).cell (p := p) hp).symm) oV5 ⟨AD, cD, rfl, (HD.out.below hbr).below (bV5.mono hbr.size), hDc, hDm, hDn⟩ (Nat.le_trans hbr.size bV5.size)
          subst e6
          refine wpAnyH_ready (rs := [8]) (by kernel_rfl) (by simp) ?_
          refine AllReadyH.cons (by simp; rfl) (fun K hK => ?_) AllReadyH.nil
          go_simp
          refine (find_n (fs ++ [(t, d)]) (fs.length + 1) (by simp) t A6 c6 V5 hF6 (by simp; unfold maxLen; omega) (fAt_short HFIT.out hdl)).mono ?_
          rintro e w6 ⟨x6, rfl, hx6, hb6⟩
          have b6 : Below wr.heap.size wr w6 := bV5.trans (hb6.mono bV5.size)
          refine hK.out _ _ ⟨(b6.cell (p := ⟨w.heap.size, 0, none⟩) hbw).trans x0, (b6.cell (p := ⟨w.heap.size, 1, none⟩) hbw).trans x1⟩ (fun hHeld => ?_)
          have hx6' := own_mono hx6 bV5.size
          clear hK K hx6
          refine wpAnyH_take (i := 9) (v := ?_) (by simp; rfl) (by kernel_rfl) (by kernel_rfl) (by kernel_rfl) (by exact fun _ _ _ h => h) (Or.inl ⟨by rfl, fun wx hSx => ?_⟩) hHeld ?_
          rotate_left
          · obtain ⟨hS1, hS2⟩ := hSx; go_simp; (try with_reducible rfl)
          simp only [Act.put, List.setIfInBounds_toArray, List.set_cons_zero, List.set_cons_succ]
          refine wpAnyH_take (i := 10) (v := ?_) (by simp; rfl) (by kernel_rfl) (by kernel_rfl) (by kernel_rfl) (by exact fun _ _ _ h => h) (Or.inl ⟨by rfl, fun wx hSx => ?_⟩) hHeld ?_
          rotate_left
          · obtain ⟨hS1, hS2⟩ := hSx; go_simp; (try with_reducible rfl)
          simp only [Act.put, List.setIfInBounds_toArray, List.set_cons_zero, List.set_cons_succ]
          refine wpAnyH_take (i := 11) (v := ?_) (by simp; rfl) (by kernel_rfl) (by kernel_rfl) (by kernel_rfl) (by exact fun _ _ _ h => h) (Or.inl ⟨by rfl, fun wx hSx => ?_⟩) hHeld ?_
          rotate_left
          · obtain ⟨hS1, hS2⟩ := hSx; go_simp; (try with_reducible rfl)
          simp only [Act.put, List.setIfInBounds_toArray, List.set_cons_zero, List.set_cons_succ]
          refine wpAnyH_take (i := 12) (v := ?_) (by simp; rfl) (by kernel_rfl) (by kernel_rfl) (by kernel_rfl) (by exact fun _ _ _ h => h) (Or.inl ⟨by rfl, fun wx hSx => ?_⟩) hHeld ?_
          rotate_left
          · obtain ⟨hS1, hS2⟩ := hSx; go_simp; (try with_reducible rfl)
          simp only [Act.put, List.setIfInBounds_toArray, List.set_cons_zero, List.set_cons_succ]
          refine wpAnyH_take (i := 13) (v := ?_) (by simp; rfl) (by kernel_rfl) (by kernel_rfl) (by kernel_rfl) (by exact fun _ _ _ h => h) (Or.inl ⟨by rfl, fun wx hSx => ?_⟩) hHeld ?_
          rotate_left
          · obtain ⟨hS1, hS2⟩ := hSx; go_simp; (try with_reducible rfl)
          simp only [Act.put, List.setIfInBounds_toArray, List.set_cons_zero, List.set_cons_succ]
          refine wpAnyH_done (by kernel_rfl) ?_ _
          go_wp2_with fail
          go_meet
          exact ⟨rfl, hx6', b6⟩
      case rest =>
        obtain ⟨rfl, hx, hbcut⟩ := hcut
        obtain ⟨AX, cX, rfl, hRX, _⟩ := RB.of_own hx
        have hbwc : Below w.heap.size w wc := hbr.trans (hbcut.mono hbr.size)
        have y0 : wc.cell? ⟨w.heap.size, 0, none⟩ = some (.int .u8 t) := (hbcut.cell (p := ⟨w.heap.size, 0, none⟩) hbw).trans x0
        have y1 : wc.cell? ⟨w.heap.size, 1, none⟩ = some (.slice AD d.length cD) := (hbcut.cell (p := ⟨w.heap.size, 1, none⟩) hbw).trans x1
        have hbwc' : w.heap.size < wc.heap.size := Nat.lt_of_lt_of_le hbw hbcut.size
        clear hx x0 x1 hbel hlt hb0 hT0 bx0 bx1 hbx hk hbw
        go_wp2_with fail
        refine (find_any fs t AF cF wc ((HF.out.below hbwc).more hbwc.size) hfl (fun i hi => by have := HFIT.out.2 i hi; omega)).mono ?_
        rintro e wd ⟨y, rfl, hy, hbd⟩
        obtain ⟨AY, cY, rfl, hRY, _⟩ := RB.of_own hy
        have hbwd : Below w.heap.size w wd := hbwc.trans (hbd.mono hbwc.size)
        have z1 : wd.cell? ⟨w.heap.size, 1, none⟩ = some (.slice AD d.length cD) := (hbd.cell (p := ⟨w.heap.size, 1, none⟩) hbwc').trans y1
        have hRXd := hRX.below hbd
        have hRDd := HD.out.below hbwd
        clear hy y0 y1 hbcut hbd hRX hbwc
        obtain ⟨fi, hfi⟩ : ∃ fi, firstTo t fs fs.length = fi := ⟨_, rfl⟩
        have hap := find_append (t := t) (f := (t, d)) rfl fs
        have hff := find_first (t := t) (fs := fs)
        have hfa := find_at (t := t) (fs := fs)
        rw [hfi] at hfb hff hfa ⊢
        clear hfi
        have HTd := Lib.hid (hT.below hbwd hT.big)
        by_cases hneg : fi < 0
        · have e1 := hff hneg
          rw [e1, if_neg (by simp)] at hap
          have hX1 : (findS t (fs ++ [(t, d)])).1 = d := by rw [hap]
          have hX2 : (findS t (fs ++ [(t, d)])).2 = true := by rw [hap]
          have hY1 : (findS t fs).1 = [] := by rw [e1]
          have hY2 : (findS t fs).2 = false := by rw [e1]
          rw [hX1] at hRXd ⊢
          rw [hX2, hY2, hY1]
          clear hap hff hfa e1 hX1 hX2 hY1 hY2 hRY
          have dn : decide (fi < 0) = true := decide_eq_true hneg
          have dp : decide (0 ≤ fi) = false := by simp; omega
          have v1 := convN cX hRXd rfl
          have v2 := convN cD hRDd rfl
          have ss : (!((strOfNums d).toList == (strOfNums d).toList)) = false := by simp
          go_wp2
          go_quiet (fail)
          clear v1 v2 ss dn dp
          go_wp2_with fail
          refine (nums_any av AA cA _ ((HA.out.below (belowN hbwd _)).keep' (belowN hbwd _).size) hac ham (by omega) hBA (Tab.drewN HTd.out _)).mono ?_
          rintro e w1 ⟨p, rfl, hp, hb1⟩
          have hbw1 : Below w.heap.size w w1 := (belowN hbwd _).trans (hb1.mono (belowN hbwd _).size)
          have hT1 := hT.below hbw1 hT.big
          clear hbwd hb1 HTd
          go_wp2_with fail
          refine (nums_any bs AB cB w1 ((HB.out.below hbw1).keep' hbw1.size) hbc hbm (by omega) hBB hT1).mono ?_
          rintro e w2 ⟨q, rfl, hq, hb2⟩
          have hp2 := own_below hp hb2
          have hbw2 : Below w.heap.size w w2 := hbw1.trans (hb2.mono hbw1.size)
          clear hp hb2 hT1 hbw1
          obtain ⟨AP, cP, rfl, hP1, hP2, _⟩ := own_slice hp2
          obtain ⟨AQ, cQ, rfl, hQ1, hQ2, _⟩ := own_slice hq
          have oE : (w2.alloc (.cells #[] 5)).ownsRow w2.heap.size 5 1 (.slice (some ⟨w2.heap.size, 0, none⟩) 0 0) 0 (B8 []) := World.ownsRow_made w2 #[] 0 (Nat.le_refl _) (by unfold maxLen; omega) rfl
          obtain ⟨v3, w3, hrun3, o3, g3'⟩ := app_bytes cA ((HA.out.below hbw2).alloc hbw2.size (.cells #[] 5)) han oE (by omega) (by simp)
          have hb23 : Below w2.heap.size w2 w3 := ((Below.refl _ _).alloc (Nat.le_refl _) _).grown g3' (by simp) (fun _ hx => new_le (Nat.le_refl _) hx)
          have hbw3 : Below w.heap.size w w3 := hbw2.trans (hb23.mono hbw2.size)
          obtain ⟨v4, w4, hrun4, o4, g4'⟩ := app_bytes cB (HB.out.below hbw3) hbn o3 (by omega) hb23.size
          have hb24 : Below w2.heap.size w2 w4 := hb23.grown g4' hb23.size (ownBlock_le o3)
          have o4' : w4.ownsRow w2.heap.size 5 1 v4 (av ++ bs).length (B8 (av ++ bs)) := own_cast o4 (by simp) (by simp)
          obtain ⟨A4, c4, rfl, hR4, h41, h42, _⟩ := RB.of_own o4'
          have hbw4 : Below w.heap.size w w4 := hbw2.trans (hb24.mono hbw2.size)
          have hp4 := own_below hp2 hb24
          have hq4 := own_below hq hb24
          have hT4 := hT.below hbw4 hT.big
          have HR3 := Lib.hid hrun3
          have HR4 := Lib.hid hrun4
          clear hrun3 hrun4 hp2 hq oE o3 g3' hb23 hbw3 o4 g4' hb24 o4' hbw2
          go_wp2_with (first | (at_builtin; refine wpList_app rfl (.tmp 137) (.tmp 138) _ rfl _ _ rfl rfl HR3.out ?_) | (at_builtin; refine wpList_app rfl (.tmp 139) (.tmp 140) _ rfl _ _ rfl rfl HR4.out ?_))
          refine (nums_n (av ++ bs) (av.length + bs.length) (by simp) A4 c4 w4 hR4 h41 h42 (by simp; omega) (bytes_append hBA hBB) hT4).mono ?_
          rintro e w5 ⟨al, rfl, ho5, hb5⟩
          have hbw5 : Below w.heap.size w w5 := hbw4.trans (hb5.mono hbw4.size)
          have hp5 := own_below hp4 hb5
          have hq5 := own_below hq4 hb5
          clear hp4 hq4 hb5 hbw4 hR4 hT4 HR3 HR4
          obtain ⟨AZ, cZ, rfl, _⟩ := own_slice ho5
          obtain ⟨pr, hpr⟩ : ∃ pr, numsS av = pr := ⟨_, rfl⟩
          obtain ⟨qr, hqr⟩ : ∃ qr, numsS bs = qr := ⟨_, rfl⟩
          obtain ⟨ar, har⟩ : ∃ ar, numsS (av ++ bs) = ar := ⟨_, rfl⟩
          obtain ⟨ps, eP⟩ := pr
          obtain ⟨qs, eQ⟩ := qr
          obtain ⟨zs, eZ⟩ := ar
          have HALL : Hid (eP = 0 → eQ = 0 → zs = ps ++ qs ∧ eZ = 0 ∧ ps.length ≤ av.length ∧ qs.length ≤ bs.length) := fun h1 h2 => by
            subst h1
            subst h2
            have := nums_append hBA hBB hpr hqr
            rw [har] at this
            injection this with e1 e2
            exact ⟨e1, e2, nums_short hBA hpr, nums_short hBB hqr⟩
          rw [hpr] at hp5 ⊢
          rw [hqr] at hq5 ⊢
          rw [har] at ho5 ⊢
          clear hpr hqr har hP1 hP2 hQ1 hQ2
          have hp6 : w5.ownsRow _ 22 1 (.slice AP ps.length cP) ps.length (ps.map (Value.int .u64)) := hp5
          have hq6 : w5.ownsRow _ 22 1 (.slice AQ qs.length cQ) qs.length (qs.map (Value.int .u64)) := hq5
          have ho6 : w5.ownsRow _ 22 1 (.slice AZ zs.length cZ) zs.length (zs.map (Value.int .u64)) := ho5
          clear hp5 hq5 ho5
          by_cases heP : eP = 0
          · subst heP
            by_cases heQ : eQ = 0
            · subst heQ
              obtain ⟨hz, rfl, hpl, hql⟩ := HALL.out rfl rfl
              have hzl : zs.length = ps.length + qs.length := by rw [hz]; simp
              have hzl2 : zs.length ≤ 4000 := by omega
              have dl : ((zs.length : Int) != (ps.length : Int) + (qs.length : Int)) = false := by simp; omega
              have HZ := Lib.hid hz
              have HZL := Lib.hid hzl
              clear hz hzl HALL
              go_wp2
              go_loopw [21] (fun i wl => ∃ k : Nat, k ≤ zs.length ∧ i = .int .i64 k ∧ Below w5.heap.size w5 wl) (fun i _ => zs.length - (intOf i).toNat)
              case atStart => exact ⟨0, by omega, rfl, Below.refl _ _⟩
              case round =>
                clear dl
                obtain ⟨k, hk, rfl, hbk⟩ := hrel
                by_cases hlt : k < zs.length
                · have k0 : (0 : Int) ≤ (k : Int) := by omega
                  have k1 : (k : Int) < (zs.length : Int) := by omega
                  obtain ⟨g, rfl, hg, hcg⟩ := nums_cell ho6 hlt
                  have c1 : wr.cell? ⟨g, k, none⟩ = some (.int .u64 (zs.getD k 0)) := (hbk.cell (p := ⟨g, k, none⟩) hg).trans hcg
                  obtain ⟨z, hz⟩ : ∃ z, zs.getD k 0 = z := ⟨_, rfl⟩
                  have zz : (z != z) = false := by simp
                  by_cases hkp : k < ps.length
                  · have k2 : (k : Int) < (ps.length : Int) := by omega
                    obtain ⟨g', rfl, hg', hcg'⟩ := nums_cell hp6 hkp
                    have c2 : wr.cell? ⟨g', k, none⟩ = some (.int .u64 (ps.getD k 0)) := (hbk.cell (p := ⟨g', k, none⟩) hg').trans hcg'
                    rw [← getD_left (q := qs) hkp, ← HZ.out, hz] at c2
                    rw [hz] at c1
                    have dk : decide (k < ps.length) = true := decide_eq_true hkp
                    have dk2 : decide (ps.length ≤ k) = false := by simp; omega
                    clear hz hcg hcg'
                    go_wp2
                    go_quiet (fail)
                    go_wp2
                    go_roundw
                    case rel => exact ⟨k + 1, by omega, by go_num, belowN hbk _⟩
                    case measure => simp [intOf]; omega
                  · have hqk : k - ps.length < qs.length := by have := HZL.out; omega
                    obtain ⟨g', rfl, hg', hcg'⟩ := nums_cell hq6 hqk
                    have c2 : wr.cell? ⟨g', k - ps.length, none⟩ = some (.int .u64 (qs.getD (k - ps.length) 0)) := (hbk.cell (p := ⟨g', k - ps.length, none⟩) hg').trans hcg'
                    rw [← getD_right (p := ps) (by omega), ← HZ.out, hz] at c2
                    rw [hz] at c1
                    have dk : decide (k < ps.length) = false := by simp; omega
                    have dk2 : decide (ps.length ≤ k) = true := by simp; omega
                    have q1 : IntKind.i64.wrap ((k : Int) - (ps.length : Int)) = (k : Int) - (ps.length : Int) := IntWalk.i64_in _ (by omega)
                    have q2 : (0 : Int) ≤ (k : Int) - (ps.length : Int) := by omega
                    have q3 : (k : Int) - (ps.length : Int) < (qs.length : Int) := by omega
                    have q4 : ((k : Int) - (ps.length : Int)).toNat = k - ps.length := by omega
                    clear hz hcg hcg'
                    go_wp2
                    go_quiet (fail)
                    clear q1 q4
                    go_wp2
                    go_roundw
                    case rel => exact ⟨k + 1, by omega, by go_num, belowN hbk _⟩
                    case measure => simp [intOf]; omega
                · have hbk5 : Below w.heap.size w wr := hbw5.trans (hbk.mono hbw5.size)
                  have hT5 := hT.below hbk5 hT.big
                  go_wp2_with fail
                  refine (alive_any _ hT5).mono ?_
                  rintro e w6 ⟨rfl, hb6⟩
                  have hfin : Below w.heap.size w w6 := hbk5.trans (hb6.mono hbk5.size)
                  go_wp2
                  go_ret
                  exact ⟨rfl, hfin⟩
            · have bQ : (eQ != 0) = true := by simpa using heQ
              clear heQ HALL
              have hT5 := hT.below hbw5 hT.big
              go_wp2_with fail
              refine (alive_any _ hT5).mono ?_
              rintro e w6 ⟨rfl, hb6⟩
              have hfin : Below w.heap.size w w6 := hbw5.trans (hb6.mono hbw5.size)
              go_wp2
              go_ret
              exact ⟨rfl, hfin⟩
          · have bP : (eP != 0) = true := by simpa using heP
            clear heP HALL
            have hT5 := hT.below hbw5 hT.big
            go_wp2_with fail
            refine (alive_any _ hT5).mono ?_
            rintro e w6 ⟨rfl, hb6⟩
            have hfin : Below w.heap.size w w6 := hbw5.trans (hb6.mono hbw5.size)
            go_wp2
            go_ret
            exact ⟨rfl, hfin⟩
        · have hpos : 0 ≤ fi := by omega
          have e1 := hfa hpos
          rw [e1, if_pos rfl] at hap
          obtain ⟨m, rfl⟩ : ∃ m : Nat, fi = (m : Int) := ⟨fi.toNat, by omega⟩
          rw [Int.toNat_natCast] at hap e1
          have hmlt : m < fs.length := by omega
          obtain ⟨b, off, hAF, hbF, hcF⟩ := (HF.out.below hbwd) (by omega)
          subst hAF
          obtain ⟨_, AE, cE, hcE, hRE, _⟩ := hcF m hmlt
          obtain ⟨D, hD⟩ : ∃ D, (fAt fs m).2 = D := ⟨_, rfl⟩
          rw [hD] at hap e1 hcE hRE
          have hX1 : (findS t (fs ++ [(t, d)])).1 = D := by rw [hap]
          have hX2 : (findS t (fs ++ [(t, d)])).2 = true := by rw [hap]
          have hY1 : (findS t fs).1 = D := by rw [e1]
          have hY2 : (findS t fs).2 = true := by rw [e1]
          rw [hX1] at hRXd ⊢
          rw [hY1] at hRY ⊢
          rw [hX2, hY2]
          clear hap hff hfa e1 hX1 hX2 hY1 hY2 hD hcF hpos
          have dn : decide ((m : Int) < 0) = false := by simp
          have dp : decide (0 ≤ (m : Int)) = true := by simp
          have v1 := convN cX hRXd rfl
          have v2 := convN cY hRY rfl
          have v3 := convN cE hRE rfl
          have ss : (!((strOfNums D).toList == (strOfNums D).toList)) = false := by simp
          have g3 : (0 : Int) ≤ (m : Int) := by omega
          have g4 : (m : Int) < (fs.length : Int) := by omega
          go_wp2
          go_quiet (fail)
          clear v1 v2 v3 ss dn dp
          go_wp2_with fail
          refine (nums_any av AA cA _ ((HA.out.below (belowN hbwd _)).keep' (belowN hbwd _).size) hac ham (by omega) hBA (Tab.drewN HTd.out _)).mono ?_
          rintro e w1 ⟨p, rfl, hp, hb1⟩
          have hbw1 : Below w.heap.size w w1 := (belowN hbwd _).trans (hb1.mono (belowN hbwd _).size)
          have hT1 := hT.below hbw1 hT.big
          clear hbwd hb1 HTd
          go_wp2_with fail
          refine (nums_any bs AB cB w1 ((HB.out.below hbw1).keep' hbw1.size) hbc hbm (by omega) hBB hT1).mono ?_
          rintro e w2 ⟨q, rfl, hq, hb2⟩
          have hp2 := own_below hp hb2
          have hbw2 : Below w.heap.size w w2 := hbw1.trans (hb2.mono hbw1.size)
          clear hp hb2 hT1 hbw1
          obtain ⟨AP, cP, rfl, hP1, hP2, _⟩ := own_slice hp2
          obtain ⟨AQ, cQ, rfl, hQ1, hQ2, _⟩ := own_slice hq
          have oE : (w2.alloc (.cells #[] 5)).ownsRow w2.heap.size 5 1 (.slice (some ⟨w2.heap.size, 0, none⟩) 0 0) 0 (B8 []) := World.ownsRow_made w2 #[] 0 (Nat.le_refl _) (by unfold maxLen; omega) rfl
          obtain ⟨v3, w3, hrun3, o3, g3'⟩ := app_bytes cA ((HA.out.below hbw2).alloc hbw2.size (.cells #[] 5)) han oE (by omega) (by simp)
          have hb23 : Below w2.heap.size w2 w3 := ((Below.refl _ _).alloc (Nat.le_refl _) _).grown g3' (by simp) (fun _ hx => new_le (Nat.le_refl _) hx)
          have hbw3 : Below w.heap.size w w3 := hbw2.trans (hb23.mono hbw2.size)
          obtain ⟨v4, w4, hrun4, o4, g4'⟩ := app_bytes cB (HB.out.below hbw3) hbn o3 (by omega) hb23.size
          have hb24 : Below w2.heap.size w2 w4 := hb23.grown g4' hb23.size (ownBlock_le o3)
          have o4' : w4.ownsRow w2.heap.size 5 1 v4 (av ++ bs).length (B8 (av ++ bs)) := own_cast o4 (by simp) (by simp)
          obtain ⟨A4, c4, rfl, hR4, h41, h42, _⟩ := RB.of_own o4'
          have hbw4 : Below w.heap.size w w4 := hbw2.trans (hb24.mono hbw2.size)
          have hp4 := own_below hp2 hb24
          have hq4 := own_below hq hb24
          have hT4 := hT.below hbw4 hT.big
          have HR3 := Lib.hid hrun3
          have HR4 := Lib.hid hrun4
          clear hrun3 hrun4 hp2 hq oE o3 g3' hb23 hbw3 o4 g4' hb24 o4' hbw2
          go_wp2_with (first | (at_builtin; refine wpList_app rfl (.tmp 137) (.tmp 138) _ rfl _ _ rfl rfl HR3.out ?_) | (at_builtin; refine wpList_app rfl (.tmp 139) (.tmp 140) _ rfl _ _ rfl rfl HR4.out ?_))
          refine (nums_n (av ++ bs) (av.length + bs.length) (by simp) A4 c4 w4 hR4 h41 h42 (by simp; omega) (bytes_append hBA hBB) hT4).mono ?_
          rintro e w5 ⟨al, rfl, ho5, hb5⟩
          have hbw5 : Below w.heap.size w w5 := hbw4.trans (hb5.mono hbw4.size)
          have hp5 := own_below hp4 hb5
          have hq5 := own_below hq4 hb5
          clear hp4 hq4 hb5 hbw4 hR4 hT4 HR3 HR4
          obtain ⟨AZ, cZ, rfl, _⟩ := own_slice ho5
          obtain ⟨pr, hpr⟩ : ∃ pr, numsS av = pr := ⟨_, rfl⟩
          obtain ⟨qr, hqr⟩ : ∃ qr, numsS bs = qr := ⟨_, rfl⟩
          obtain ⟨ar, har⟩ : ∃ ar, numsS (av ++ bs) = ar := ⟨_, rfl⟩
          obtain ⟨ps, eP⟩ := pr
          obtain ⟨qs, eQ⟩ := qr
          obtain ⟨zs, eZ⟩ := ar
          have HALL : Hid (eP = 0 → eQ = 0 → zs = ps ++ qs ∧ eZ = 0 ∧ ps.length ≤ av.length ∧ qs.length ≤ bs.length) := fun h1 h2 => by
            subst h1
            subst h2
            have := nums_append hBA hBB hpr hqr
            rw [har] at this
            injection this with e1 e2
            exact ⟨e1, e2, nums_short hBA hpr, nums_short hBB hqr⟩
          rw [hpr] at hp5 ⊢
          rw [hqr] at hq5 ⊢
          rw [har] at ho5 ⊢
          clear hpr hqr har hP1 hP2 hQ1 hQ2
          have hp6 : w5.ownsRow _ 22 1 (.slice AP ps.length cP) ps.length (ps.map (Value.int .u64)) := hp5
          have hq6 : w5.ownsRow _ 22 1 (.slice AQ qs.length cQ) qs.length (qs.map (Value.int .u64)) := hq5
          have ho6 : w5.ownsRow _ 22 1 (.slice AZ zs.length cZ) zs.length (zs.map (Value.int .u64)) := ho5
          clear hp5 hq5 ho5
          by_cases heP : eP = 0
          · subst heP
            by_cases heQ : eQ = 0
            · subst heQ
              obtain ⟨hz, rfl, hpl, hql⟩ := HALL.out rfl rfl
              have hzl : zs.length = ps.length + qs.length := by rw [hz]; simp
              have hzl2 : zs.length ≤ 4000 := by omega
              have dl : ((zs.length : Int) != (ps.length : Int) + (qs.length : Int)) = false := by simp; omega
              have HZ := Lib.hid hz
              have HZL := Lib.hid hzl
              clear hz hzl HALL
              go_wp2
              go_loopw [21] (fun i wl => ∃ k : Nat, k ≤ zs.length ∧ i = .int .i64 k ∧ Below w5.heap.size w5 wl) (fun i _ => zs.length - (intOf i).toNat)
              case atStart => exact ⟨0, by omega, rfl, Below.refl _ _⟩
              case round =>
                clear dl
                obtain ⟨k, hk, rfl, hbk⟩ := hrel
                by_cases hlt : k < zs.length
                · have k0 : (0 : Int) ≤ (k : Int) := by omega
                  have k1 : (k : Int) < (zs.length : Int) := by omega
                  obtain ⟨g, rfl, hg, hcg⟩ := nums_cell ho6 hlt
                  have c1 : wr.cell? ⟨g, k, none⟩ = some (.int .u64 (zs.getD k 0)) := (hbk.cell (p := ⟨g, k, none⟩) hg).trans hcg
                  obtain ⟨z, hz⟩ : ∃ z, zs.getD k 0 = z := ⟨_, rfl⟩
                  have zz : (z != z) = false := by simp
                  by_cases hkp : k < ps.length
                  · have k2 : (k : Int) < (ps.length : Int) := by omega
                    obtain ⟨g', rfl, hg', hcg'⟩ := nums_cell hp6 hkp
                    have c2 : wr.cell? ⟨g', k, none⟩ = some (.int .u64 (ps.getD k 0)) := (hbk.cell (p := ⟨g', k, none⟩) hg').trans hcg'
                    rw [← getD_left (q := qs) hkp, ← HZ.out, hz] at c2
                    rw [hz] at c1
                    have dk : decide (k < ps.length) = true := decide_eq_true hkp
                    have dk2 : decide (ps.length ≤ k) = false := by simp; omega
                    clear hz hcg hcg'
                    go_wp2
                    go_quiet (fail)
                    go_wp2
                    go_roundw
                    case rel => exact ⟨k + 1, by omega, by go_num, belowN hbk _⟩
                    case measure => simp [intOf]; omega
                  · have hqk : k - ps.length < qs.length := by have := HZL.out; omega
                    obtain ⟨g', rfl, hg', hcg'⟩ := nums_cell hq6 hqk
                    have c2 : wr.cell? ⟨g', k - ps.length, none⟩ = some (.int .u64 (qs.getD (k - ps.length) 0)) := (hbk.cell (p := ⟨g', k - ps.length, none⟩) hg').trans hcg'
                    rw [← getD_right (p := ps) (by omega), ← HZ.out, hz] at c2
                    rw [hz] at c1
                    have dk : decide (k < ps.length) = false := by simp; omega
                    have dk2 : decide (ps.length ≤ k) = true := by simp; omega
                    have q1 : IntKind.i64.wrap ((k : Int) - (ps.length : Int)) = (k : Int) - (ps.length : Int) := IntWalk.i64_in _ (by omega)
                    have q2 : (0 : Int) ≤ (k : Int) - (ps.length : Int) := by omega
                    have q3 : (k : Int) - (ps.length : Int) < (qs.length : Int) := by omega
                    have q4 : ((k : Int) - (ps.length : Int)).toNat = k - ps.length := by omega
                    clear hz hcg hcg'
                    go_wp2
                    go_quiet (fail)
                    clear q1 q4
                    go_wp2
                    go_roundw
                    case rel => exact ⟨k + 1, by omega, by go_num, belowN hbk _⟩
                    case measure => simp [intOf]; omega
                · have hbk5 : Below w.heap.size w wr := hbw5.trans (hbk.mono hbw5.size)
                  have hT5 := hT.below hbk5 hT.big
                  go_wp2_with fail
                  refine (alive_any _ hT5).mono ?_
                  rintro e w6 ⟨rfl, hb6⟩
                  have hfin : Below w.heap.size w w6 := hbk5.trans (hb6.mono hbk5.size)
                  go_wp2
                  go_ret
                  exact ⟨rfl, hfin⟩
            · have bQ : (eQ != 0) = true := by simpa using heQ
              clear heQ HALL
              have hT5 := hT.below hbw5 hT.big
              go_wp2_with fail
              refine (alive_any _ hT5).mono ?_
              rintro e w6 ⟨rfl, hb6⟩
              have hfin : Below w.heap.size w w6 := hbw5.trans (hb6.mono hbw5.size)
              go_wp2
              go_ret
              exact ⟨rfl, hfin⟩
          · have bP : (eP != 0) = true := by simpa using heP
            clear heP HALL
            have hT5 := hT.below hbw5 hT.big
            go_wp2_with fail
            refine (alive_any _ hT5).mono ?_
            rintro e w6 ⟨rfl, hb6⟩
            have hfin : Below w.heap.size w w6 := hbw5.trans (hb6.mono hbw5.size)
            go_wp2
            go_ret
            exact ⟨rfl, hfin⟩
end Go.Proofs.YtdhnhpcmfbiieaaDoor
