/-
  Proved here: Costs of a sender that New made, whatever is known.
-/
import Derived.Test.YtdlhpmbgpjjkoaaDoorFre
set_option linter.unusedSimpArgs false
set_option linter.unusedVariables false
namespace Go.Proofs.YtdlhpmbgpjjkoaaDoor
open Go.RowKit
section
variable {w : World} {g : Nat} {id : Nat} {nm : ByteArray} {sum : List Nat} {bs : List Int} {N b p : Nat} {z : Bool}
set_option maxRecDepth 100000 in
set_option maxHeartbeats 4000000 in
theorem costs_go (h : Sd w g id nm sum bs N b p false) (most : Nat) (hmost : most ≤ 60) : Calls Tryd.prog 26 #[.pointer (some ⟨g, 0, none⟩), .int .i64 most] w (CoPost N b p bs.length most false w) := by
  have HN := Lib.hid (none_sd h)
  obtain ⟨A, c, hh, _⟩ := h.ex
  have HK := Lib.hid (h.copy hh)
  obtain ⟨L, hL⟩ : ∃ L, (sdL id nm bs.length sum (.slice A bs.length c) N b p false).toArray = L := ⟨_, rfl⟩
  have HSR := Lib.hid (show (Tryd.prog.info? 57).map (·.size) = some L.size by rw [← hL, List.size_toArray, sdL_len h.sum32]; exact info_snd)
  have HE := Lib.hid (show Z40.toArray.size = L.size by rw [← hL, List.size_toArray, List.size_toArray, sdL_len h.sum32]; rfl)
  have HA := Lib.hid (show L.all (·.oneCell') = true by rw [← hL]; simpa using sdL_one (d := .slice A bs.length c) rfl)
  rw [hL] at hh HK
  have HH := Lib.hid hh
  have hB := below_setRow ((Below.refl w.heap.size w).alloc (Nat.le_refl _) (.cells Z40.toArray 57)) (Nat.le_refl _) L
  have HB := Lib.hid hB
  have HSG := Lib.hid (h.below hB)
  have HGW := Lib.hid h.lt
  have HN64 := Lib.hid h.n64
  clear h hh hL hB
  go_enter Tryd.func26, Tryd.ntmps26
  go_wp2_with (first | (go_at_call 38; refine HN.out.mono ?_; rintro e wx ⟨rfl, rfl⟩) | (refine wpList_load_row rfl 57 (.tmp 12) rfl g rfl 57 L (0, 0) _ HH.out Tryd.underlying57 rfl HSR.out ?_) | (refine wpList_store_row rfl 57 _ _ rfl w.heap.size L rfl rfl 57 Z40.toArray (heap_alloc_new _ _) HSR.out HE.out HA.out ?_))
  obtain ⟨Y, hY⟩ : ∃ Y, (w.alloc (.cells Z40.toArray 57)).setRow w.heap.size L = Y := ⟨_, rfl⟩
  simp only [Act.put]
  change Code.wp _ _ _ _ ((w.alloc (.cells Z40.toArray 57)).setRow w.heap.size L)
  rw [hY] at HK HB HSG ⊢
  obtain ⟨k, hk⟩ : ∃ k, w.heap.size = k := ⟨_, rfl⟩
  rw [hk] at HK HGW ⊢
  have HC0 := Lib.hid (show CoS w k g id nm sum bs N b p b (.slice none 0 0) [] p Y from ⟨HK.out, HSG.out, HGW.out, World.ownsRow_nil _ _ _ _, rfl, Ph.start N b p, rfl, HB.out, by omega⟩)
  clear hY hk HH HSR HE HA HK HSG HB
  go_loopw [5] (fun lv wr => ∃ (A : Option Addr) (m c : Nat) (js : List Nat) (q B : Nat), lv = .slice A m c ∧ m ≤ most ∧ Hid (js.length = m) ∧ Hid (CoS w k g id nm sum bs N b p B (.slice A m c) js q wr)) (fun lv _ => most - lenOf lv)
  case atStart => exact ⟨none, 0, 0, [], p, b, rfl, by omega, Lib.hid rfl, HC0⟩
  case round =>
    obtain ⟨A, m, c, js, q, B, rfl, hm, HJ, HC⟩ := hrel
    clear HC0
    by_cases hlt : m < most
    · have d1 : decide ((m : Int) < (most : Int)) = true := by simp; omega
      have d2 : decide (m < most) = true := by simp; omega
      by_cases hB : B = 2 ^ N - 1
      · have HX := Lib.hid (next_stop HC.out.sk (show stS false N B ≠ 0 from by unfold stS; rw [if_neg (by decide), if_pos hB]; decide))
        have HFIN := Lib.hid (fun W (hb : Below wr.heap.size wr W) => show CoPost N b p bs.length most false w (.returned (.slice A m c)) W from by
          refine ⟨_, js, q, rfl, HC.out.chain, ?_, ?_, (HC.out.to hb).below⟩
          · have h1 := HC.out.cnt
            have h2 := (left_none HC.out.sk.right).2 hB
            have h3 := HJ.out
            have h4 := cntB_le N B
            unfold lfS at h2 ⊢
            rw [if_neg (by decide)] at h2 ⊢
            omega
          · exact own_mono (HC.out.to hb).own (by have := HC.out.wk; omega))
        go_wp2_with fail
        refine HX.out.mono ?_
        rintro e wz ⟨rfl, hz⟩
        have HQ := Lib.hid (HFIN.out _ hz)
        clear hz HX HFIN HC
        obtain ⟨R, hR⟩ : ∃ R, CoPost N b p bs.length most false w = R := ⟨_, rfl⟩
        rw [hR] at HQ
        go_wp2
        go_ret
        rw [hR]
        exact HQ.out
      · have HX := Lib.hid (next_go HC.out.sk hB)
        go_wp2_with fail
        refine HX.out.mono ?_
        rintro e w1 ⟨j, rfl, hj, hb1⟩
        have hc1 := HC.out.to hb1
        have HJN := Lib.hid hj
        have HCUT := Lib.hid (cut_sd hc1.sg hj.1)
        have hj64 : j < 64 := by have := hj.1; have := HN64.out; omega
        obtain ⟨A2, c2, w2, hrun, hsk, hsg, hown, hbw⟩ := hc1.app (j := j) (by have := HJ.out; omega)
        obtain ⟨ll, hll⟩ : ∃ ll, lenS bs.length j = ll := ⟨_, rfl⟩
        rw [hll] at hrun HCUT
        rw [HJ.out] at hrun hown
        have HRUN := Lib.hid hrun
        have HSK := Lib.hid hsk
        have HSG := Lib.hid hsg
        have HOW := Lib.hid hown
        have HBW := Lib.hid hbw
        clear hb1 hc1 hj hrun hsk hsg hown hbw HX hll
        go_wp2_with fail
        refine HCUT.out.mono ?_
        rintro e w1' ⟨A3, rfl, _, rfl⟩
        have s36 := HSK.out.c36
        have s37 := HSK.out.c37
        have HWI := Lib.hid (with_in (n := (N : Int)) (b := B) (rB_lt HC.out.sk.right) (i := (j : Int)) (k := j) rfl HC.out.sk.right (by have := HJN.out.1; omega) w2)
        obtain ⟨B2, hB2⟩ : ∃ B2, B ||| 2 ^ j = B2 := ⟨_, rfl⟩
        rw [hB2] at HWI
        unfold MPost mV at HWI
        have HB2 := Lib.hid hB2
        clear hB2
        go_wp2_with (first | (at_builtin; refine wpList_app rfl (.tmp 24) (.tmp 29) _ rfl _ _ rfl rfl HRUN.out ?_))
        refine HWI.out.mono ?_
        rintro e w4 ⟨rfl, hb4⟩
        have hs4 := HSK.out.below hb4
        have t36 := hs4.c36
        have t37 := hs4.c37
        have f36 := hs4.free 36
        have f37 := hs4.free 37
        have HC5 := Lib.hid (show CoS w k g id nm sum bs N b p B2 (.slice A2 (m + 1) c2) (js ++ [j]) (j + 1) ((w4.setCell ⟨k, 36, none⟩ (.int .i64 N)).setCell ⟨k, 37, none⟩ (.int .u64 B2)) from by
          have hst := HC.out.ph.step HJN.out
          refine ⟨hs4.put (by rw [← HB2.out]; exact or_right HC.out.sk.right HJN.out.1), (HSG.out.below hb4).only HC.out.gk (((Only.refl k w4).setCell 36 _).setCell 37 _), HC.out.gk, ?_, HC.out.chain.snoc hst.1, ?_, ?_, ?_, HC.out.wk⟩
          · rw [List.length_append, HJ.out]
            exact ownCell (ownCell (own_below HOW.out hb4) (Nat.lt_succ_self _) _) (Nat.lt_succ_self _) _
          · rw [← HB2.out]; exact hst.2
          · rw [← HB2.out, cnt_or HJN.out.2.1, if_pos HJN.out.1, HC.out.cnt, List.length_append]
            simp only [List.length_singleton]
            omega
          · exact below_cell (below_cell (HBW.out.trans (hb4.mono HBW.out.size)) HC.out.wk 36 _) HC.out.wk 37 _)
        have HJ5 := Lib.hid (show (js ++ [j]).length = m + 1 from by rw [List.length_append, HJ.out]; rfl)
        clear hb4 hs4 HWI s36 s37
        go_wp2
        go_roundw
        case rel => exact ⟨A2, m + 1, c2, js ++ [j], j + 1, B2, rfl, by omega, HJ5, HC5⟩
        case measure => simp [lenOf]; omega
    · have d1 : decide ((m : Int) < (most : Int)) = false := by simp; omega
      have d2 : decide (m < most) = false := by simp; omega
      have HQ := Lib.hid (show CoPost N b p bs.length most false w (.returned (.slice A m c)) wr from by
        refine ⟨_, js, q, rfl, HC.out.chain, ?_, own_mono HC.out.own (by have := HC.out.wk; omega), HC.out.below⟩
        have h1 := HC.out.cnt
        have h3 := HJ.out
        have h4 := cntB_le N B
        unfold lfS
        rw [if_neg (by decide)]
        omega)
      obtain ⟨R, hR⟩ : ∃ R, CoPost N b p bs.length most false w = R := ⟨_, rfl⟩
      rw [hR] at HQ
      clear HC
      go_wp2
      go_ret
      rw [hR]
      exact HQ.out
theorem costs_any (h : Sd w g id nm sum bs N b p z) (most : Nat) (hmost : most ≤ 60) : Calls Tryd.prog 26 #[.pointer (some ⟨g, 0, none⟩), .int .i64 most] w (CoPost N b p bs.length most z w) := by
  cases z
  · exact costs_go h most hmost
  · refine (costs_stop h st_gone most).mono ?_
    rintro e w' ⟨rfl, hb⟩
    exact ⟨_, [], p, rfl, rfl, by simp [lfS], World.ownsRow_nil _ _ _ _, hb⟩
end
end Go.Proofs.YtdlhpmbgpjjkoaaDoor
