/-
  Proved here: the law's own 'costs': what Costs tells is what the document's Nexts tell, one behind the other.
-/
import Derived.Test.YtdlhpmbgpjjkoaaDoorFrf
set_option linter.unusedSimpArgs false
set_option linter.unusedVariables false
namespace Go.Proofs.YtdlhpmbgpjjkoaaDoor
open Go.RowKit
theorem drewN_add (w : World) (m k : Nat) : (w.drewN m).drewN k = w.drewN (m + k) := by
  simp [World.drewN, Nat.add_assoc]
section
variable {w : World} {d g l : Nat} {bs : List Int} {N b p : Nat} {z : Bool}
theorem rbytes_run (h : Rs w d g l bs N b p z) {i : Nat} (hi : i < N) : ∃ A c, RI .u8 w (some A) (cutL bs i) ∧ ∀ m, Calls Tryd.prog 11 #[.pointer (some ⟨g, 0, none⟩), .int .i64 i] (w.drewN m) fun e w' => e = .returned (.slice (some A) (lenS bs.length i) c) ∧ ∃ m', w' = w.drewN m' := by
  obtain ⟨A, c, c0, hr, h1, h2, h3⟩ := h.c0
  have hN := h.num
  have hsz := h.size
  have hi' : i < (bs.length + 63) / 64 := by omega
  obtain ⟨p1, p2, p3⟩ := lenS_pos hi'
  have HL := Lib.hid (fun W => rlength_in hsz hi' W)
  obtain ⟨A2, hr2, hrun⟩ := run_sub2 (A := A) (c := c) (n := bs.length) (lo := 64 * i) (hi := 64 * i + lenS bs.length i) (lo' := ((64 * i : Nat) : Int)) (hi' := ((64 * i + lenS bs.length i : Nat) : Int)) rfl rfl (by omega) p3 h1 h3
  have HR := Lib.hid (show RI .u8 w (some A2) (cutL bs i) from by
    have := hr2 w bs hr rfl
    rwa [show 64 * i + lenS bs.length i - 64 * i = lenS bs.length i by omega] at this)
  rw [show 64 * i + lenS bs.length i - 64 * i = lenS bs.length i by omega] at hrun
  obtain ⟨q, hq⟩ : ∃ q, lenS bs.length i = q := ⟨_, rfl⟩
  rw [hq] at hrun HL p1 p2 p3 ⊢
  obtain ⟨m, hm⟩ : ∃ m, 64 * i = m := ⟨_, rfl⟩
  rw [hm] at hrun p3
  obtain ⟨t, ht⟩ : ∃ t, m + q = t := ⟨_, rfl⟩
  rw [ht] at hrun
  obtain ⟨n, hn⟩ : ∃ n, bs.length = n := ⟨_, rfl⟩
  rw [hn] at c0 hrun HL h1 hsz
  obtain ⟨cc, hcc⟩ : ∃ cc, c - m = cc := ⟨_, rfl⟩
  rw [hcc] at hrun
  have w1 : IntKind.i64.wrap (64 * (i : Int)) = (m : Int) := by rw [IntWalk.i64_in _ (by omega)]; omega
  have w2 : IntKind.i64.wrap ((m : Int) + (q : Int)) = (t : Int) := by rw [IntWalk.i64_in _ (by omega)]; omega
  refine ⟨A2, cc, HR.out, fun md => ?_⟩
  have c0' : (w.drewN md).cell? ⟨g, 0, none⟩ = some (.slice A n c) := c0
  have HW := Lib.hid (fun k => drewN_add w md k)
  obtain ⟨W, hW⟩ : ∃ W, w.drewN md = W := ⟨_, rfl⟩
  rw [hW] at c0' HW ⊢
  clear h hr hr2 hN hi hi' p1 p2 p3 h1 h2 h3 hq hm ht hn hsz hcc c0 hW
  go_enter Tryd.func11, Tryd.ntmps11
  go_wp2
  go_quiet ((go_at_call 35; exact quietL (HL.out _)))
  go_wp2
  go_ret
  exact ⟨rfl, _, HW.out _⟩
theorem own_only {base k n : Nat} {e : TypeId} {A : Option Addr} {c m : Nat} {xs : List Value} {w' : World} (h : w.ownsRow base e 1 (.slice A m c) n xs) (hA : ∀ a, A = some a → a.block ≠ k) (ho : Only k w w') : w'.ownsRow base e 1 (.slice A m c) n xs := by
  have hg : w.grownBy w' (some k) := ⟨ho.os, ho.tape, ho.output, ho.size, fun j hj hne => ho.block j hj (fun e => hne (by rw [e]))⟩
  refine h.kept hg ?_
  rcases A with _ | a
  · exact .inl rfl
  · refine .inr fun e => ?_
    injection e with e
    exact hA a rfl e
theorem Rs.copyAt (h : Rs w d g l bs N b p z) {A : Option Addr} {c : Nat} (hh : w.heap[g]? = some (.cells #[.slice A bs.length c, .slice (some ⟨l, 0, none⟩) N N, .int .i64 p, .bool z] 69 (0, 0))) : Rs (w.alloc (.cells #[.slice A bs.length c, .slice (some ⟨l, 0, none⟩) N N, .int .i64 p, .bool z] 69)) d w.heap.size l bs N b p z := by
  obtain ⟨A2, c2, hh2, hr, h3⟩ := h.ex
  rw [hh] at hh2
  injection hh2 with hh2
  injection hh2 with hh2 _ _
  simp at hh2
  obtain ⟨rfl, rfl⟩ := hh2
  have ha := (Below.refl w.heap.size w).alloc (Nat.le_refl _) (.cells #[.slice A bs.length c, .slice (some ⟨l, 0, none⟩) N N, .int .i64 p, .bool z] 69)
  exact ⟨⟨A, c, heap_alloc_new _ _, hr.below ha, h3⟩, (ha.block l (Nat.lt_trans h.ne h.lt)).trans h.row, h.dl, Nat.lt_trans h.ne h.lt, h.right, h.num, h.size, h.at64⟩
theorem lens_at {n i j : Nat} {js rest : List Nat} (h : js.drop i = j :: rest) : (NV .i64 (lensL n js))[i]? = some (.int .i64 (lenS n j : Nat)) := by
  have h1 : js[i]? = some j := by
    have := congrArg (fun l => l[0]?) h
    simpa using this
  simp [NV, lensL, h1]
theorem drop_next {i : Nat} {js : List Nat} (h : i < js.length) : ∃ j rest, js.drop i = j :: rest ∧ js.drop (i + 1) = rest := by
  refine ⟨js[i], js.drop (i + 1), List.drop_eq_getElem_cons h, rfl⟩
end
section
variable {w : World} {gs : Nat} {id : Nat} {nm : ByteArray} {sum : List Nat} {d g l : Nat} {bs : List Int} {N b p : Nat} {z : Bool}
set_option maxRecDepth 100000 in
set_option maxHeartbeats 4000000 in
theorem lcosts_any (hS : Sd w gs id nm sum bs N b p z) (hR : Rs w d g l bs N b p z) (most : Nat) (hmost : most ≤ 60) : Calls Tryd.prog 12 #[.pointer (some ⟨gs, 0, none⟩), .pointer (some ⟨g, 0, none⟩), .int .i64 most] w fun e w' => e = .returned (.bool true) ∧ Below w.heap.size w w' := by
  have HCO := Lib.hid (costs_any hS most hmost)
  have HR := Lib.hid hR
  clear hS hR
  go_enter Tryd.func12, Tryd.ntmps12
  go_wp2_with fail
  refine HCO.out.mono ?_
  rintro e w1 ⟨v, js, q', rfl, hch, hlen, hown, hb⟩
  obtain ⟨Av, cv, rfl, _⟩ := own_slice hown
  have HCH := Lib.hid hch
  have HLEN := Lib.hid hlen
  have HOW := Lib.hid hown
  have HB1 := Lib.hid hb
  have HR1 := Lib.hid (HR.out.below hb)
  obtain ⟨n, hn⟩ : ∃ n, js.length = n := ⟨_, rfl⟩
  rw [hn] at HOW HLEN ⊢
  have HNN := Lib.hid hn
  clear hch hlen hown hb hn HCO HR
  obtain ⟨A, c, hh, _⟩ := HR1.out.ex
  have HRY := Lib.hid (HR1.out.copyAt hh)
  have y0 : w1.cell? ⟨g, 0, none⟩ = some (.slice A bs.length c) := by simp [World.cell?, hh]
  have y1 := HR1.out.c1
  have y2 := HR1.out.c2
  have y3 := HR1.out.c3
  obtain ⟨nb, hnb⟩ : ∃ x, bs.length = x := ⟨_, rfl⟩
  rw [hnb] at y0
  have HNB := Lib.hid hnb
  clear hh hnb
  go_wp2
  go_big_region
  have hal := (Below.refl w1.heap.size w1).alloc (Nat.le_refl _) (.cells #[.slice A nb c, .slice (some ⟨l, 0, none⟩) N N, .int .i64 p, .bool z] 69)
  have HR2 := Lib.hid (show Rs (w1.alloc (.cells #[.slice A nb c, .slice (some ⟨l, 0, none⟩) N N, .int .i64 p, .bool z] 69)).drew d g l bs N b p z from (HR1.out.below hal).drew)
  have HY2 := Lib.hid (show Rs (w1.alloc (.cells #[.slice A nb c, .slice (some ⟨l, 0, none⟩) N N, .int .i64 p, .bool z] 69)).drew d w1.heap.size l bs N b p z from (HNB.out ▸ HRY.out).drew)
  have HO2 := Lib.hid (own_below HOW.out (hal.drew))
  have HB2 := Lib.hid (HB1.out.trans ((hal.drew).mono HB1.out.size))
  have HAV := Lib.hid (show ∀ a, Av = some a → a.block ≠ w1.heap.size from fun a ha => by
    subst ha
    have := own_lt HOW.out
    omega)
  have HKW := Lib.hid (show w.heap.size ≤ w1.heap.size from HB1.out.size)
  clear hal
  obtain ⟨V, hV⟩ : ∃ V, (w1.alloc (.cells #[.slice A nb c, .slice (some ⟨l, 0, none⟩) N N, .int .i64 p, .bool z] 69)).drew = V := ⟨_, rfl⟩
  rw [hV] at HR2 HY2 HO2 HB2 ⊢
  obtain ⟨k2, hk2⟩ : ∃ k, w1.heap.size = k := ⟨_, rfl⟩
  rw [hk2] at HY2 HAV HKW ⊢
  clear hV hk2 HRY HR1 HOW HB1 y0 y1 y2 y3
  have HLF := Lib.hid (rleft_sd HR2.out)
  obtain ⟨m, hm⟩ : ∃ m, lfS z N b = m := ⟨_, rfl⟩
  rw [hm] at HLF HLEN
  have HM := Lib.hid hm
  have hn60 : n ≤ 60 := by have := HLEN.out; omega
  have q0 : ((n : Int) != (n : Int)) = false := by simp
  have q1 : ((n : Int) == (n : Int)) = true := by simp
  clear hm
  by_cases hmm : most < m
  · have d1 : decide ((most : Int) < (m : Int)) = true := by simp; omega
    have d2 : decide (most < m) = true := by simp; omega
    have hnm : n = most := by have := HLEN.out; omega
    subst hnm
    go_wp2_with (go_at_call 21; refine HLF.out.mono ?_; rintro e wx ⟨rfl, rfl⟩)
    go_loopw [10] (fun iv wr => ∃ i q : Nat, iv = .int .i64 i ∧ i ≤ n ∧ Hid (Rs wr d k2 l bs N b q z) ∧ Hid (Chain N b q (js.drop i) q') ∧ Hid (wr.ownsRow w.heap.size 3 1 (.slice Av n cv) n (NV .i64 (lensL bs.length js))) ∧ Hid (Below w.heap.size w wr)) (fun iv _ => n - (intOf iv).toNat)
    case atStart => exact ⟨0, p, rfl, by omega, HY2, Lib.hid (by rw [List.drop_zero]; exact HCH.out), HO2, HB2⟩
    case round =>
      obtain ⟨i, q, rfl, hi, HY, HC, HO, HB⟩ := hrel
      by_cases hin : i < n
      · have d3 : decide ((i : Int) < (n : Int)) = true := by simp; omega
        have d4 : decide (i < n) = true := by simp; omega
        have g1 : (0 : Int) ≤ (i : Int) := by omega
        have g2 : (i : Int) < (n : Int) := by omega
        obtain ⟨j, rest, hj1, hj2⟩ := drop_next (js := js) (i := i) (by rw [HNN.out]; exact hin)
        have HCJ := Lib.hid (show IsNext N b q j ∧ Chain N b (j + 1) (js.drop (i + 1)) q' from by
          have := HC.out
          rw [hj1] at this
          rw [hj2]
          exact this)
        have hz0 : stS z N b = 0 := by
          have h1 := HM.out
          have h2 := HLEN.out
          rcases Decidable.em (z = false ∧ b ≠ 2 ^ N - 1) with h | h
          · exact stS_zero.2 h
          · exfalso
            have : lfS z N b = 0 := by
              cases z
              · exact (left_none HY.out.right).2 (Decidable.byContradiction fun e => h ⟨rfl, e⟩)
              · rfl
            omega
        have HCELL := Lib.hid (lens_at (n := bs.length) hj1)
        have w1 : IntKind.i64.wrap ((i : Int) + 1) = (i : Int) + 1 := IntWalk.i64_in _ (by omega)
        have HX := Lib.hid (rnext_go HY.out hz0 true)
        have hzf := (stS_zero.1 hz0).1
        have HZF := Lib.hid (fun (_ : Unit) => hzf)
        clear hj1 hj2 hz0 hzf
        go_wp2_with fail
        refine HX.out.mono ?_
        rintro e w3 ⟨j', rfl, hj', hs, ho, _⟩
        obtain rfl := hj'.one HCJ.out.1
        have hjN := hj'.1
        rw [if_pos rfl] at hs
        have HS3 := Lib.hid (show Rs w3 d k2 l bs N b (j' + 1) z from by rw [HZF.out ()]; exact hs)
        have HO3 := Lib.hid (own_only HO.out HAV.out ho)
        have HB3 := Lib.hid (OnlyBelow ho HB.out HKW.out)
        obtain ⟨A4, c4, _, hbr⟩ := rbytes_run hs hjN
        obtain ⟨ga, hga, _, hgl, hgc⟩ := own_cells HO3.out (by rw [lensL_len]; exact HNN.out) (by omega)
        have hcell := hgc i hin
        have hce := HCELL.out
        rw [NV_getElem (by rw [lensL_len, HNN.out]; exact hin)] at hce
        injection hce with hce
        injection hce with _ hce
        rw [hce] at hcell
        subst hga
        obtain ⟨ll, hll⟩ : ∃ x, lenS bs.length j' = x := ⟨_, rfl⟩
        rw [hll] at hcell hbr
        have HBR := Lib.hid hbr
        have q3 : ((ll : Int) != (ll : Int)) = false := by simp
        have q4 : ((ll : Int) == (ll : Int)) = true := by simp
        have d5 : decide ((j' : Int) < 0) = false := by simp
        clear hj' hs ho HX hbr hgc hce hll hgl
        go_wp2
        go_quiet ((go_at_call 11; exact HBR.out _))
        go_wp2
        go_roundw
        case rel => exact ⟨i + 1, j' + 1, by go_num, by omega, Lib.hid (HS3.out.below (belowN (Below.refl _ _) _)), Lib.hid HCJ.out.2, Lib.hid (own_below HO3.out (belowN (Below.refl _ _) _)), Lib.hid (belowN HB3.out _)⟩
        case measure => simp [intOf]; omega
      · have d3 : decide ((i : Int) < (n : Int)) = false := by simp; omega
        have d4 : decide (i < n) = false := by simp; omega
        go_wp2
        go_ret
        exact ⟨rfl, HB.out⟩
  · have d1 : decide ((most : Int) < (m : Int)) = false := by simp; omega
    have d2 : decide (most < m) = false := by simp; omega
    have hnm : n = m := by have := HLEN.out; omega
    subst hnm
    go_wp2_with (go_at_call 21; refine HLF.out.mono ?_; rintro e wx ⟨rfl, rfl⟩)
    go_loopw [10] (fun iv wr => ∃ i q : Nat, iv = .int .i64 i ∧ i ≤ n ∧ Hid (Rs wr d k2 l bs N b q z) ∧ Hid (Chain N b q (js.drop i) q') ∧ Hid (wr.ownsRow w.heap.size 3 1 (.slice Av n cv) n (NV .i64 (lensL bs.length js))) ∧ Hid (Below w.heap.size w wr)) (fun iv _ => n - (intOf iv).toNat)
    case atStart => exact ⟨0, p, rfl, by omega, HY2, Lib.hid (by rw [List.drop_zero]; exact HCH.out), HO2, HB2⟩
    case round =>
      obtain ⟨i, q, rfl, hi, HY, HC, HO, HB⟩ := hrel
      by_cases hin : i < n
      · have d3 : decide ((i : Int) < (n : Int)) = true := by simp; omega
        have d4 : decide (i < n) = true := by simp; omega
        have g1 : (0 : Int) ≤ (i : Int) := by omega
        have g2 : (i : Int) < (n : Int) := by omega
        obtain ⟨j, rest, hj1, hj2⟩ := drop_next (js := js) (i := i) (by rw [HNN.out]; exact hin)
        have HCJ := Lib.hid (show IsNext N b q j ∧ Chain N b (j + 1) (js.drop (i + 1)) q' from by
          have := HC.out
          rw [hj1] at this
          rw [hj2]
          exact this)
        have hz0 : stS z N b = 0 := by
          have h1 := HM.out
          have h2 := HLEN.out
          rcases Decidable.em (z = false ∧ b ≠ 2 ^ N - 1) with h | h
          · exact stS_zero.2 h
          · exfalso
            have : lfS z N b = 0 := by
              cases z
              · exact (left_none HY.out.right).2 (Decidable.byContradiction fun e => h ⟨rfl, e⟩)
              · rfl
            omega
        have HCELL := Lib.hid (lens_at (n := bs.length) hj1)
        have w1 : IntKind.i64.wrap ((i : Int) + 1) = (i : Int) + 1 := IntWalk.i64_in _ (by omega)
        have HX := Lib.hid (rnext_go HY.out hz0 true)
        have hzf := (stS_zero.1 hz0).1
        have HZF := Lib.hid (fun (_ : Unit) => hzf)
        clear hj1 hj2 hz0 hzf
        go_wp2_with fail
        refine HX.out.mono ?_
        rintro e w3 ⟨j', rfl, hj', hs, ho, _⟩
        obtain rfl := hj'.one HCJ.out.1
        have hjN := hj'.1
        rw [if_pos rfl] at hs
        have HS3 := Lib.hid (show Rs w3 d k2 l bs N b (j' + 1) z from by rw [HZF.out ()]; exact hs)
        have HO3 := Lib.hid (own_only HO.out HAV.out ho)
        have HB3 := Lib.hid (OnlyBelow ho HB.out HKW.out)
        obtain ⟨A4, c4, _, hbr⟩ := rbytes_run hs hjN
        obtain ⟨ga, hga, _, hgl, hgc⟩ := own_cells HO3.out (by rw [lensL_len]; exact HNN.out) (by omega)
        have hcell := hgc i hin
        have hce := HCELL.out
        rw [NV_getElem (by rw [lensL_len, HNN.out]; exact hin)] at hce
        injection hce with hce
        injection hce with _ hce
        rw [hce] at hcell
        subst hga
        obtain ⟨ll, hll⟩ : ∃ x, lenS bs.length j' = x := ⟨_, rfl⟩
        rw [hll] at hcell hbr
        have HBR := Lib.hid hbr
        have q3 : ((ll : Int) != (ll : Int)) = false := by simp
        have q4 : ((ll : Int) == (ll : Int)) = true := by simp
        have d5 : decide ((j' : Int) < 0) = false := by simp
        clear hj' hs ho HX hbr hgc hce hll hgl
        go_wp2
        go_quiet ((go_at_call 11; exact HBR.out _))
        go_wp2
        go_roundw
        case rel => exact ⟨i + 1, j' + 1, by go_num, by omega, Lib.hid (HS3.out.below (belowN (Below.refl _ _) _)), Lib.hid HCJ.out.2, Lib.hid (own_below HO3.out (belowN (Below.refl _ _) _)), Lib.hid (belowN HB3.out _)⟩
        case measure => simp [intOf]; omega
      · have d3 : decide ((i : Int) < (n : Int)) = false := by simp; omega
        have d4 : decide (i < n) = false := by simp; omega
        go_wp2
        go_ret
        exact ⟨rfl, HB.out⟩
end
end Go.Proofs.YtdlhpmbgpjjkoaaDoor
