/-
  Proved here: ViewSizes.
-/
import Derived.Test.YtcblohmenfdafaaDoorIj
set_option linter.unusedSimpArgs false
set_option linter.unusedVariables false
namespace Go.Proofs.YtcblohmenfdafaaDoor
open Go.RowKit
theorem view_sizes {R C row col : Int} {vis : Bool} {L : List Ce} (h : LOk L) (h1 : 1 ≤ L.length) (h2 : L.length ≤ 480) : 6 + (cellB (ceAt L 0)).length ≤ (viewB R C row col vis L).length ∧ (viewB R C row col vis L).length ≤ 5 + 15 * L.length := by
  refine ⟨?_, viewB_len (fun c hc => (h c hc).1) (fun c hc => (h c hc).2) h2⟩
  obtain ⟨c, T, rfl⟩ : ∃ c T, L = c :: T := by cases L with | nil => simp at h1 | cons c T => exact ⟨c, T, rfl⟩
  obtain ⟨m, T2, e1, e2, e3, e4⟩ := runs_first T 0 c
  unfold viewB
  rw [e4, show ceAt (c :: T) 0 = c from rfl]
  have := szN_le ((0 + m : Nat) : Int)
  rw [List.length_append, List.length_append, List.length_append, numB_length]
  show 6 + _ ≤ 5 + _
  omega
theorem all_rep {L : List Ce} (h : ∀ k, k < L.length → ceAt L k = ceAt L 0) : L = rep L.length (ceAt L 0) := by
  apply List.ext_getElem
  · rw [rep_len]
  · intro k h1 h2
    have := h k h1
    rw [show L[k] = ceAt L k by simp [ceAt, List.getD, h1], this]
    simp [rep]
theorem view_one {R C row col : Int} {vis : Bool} {L : List Ce} (h1 : 1 ≤ L.length) (h2 : L.length ≤ 480) (h : ∀ k, k < L.length → ceAt L k = ceAt L 0) : (viewB R C row col vis L).length ≤ 7 + (cellB (ceAt L 0)).length := by
  obtain ⟨m, hm⟩ : ∃ m, L.length = m + 1 := ⟨L.length - 1, by omega⟩
  have e := all_rep h
  have hr : runsB 0 L = numB ((0 + m + 1 : Nat) : Int) ++ cellB (ceAt L 0) := by
    conv => lhs; rw [e, hm]
    exact runs_rep m 0 (ceAt L 0)
  unfold viewB
  rw [hr]
  have := szN_480 (n := ((0 + m + 1 : Nat) : Int)) (by omega)
  rw [List.length_append, List.length_append, numB_length]
  show 5 + _ ≤ 7 + _
  omega
set_option maxRecDepth 100000 in
set_option maxHeartbeats 16000000 in
theorem sizes_any {w : World} {v : Value} (hv : VwV w v) (hT : Tab w) : Calls Tryd.prog 6 #[v] w fun e w' => e = .returned (.bool true) ∧ Below w.heap.size w w' := by
  obtain ⟨R, C, A, n, cap, L, row, col, vis, rfl, hs, _, _, _, _⟩ := hv
  have hl := hs.len_eq
  have hm : n ≤ 9223372036854775807 := by have := hs.le; have := hs.max; unfold maxLen at this; omega
  have HRT := Lib.hid (fun (W : World) (hb : Below w.heap.size w W) => p_viewright (cap := cap) (hs.cr.below hb) hl hm hs.ok R C row col vis)
  have HB0 := (Below.refl w.heap.size w).alloc (Nat.le_refl _) (.cells #[.int .i64 R, .int .i64 C, .slice A n cap, .int .i64 row, .int .i64 col, .bool vis] 24)
  have HC0 := heap_alloc_new w (.cells #[.int .i64 R, .int .i64 C, .slice A n cap, .int .i64 row, .int .i64 col, .bool vis] 24)
  have HTB := Lib.hid (hT.below HB0 hT.big)
  have HCR := Lib.hid (hs.cr.below HB0)
  have HL := Lib.hid hl
  have HOK := Lib.hid hs.ok
  obtain ⟨q, hq⟩ : ∃ q, rightW R C row col L = q := ⟨_, rfl⟩
  rw [hq] at HRT
  have HQ := Lib.hid hq
  obtain ⟨vb, hvb⟩ : ∃ b, w.heap.size = b := ⟨_, rfl⟩
  clear hs hl hm hT hq
  go_enter Tryd.func6, Tryd.ntmps6
  go_upto_region 1 with fail
  simp only [hvb] at HC0 ⊢
  generalize (w.alloc (.cells #[.int .i64 R, .int .i64 C, .slice A n cap, .int .i64 row, .int .i64 col, .bool vis] 24)) = U at HB0 HC0 HTB HCR ⊢
  have HB := Lib.hid HB0
  have HC := Lib.hid HC0
  obtain ⟨x0, x1, x2, x3, x4, x5⟩ := six_cells HC0
  clear HB0 HC0 hvb
  go_wp2_with fail
  refine (HRT.out _ HB.out).mono ?_
  rintro e w1 ⟨rfl, b1⟩
  have HC1 := Lib.hid ((b1.block _ (lt_of_block HC.out)).trans HC.out)
  have HSB := Lib.hid b1
  clear b1 HRT x0 x1 x2 x3 x4 x5
  obtain ⟨x0, x1, x2, x3, x4, x5⟩ := six_cells HC1.out
  cases q with
  | false =>
    go_wp2_with fail
    refine (alive_any _ (HTB.out.below HSB.out HTB.out.big)).mono ?_
    rintro e w9 ⟨rfl, b9⟩
    have HB9 := Lib.hid (HB.out.trans ((HSB.out.trans (b9.mono HSB.out.size)).mono HB.out.size))
    clear b9
    go_wp2
    go_ret
    exact ⟨by rfl, HB9.out⟩
  | true =>
    obtain ⟨_, _, hrc, hn480, hn1, _⟩ := rightW_parts HQ.out
    rw [HL.out] at hn480 hn1
    have hlok : LOk L := fun c hc => ⟨HOK.out c hc, hrc c hc⟩
    have HVS := Lib.hid (view_sizes (R := R) (C := C) (row := row) (col := col) (vis := vis) hlok (by rw [HL.out]; exact hn1) (by rw [HL.out]; exact hn480))
    have HV1 := Lib.hid (fun h => view_one (R := R) (C := C) (row := row) (col := col) (vis := vis) (L := L) (by rw [HL.out]; exact hn1) (by rw [HL.out]; exact hn480) h)
    have HNN := Lib.hid (And.intro hn1 hn480)
    have HLK := Lib.hid hlok
    clear hrc hn480 hn1 hlok
    go_wp2_with fail
    refine (p_viewwrite (cap := cap) (HCR.out.below HSB.out) HL.out HOK.out (HTB.out.below HSB.out HTB.out.big) R C row col vis HQ.out).mono ?_
    rintro e w2 ⟨u, rfl, o2⟩
    obtain ⟨A3, c3, rfl, hc1, hc2, hrb⟩ := bytes8 o2
    obtain ⟨m3, hm3⟩ : ∃ m, (viewB R C row col vis L).length = m := ⟨_, rfl⟩
    have HM3 := Lib.hid hm3
    have hb2 := o2.below
    rw [hm3]
    have HC2 := Lib.hid ((hb2.block _ (lt_of_block HC1.out)).trans HC1.out)
    have HSB2 := Lib.hid (HSB.out.trans (hb2.mono HSB.out.size))
    clear o2 hc1 hc2 hrb hm3 hb2 x0 x1 x2 x3 x4 x5 HSB HC1
    have HSB := HSB2
    clear HSB2
    obtain ⟨x0, x1, x2, x3, x4, x5⟩ := six_cells HC2.out
    obtain ⟨b, off, rfl, hbl, hcs⟩ := HCR.out (by rw [HL.out]; exact HNN.out.1)
    have hcel := hcs 0 (by rw [HL.out]; exact HNN.out.1)
    have hcok := HLK.out (ceAt L 0) (ceAt_mem (by rw [HL.out]; exact HNN.out.1))
    obtain ⟨⟨p, f, gg, bb⟩, hce⟩ : ∃ c, ceAt L 0 = c := ⟨_, rfl⟩
    rw [hce] at hcel hcok
    simp only [hce] at HVS HV1
    have HCE := Lib.hid hce
    have HPC := Lib.hid (fun (W : World) hW => p_putcell (w := W) hcok.1 hcok.2 hW)
    unfold cV at HPC
    dsimp only at HPC
    have HFC := Lib.hid (fun (X : World) (hX : Below U.heap.size U X) => ce_four (fun j v hv => (hX.cell (p := ⟨b, off + 0 * 4 + j, none⟩) hbl).trans (hcel j v hv)))
    obtain ⟨k0, k1, k2, k3⟩ := HFC.out _ HSB.out
    simp only [Nat.zero_mul, Nat.add_zero] at k0 k1 k2 k3
    have g0 : (0 : Int) < (n : Int) := by have := HNN.out; omega
    have g0' : 0 < n := HNN.out.1
    clear hcel hcok hce
    go_wp2_with fail
    refine (HPC.out _ (HTB.out.below HSB.out HTB.out.big)).mono ?_
    rintro e w3 ⟨u5, rfl, o3⟩
    obtain ⟨A5, c5, rfl, hc1, hc2, hrb⟩ := bytes8 o3
    obtain ⟨m5, hm5⟩ : ∃ m, (cellB ⟨p, f, gg, bb⟩).length = m := ⟨_, rfl⟩
    have HM5 := Lib.hid hm5
    have hb3 := o3.below
    rw [hm5]
    have HC3 := Lib.hid ((hb3.block _ (lt_of_block HC2.out)).trans HC2.out)
    have HSB2 := Lib.hid (HSB.out.trans (hb3.mono HSB.out.size))
    clear o3 hc1 hc2 hrb hm5 hb3 x0 x1 x2 x3 x4 x5 k0 k1 k2 k3 HSB HC2 HPC
    have HSB := HSB2
    clear HSB2
    obtain ⟨x0, x1, x2, x3, x4, x5⟩ := six_cells HC3.out
    have hss := HVS.out
    rw [HM3.out, HM5.out, HL.out] at hss
    have l1 : IntKind.i64.wrap (6 + (m5 : Int)) = 6 + (m5 : Int) := IntWalk.i64_in _ (by have := HNN.out; omega)
    have l2 : IntKind.i64.wrap (15 * (n : Int)) = 15 * (n : Int) := IntWalk.i64_in _ (by have := HNN.out; omega)
    have l3 : IntKind.i64.wrap (5 + 15 * (n : Int)) = 5 + 15 * (n : Int) := IntWalk.i64_in _ (by have := HNN.out; omega)
    have l4 : decide ((m3 : Int) < 6 + (m5 : Int)) = false := by simp; omega
    have l5 : decide (5 + 15 * (n : Int) < (m3 : Int)) = false := by simp; omega
    have l5' : decide ((m3 : Int) > 5 + 15 * (n : Int)) = false := l5
    have HSS := Lib.hid hss
    clear hss
    go_wp2
    clear l1 l2 l3 l4 l5 l5'
    have HZ := HSB
    clear HSB x0 x1 x2 x3 x4 x5
    go_loopw [7, 8] (fun qv iv wr => ∃ (i : Nat) (q : Bool), qv = .bool q ∧ iv = .int .i64 i ∧ i ≤ n ∧ Hid (Below U.heap.size U wr) ∧ Hid (q = true → ∀ k, k < i → ceAt L k = ⟨p, f, gg, bb⟩)) (fun _ iv _ => n - (intOf iv).toNat)
    case atStart => exact ⟨0, true, rfl, rfl, by omega, HZ, Lib.hid (fun _ k hk => absurd hk (by omega))⟩
    case round =>
      obtain ⟨i, q, rfl, rfl, hi, HSB, HALL⟩ := hrel
      clear HZ
      have hwd := HSB.out
      obtain ⟨x0, x1, x2, x3, x4, x5⟩ := six_cells ((hwd.block _ (lt_of_block HC.out)).trans HC.out)
      by_cases hin : i < n
      · have e1 : decide ((i : Int) < (n : Int)) = true := by simp; omega
        have e1' : decide (i < n) = true := by simp; omega
        have g1 : (0 : Int) ≤ (i : Int) := by omega
        have g2 : (i : Int) < (n : Int) := by omega
        have wr1 : IntKind.i64.wrap ((i : Int) + 1) = (i : Int) + 1 := IntWalk.i64_in _ (by have := HNN.out; omega)
        have HIN := Lib.hid hin
        have hdr := hwd.drew
        have HSD := Lib.hid hdr
        go_upto_region 11 with fail
        clear x0 x1 x2 x3 x4 x5
        obtain ⟨x0, x1, x2, x3, x4, x5⟩ := six_cells ((hdr.block _ (lt_of_block HC.out)).trans HC.out)
        cases q with
        | false =>
          clear hi hin hwd hdr
          go_wp2
          go_big_region
          clear x0 x1 x2 x3 x4 x5
          go_wp2
          go_roundw
          case rel => exact ⟨i + 1, false, rfl, by go_num, by have := HIN.out; omega, HSD, Lib.hid (fun h => by cases h)⟩
          case measure => have := HIN.out; simp [intOf]; omega
        | true =>
          obtain ⟨k0, k1, k2, k3⟩ := HFC.out _ hdr
          simp only [Nat.zero_mul, Nat.add_zero] at k0 k1 k2 k3
          have hcel := hcs i (by rw [HL.out]; exact hin)
          obtain ⟨⟨p', f', gg', bb'⟩, hce⟩ : ∃ c, ceAt L i = c := ⟨_, rfl⟩
          rw [hce] at hcel
          obtain ⟨y0, y1, y2, y3⟩ := ce_four (fun j v hv => (hdr.cell (p := ⟨b, off + i * 4 + j, none⟩) hbl).trans (hcel j v hv))
          have HCI := Lib.hid hce
          have HEC := fun W => eq_ce p' f' gg' bb' p f gg bb W
          clear hi hin hwd hdr hcel hce
          by_cases he : (⟨p', f', gg', bb'⟩ : Ce) = ⟨p, f, gg, bb⟩
          · have HK := Lib.hid (show ∀ k, k < i + 1 → ceAt L k = ⟨p, f, gg, bb⟩ from fun k hk => by
              rcases Nat.lt_or_ge k i with h | h
              · exact HALL.out rfl k h
              · obtain rfl : k = i := by omega
                rw [HCI.out, he])
            simp only [decide_eq_true he] at HEC
            clear he
            go_wp2
            go_big_region
            clear HEC x0 x1 x2 x3 x4 x5 y0 y1 y2 y3 k0 k1 k2 k3
            go_wp2
            go_roundw
            case rel => exact ⟨i + 1, true, rfl, by go_num, by have := HIN.out; omega, HSD, Lib.hid (fun _ => HK.out)⟩
            case measure => have := HIN.out; simp [intOf]; omega
          · simp only [decide_eq_false he] at HEC
            clear he
            go_wp2
            go_big_region
            clear HEC x0 x1 x2 x3 x4 x5 y0 y1 y2 y3 k0 k1 k2 k3
            go_wp2
            go_roundw
            case rel => exact ⟨i + 1, false, rfl, by go_num, by have := HIN.out; omega, HSD, Lib.hid (fun h => by cases h)⟩
            case measure => have := HIN.out; simp [intOf]; omega
      · have e1 : decide ((i : Int) < (n : Int)) = false := by simp; omega
        have e1' : decide (i < n) = false := by simp; omega
        obtain rfl : i = n := by omega
        clear hi hin hwd hcs hbl
        cases q with
        | false =>
          go_wp2_with fail
          refine (alive_any _ (HTB.out.below HSB.out HTB.out.big)).mono ?_
          rintro e w9 ⟨rfl, b9⟩
          have HB9 := Lib.hid (HB.out.trans ((HSB.out.trans (b9.mono HSB.out.size)).mono HB.out.size))
          clear b9
          go_wp2
          go_ret
          exact ⟨by rfl, HB9.out⟩
        | true =>
          have hsz := HV1.out (fun k hk => HALL.out rfl k (by rw [HL.out] at hk; exact hk))
          rw [HM3.out, HM5.out] at hsz
          have l1 : IntKind.i64.wrap (7 + (m5 : Int)) = 7 + (m5 : Int) := IntWalk.i64_in _ (by have := HNN.out; have := HSS.out; omega)
          have l2 : decide ((m3 : Int) ≤ 7 + (m5 : Int)) = true := by simp; omega
          clear hsz
          go_wp2_with fail
          refine (alive_any _ (HTB.out.below HSB.out HTB.out.big)).mono ?_
          rintro e w9 ⟨rfl, b9⟩
          have HB9 := Lib.hid (HB.out.trans ((HSB.out.trans (b9.mono HSB.out.size)).mono HB.out.size))
          clear b9
          go_wp2
          go_ret
          exact ⟨by rfl, HB9.out⟩
end Go.Proofs.YtcblohmenfdafaaDoor
