/-
  Proved here: of the laws of patch: alive, PatchFew.
-/
import Derived.Test.YtnejiniiehfmaaaDoorPdh
import Derived.Test.YtnejiniiehfmaaaDoorIl
set_option linter.unusedSimpArgs false
set_option linter.unusedVariables false
namespace Go.Proofs.YtnejiniiehfmaaaDoor
open Go.RowKit
theorem patch_first : patchB 1 1 [blC] 1 1 0 0 true [blC] = [1, 1, 0, 0, 1] := by decide +kernel
theorem isPatch_first : isPatch 1 1 0 0 [blC] [1, 1, 0, 0, 1] 1 1 0 0 true [blC] := ⟨right_first, right_first, lok_bl, patch_first.symm⟩
theorem runs_first5 : isRuns [1, 1, 0, 0, 1] 0 := ⟨by decide, RunsP.done⟩
theorem isRuns_one {bs : List Int} {n m : Nat} (h : isRuns bs n) (k : isRuns bs m) : n = m := h.2.one k.2
theorem bytes5 : Bytes [1, 1, 0, 0, 1] := bytes_of_mem (by decide)
theorem bytes0 : Bytes [] := bytes_of_mem (by decide)
set_option maxRecDepth 100000 in
set_option maxHeartbeats 8000000 in
theorem alive_any (w : World) (hT : Tab w) : Calls Tryd.prog 9 #[] w fun e w' => e = .returned (.bool true) ∧ Below w.heap.size w w' := by
  have HT := Lib.hid hT
  clear hT
  go_enter Tryd.func9, Tryd.ntmps9
  go_wp2_with fail
  refine (p_first _).mono ?_
  rintro e w1 ⟨b, rfl, hrow, hge, hb1⟩
  have hba := (Below.refl w1.heap.size w1).alloc (Nat.le_refl _) (.cells #[.int .i64 1, .int .i64 1, .slice (some ⟨b, 0, none⟩) 1 1, .int .i64 0, .int .i64 0, .bool true] 24)
  have HB1 := Lib.hid (hb1.trans (hba.mono hb1.size))
  have HR1 := Lib.hid ((first_cr hrow).below hba)
  have HV1 := Lib.hid (heap_alloc_new w1 (.cells #[.int .i64 1, .int .i64 1, .slice (some ⟨b, 0, none⟩) 1 1, .int .i64 0, .int .i64 0, .bool true] 24))
  obtain ⟨vb, hvb⟩ : ∃ t, w1.heap.size = t := ⟨_, rfl⟩
  clear hrow hge hb1 hba
  go_upto_region 2 with fail
  try simp only [hvb]
  simp only [hvb] at HV1
  generalize (w1.alloc (.cells #[.int .i64 1, .int .i64 1, .slice (some ⟨b, 0, none⟩) 1 1, .int .i64 0, .int .i64 0, .bool true] 24)) = U at HB1 HR1 HV1 ⊢
  clear hvb
  have HTU := Lib.hid (HT.out.below HB1.out HT.out.big)
  obtain ⟨x0, x1, x2, x3, x4, x5⟩ := six_cells HV1.out
  go_wp2_with fail
  refine (p_diff HR1.out HR1.out rfl rfl (by decide) ok_bl ok_bl HTU.out 1 1 0 0 true 1 1 0 0 true right_first right_first).mono ?_
  rintro e w2 ⟨u, rfl, o2⟩
  rw [patch_first] at o2
  obtain ⟨A, c, rfl, hc1, hc2, hrb⟩ := bytes8 o2
  have HB2 := Lib.hid o2.below
  have HRB := Lib.hid hrb
  have HCC := Lib.hid (And.intro hc1 hc2)
  have HV2 := Lib.hid ((o2.below.block _ (lt_of_block HV1.out)).trans HV1.out)
  clear o2 hc1 hc2 hrb x0 x1 x2 x3 x4 x5
  obtain ⟨x0, x1, x2, x3, x4, x5⟩ := six_cells HV2.out
  go_wp2_with fail
  refine (p_apply (HR1.out.below HB2.out) rfl (by decide) ok_bl 1 1 0 0 true HRB.out rfl (by decide) HCC.out.1 HCC.out.2 bytes5 (HTU.out.below HB2.out HTU.out.big)).mono ?_
  intro e w3 hap
  rcases hap with ⟨R, C, row, col, vis, L, bb, N, cc, hp, hu, rfl, hr, hn, hg, hb⟩ | ⟨hno, _⟩
  rotate_left
  · exact absurd isPatch_first (hno 1 1 0 0 true [blC])
  obtain ⟨rfl, rfl, rfl, rfl, rfl, rfl⟩ := hu _ _ _ _ _ _ isPatch_first
  obtain rfl : N = 1 := hn.symm
  have hba := (Below.refl w3.heap.size w3).alloc (Nat.le_refl _) (.cells #[.int .i64 1, .int .i64 1, .slice (some ⟨bb, 0, none⟩) 1 cc, .int .i64 0, .int .i64 0, .bool true] 24)
  have hbz := hb.trans (hba.mono hb.size)
  have HB3 := Lib.hid (HB2.out.trans (hbz.mono HB2.out.size))
  have HR3 := Lib.hid ((hr.below hba).cr)
  have HV3 := Lib.hid ((hbz.block _ (lt_of_block HV2.out)).trans HV2.out)
  have HW3 := Lib.hid (heap_alloc_new w3 (.cells #[.int .i64 1, .int .i64 1, .slice (some ⟨bb, 0, none⟩) 1 cc, .int .i64 0, .int .i64 0, .bool true] 24))
  have HRI := Lib.hid (show RI .u8 (w3.alloc (.cells #[.int .i64 1, .int .i64 1, .slice (some ⟨bb, 0, none⟩) 1 cc, .int .i64 0, .int .i64 0, .bool true] 24)) A [1, 1, 0, 0, 1] from RI.below (by exact HRB.out) hbz)
  have HRB3 := Lib.hid ((RB.keep' (HRB.out.below hbz) hbz.size : RB (w3.alloc (.cells #[.int .i64 1, .int .i64 1, .slice (some ⟨bb, 0, none⟩) 1 cc, .int .i64 0, .int .i64 0, .bool true] 24)) (w3.alloc (.cells #[.int .i64 1, .int .i64 1, .slice (some ⟨bb, 0, none⟩) 1 cc, .int .i64 0, .int .i64 0, .bool true] 24)).heap.size A [1, 1, 0, 0, 1]))
  obtain ⟨tb, htb⟩ : ∃ t, w3.heap.size = t := ⟨_, rfl⟩
  clear hp hu hr hn hg hb hba hbz x0 x1 x2 x3 x4 x5 HRB
  go_upto_region 4 with fail
  try simp only [htb]
  simp only [htb] at HW3
  generalize (w3.alloc (.cells #[.int .i64 1, .int .i64 1, .slice (some ⟨bb, 0, none⟩) 1 cc, .int .i64 0, .int .i64 0, .bool true] 24)) = X at HB3 HR3 HV3 HW3 HRI HRB3 ⊢
  clear htb
  go_wp2_with fail
  refine (p_runs HRB3.out rfl (by decide) HCC.out.1 HCC.out.2 bytes5 (HTU.out.below HB3.out HTU.out.big)).mono ?_
  rintro e w4 ⟨hrr, b4⟩
  rcases hrr with ⟨k, hk, rfl⟩ | ⟨hno, _⟩
  rotate_left
  · exact absurd runs_first5 (hno 0)
  obtain rfl : k = 0 := isRuns_one hk runs_first5
  have HB4 := Lib.hid (HB3.out.trans (b4.mono HB3.out.size))
  have HV4 := Lib.hid ((b4.block _ (lt_of_block HV3.out)).trans HV3.out)
  have HW4 := Lib.hid ((b4.block _ (lt_of_block HW3.out)).trans HW3.out)
  have HR4 := Lib.hid (HR3.out.below b4)
  have HRI4 := Lib.hid (RI.below HRI.out b4)
  clear hk b4 HB3 HV3 HW3 HR3 HRI HRB3
  obtain ⟨x0, x1, x2, x3, x4, x5⟩ := six_cells HV4.out
  go_wp2_with fail
  refine (p_apply (A := none) (cap := 0) (HR1.out.below HB4.out) rfl (by decide) ok_bl 1 1 0 0 true (fun h => absurd h (by simp)) (bs := []) rfl (by decide) (Nat.le_refl _) (by unfold maxLen; omega) bytes0 (HTU.out.below HB4.out HTU.out.big)).mono ?_
  intro e w5 hap
  rcases hap with ⟨R, C, row, col, vis, L, bb5, N, cc5, hp, hu, rfl, hr, hn, hg, hb⟩ | ⟨hno, rfl, hb⟩
  · have := (isPatch_head hp).1
    exact absurd this (by decide)
  have hba := (Below.refl w5.heap.size w5).alloc (Nat.le_refl _) (.cells #[.int .i64 0, .int .i64 0, .slice none 0 0, .int .i64 0, .int .i64 0, .bool false] 24)
  have hbz := hb.trans (hba.mono hb.size)
  have HB5 := Lib.hid (HB4.out.trans (hbz.mono HB4.out.size))
  have HV5 := Lib.hid ((hbz.block _ (lt_of_block HV4.out)).trans HV4.out)
  have HW5 := Lib.hid ((hbz.block _ (lt_of_block HW4.out)).trans HW4.out)
  have HR5 := Lib.hid (HR4.out.below hbz)
  have HRI5 := Lib.hid (RI.below HRI4.out hbz)
  clear hno hb hba hbz x0 x1 x2 x3 x4 x5
  go_upto_region 6 with fail
  generalize (w5.alloc (.cells #[.int .i64 0, .int .i64 0, .slice none 0 0, .int .i64 0, .int .i64 0, .bool false] 24)) = Y at HB5 HV5 HW5 HR5 HRI5 ⊢
  have hcv : (convert 32 9 (.slice A 5 c)).run Tryd.prog Y = .ok (.string ⟨#[1, 1, 0, 0, 1]⟩) Y := conv_text rfl c HRI5.out
  obtain ⟨x0, x1, x2, x3, x4, x5⟩ := six_cells HV5.out
  obtain ⟨y0, y1, y2, y3, y4, y5⟩ := six_cells HW5.out
  go_wp2_with fail
  refine (p_viewsame (HR1.out.below HB5.out) HR5.out rfl rfl (by decide) 1 1 0 0 1 1 0 0 true true).mono ?_
  rintro e w6 ⟨rfl, b6⟩
  rw [same_first]
  have HB6 := Lib.hid (HB1.out.trans ((HB5.out.trans (b6.mono HB5.out.size)).mono HB1.out.size))
  clear b6
  go_wp2
  go_ret
  exact ⟨rfl, HB6.out⟩
theorem cellsB_bytes : ∀ (L : List Ce), LOk L → ∀ x ∈ cellsB L, 0 ≤ x ∧ x < 256
  | [], _, x, hx => by cases hx
  | c :: L, h, x, hx => by
    rcases List.mem_append.1 hx with h1 | h1
    · exact cellB_bytes (h c (by simp)).1 x h1
    · exact cellsB_bytes L (fun y hy => h y (List.mem_cons_of_mem _ hy)) x h1
theorem flushB_bytes {g : Nat} {R : List Ce} (h : LOk R) : ∀ x ∈ flushB g R, 0 ≤ x ∧ x < 256 := fun x hx => by
  unfold flushB at hx
  split at hx
  · cases hx
  · rcases List.mem_append.1 hx with h1 | h1
    · exact numB_byte _ x h1
    · rcases List.mem_append.1 h1 with h2 | h2
      · exact numB_byte _ x h2
      · exact cellsB_bytes R h x h2
theorem dB_bytes : ∀ (O L : List Ce) (g : Nat) (R : List Ce), LOk R → LOk L → ∀ x ∈ dB g R O L, 0 ≤ x ∧ x < 256
  | [], _, g, R, hR, _, x, hx => flushB_bytes hR x hx
  | _ :: _, [], g, R, hR, _, x, hx => flushB_bytes hR x hx
  | o :: O, l :: L, g, R, hR, hL, x, hx => by
    have hL2 : LOk L := fun y hy => hL y (List.mem_cons_of_mem _ hy)
    unfold dB at hx
    split at hx
    · rcases List.mem_append.1 hx with h1 | h1
      · exact flushB_bytes hR x h1
      · exact dB_bytes O L _ [] (fun y hy => by cases hy) hL2 x h1
    · exact dB_bytes O L g (R ++ [l]) (fun y hy => by
        rcases List.mem_append.1 hy with h1 | h1
        · exact hR y h1
        · rw [List.mem_singleton.1 h1]; exact hL l (by simp)) hL2 x hx
theorem patchB_bytes {Ra Ca rowa cola R C row col : Int} {La L : List Ce} {vis : Bool} (ha : rightW Ra Ca rowa cola La = true) (hb : rightW R C row col L = true) (ho : ∀ c ∈ L, CeOk c) : Bytes (patchB Ra Ca La R C row col vis L) := bytes_of_mem fun x hx => by
  obtain ⟨_, _, b3, _, _, hb⟩ := rightW_parts hb
  unfold patchB at hx
  rcases List.mem_append.1 hx with h1 | h1
  · simp at h1
    rcases h1 with h1 | h1 | h1 | h1 | h1
    · omega
    · omega
    · omega
    · omega
    · subst h1; cases vis <;> simp
  · exact dB_bytes _ L 0 [] (fun y hy => by cases hy) (fun c hc => ⟨ho c hc, b3 c hc⟩) x h1
theorem patch_runs {Ra Ca rowa cola R C row col : Int} {La L : List Ce} {vis : Bool} (ha : rightW Ra Ca rowa cola La = true) (hb : rightW R C row col L = true) (ho : ∀ c ∈ L, CeOk c) :
    ∃ n, isRuns (patchB Ra Ca La R C row col vis L) n ∧ n ≤ cnt (baseL Ra Ca La R.toNat C.toNat) L ∧ (n = 0 ↔ cnt (baseL Ra Ca La R.toNat C.toNat) L = 0) ∧ (patchB Ra Ca La R C row col vis L).length ≤ 5 + 17 * cnt (baseL Ra Ca La R.toNat C.toNat) L ∧ 5 + n ≤ (patchB Ra Ca La R C row col vis L).length ∧ cnt (baseL Ra Ca La R.toNat C.toNat) L ≤ L.length := by
  obtain ⟨_, _, b3, b4, _, _⟩ := rightW_parts hb
  obtain ⟨n, h1, h2, h3, h4, h5, h6⟩ := runs_of L.length (baseL Ra Ca La R.toNat C.toNat) L (Nat.le_refl _) (base_len ha hb) (by omega) (fun c hc => ⟨ho c hc, b3 c hc⟩)
  have hl : (patchB Ra Ca La R C row col vis L).length = 5 + (dB 0 [] (baseL Ra Ca La R.toNat C.toNat) L).length := by unfold patchB; rw [List.length_append]; rfl
  exact ⟨n, ⟨by omega, h1 [R, C, row, col, if vis = true then 1 else 0]⟩, h2, h3, by omega, by omega, h6⟩
theorem base_same {Ra Ca : Int} {La : List Ce} (h : 0 ≤ Ra) (h2 : 0 ≤ Ca) : baseL Ra Ca La Ra.toNat Ca.toNat = La := by
  unfold baseL
  rw [if_pos ⟨by omega, by omega⟩]
theorem cnt_cons {A B : List Ce} {i : Nat} (ha : i < A.length) (hb : i < B.length) : cnt (A.drop i) (B.drop i) = (if ceAt A i = ceAt B i then 0 else 1) + cnt (A.drop (i + 1)) (B.drop (i + 1)) := by
  rw [drop_cons ha, drop_cons hb]; rfl
set_option maxRecDepth 100000 in
set_option maxHeartbeats 16000000 in
theorem few_any {w : World} {v1 v2 : Value} (hv1 : VwV w v1) (hv2 : VwV w v2) (hT : Tab w) : Calls Tryd.prog 6 #[v1, v2] w fun e w' => e = .returned (.bool true) ∧ Below w.heap.size w w' := by
  obtain ⟨Ra, Ca, A, na, ca, La, rowa, cola, visa, rfl, hs, _, _, _, _⟩ := hv1
  obtain ⟨R, C, B, nb, cb, L, row, col, vis, rfl, ht, _, _, _, _⟩ := hv2
  have hla := hs.len_eq
  have hlb := ht.len_eq
  have hma : na ≤ 9223372036854775807 := by have := hs.le; have := hs.max; unfold maxLen at this; omega
  have hmb : nb ≤ 9223372036854775807 := by have := ht.le; have := ht.max; unfold maxLen at this; omega
  have hA := hs.cr
  have hB := ht.cr
  have hoa := hs.ok
  have hob := ht.ok
  have hcb := ht.le
  have hba := (Below.refl w.heap.size w).alloc (Nat.le_refl _) (.cells #[.int .i64 Ra, .int .i64 Ca, .slice A na ca, .int .i64 rowa, .int .i64 cola, .bool visa] 24)
  have hbb := (Below.refl (w.alloc (.cells #[.int .i64 Ra, .int .i64 Ca, .slice A na ca, .int .i64 rowa, .int .i64 cola, .bool visa] 24)).heap.size (w.alloc (.cells #[.int .i64 Ra, .int .i64 Ca, .slice A na ca, .int .i64 rowa, .int .i64 cola, .bool visa] 24))).alloc (Nat.le_refl _) (.cells #[.int .i64 R, .int .i64 C, .slice B nb cb, .int .i64 row, .int .i64 col, .bool vis] 24)
  have HB0 := hba.trans (hbb.mono hba.size)
  have HC0 := (hbb.block w.heap.size (by simp)).trans (heap_alloc_new w (.cells #[.int .i64 Ra, .int .i64 Ca, .slice A na ca, .int .i64 rowa, .int .i64 cola, .bool visa] 24))
  have HC1 := heap_alloc_new (w.alloc (.cells #[.int .i64 Ra, .int .i64 Ca, .slice A na ca, .int .i64 rowa, .int .i64 cola, .bool visa] 24)) (.cells #[.int .i64 R, .int .i64 C, .slice B nb cb, .int .i64 row, .int .i64 col, .bool vis] 24)
  obtain ⟨vb, hvb⟩ : ∃ b, w.heap.size = b := ⟨_, rfl⟩
  rw [show (w.alloc (.cells #[.int .i64 Ra, .int .i64 Ca, .slice A na ca, .int .i64 rowa, .int .i64 cola, .bool visa] 24)).heap.size = w.heap.size + 1 by simp] at HC1
  have HRA := Lib.hid (fun (W : World) (hb : Below w.heap.size w W) => p_viewright (cap := ca) (hA.below hb) hla hma hoa Ra Ca rowa cola visa)
  have HRB := Lib.hid (fun (W : World) (hb : Below w.heap.size w W) => p_viewright (cap := cb) (hB.below hb) hlb hmb hob R C row col vis)
  have HCR := Lib.hid (fun (W : World) (hb : Below w.heap.size w W) => And.intro (hA.below hb) (hB.below hb))
  have HLL := Lib.hid (show La.length = na ∧ L.length = nb ∧ nb ≤ cb from ⟨hla, hlb, hcb⟩)
  have HOK := Lib.hid (And.intro hoa hob)
  have HT := Lib.hid hT
  obtain ⟨qa, hqa⟩ : ∃ q, rightW Ra Ca rowa cola La = q := ⟨_, rfl⟩
  obtain ⟨qb, hqb⟩ : ∃ q, rightW R C row col L = q := ⟨_, rfl⟩
  rw [hqa] at HRA
  rw [hqb] at HRB
  have HQA := Lib.hid hqa
  have HQB := Lib.hid hqb
  clear hs ht hla hlb hma hmb hA hB hoa hob hT hba hbb hqa hqb hcb
  go_enter Tryd.func6, Tryd.ntmps6
  go_upto_region 1 with fail
  simp only [hvb] at HC0 HC1 ⊢
  generalize ((w.alloc (.cells #[.int .i64 Ra, .int .i64 Ca, .slice A na ca, .int .i64 rowa, .int .i64 cola, .bool visa] 24)).alloc (.cells #[.int .i64 R, .int .i64 C, .slice B nb cb, .int .i64 row, .int .i64 col, .bool vis] 24)) = U at HB0 HC0 HC1 ⊢
  obtain ⟨x0, x1, x2, x3, x4, x5⟩ := six_cells HC0
  obtain ⟨y0, y1, y2, y3, y4, y5⟩ := six_cells HC1
  have HB := Lib.hid HB0
  have HCA := Lib.hid HC0
  have HCB := Lib.hid HC1
  clear HB0 HC0 HC1 hvb
  go_wp2_with fail
  refine (HRA.out _ HB.out).mono ?_
  rintro e w1 ⟨rfl, b1⟩
  have HB1 := Lib.hid (HB.out.trans (b1.mono HB.out.size))
  have HCA1 := Lib.hid ((b1.block _ (lt_of_block HCA.out)).trans HCA.out)
  have HCB1 := Lib.hid ((b1.block _ (lt_of_block HCB.out)).trans HCB.out)
  clear b1 x0 x1 x2 x3 x4 x5 y0 y1 y2 y3 y4 y5 HCA HCB HRA HB
  cases qa with
  | false =>
    go_wp2_with fail
    refine (alive_any _ (HT.out.below HB1.out HT.out.big)).mono ?_
    rintro e w9 ⟨rfl, b9⟩
    have HB9 := Lib.hid (HB1.out.trans (b9.mono HB1.out.size))
    clear b9
    go_wp2
    go_ret
    exact ⟨by rfl, HB9.out⟩
  | true =>
    obtain ⟨y0, y1, y2, y3, y4, y5⟩ := six_cells HCB1.out
    go_wp2_with fail
    refine (HRB.out _ HB1.out).mono ?_
    rintro e w2 ⟨rfl, b2⟩
    have HB2 := Lib.hid (HB1.out.trans (b2.mono HB1.out.size))
    have HCA2 := Lib.hid ((b2.block _ (lt_of_block HCA1.out)).trans HCA1.out)
    have HCB2 := Lib.hid ((b2.block _ (lt_of_block HCB1.out)).trans HCB1.out)
    clear b2 y0 y1 y2 y3 y4 y5 HCA1 HCB1 HRB HB1
    cases qb with
    | false =>
      go_wp2_with fail
      refine (alive_any _ (HT.out.below HB2.out HT.out.big)).mono ?_
      rintro e w9 ⟨rfl, b9⟩
      have HB9 := Lib.hid (HB2.out.trans (b9.mono HB2.out.size))
      clear b9
      go_wp2
      go_ret
      exact ⟨by rfl, HB9.out⟩
    | true =>
      obtain ⟨x0, x1, x2, x3, x4, x5⟩ := six_cells HCA2.out
      obtain ⟨y0, y1, y2, y3, y4, y5⟩ := six_cells HCB2.out
      by_cases h0 : Ra = R
      · have p0 : (Ra != R) = false := by simpa using h0
        have p0' : decide (Ra = R) = true := by simpa using h0
        have p0'' : (Ra == R) = true := by simpa using h0
        by_cases h1 : Ca = C
        · have p1 : (Ca != C) = false := by simpa using h1
          have p1' : decide (Ca = C) = true := by simpa using h1
          have p1'' : (Ca == C) = true := by simpa using h1
          have hnn : na = nb := by
            obtain ⟨_, a2, _, _, _, _⟩ := rightW_parts HQA.out
            obtain ⟨_, b2, _, _, _, _⟩ := rightW_parts HQB.out
            rw [h0, h1] at a2
            have := HLL.out
            omega
          subst h0 h1 hnn
          clear p0 p0' p0'' p1 p1' p1''
          have z0 : (Ra != Ra) = false := by simp
          have z1 : (Ca != Ca) = false := by simp
          have z2 : ((na : Int) != (na : Int)) = false := by simp
          have z3 : (na != na) = false := by simp
          have hra := rightW_parts HQA.out
          obtain ⟨k, r1, r2, r3, r4, r5, r6⟩ := patch_runs (vis := vis) HQA.out HQB.out HOK.out.2
          rw [base_same (by omega) (by omega)] at r2 r3 r4 r6
          have HLN := Lib.hid (show na ≤ 480 ∧ 1 ≤ na from by rw [← HLL.out.1]; exact ⟨hra.2.2.2.1, hra.2.2.2.2.1⟩)
          obtain ⟨P, hP⟩ : ∃ P, patchB Ra Ca La Ra Ca row col vis L = P := ⟨_, rfl⟩
          obtain ⟨ct, hct⟩ : ∃ c, cnt La L = c := ⟨_, rfl⟩
          rw [hP] at r1 r4 r5
          rw [hct] at r2 r3 r4 r6
          obtain ⟨m, hm⟩ : ∃ m, P.length = m := ⟨_, rfl⟩
          rw [hm] at r4 r5
          have HRK := Lib.hid r1
          have HNUM := Lib.hid (show k ≤ ct ∧ (k = 0 ↔ ct = 0) ∧ m ≤ 5 + 17 * ct ∧ 5 + k ≤ m ∧ ct ≤ 480 from ⟨r2, r3, r4, r5, by have := HLL.out.2.1; have := HLN.out; omega⟩)
          have HCT := Lib.hid (fun (_ : Unit) => hct)
          have HPM := Lib.hid (show m ≤ 8165 from by have := patchB_len (vis := vis) HQA.out HQB.out HOK.out.2; rw [hP, hm] at this; exact this.2)
          have HDF := Lib.hid (hP ▸ p_diff (cb := cb) (ca := ca) (HCR.out w2 HB2.out).1 (HCR.out w2 HB2.out).2 HLL.out.1 HLL.out.2.1 HLL.out.2.2 HOK.out.1 HOK.out.2 (HT.out.below HB2.out HT.out.big) Ra Ca rowa cola visa Ra Ca row col vis HQA.out HQB.out)
          have HPL := Lib.hid hm
          have HPB := Lib.hid (show Bytes P from hP ▸ patchB_bytes HQA.out HQB.out HOK.out.2)
          clear r1 r2 r3 r4 r5 r6 hra hP hct hm
          go_wp2_with fail
          refine HDF.out.mono ?_
          rintro e w3 ⟨u, rfl, o3⟩
          obtain ⟨A3, c3, rfl, hc1, hc2, hrb⟩ := bytes8 o3
          rw [HPL.out] at hc1 ⊢
          have HB3 := Lib.hid (HB2.out.trans (o3.below.mono HB2.out.size))
          have HCA3 := Lib.hid ((o3.below.block _ (lt_of_block HCA2.out)).trans HCA2.out)
          have HCB3 := Lib.hid ((o3.below.block _ (lt_of_block HCB2.out)).trans HCB2.out)
          have HRU := Lib.hid (p_runs hrb HPL.out (by have := HPM.out; omega) hc1 hc2 HPB.out (HT.out.below HB3.out HT.out.big))
          clear o3 hc1 hc2 hrb x0 x1 x2 x3 x4 x5 y0 y1 y2 y3 y4 y5 HCA2 HCB2 HDF HB2 z0 z1 z2 z3
          go_wp2_with fail
          refine HRU.out.mono ?_
          rintro e w4 ⟨hrr, b4⟩
          rcases hrr with ⟨k', hk, rfl⟩ | ⟨hno, _⟩
          rotate_left
          · exact absurd HRK.out (hno k)
          obtain rfl : k = k' := isRuns_one HRK.out hk
          have HB4 := Lib.hid (HB3.out.trans (b4.mono HB3.out.size))
          have HCA4 := Lib.hid ((b4.block _ (lt_of_block HCA3.out)).trans HCA3.out)
          have HCB4 := Lib.hid ((b4.block _ (lt_of_block HCB3.out)).trans HCB3.out)
          clear hk b4 HCA3 HCB3 HB3 HRU
          go_wp2
          go_loopw [9, 10] (fun ov iv wr => ∃ (o i : Nat), ov = .int .i64 o ∧ iv = .int .i64 i ∧ i ≤ na ∧ Hid (o + cnt (La.drop i) (L.drop i) = ct) ∧ Hid (Below w4.heap.size w4 wr)) (fun _ iv _ => na - (intOf iv).toNat)
          case atStart => exact ⟨0, 0, rfl, rfl, by omega, Lib.hid (by rw [List.drop_zero, List.drop_zero, HCT.out ()]; omega), Lib.hid (Below.refl _ _)⟩
          case round =>
            obtain ⟨o, i, rfl, rfl, hi, HC, HS⟩ := hrel
            by_cases hin : i < na
            · have e1 : decide ((i : Int) < (na : Int)) = true := by simp; omega
              have e1' : decide (i < na) = true := by simp; omega
              have g1 : (0 : Int) ≤ (i : Int) := by omega
              have g2 : (i : Int) < (na : Int) := by omega
              have wr1 : IntKind.i64.wrap ((i : Int) + 1) = (i : Int) + 1 := IntWalk.i64_in _ (by have := HLN.out; omega)
              have wo1 : IntKind.i64.wrap ((o : Int) + 1) = (o : Int) + 1 := IntWalk.i64_in _ (by have := HC.out; have := HNUM.out; omega)
              obtain ⟨b, off, rfl, hbl, hcs⟩ := (HCR.out _ HB4.out).1 (by rw [HLL.out.1]; omega)
              obtain ⟨b', off', rfl, hbl', hcs'⟩ := (HCR.out _ HB4.out).2 (by rw [HLL.out.2.1]; omega)
              have hcel := hcs i (by rw [HLL.out.1]; omega)
              have hcel' := hcs' i (by rw [HLL.out.2.1]; omega)
              have hbw := HS.out.drew
              have hcc := cnt_cons (A := La) (B := L) (i := i) (by rw [HLL.out.1]; omega) (by rw [HLL.out.2.1]; omega)
              obtain ⟨⟨p, f, gg, bb⟩, hce⟩ : ∃ c, ceAt La i = c := ⟨_, rfl⟩
              obtain ⟨⟨p', f', gg', bb'⟩, hce'⟩ : ∃ c, ceAt L i = c := ⟨_, rfl⟩
              rw [hce] at hcel hcc
              rw [hce'] at hcel' hcc
              obtain ⟨k0, k1, k2, k3⟩ := ce_four (fun j v hv => (hbw.cell (p := ⟨b, off + i * 4 + j, none⟩) hbl).trans (hcel j v hv))
              obtain ⟨m0, m1, m2, m3⟩ := ce_four (fun j v hv => (hbw.cell (p := ⟨b', off' + i * 4 + j, none⟩) hbl').trans (hcel' j v hv))
              obtain ⟨x0, x1, x2, x3, x4, x5⟩ := six_cells ((HS.out.block _ (lt_of_block HCA4.out)).trans HCA4.out)
              go_upto_region 9 with fail
              clear x0 x1 x2 x3 x4 x5
              obtain ⟨x0, x1, x2, x3, x4, x5⟩ := six_cells ((hbw.block _ (lt_of_block HCA4.out)).trans HCA4.out)
              obtain ⟨y0, y1, y2, y3, y4, y5⟩ := six_cells ((hbw.block _ (lt_of_block HCB4.out)).trans HCB4.out)
              have HEC := fun W => eq_ce p f gg bb p' f' gg' bb' W
              have HBW := Lib.hid hbw
              have HIN := Lib.hid hin
              have HCC := Lib.hid hcc
              clear hbl hbl' hcs hcs' hcel hcel' hbw hce hce' hcc hi hin
              by_cases he : (⟨p, f, gg, bb⟩ : Ce) = ⟨p', f', gg', bb'⟩
              · simp only [decide_eq_true he] at HEC
                have HC2 := Lib.hid (show o + cnt (La.drop (i + 1)) (L.drop (i + 1)) = ct from by have := HC.out; rw [HCC.out, if_pos he] at this; omega)
                clear he HC HCC
                go_big_region
                clear HEC k0 k1 k2 k3 m0 m1 m2 m3 x0 x1 x2 x3 x4 x5 y0 y1 y2 y3 y4 y5
                go_wp2
                go_roundw
                case rel => exact ⟨o, i + 1, rfl, by go_num, by have := HIN.out; omega, HC2, HBW⟩
                case measure => have := HIN.out; simp [intOf]; omega
              · simp only [decide_eq_false he] at HEC
                have HC2 := Lib.hid (show (o + 1) + cnt (La.drop (i + 1)) (L.drop (i + 1)) = ct from by have := HC.out; rw [HCC.out, if_neg he] at this; omega)
                clear he HC HCC
                go_big_region
                clear HEC k0 k1 k2 k3 m0 m1 m2 m3 x0 x1 x2 x3 x4 x5 y0 y1 y2 y3 y4 y5
                go_wp2
                go_roundw
                case rel => exact ⟨o + 1, i + 1, by go_num, by go_num, by have := HIN.out; omega, HC2, HBW⟩
                case measure => have := HIN.out; simp [intOf]; omega
            · have e1 : decide ((i : Int) < (na : Int)) = false := by simp; omega
              have e1' : decide (i < na) = false := by simp; omega
              have hoc : o = ct := by
                have := HC.out
                rw [List.drop_eq_nil_of_le (by rw [HLL.out.1]; omega)] at this
                simpa [cnt] using this
              subst hoc
              obtain ⟨x0, x1, x2, x3, x4, x5⟩ := six_cells ((HS.out.block _ (lt_of_block HCA4.out)).trans HCA4.out)
              have l1 : decide ((k : Int) ≤ (o : Int)) = true := by simp; exact HNUM.out.1
              have l1' : decide (k ≤ o) = true := by simp; exact HNUM.out.1
              have l5 : IntKind.i64.wrap (17 * (o : Int)) = 17 * (o : Int) := IntWalk.i64_in _ (by have := HNUM.out; omega)
              have l6 : IntKind.i64.wrap (5 + 17 * (o : Int)) = 5 + 17 * (o : Int) := IntWalk.i64_in _ (by have := HNUM.out; omega)
              have l7 : decide ((m : Int) ≤ 5 + 17 * (o : Int)) = true := by simp; have := HNUM.out; omega
              have HBS := Lib.hid (HB4.out.trans (HS.out.mono HB4.out.size))
              clear hi hin
              rcases Nat.eq_zero_or_pos k with hk0 | hk0
              · have ho0 : o = 0 := HNUM.out.2.1.1 hk0
                have l3 : decide ((0 : Int) < (k : Int)) = false := by simp; omega
                have l3' : decide ((k : Int) > 0) = false := l3
                have l3n : decide (0 < k) = false := by simp; omega
                have l4 : decide ((0 : Int) < (o : Int)) = false := by simp; omega
                have l4' : decide ((o : Int) > 0) = false := l4
                have l4n : decide (0 < o) = false := by simp; omega
                clear hk0 ho0
                go_wp2_with fail
                refine (alive_any _ (HT.out.below HBS.out HT.out.big)).mono ?_
                rintro e w9 ⟨rfl, b9⟩
                have HB9 := Lib.hid (HBS.out.trans (b9.mono HBS.out.size))
                clear b9
                go_wp2
                go_ret
                exact ⟨by rfl, HB9.out⟩
              · have ho0 : 0 < o := by have := HNUM.out.2.1; omega
                have l3 : decide ((0 : Int) < (k : Int)) = true := by simp; omega
                have l3' : decide ((k : Int) > 0) = true := l3
                have l3n : decide (0 < k) = true := by simp; omega
                have l4 : decide ((0 : Int) < (o : Int)) = true := by simp; omega
                have l4' : decide ((o : Int) > 0) = true := l4
                have l4n : decide (0 < o) = true := by simp; omega
                clear hk0 ho0
                go_wp2_with fail
                refine (alive_any _ (HT.out.below HBS.out HT.out.big)).mono ?_
                rintro e w9 ⟨rfl, b9⟩
                have HB9 := Lib.hid (HBS.out.trans (b9.mono HBS.out.size))
                clear b9
                go_wp2
                go_ret
                exact ⟨by rfl, HB9.out⟩
        · have p1 : (Ca != C) = true := by simpa using h1
          have p1' : decide (Ca = C) = false := by simpa using h1
          have p1'' : (Ca == C) = false := by simpa using h1
          clear h0 h1
          go_wp2_with fail
          refine (alive_any _ (HT.out.below HB2.out HT.out.big)).mono ?_
          rintro e w9 ⟨rfl, b9⟩
          have HB9 := Lib.hid (HB2.out.trans (b9.mono HB2.out.size))
          clear b9
          go_wp2
          go_ret
          exact ⟨by rfl, HB9.out⟩
      · have p0 : (Ra != R) = true := by simpa using h0
        have p0' : decide (Ra = R) = false := by simpa using h0
        have p0'' : (Ra == R) = false := by simpa using h0
        clear h0
        go_wp2_with fail
        refine (alive_any _ (HT.out.below HB2.out HT.out.big)).mono ?_
        rintro e w9 ⟨rfl, b9⟩
        have HB9 := Lib.hid (HB2.out.trans (b9.mono HB2.out.size))
        clear b9
        go_wp2
        go_ret
        exact ⟨by rfl, HB9.out⟩
end Go.Proofs.YtnejiniiehfmaaaDoor
