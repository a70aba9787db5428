/-
  Proved here: of the laws of patch: alive, PatchFew.
-/
import Derived.Test.YtjihcpnaebghnaaDoorPdh
import Derived.Test.YtjihcpnaebghnaaDoorIl
set_option linter.unusedSimpArgs false
set_option linter.unusedVariables false
namespace Go.Proofs.YtjihcpnaebghnaaDoor
open Go.RowKit
theorem patch_first : patchB 1 1 [blC] 1 1 0 0 true [blC] = [1, 1, 0, 0, 1] := by decide +kernel
theorem isPatch_first : isPatch 1 1 0 0 [blC] [1, 1, 0, 0, 1] 1 1 0 0 true [blC] := ⟨right_first, right_first, lok_bl, patch_first.symm⟩
theorem runs_first5 : isRuns [1, 1, 0, 0, 1] 0 := ⟨by decide, RunsP.done⟩
theorem isRuns_one {bs : List Int} {n m : Nat} (h : isRuns bs n) (k : isRuns bs m) : n = m := h.2.one k.2
theorem bytes5 : Bytes [1, 1, 0, 0, 1] := bytes_of_mem (by decide)
theorem bytes0 : Bytes [] := bytes_of_mem (by decide)
set_option maxRecDepth 100000 in
set_option maxHeartbeats 8000000 in
theorem alive_any (w : World) (hT : Tab w) : Calls Tryd.prog 6 #[] w fun e w' => e = .returned (.bool true) ∧ Below w.heap.size w w' := by
  have HT := Lib.hid hT
  clear hT
  go_enter Tryd.func6, Tryd.ntmps6
  go_wp2_with fail
  refine (p_first _).mono ?_
  rintro e w1 ⟨b, rfl, hrow, hge, hb1⟩
  have hba := (Below.refl w1.heap.size w1).alloc (Nat.le_refl _) (.cells #[.int .i64 1, .int .i64 1, .slice (some ⟨b, 0, none⟩) 1 1, .int .i64 0, .int .i64 0, .bool true] 24)
  have HB1 := Lib.hid (hb1.trans (hba.mono hb1.size))
  have HR1 := Lib.hid ((first_cr hrow).below hba)
  have HV1 := Lib.hid (heap_alloc_new w1 (.cells #[.int .i64 1, .int .i64 1, .slice (some ⟨b, 0, none⟩) 1 1, .int .i64 0, .int .i64 0, .bool true] 24))
  obtain ⟨vb, hvb⟩ : ∃ t, w1.heap.size = t := ⟨_, rfl⟩
  clear hrow hge hb1 hba
  go_upto_region 2 with fail
  try simp only [hvb]
  simp only [hvb] at HV1
  generalize (w1.alloc (.cells #[.int .i64 1, .int .i64 1, .slice (some ⟨b, 0, none⟩) 1 1, .int .i64 0, .int .i64 0, .bool true] 24)) = U at HB1 HR1 HV1 ⊢
  clear hvb
  have HTU := Lib.hid (HT.out.below HB1.out HT.out.big)
  obtain ⟨x0, x1, x2, x3, x4, x5⟩ := six_cells HV1.out
  go_wp2_with fail
  refine (p_diff HR1.out HR1.out rfl rfl (by decide) ok_bl ok_bl HTU.out 1 1 0 0 true 1 1 0 0 true right_first right_first).mono ?_
  rintro e w2 ⟨u, rfl, o2⟩
  rw [patch_first] at o2
  obtain ⟨A, c, rfl, hc1, hc2, hrb⟩ := bytes8 o2
  have HB2 := Lib.hid o2.below
  have HRB := Lib.hid hrb
  have HCC := Lib.hid (And.intro hc1 hc2)
  have HV2 := Lib.hid ((o2.below.block _ (lt_of_block HV1.out)).trans HV1.out)
  clear o2 hc1 hc2 hrb x0 x1 x2 x3 x4 x5
  obtain ⟨x0, x1, x2, x3, x4, x5⟩ := six_cells HV2.out
  go_wp2_with fail
  refine (p_apply (HR1.out.below HB2.out) rfl (by decide) ok_bl 1 1 0 0 true HRB.out rfl (by decide) HCC.out.1 HCC.out.2 bytes5 (HTU.out.below HB2.out HTU.out.big)).mono ?_
  intro e w3 hap
  rcases hap with ⟨R, C, row, col, vis, L, bb, N, cc, hp, hu, rfl, hr, hn, hg, hb⟩ | ⟨hno, _⟩
  rotate_left
  · exact absurd isPatch_first (hno 1 1 0 0 true [blC])
  obtain ⟨rfl, rfl, rfl, rfl, rfl, rfl⟩ := hu _ _ _ _ _ _ isPatch_first
  obtain rfl : N = 1 := hn.symm
  have hba := (Below.refl w3.heap.size w3).alloc (Nat.le_refl _) (.cells #[.int .i64 1, .int .i64 1, .slice (some ⟨bb, 0, none⟩) 1 cc, .int .i64 0, .int .i64 0, .bool true] 24)
  have hbz := hb.trans (hba.mono hb.size)
  have HB3 := Lib.hid (HB2.out.trans (hbz.mono HB2.out.size))
  have HR3 := Lib.hid ((hr.below hba).cr)
  have HV3 := Lib.hid ((hbz.block _ (lt_of_block HV2.out)).trans HV2.out)
  have HW3 := Lib.hid (heap_alloc_new w3 (.cells #[.int .i64 1, .int .i64 1, .slice (some ⟨bb, 0, none⟩) 1 cc, .int .i64 0, .int .i64 0, .bool true] 24))
  have HRI := Lib.hid (show RI .u8 (w3.alloc (.cells #[.int .i64 1, .int .i64 1, .slice (some ⟨bb, 0, none⟩) 1 cc, .int .i64 0, .int .i64 0, .bool true] 24)) A [1, 1, 0, 0, 1] from RI.below (by exact HRB.out) hbz)
  have HRB3 := Lib.hid ((RB.keep' (HRB.out.below hbz) hbz.size : RB (w3.alloc (.cells #[.int .i64 1, .int .i64 1, .slice (some ⟨bb, 0, none⟩) 1 cc, .int .i64 0, .int .i64 0, .bool true] 24)) (w3.alloc (.cells #[.int .i64 1, .int .i64 1, .slice (some ⟨bb, 0, none⟩) 1 cc, .int .i64 0, .int .i64 0, .bool true] 24)).heap.size A [1, 1, 0, 0, 1]))
  obtain ⟨tb, htb⟩ : ∃ t, w3.heap.size = t := ⟨_, rfl⟩
  clear hp hu hr hn hg hb hba hbz x0 x1 x2 x3 x4 x5 HRB
  go_upto_region 4 with fail
  try simp only [htb]
  simp only [htb] at HW3
  generalize (w3.alloc (.cells #[.int .i64 1, .int .i64 1, .slice (some ⟨bb, 0, none⟩) 1 cc, .int .i64 0, .int .i64 0, .bool true] 24)) = X at HB3 HR3 HV3 HW3 HRI HRB3 ⊢
  clear htb
  go_wp2_with fail
  refine (p_runs HRB3.out rfl (by decide) HCC.out.1 HCC.out.2 bytes5 (HTU.out.below HB3.out HTU.out.big)).mono ?_
  rintro e w4 ⟨hrr, b4⟩
  rcases hrr with ⟨k, hk, rfl⟩ | ⟨hno, _⟩
  rotate_left
  · exact absurd runs_first5 (hno 0)
  obtain rfl : k = 0 := isRuns_one hk runs_first5
  have HB4 := Lib.hid (HB3.out.trans (b4.mono HB3.out.size))
  have HV4 := Lib.hid ((b4.block _ (lt_of_block HV3.out)).trans HV3.out)
  have HW4 := Lib.hid ((b4.block _ (lt_of_block HW3.out)).trans HW3.out)
  have HR4 := Lib.hid (HR3.out.below b4)
  have HRI4 := Lib.hid (RI.below HRI.out b4)
  clear hk b4 HB3 HV3 HW3 HR3 HRI HRB3
  obtain ⟨x0, x1, x2, x3, x4, x5⟩ := six_cells HV4.out
  go_wp2_with fail
  refine (p_apply (A := none) (cap := 0) (HR1.out.below HB4.out) rfl (by decide) ok_bl 1 1 0 0 true (fun h => absurd h (by simp)) (bs := []) rfl (by decide) (Nat.le_refl _) (by unfold maxLen; omega) bytes0 (HTU.out.below HB4.out HTU.out.big)).mono ?_
  intro e w5 hap
  rcases hap with ⟨R, C, row, col, vis, L, bb5, N, cc5, hp, hu, rfl, hr, hn, hg, hb⟩ | ⟨hno, rfl, hb⟩
  · have := (isPatch_head hp).1
    exact absurd this (by decide)
  have hba := (Below.refl w5.heap.size w5).alloc (Nat.le_refl _) (.cells #[.int .i64 0, .int .i64 0, .slice none 0 0, .int .i64 0, .int .i64 0, .bool false] 24)
  have hbz := hb.trans (hba.mono hb.size)
  have HB5 := Lib.hid (HB4.out.trans (hbz.mono HB4.out.size))
  have HV5 := Lib.hid ((hbz.block _ (lt_of_block HV4.out)).trans HV4.out)
  have HW5 := Lib.hid ((hbz.block _ (lt_of_block HW4.out)).trans HW4.out)
  have HR5 := Lib.hid (HR4.out.below hbz)
  have HRI5 := Lib.hid (RI.below HRI4.out hbz)
  clear hno hb hba hbz x0 x1 x2 x3 x4 x5
  go_upto_region 6 with fail
  generalize (w5.alloc (.cells #[.int .i64 0, .int .i64 0, .slice none 0 0, .int .i64 0, .int .i64 0, .bool false] 24)) = Y at HB5 HV5 HW5 HR5 HRI5 ⊢
  have hcv : (convert 25 9 (.slice A 5 c)).run Tryd.prog Y = .ok (.string ⟨#[1, 1, 0, 0, 1]⟩) Y := conv_text rfl c HRI5.out
  obtain ⟨x0, x1, x2, x3, x4, x5⟩ := six_cells HV5.out
  obtain ⟨y0, y1, y2, y3, y4, y5⟩ := six_cells HW5.out
  go_wp2_with fail
  refine (p_viewsame (HR1.out.below HB5.out) HR5.out rfl rfl (by decide) 1 1 0 0 1 1 0 0 true true).mono ?_
  rintro e w6 ⟨rfl, b6⟩
  rw [same_first]
  have HB6 := Lib.hid (HB1.out.trans ((HB5.out.trans (b6.mono HB5.out.size)).mono HB1.out.size))
  clear b6
  go_wp2
  go_ret
  exact ⟨rfl, HB6.out⟩
theorem cellsB_bytes : ∀ (L : List Ce), LOk L → ∀ x ∈ cellsB L, 0 ≤ x ∧ x < 256
  | [], _, x, hx => by cases hx
  | c :: L, h, x, hx => by
    rcases List.mem_append.1 hx with h1 | h1
    · exact cellB_bytes (h c (by simp)).1 x h1
    · exact cellsB_bytes L (fun y hy => h y (List.mem_cons_of_mem _ hy)) x h1
theorem flushB_bytes {g : Nat} {R : List Ce} (h : LOk R) : ∀ x ∈ flushB g R, 0 ≤ x ∧ x < 256 := fun x hx => by
  unfold flushB at hx
  split at hx
  · cases hx
  · rcases List.mem_append.1 hx with h1 | h1
    · exact numB_byte _ x h1
    · rcases List.mem_append.1 h1 with h2 | h2
      · exact numB_byte _ x h2
      · exact cellsB_bytes R h x h2
theorem dB_bytes : ∀ (O L : List Ce) (g : Nat) (R : List Ce), LOk R → LOk L → ∀ x ∈ dB g R O L, 0 ≤ x ∧ x < 256
  | [], _, g, R, hR, _, x, hx => flushB_bytes hR x hx
  | _ :: _, [], g, R, hR, _, x, hx => flushB_bytes hR x hx
  | o :: O, l :: L, g, R, hR, hL, x, hx => by
    have hL2 : LOk L := fun y hy => hL y (List.mem_cons_of_mem _ hy)
    unfold dB at hx
    split at hx
    · rcases List.mem_append.1 hx with h1 | h1
      · exact flushB_bytes hR x h1
      · exact dB_bytes O L _ [] (fun y hy => by cases hy) hL2 x h1
    · exact dB_bytes O L g (R ++ [l]) (fun y hy => by
        rcases List.mem_append.1 hy with h1 | h1
        · exact hR y h1
        · rw [List.mem_singleton.1 h1]; exact hL l (by simp)) hL2 x hx
theorem patchB_bytes {Ra Ca rowa cola R C row col : Int} {La L : List Ce} {vis : Bool} (ha : rightW Ra Ca rowa cola La = true) (hb : rightW R C row col L = true) (ho : ∀ c ∈ L, CeOk c) : Bytes (patchB Ra Ca La R C row col vis L) := bytes_of_mem fun x hx => by
  obtain ⟨_, _, b3, _, _, hb⟩ := rightW_parts hb
  unfold patchB at hx
  rcases List.mem_append.1 hx with h1 | h1
  · simp at h1
    rcases h1 with h1 | h1 | h1 | h1 | h1
    · omega
    · omega
    · omega
    · omega
    · subst h1; cases vis <;> simp
  · exact dB_bytes _ L 0 [] (fun y hy => by cases hy) (fun c hc => ⟨ho c hc, b3 c hc⟩) x h1
theorem patch_runs {Ra Ca rowa cola R C row col : Int} {La L : List Ce} {vis : Bool} (ha : rightW Ra Ca rowa cola La = true) (hb : rightW R C row col L = true) (ho : ∀ c ∈ L, CeOk c) :
    ∃ n, isRuns (patchB Ra Ca La R C row col vis L) n ∧ n ≤ cnt (baseL Ra Ca La R.toNat C.toNat) L ∧ (n = 0 ↔ cnt (baseL Ra Ca La R.toNat C.toNat) L = 0) ∧ (patchB Ra Ca La R C row col vis L).length ≤ 5 + 17 * cnt (baseL Ra Ca La R.toNat C.toNat) L ∧ 5 + n ≤ (patchB Ra Ca La R C row col vis L).length ∧ cnt (baseL Ra Ca La R.toNat C.toNat) L ≤ L.length := by
  obtain ⟨_, _, b3, b4, _, _⟩ := rightW_parts hb
  obtain ⟨n, h1, h2, h3, h4, h5, h6⟩ := runs_of L.length (baseL Ra Ca La R.toNat C.toNat) L (Nat.le_refl _) (base_len ha hb) (by omega) (fun c hc => ⟨ho c hc, b3 c hc⟩)
  have hl : (patchB Ra Ca La R C row col vis L).length = 5 + (dB 0 [] (baseL Ra Ca La R.toNat C.toNat) L).length := by unfold patchB; rw [List.length_append]; rfl
  exact ⟨n, ⟨by omega, h1 [R, C, row, col, if vis = true then 1 else 0]⟩, h2, h3, by omega, by omega, h6⟩
theorem base_same {Ra Ca : Int} {La : List Ce} (h : 0 ≤ Ra) (h2 : 0 ≤ Ca) : baseL Ra Ca La Ra.toNat Ca.toNat = La := by
  unfold baseL
  rw [if_pos ⟨by omega, by omega⟩]
theorem cnt_cons {A B : List Ce} {i : Nat} (ha : i < A.length) (hb : i < B.length) : cnt (A.drop i) (B.drop i) = (if ceAt A i = ceAt B i then 0 else 1) + cnt (A.drop (i + 1)) (B.drop (i + 1)) := by
  rw [drop_cons ha, drop_cons hb]; rfl
end Go.Proofs.YtjihcpnaebghnaaDoor
