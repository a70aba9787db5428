/-
  Proved here: PatchMakes.
-/
import Derived.Test.YtnejiniiehfmaaaDoorPdi
set_option linter.unusedSimpArgs false
set_option linter.unusedVariables false
namespace Go.Proofs.YtnejiniiehfmaaaDoor
open Go.RowKit
set_option maxRecDepth 100000 in
theorem p_diff8 {w : World} {A B : Option Addr} {na ca nb cb m : Nat} {La L : List Ce} {P : List Int} {Ra Ca rowa cola : Int} {visa : Bool} {R C row col : Int} {vis : Bool} (hA : CR w A La) (hB : CR w B L) (hla : La.length = na) (hlb : L.length = nb) (hcb : nb ≤ cb) (hoa : ∀ c ∈ La, CeOk c) (hob : ∀ c ∈ L, CeOk c) (hT : Tab w) (hra : rightW Ra Ca rowa cola La = true) (hrb : rightW R C row col L = true) (hP : patchB Ra Ca La R C row col vis L = P) (hm : P.length = m) :
    Calls Tryd.prog 11 #[vV Ra Ca A na ca rowa cola visa, vV R C B nb cb row col vis] w fun e w' => ∃ A3 c3, e = .returned (.tuple #[.slice A3 m c3, .int .i64 0]) ∧ m ≤ c3 ∧ c3 ≤ maxLen ∧ RB w' w'.heap.size A3 P ∧ Below w.heap.size w w' := by
  subst hm
  refine (p_diff (ca := ca) hA hB hla hlb hcb hoa hob hT Ra Ca rowa cola visa R C row col vis hra hrb).mono ?_
  rintro e w' ⟨u, he, o⟩
  rw [hP] at o
  obtain ⟨A3, c3, rfl, h1, h2, h3⟩ := bytes8 o
  exact ⟨A3, c3, he, h1, h2, h3, o.below⟩
set_option maxRecDepth 100000 in
theorem p_remake {w : World} {A A3 : Option Addr} {na ca m c3 : Nat} {La L : List Ce} {P : List Int} {Ra Ca rowa cola : Int} {visa : Bool} {R C row col : Int} {vis : Bool} (hA : CR w A La) (hla : La.length = na) (hoa : ∀ c ∈ La, CeOk c) (hob : ∀ c ∈ L, CeOk c) (hT : Tab w) (hra : rightW Ra Ca rowa cola La = true) (hrb : rightW R C row col L = true) (hP : patchB Ra Ca La R C row col vis L = P) (hm : P.length = m) (hR : RB w w.heap.size A3 P) (h1 : m ≤ c3) (h2 : c3 ≤ maxLen) :
    Calls Tryd.prog 14 #[vV Ra Ca A na ca rowa cola visa, .slice A3 m c3] w fun e w' => ∃ bb N cc, e = .returned (.tuple #[vV R C (some ⟨bb, 0, none⟩) N cc row col vis, .int .i64 0]) ∧ RowAt w' bb cc L ∧ L.length = N ∧ w.heap.size ≤ bb ∧ Below w.heap.size w w' := by
  obtain ⟨_, _, a3, a4, _, _⟩ := rightW_parts hra
  obtain ⟨_, _, b3, _, _, _⟩ := rightW_parts hrb
  have hpl := patchB_len (vis := vis) hra hrb hob
  rw [hP, hm] at hpl
  have hip : isPatch Ra Ca rowa cola La P R C row col vis L := ⟨hra, hrb, fun c hc => ⟨hob c hc, b3 c hc⟩, hP.symm⟩
  refine (p_apply hA hla (by omega) hoa Ra Ca rowa cola visa hR hm (by omega) h1 h2 (hP ▸ patchB_bytes hra hrb hob) hT).mono ?_
  intro e w' h
  rcases h with ⟨R', C', row', col', vis', L', bb, N, cc, hp, hu, he, hr, hn, hg, hb⟩ | ⟨hno, _⟩
  · obtain ⟨rfl, rfl, rfl, rfl, rfl, rfl⟩ := hu _ _ _ _ _ _ hip
    exact ⟨bb, N, cc, he, hr, hn, hg, hb⟩
  · exact absurd hip (hno _ _ _ _ _ _)
theorem same_cnt {Ra Ca rowa cola R C row col : Int} {visa vis : Bool} {La L : List Ce} (ha : rightW Ra Ca rowa cola La = true) (h : sameW Ra Ca rowa cola visa La R C row col vis L = true) : cnt (baseL Ra Ca La R.toNat C.toNat) L = 0 := by
  obtain ⟨_, _, _, _, _, a6⟩ := rightW_parts ha
  unfold sameW at h
  simp at h
  obtain ⟨⟨⟨⟨⟨rfl, rfl⟩, rfl⟩, rfl⟩, rfl⟩, rfl⟩ := h
  rw [base_same (by omega) (by omega)]
  exact cnt_self _
theorem RowAt.room {W : World} {b cap n : Nat} {L : List Ce} (h : RowAt W b cap L) (hn : L.length = n) : n ≤ cap := by
  obtain ⟨_, _, _, h3, _⟩ := h
  omega
set_option maxRecDepth 100000 in
set_option maxHeartbeats 32000000 in
theorem makes_any {w : World} {v1 v2 v3 : Value} (hv1 : VwV w v1) (hv2 : VwV w v2) (hv3 : VwV w v3) (hT : Tab w) : Calls Tryd.prog 5 #[v1, v2, v3] w fun e w' => e = .returned (.bool true) ∧ Below w.heap.size w w' := by
  obtain ⟨Ra, Ca, A, na, ca, La, rowa, cola, visa, rfl, hs, _, _, _, _⟩ := hv1
  obtain ⟨R, C, B, nb, cb, L, row, col, vis, rfl, ht, _, _, _, _⟩ := hv2
  obtain ⟨Rd, Cd, D, nd, cd, M, rowd, cold, visd, rfl, hu, _, _, _, _⟩ := hv3
  have hmax : ∀ n c, n ≤ c → c ≤ maxLen → n ≤ 9223372036854775807 := fun n c h1 h2 => by unfold maxLen at h2; omega
  have HRA := Lib.hid (fun (W : World) (hb : Below w.heap.size w W) => p_viewright (cap := ca) (hs.cr.below hb) hs.len_eq (hmax _ _ hs.le hs.max) hs.ok Ra Ca rowa cola visa)
  have HRB := Lib.hid (fun (W : World) (hb : Below w.heap.size w W) => p_viewright (cap := cb) (ht.cr.below hb) ht.len_eq (hmax _ _ ht.le ht.max) ht.ok R C row col vis)
  have HRD := Lib.hid (fun (W : World) (hb : Below w.heap.size w W) => p_viewright (cap := cd) (hu.cr.below hb) hu.len_eq (hmax _ _ hu.le hu.max) hu.ok Rd Cd rowd cold visd)
  have HSAB := Lib.hid (fun (W : World) (hb : Below w.heap.size w W) => p_viewsame (cap := ca) (cap2 := cb) (hs.cr.below hb) (ht.cr.below hb) hs.len_eq ht.len_eq (hmax _ _ hs.le hs.max) Ra Ca rowa cola R C row col visa vis)
  have HCR := Lib.hid (fun (W : World) (hb : Below w.heap.size w W) => And.intro (hs.cr.below hb) (And.intro (ht.cr.below hb) (hu.cr.below hb)))
  have HLL := Lib.hid (show La.length = na ∧ L.length = nb ∧ M.length = nd ∧ na ≤ ca ∧ nb ≤ cb ∧ nd ≤ cd from ⟨hs.len_eq, ht.len_eq, hu.len_eq, hs.le, ht.le, hu.le⟩)
  have HOK := Lib.hid (And.intro hs.ok (And.intro ht.ok hu.ok))
  have HT := Lib.hid hT
  obtain ⟨qa, hqa⟩ : ∃ q, rightW Ra Ca rowa cola La = q := ⟨_, rfl⟩
  obtain ⟨qb, hqb⟩ : ∃ q, rightW R C row col L = q := ⟨_, rfl⟩
  obtain ⟨qd, hqd⟩ : ∃ q, rightW Rd Cd rowd cold M = q := ⟨_, rfl⟩
  obtain ⟨sm, hsm⟩ : ∃ q, sameW Ra Ca rowa cola visa La R C row col vis L = q := ⟨_, rfl⟩
  rw [hqa] at HRA
  rw [hqb] at HRB
  rw [hqd] at HRD
  rw [hsm] at HSAB
  have HQA := Lib.hid hqa
  have HQB := Lib.hid hqb
  have HQD := Lib.hid hqd
  have HSM := Lib.hid hsm
  have hba := (Below.refl w.heap.size w).alloc (Nat.le_refl _) (.cells #[.int .i64 Ra, .int .i64 Ca, .slice A na ca, .int .i64 rowa, .int .i64 cola, .bool visa] 24)
  have hbb := (Below.refl (w.alloc (.cells #[.int .i64 Ra, .int .i64 Ca, .slice A na ca, .int .i64 rowa, .int .i64 cola, .bool visa] 24)).heap.size (w.alloc (.cells #[.int .i64 Ra, .int .i64 Ca, .slice A na ca, .int .i64 rowa, .int .i64 cola, .bool visa] 24))).alloc (Nat.le_refl _) (.cells #[.int .i64 R, .int .i64 C, .slice B nb cb, .int .i64 row, .int .i64 col, .bool vis] 24)
  have hbd := (Below.refl ((w.alloc (.cells #[.int .i64 Ra, .int .i64 Ca, .slice A na ca, .int .i64 rowa, .int .i64 cola, .bool visa] 24)).alloc (.cells #[.int .i64 R, .int .i64 C, .slice B nb cb, .int .i64 row, .int .i64 col, .bool vis] 24)).heap.size ((w.alloc (.cells #[.int .i64 Ra, .int .i64 Ca, .slice A na ca, .int .i64 rowa, .int .i64 cola, .bool visa] 24)).alloc (.cells #[.int .i64 R, .int .i64 C, .slice B nb cb, .int .i64 row, .int .i64 col, .bool vis] 24))).alloc (Nat.le_refl _) (.cells #[.int .i64 Rd, .int .i64 Cd, .slice D nd cd, .int .i64 rowd, .int .i64 cold, .bool visd] 24)
  have HB0 := hba.trans ((hbb.trans (hbd.mono hbb.size)).mono hba.size)
  have HC0 := (hbd.block w.heap.size (by simp; omega)).trans ((hbb.block w.heap.size (by simp)).trans (heap_alloc_new w (.cells #[.int .i64 Ra, .int .i64 Ca, .slice A na ca, .int .i64 rowa, .int .i64 cola, .bool visa] 24)))
  have HC1 := (hbd.block (w.alloc (.cells #[.int .i64 Ra, .int .i64 Ca, .slice A na ca, .int .i64 rowa, .int .i64 cola, .bool visa] 24)).heap.size (by simp)).trans (heap_alloc_new (w.alloc (.cells #[.int .i64 Ra, .int .i64 Ca, .slice A na ca, .int .i64 rowa, .int .i64 cola, .bool visa] 24)) (.cells #[.int .i64 R, .int .i64 C, .slice B nb cb, .int .i64 row, .int .i64 col, .bool vis] 24))
  have HC2 := heap_alloc_new ((w.alloc (.cells #[.int .i64 Ra, .int .i64 Ca, .slice A na ca, .int .i64 rowa, .int .i64 cola, .bool visa] 24)).alloc (.cells #[.int .i64 R, .int .i64 C, .slice B nb cb, .int .i64 row, .int .i64 col, .bool vis] 24)) (.cells #[.int .i64 Rd, .int .i64 Cd, .slice D nd cd, .int .i64 rowd, .int .i64 cold, .bool visd] 24)
  obtain ⟨vb, hvb⟩ : ∃ b, w.heap.size = b := ⟨_, rfl⟩
  rw [show (w.alloc (.cells #[.int .i64 Ra, .int .i64 Ca, .slice A na ca, .int .i64 rowa, .int .i64 cola, .bool visa] 24)).heap.size = w.heap.size + 1 by simp] at HC1
  rw [show ((w.alloc (.cells #[.int .i64 Ra, .int .i64 Ca, .slice A na ca, .int .i64 rowa, .int .i64 cola, .bool visa] 24)).alloc (.cells #[.int .i64 R, .int .i64 C, .slice B nb cb, .int .i64 row, .int .i64 col, .bool vis] 24)).heap.size = w.heap.size + 2 by simp] at HC2
  clear hs ht hu hT hmax hqa hqb hqd hsm hba hbb hbd
  go_enter Tryd.func5, Tryd.ntmps5
  go_upto_region 1 with fail
  simp only [hvb] at HC0 HC1 HC2 ⊢
  generalize (((w.alloc (.cells #[.int .i64 Ra, .int .i64 Ca, .slice A na ca, .int .i64 rowa, .int .i64 cola, .bool visa] 24)).alloc (.cells #[.int .i64 R, .int .i64 C, .slice B nb cb, .int .i64 row, .int .i64 col, .bool vis] 24)).alloc (.cells #[.int .i64 Rd, .int .i64 Cd, .slice D nd cd, .int .i64 rowd, .int .i64 cold, .bool visd] 24)) = U at HB0 HC0 HC1 HC2 ⊢
  have HW0 := Lib.hid (show Below w.heap.size w U ∧ U.heap[vb]? = some (.cells #[.int .i64 Ra, .int .i64 Ca, .slice A na ca, .int .i64 rowa, .int .i64 cola, .bool visa] 24 (0, 0)) ∧ U.heap[vb + 1]? = some (.cells #[.int .i64 R, .int .i64 C, .slice B nb cb, .int .i64 row, .int .i64 col, .bool vis] 24 (0, 0)) ∧ U.heap[vb + 2]? = some (.cells #[.int .i64 Rd, .int .i64 Cd, .slice D nd cd, .int .i64 rowd, .int .i64 cold, .bool visd] 24 (0, 0)) from ⟨HB0, HC0, HC1, HC2⟩)
  clear HB0 HC0 HC1 HC2 hvb
  obtain ⟨x0, x1, x2, x3, x4, x5⟩ := six_cells HW0.out.2.1
  obtain ⟨y0, y1, y2, y3, y4, y5⟩ := six_cells HW0.out.2.2.1
  obtain ⟨z0, z1, z2, z3, z4, z5⟩ := six_cells HW0.out.2.2.2
  go_wp2_with fail
  refine (HRA.out _ HW0.out.1).mono ?_
  rintro e w1 ⟨rfl, b⟩
  have HW1 := Lib.hid (show Below w.heap.size w w1 ∧ w1.heap[vb]? = some (.cells #[.int .i64 Ra, .int .i64 Ca, .slice A na ca, .int .i64 rowa, .int .i64 cola, .bool visa] 24 (0, 0)) ∧ w1.heap[vb + 1]? = some (.cells #[.int .i64 R, .int .i64 C, .slice B nb cb, .int .i64 row, .int .i64 col, .bool vis] 24 (0, 0)) ∧ w1.heap[vb + 2]? = some (.cells #[.int .i64 Rd, .int .i64 Cd, .slice D nd cd, .int .i64 rowd, .int .i64 cold, .bool visd] 24 (0, 0)) from ⟨HW0.out.1.trans (b.mono HW0.out.1.size), (b.block _ (lt_of_block HW0.out.2.1)).trans HW0.out.2.1, (b.block _ (lt_of_block HW0.out.2.2.1)).trans HW0.out.2.2.1, (b.block _ (lt_of_block HW0.out.2.2.2)).trans HW0.out.2.2.2⟩)
  clear b
  clear x0 x1 x2 x3 x4 x5 y0 y1 y2 y3 y4 y5 z0 z1 z2 z3 z4 z5
  clear HRA HW0
  cases qa with
  | false =>
    go_wp2_with fail
    refine (alive_any _ (HT.out.below HW1.out.1 HT.out.big)).mono ?_
    rintro e w9 ⟨rfl, b9⟩
    have HB9 := Lib.hid (HW1.out.1.trans (b9.mono HW1.out.1.size))
    clear b9
    go_wp2
    go_ret
    exact ⟨by rfl, HB9.out⟩
  | true =>
    obtain ⟨x0, x1, x2, x3, x4, x5⟩ := six_cells HW1.out.2.1
    obtain ⟨y0, y1, y2, y3, y4, y5⟩ := six_cells HW1.out.2.2.1
    obtain ⟨z0, z1, z2, z3, z4, z5⟩ := six_cells HW1.out.2.2.2
    go_wp2_with fail
    refine (HRB.out _ HW1.out.1).mono ?_
    rintro e w2 ⟨rfl, b⟩
    have HW2 := Lib.hid (show Below w.heap.size w w2 ∧ w2.heap[vb]? = some (.cells #[.int .i64 Ra, .int .i64 Ca, .slice A na ca, .int .i64 rowa, .int .i64 cola, .bool visa] 24 (0, 0)) ∧ w2.heap[vb + 1]? = some (.cells #[.int .i64 R, .int .i64 C, .slice B nb cb, .int .i64 row, .int .i64 col, .bool vis] 24 (0, 0)) ∧ w2.heap[vb + 2]? = some (.cells #[.int .i64 Rd, .int .i64 Cd, .slice D nd cd, .int .i64 rowd, .int .i64 cold, .bool visd] 24 (0, 0)) from ⟨HW1.out.1.trans (b.mono HW1.out.1.size), (b.block _ (lt_of_block HW1.out.2.1)).trans HW1.out.2.1, (b.block _ (lt_of_block HW1.out.2.2.1)).trans HW1.out.2.2.1, (b.block _ (lt_of_block HW1.out.2.2.2)).trans HW1.out.2.2.2⟩)
    clear b
    clear x0 x1 x2 x3 x4 x5 y0 y1 y2 y3 y4 y5 z0 z1 z2 z3 z4 z5
    clear HRB HW1
    cases qb with
    | false =>
      go_wp2_with fail
      refine (alive_any _ (HT.out.below HW2.out.1 HT.out.big)).mono ?_
      rintro e w9 ⟨rfl, b9⟩
      have HB9 := Lib.hid (HW2.out.1.trans (b9.mono HW2.out.1.size))
      clear b9
      go_wp2
      go_ret
      exact ⟨by rfl, HB9.out⟩
    | true =>
      obtain ⟨x0, x1, x2, x3, x4, x5⟩ := six_cells HW2.out.2.1
      obtain ⟨y0, y1, y2, y3, y4, y5⟩ := six_cells HW2.out.2.2.1
      obtain ⟨z0, z1, z2, z3, z4, z5⟩ := six_cells HW2.out.2.2.2
      go_wp2_with fail
      refine (HRD.out _ HW2.out.1).mono ?_
      rintro e w3 ⟨rfl, b⟩
      have HW3 := Lib.hid (show Below w.heap.size w w3 ∧ w3.heap[vb]? = some (.cells #[.int .i64 Ra, .int .i64 Ca, .slice A na ca, .int .i64 rowa, .int .i64 cola, .bool visa] 24 (0, 0)) ∧ w3.heap[vb + 1]? = some (.cells #[.int .i64 R, .int .i64 C, .slice B nb cb, .int .i64 row, .int .i64 col, .bool vis] 24 (0, 0)) ∧ w3.heap[vb + 2]? = some (.cells #[.int .i64 Rd, .int .i64 Cd, .slice D nd cd, .int .i64 rowd, .int .i64 cold, .bool visd] 24 (0, 0)) from ⟨HW2.out.1.trans (b.mono HW2.out.1.size), (b.block _ (lt_of_block HW2.out.2.1)).trans HW2.out.2.1, (b.block _ (lt_of_block HW2.out.2.2.1)).trans HW2.out.2.2.1, (b.block _ (lt_of_block HW2.out.2.2.2)).trans HW2.out.2.2.2⟩)
      clear b
      clear x0 x1 x2 x3 x4 x5 y0 y1 y2 y3 y4 y5 z0 z1 z2 z3 z4 z5
      clear HRD HW2
      cases qd with
      | false =>
        go_wp2_with fail
        refine (alive_any _ (HT.out.below HW3.out.1 HT.out.big)).mono ?_
        rintro e w9 ⟨rfl, b9⟩
        have HB9 := Lib.hid (HW3.out.1.trans (b9.mono HW3.out.1.size))
        clear b9
        go_wp2
        go_ret
        exact ⟨by rfl, HB9.out⟩
      | true =>
        obtain ⟨x0, x1, x2, x3, x4, x5⟩ := six_cells HW3.out.2.1
        obtain ⟨y0, y1, y2, y3, y4, y5⟩ := six_cells HW3.out.2.2.1
        obtain ⟨z0, z1, z2, z3, z4, z5⟩ := six_cells HW3.out.2.2.2
        obtain ⟨P1, hP1⟩ : ∃ P, patchB Ra Ca La R C row col vis L = P := ⟨_, rfl⟩
        obtain ⟨m1, hm1⟩ : ∃ m, P1.length = m := ⟨_, rfl⟩
        obtain ⟨P2, hP2⟩ : ∃ P, patchB Ra Ca La Rd Cd rowd cold visd M = P := ⟨_, rfl⟩
        obtain ⟨m2, hm2⟩ : ∃ m, P2.length = m := ⟨_, rfl⟩
        obtain ⟨P3, hP3⟩ : ∃ P, patchB Rd Cd M R C row col vis L = P := ⟨_, rfl⟩
        obtain ⟨m3, hm3⟩ : ∃ m, P3.length = m := ⟨_, rfl⟩
        obtain ⟨k, r1, r2, r3, r4, r5, r6⟩ := patch_runs (vis := vis) HQA.out HQB.out HOK.out.2.1
        have hpl := patchB_len (vis := vis) HQA.out HQB.out HOK.out.2.1
        rw [hP1] at r1 r4 r5 hpl
        rw [hm1] at r4 r5 hpl
        have HNUM := Lib.hid (show (k = 0 ↔ m1 = 5) ∧ 5 + k ≤ m1 ∧ m1 ≤ 8165 ∧ (sm = true → m1 = 5) from ⟨⟨fun h => by have := r3.1 h; omega, fun h => by omega⟩, r5, hpl.2, fun h => by
          have := same_cnt HQA.out (HSM.out.trans h)
          omega⟩)
        have HRK := Lib.hid r1
        have HSZ := Lib.hid (show nb ≤ 480 ∧ nd ≤ 480 from ⟨by rw [← HLL.out.2.1]; exact (rightW_parts HQB.out).2.2.2.1, by rw [← HLL.out.2.2.1]; exact (rightW_parts HQD.out).2.2.2.1⟩)
        have HPB := Lib.hid (show Bytes P1 from hP1 ▸ patchB_bytes HQA.out HQB.out HOK.out.2.1)
        have HP1 := Lib.hid (And.intro hP1 hm1)
        have HP2 := Lib.hid (And.intro hP2 hm2)
        have HP3 := Lib.hid (And.intro hP3 hm3)
        clear r1 r2 r3 r4 r5 r6 hpl hP1 hm1 hP2 hm2 hP3 hm3
        go_wp2_with fail
        refine (p_diff8 (ca := ca) (cb := cb) (visa := visa) (HCR.out _ HW3.out.1).1 (HCR.out _ HW3.out.1).2.1 HLL.out.1 HLL.out.2.1 HLL.out.2.2.2.2.1 HOK.out.1 HOK.out.2.1 (HT.out.below HW3.out.1 HT.out.big) HQA.out HQB.out HP1.out.1 HP1.out.2).mono ?_
        rintro e w4 ⟨A4, c4, rfl, g1, g2, g3, b⟩
        have HA4 := Lib.hid (And.intro g1 g2)
        have HB4 := Lib.hid g3
        have HW4 := Lib.hid (show Below w.heap.size w w4 ∧ w4.heap[vb]? = some (.cells #[.int .i64 Ra, .int .i64 Ca, .slice A na ca, .int .i64 rowa, .int .i64 cola, .bool visa] 24 (0, 0)) ∧ w4.heap[vb + 1]? = some (.cells #[.int .i64 R, .int .i64 C, .slice B nb cb, .int .i64 row, .int .i64 col, .bool vis] 24 (0, 0)) ∧ w4.heap[vb + 2]? = some (.cells #[.int .i64 Rd, .int .i64 Cd, .slice D nd cd, .int .i64 rowd, .int .i64 cold, .bool visd] 24 (0, 0)) from ⟨HW3.out.1.trans (b.mono HW3.out.1.size), (b.block _ (lt_of_block HW3.out.2.1)).trans HW3.out.2.1, (b.block _ (lt_of_block HW3.out.2.2.1)).trans HW3.out.2.2.1, (b.block _ (lt_of_block HW3.out.2.2.2)).trans HW3.out.2.2.2⟩)
        clear b g1 g2 g3 HW3
        clear x0 x1 x2 x3 x4 x5 y0 y1 y2 y3 y4 y5 z0 z1 z2 z3 z4 z5
        obtain ⟨x0, x1, x2, x3, x4, x5⟩ := six_cells HW4.out.2.1
        obtain ⟨y0, y1, y2, y3, y4, y5⟩ := six_cells HW4.out.2.2.1
        obtain ⟨z0, z1, z2, z3, z4, z5⟩ := six_cells HW4.out.2.2.2
        go_wp2_with fail
        refine (p_remake (ca := ca) (visa := visa) (HCR.out _ HW4.out.1).1 HLL.out.1 HOK.out.1 HOK.out.2.1 (HT.out.below HW4.out.1 HT.out.big) HQA.out HQB.out HP1.out.1 HP1.out.2 HB4.out HA4.out.1 HA4.out.2).mono ?_
        rintro e w5 ⟨b1, N1, d1, rfl, g1, g2, _, b⟩
        obtain rfl : nb = N1 := by rw [← g2]; exact HLL.out.2.1.symm
        have hba := (Below.refl w5.heap.size w5).alloc (Nat.le_refl _) (.cells #[.int .i64 R, .int .i64 C, .slice (some ⟨b1, 0, none⟩) nb d1, .int .i64 row, .int .i64 col, .bool vis] 24)
        have hbz := b.trans (hba.mono b.size)
        have HW5 := Lib.hid (show Below w.heap.size w (w5.alloc (.cells #[.int .i64 R, .int .i64 C, .slice (some ⟨b1, 0, none⟩) nb d1, .int .i64 row, .int .i64 col, .bool vis] 24)) ∧ (w5.alloc (.cells #[.int .i64 R, .int .i64 C, .slice (some ⟨b1, 0, none⟩) nb d1, .int .i64 row, .int .i64 col, .bool vis] 24)).heap[vb]? = some (.cells #[.int .i64 Ra, .int .i64 Ca, .slice A na ca, .int .i64 rowa, .int .i64 cola, .bool visa] 24 (0, 0)) ∧ (w5.alloc (.cells #[.int .i64 R, .int .i64 C, .slice (some ⟨b1, 0, none⟩) nb d1, .int .i64 row, .int .i64 col, .bool vis] 24)).heap[vb + 1]? = some (.cells #[.int .i64 R, .int .i64 C, .slice B nb cb, .int .i64 row, .int .i64 col, .bool vis] 24 (0, 0)) ∧ (w5.alloc (.cells #[.int .i64 R, .int .i64 C, .slice (some ⟨b1, 0, none⟩) nb d1, .int .i64 row, .int .i64 col, .bool vis] 24)).heap[vb + 2]? = some (.cells #[.int .i64 Rd, .int .i64 Cd, .slice D nd cd, .int .i64 rowd, .int .i64 cold, .bool visd] 24 (0, 0)) from ⟨HW4.out.1.trans (hbz.mono HW4.out.1.size), (hbz.block _ (lt_of_block HW4.out.2.1)).trans HW4.out.2.1, (hbz.block _ (lt_of_block HW4.out.2.2.1)).trans HW4.out.2.2.1, (hbz.block _ (lt_of_block HW4.out.2.2.2)).trans HW4.out.2.2.2⟩)
        have HR5 := Lib.hid (show RowAt (w5.alloc (.cells #[.int .i64 R, .int .i64 C, .slice (some ⟨b1, 0, none⟩) nb d1, .int .i64 row, .int .i64 col, .bool vis] 24)) b1 d1 L from g1.below hba)
        have HV5 := Lib.hid (heap_alloc_new w5 (.cells #[.int .i64 R, .int .i64 C, .slice (some ⟨b1, 0, none⟩) nb d1, .int .i64 row, .int .i64 col, .bool vis] 24))
        have HB5 := Lib.hid (show RB (w5.alloc (.cells #[.int .i64 R, .int .i64 C, .slice (some ⟨b1, 0, none⟩) nb d1, .int .i64 row, .int .i64 col, .bool vis] 24)) (w5.alloc (.cells #[.int .i64 R, .int .i64 C, .slice (some ⟨b1, 0, none⟩) nb d1, .int .i64 row, .int .i64 col, .bool vis] 24)).heap.size A4 P1 from RB.keep' (HB4.out.below hbz) hbz.size)
        obtain ⟨t1, ht1⟩ : ∃ t, w5.heap.size = t := ⟨_, rfl⟩
        rw [ht1] at HV5
        clear b g1 g2 hba hbz HW4 HB4
        clear x0 x1 x2 x3 x4 x5 y0 y1 y2 y3 y4 y5 z0 z1 z2 z3 z4 z5
        go_upto_region 5 with fail
        try simp only [ht1]
        generalize (w5.alloc (.cells #[.int .i64 R, .int .i64 C, .slice (some ⟨b1, 0, none⟩) nb d1, .int .i64 row, .int .i64 col, .bool vis] 24)) = X5 at HW5 HR5 HV5 HB5 ⊢
        clear ht1
        obtain ⟨x0, x1, x2, x3, x4, x5⟩ := six_cells HW5.out.2.1
        obtain ⟨y0, y1, y2, y3, y4, y5⟩ := six_cells HW5.out.2.2.1
        obtain ⟨z0, z1, z2, z3, z4, z5⟩ := six_cells HW5.out.2.2.2
        go_wp2_with fail
        refine (p_diff8 (ca := ca) (cb := cd) (visa := visa) (HCR.out _ HW5.out.1).1 (HCR.out _ HW5.out.1).2.2 HLL.out.1 HLL.out.2.2.1 HLL.out.2.2.2.2.2 HOK.out.1 HOK.out.2.2 (HT.out.below HW5.out.1 HT.out.big) HQA.out HQD.out HP2.out.1 HP2.out.2).mono ?_
        rintro e w6 ⟨A6, c6, rfl, g1, g2, g3, b⟩
        have HA6 := Lib.hid (And.intro g1 g2)
        have HC6 := Lib.hid g3
        have HW6 := Lib.hid (show Below w.heap.size w w6 ∧ w6.heap[vb]? = some (.cells #[.int .i64 Ra, .int .i64 Ca, .slice A na ca, .int .i64 rowa, .int .i64 cola, .bool visa] 24 (0, 0)) ∧ w6.heap[vb + 1]? = some (.cells #[.int .i64 R, .int .i64 C, .slice B nb cb, .int .i64 row, .int .i64 col, .bool vis] 24 (0, 0)) ∧ w6.heap[vb + 2]? = some (.cells #[.int .i64 Rd, .int .i64 Cd, .slice D nd cd, .int .i64 rowd, .int .i64 cold, .bool visd] 24 (0, 0)) from ⟨HW5.out.1.trans (b.mono HW5.out.1.size), (b.block _ (lt_of_block HW5.out.2.1)).trans HW5.out.2.1, (b.block _ (lt_of_block HW5.out.2.2.1)).trans HW5.out.2.2.1, (b.block _ (lt_of_block HW5.out.2.2.2)).trans HW5.out.2.2.2⟩)
        have HR6 := Lib.hid (HR5.out.below b)
        have HV6 := Lib.hid ((b.block _ (lt_of_block HV5.out)).trans HV5.out)
        have HB6 := Lib.hid (show RB w6 w6.heap.size A4 P1 from RB.keep' (HB5.out.below b) b.size)
        clear b g1 g2 g3 HW5 HR5 HV5 HB5
        clear x0 x1 x2 x3 x4 x5 y0 y1 y2 y3 y4 y5 z0 z1 z2 z3 z4 z5
        obtain ⟨x0, x1, x2, x3, x4, x5⟩ := six_cells HW6.out.2.1
        obtain ⟨y0, y1, y2, y3, y4, y5⟩ := six_cells HW6.out.2.2.1
        obtain ⟨z0, z1, z2, z3, z4, z5⟩ := six_cells HW6.out.2.2.2
        go_wp2_with fail
        refine (p_remake (ca := ca) (visa := visa) (HCR.out _ HW6.out.1).1 HLL.out.1 HOK.out.1 HOK.out.2.2 (HT.out.below HW6.out.1 HT.out.big) HQA.out HQD.out HP2.out.1 HP2.out.2 HC6.out HA6.out.1 HA6.out.2).mono ?_
        rintro e w7 ⟨b2, N2, d2, rfl, g1, g2, _, b⟩
        obtain rfl : nd = N2 := by rw [← g2]; exact HLL.out.2.2.1.symm
        have hba := (Below.refl w7.heap.size w7).alloc (Nat.le_refl _) (.cells #[.int .i64 Rd, .int .i64 Cd, .slice (some ⟨b2, 0, none⟩) nd d2, .int .i64 rowd, .int .i64 cold, .bool visd] 24)
        have hbz := b.trans (hba.mono b.size)
        have HW7 := Lib.hid (show Below w.heap.size w (w7.alloc (.cells #[.int .i64 Rd, .int .i64 Cd, .slice (some ⟨b2, 0, none⟩) nd d2, .int .i64 rowd, .int .i64 cold, .bool visd] 24)) ∧ (w7.alloc (.cells #[.int .i64 Rd, .int .i64 Cd, .slice (some ⟨b2, 0, none⟩) nd d2, .int .i64 rowd, .int .i64 cold, .bool visd] 24)).heap[vb]? = some (.cells #[.int .i64 Ra, .int .i64 Ca, .slice A na ca, .int .i64 rowa, .int .i64 cola, .bool visa] 24 (0, 0)) ∧ (w7.alloc (.cells #[.int .i64 Rd, .int .i64 Cd, .slice (some ⟨b2, 0, none⟩) nd d2, .int .i64 rowd, .int .i64 cold, .bool visd] 24)).heap[vb + 1]? = some (.cells #[.int .i64 R, .int .i64 C, .slice B nb cb, .int .i64 row, .int .i64 col, .bool vis] 24 (0, 0)) ∧ (w7.alloc (.cells #[.int .i64 Rd, .int .i64 Cd, .slice (some ⟨b2, 0, none⟩) nd d2, .int .i64 rowd, .int .i64 cold, .bool visd] 24)).heap[vb + 2]? = some (.cells #[.int .i64 Rd, .int .i64 Cd, .slice D nd cd, .int .i64 rowd, .int .i64 cold, .bool visd] 24 (0, 0)) from ⟨HW6.out.1.trans (hbz.mono HW6.out.1.size), (hbz.block _ (lt_of_block HW6.out.2.1)).trans HW6.out.2.1, (hbz.block _ (lt_of_block HW6.out.2.2.1)).trans HW6.out.2.2.1, (hbz.block _ (lt_of_block HW6.out.2.2.2)).trans HW6.out.2.2.2⟩)
        have HR7 := Lib.hid (show RowAt (w7.alloc (.cells #[.int .i64 Rd, .int .i64 Cd, .slice (some ⟨b2, 0, none⟩) nd d2, .int .i64 rowd, .int .i64 cold, .bool visd] 24)) b1 d1 L from HR6.out.below hbz)
        have HV7 := Lib.hid ((hbz.block _ (lt_of_block HV6.out)).trans HV6.out)
        have HB7 := Lib.hid (show RB (w7.alloc (.cells #[.int .i64 Rd, .int .i64 Cd, .slice (some ⟨b2, 0, none⟩) nd d2, .int .i64 rowd, .int .i64 cold, .bool visd] 24)) (w7.alloc (.cells #[.int .i64 Rd, .int .i64 Cd, .slice (some ⟨b2, 0, none⟩) nd d2, .int .i64 rowd, .int .i64 cold, .bool visd] 24)).heap.size A4 P1 from RB.keep' (HB6.out.below hbz) hbz.size)
        have HS7 := Lib.hid (show RowAt (w7.alloc (.cells #[.int .i64 Rd, .int .i64 Cd, .slice (some ⟨b2, 0, none⟩) nd d2, .int .i64 rowd, .int .i64 cold, .bool visd] 24)) b2 d2 M from g1.below hba)
        have HU7 := Lib.hid (heap_alloc_new w7 (.cells #[.int .i64 Rd, .int .i64 Cd, .slice (some ⟨b2, 0, none⟩) nd d2, .int .i64 rowd, .int .i64 cold, .bool visd] 24))
        obtain ⟨t2, ht2⟩ : ∃ t, w7.heap.size = t := ⟨_, rfl⟩
        rw [ht2] at HU7
        clear b g1 g2 hba hbz HW6 HR6 HV6 HB6 HC6 HA6
        clear x0 x1 x2 x3 x4 x5 y0 y1 y2 y3 y4 y5 z0 z1 z2 z3 z4 z5
        go_upto_region 7 with fail
        try simp only [ht2]
        generalize (w7.alloc (.cells #[.int .i64 Rd, .int .i64 Cd, .slice (some ⟨b2, 0, none⟩) nd d2, .int .i64 rowd, .int .i64 cold, .bool visd] 24)) = X7 at HW7 HR7 HV7 HB7 HS7 HU7 ⊢
        clear ht2
        obtain ⟨x0, x1, x2, x3, x4, x5⟩ := six_cells HW7.out.2.1
        obtain ⟨y0, y1, y2, y3, y4, y5⟩ := six_cells HW7.out.2.2.1
        obtain ⟨z0, z1, z2, z3, z4, z5⟩ := six_cells HW7.out.2.2.2
        obtain ⟨q0, q1, q2, q3, q4, q5⟩ := six_cells HU7.out
        go_wp2_with fail
        refine (p_diff8 (ca := d2) (cb := cb) (visa := visd) HS7.out.cr (HCR.out _ HW7.out.1).2.1 HLL.out.2.2.1 HLL.out.2.1 HLL.out.2.2.2.2.1 HOK.out.2.2 HOK.out.2.1 (HT.out.below HW7.out.1 HT.out.big) HQD.out HQB.out HP3.out.1 HP3.out.2).mono ?_
        rintro e w8 ⟨A8, c8, rfl, g1, g2, g3, b⟩
        have HA8 := Lib.hid (And.intro g1 g2)
        have HC8 := Lib.hid g3
        have HW8 := Lib.hid (show Below w.heap.size w w8 ∧ w8.heap[vb]? = some (.cells #[.int .i64 Ra, .int .i64 Ca, .slice A na ca, .int .i64 rowa, .int .i64 cola, .bool visa] 24 (0, 0)) ∧ w8.heap[vb + 1]? = some (.cells #[.int .i64 R, .int .i64 C, .slice B nb cb, .int .i64 row, .int .i64 col, .bool vis] 24 (0, 0)) ∧ w8.heap[vb + 2]? = some (.cells #[.int .i64 Rd, .int .i64 Cd, .slice D nd cd, .int .i64 rowd, .int .i64 cold, .bool visd] 24 (0, 0)) from ⟨HW7.out.1.trans (b.mono HW7.out.1.size), (b.block _ (lt_of_block HW7.out.2.1)).trans HW7.out.2.1, (b.block _ (lt_of_block HW7.out.2.2.1)).trans HW7.out.2.2.1, (b.block _ (lt_of_block HW7.out.2.2.2)).trans HW7.out.2.2.2⟩)
        have HR8 := Lib.hid (HR7.out.below b)
        have HV8 := Lib.hid ((b.block _ (lt_of_block HV7.out)).trans HV7.out)
        have HB8 := Lib.hid (show RB w8 w8.heap.size A4 P1 from RB.keep' (HB7.out.below b) b.size)
        have HS8 := Lib.hid (HS7.out.below b)
        have HU8 := Lib.hid ((b.block _ (lt_of_block HU7.out)).trans HU7.out)
        clear b g1 g2 g3 HW7 HR7 HV7 HB7 HS7 HU7 q0 q1 q2 q3 q4 q5
        clear x0 x1 x2 x3 x4 x5 y0 y1 y2 y3 y4 y5 z0 z1 z2 z3 z4 z5
        obtain ⟨x0, x1, x2, x3, x4, x5⟩ := six_cells HW8.out.2.1
        obtain ⟨y0, y1, y2, y3, y4, y5⟩ := six_cells HW8.out.2.2.1
        obtain ⟨z0, z1, z2, z3, z4, z5⟩ := six_cells HW8.out.2.2.2
        obtain ⟨q0, q1, q2, q3, q4, q5⟩ := six_cells HU8.out
        go_wp2_with fail
        refine (p_remake (ca := d2) (visa := visd) HS8.out.cr HLL.out.2.2.1 HOK.out.2.2 HOK.out.2.1 (HT.out.below HW8.out.1 HT.out.big) HQD.out HQB.out HP3.out.1 HP3.out.2 HC8.out HA8.out.1 HA8.out.2).mono ?_
        rintro e w10 ⟨b3, N3, d3, rfl, g1, g2, _, b⟩
        obtain rfl : nb = N3 := by rw [← g2]; exact HLL.out.2.1.symm
        have hba := (Below.refl w10.heap.size w10).alloc (Nat.le_refl _) (.cells #[.int .i64 R, .int .i64 C, .slice (some ⟨b3, 0, none⟩) nb d3, .int .i64 row, .int .i64 col, .bool vis] 24)
        have hbz := b.trans (hba.mono b.size)
        have HW10 := Lib.hid (show Below w.heap.size w (w10.alloc (.cells #[.int .i64 R, .int .i64 C, .slice (some ⟨b3, 0, none⟩) nb d3, .int .i64 row, .int .i64 col, .bool vis] 24)) ∧ (w10.alloc (.cells #[.int .i64 R, .int .i64 C, .slice (some ⟨b3, 0, none⟩) nb d3, .int .i64 row, .int .i64 col, .bool vis] 24)).heap[vb]? = some (.cells #[.int .i64 Ra, .int .i64 Ca, .slice A na ca, .int .i64 rowa, .int .i64 cola, .bool visa] 24 (0, 0)) ∧ (w10.alloc (.cells #[.int .i64 R, .int .i64 C, .slice (some ⟨b3, 0, none⟩) nb d3, .int .i64 row, .int .i64 col, .bool vis] 24)).heap[vb + 1]? = some (.cells #[.int .i64 R, .int .i64 C, .slice B nb cb, .int .i64 row, .int .i64 col, .bool vis] 24 (0, 0)) ∧ (w10.alloc (.cells #[.int .i64 R, .int .i64 C, .slice (some ⟨b3, 0, none⟩) nb d3, .int .i64 row, .int .i64 col, .bool vis] 24)).heap[vb + 2]? = some (.cells #[.int .i64 Rd, .int .i64 Cd, .slice D nd cd, .int .i64 rowd, .int .i64 cold, .bool visd] 24 (0, 0)) from ⟨HW8.out.1.trans (hbz.mono HW8.out.1.size), (hbz.block _ (lt_of_block HW8.out.2.1)).trans HW8.out.2.1, (hbz.block _ (lt_of_block HW8.out.2.2.1)).trans HW8.out.2.2.1, (hbz.block _ (lt_of_block HW8.out.2.2.2)).trans HW8.out.2.2.2⟩)
        have HR10 := Lib.hid (show RowAt (w10.alloc (.cells #[.int .i64 R, .int .i64 C, .slice (some ⟨b3, 0, none⟩) nb d3, .int .i64 row, .int .i64 col, .bool vis] 24)) b1 d1 L from HR8.out.below hbz)
        have HV10 := Lib.hid ((hbz.block _ (lt_of_block HV8.out)).trans HV8.out)
        have HB10 := Lib.hid (show RB (w10.alloc (.cells #[.int .i64 R, .int .i64 C, .slice (some ⟨b3, 0, none⟩) nb d3, .int .i64 row, .int .i64 col, .bool vis] 24)) (w10.alloc (.cells #[.int .i64 R, .int .i64 C, .slice (some ⟨b3, 0, none⟩) nb d3, .int .i64 row, .int .i64 col, .bool vis] 24)).heap.size A4 P1 from RB.keep' (HB8.out.below hbz) hbz.size)
        have HS10 := Lib.hid (show RowAt (w10.alloc (.cells #[.int .i64 R, .int .i64 C, .slice (some ⟨b3, 0, none⟩) nb d3, .int .i64 row, .int .i64 col, .bool vis] 24)) b2 d2 M from HS8.out.below hbz)
        have HU10 := Lib.hid ((hbz.block _ (lt_of_block HU8.out)).trans HU8.out)
        have HQ10 := Lib.hid (show RowAt (w10.alloc (.cells #[.int .i64 R, .int .i64 C, .slice (some ⟨b3, 0, none⟩) nb d3, .int .i64 row, .int .i64 col, .bool vis] 24)) b3 d3 L from g1.below hba)
        have HY10 := Lib.hid (heap_alloc_new w10 (.cells #[.int .i64 R, .int .i64 C, .slice (some ⟨b3, 0, none⟩) nb d3, .int .i64 row, .int .i64 col, .bool vis] 24))
        obtain ⟨t3, ht3⟩ : ∃ t, w10.heap.size = t := ⟨_, rfl⟩
        rw [ht3] at HY10
        clear b g1 g2 hba hbz HW8 HR8 HV8 HB8 HC8 HA8 HS8 HU8 q0 q1 q2 q3 q4 q5
        clear x0 x1 x2 x3 x4 x5 y0 y1 y2 y3 y4 y5 z0 z1 z2 z3 z4 z5
        go_upto_region 9 with fail
        try simp only [ht3]
        generalize (w10.alloc (.cells #[.int .i64 R, .int .i64 C, .slice (some ⟨b3, 0, none⟩) nb d3, .int .i64 row, .int .i64 col, .bool vis] 24)) = X10 at HW10 HR10 HV10 HB10 HS10 HU10 HQ10 HY10 ⊢
        clear ht3
        go_wp2_with fail
        refine (p_runs HB10.out HP1.out.2 (by have := HNUM.out; omega) HA4.out.1 HA4.out.2 HPB.out (HT.out.below HW10.out.1 HT.out.big)).mono ?_
        rintro e w11 ⟨hrr, b⟩
        rcases hrr with ⟨k', hk, rfl⟩ | ⟨hno, _⟩
        rotate_left
        · exact absurd HRK.out (hno k)
        obtain rfl : k = k' := isRuns_one HRK.out hk
        have HW11 := Lib.hid (show Below w.heap.size w w11 ∧ w11.heap[vb]? = some (.cells #[.int .i64 Ra, .int .i64 Ca, .slice A na ca, .int .i64 rowa, .int .i64 cola, .bool visa] 24 (0, 0)) ∧ w11.heap[vb + 1]? = some (.cells #[.int .i64 R, .int .i64 C, .slice B nb cb, .int .i64 row, .int .i64 col, .bool vis] 24 (0, 0)) ∧ w11.heap[vb + 2]? = some (.cells #[.int .i64 Rd, .int .i64 Cd, .slice D nd cd, .int .i64 rowd, .int .i64 cold, .bool visd] 24 (0, 0)) from ⟨HW10.out.1.trans (b.mono HW10.out.1.size), (b.block _ (lt_of_block HW10.out.2.1)).trans HW10.out.2.1, (b.block _ (lt_of_block HW10.out.2.2.1)).trans HW10.out.2.2.1, (b.block _ (lt_of_block HW10.out.2.2.2)).trans HW10.out.2.2.2⟩)
        have HG11 := Lib.hid (show RowAt w11 b1 d1 L ∧ RowAt w11 b2 d2 M ∧ RowAt w11 b3 d3 L ∧ w11.heap[t1]? = some (.cells #[.int .i64 R, .int .i64 C, .slice (some ⟨b1, 0, none⟩) nb d1, .int .i64 row, .int .i64 col, .bool vis] 24 (0, 0)) ∧ w11.heap[t2]? = some (.cells #[.int .i64 Rd, .int .i64 Cd, .slice (some ⟨b2, 0, none⟩) nd d2, .int .i64 rowd, .int .i64 cold, .bool visd] 24 (0, 0)) ∧ w11.heap[t3]? = some (.cells #[.int .i64 R, .int .i64 C, .slice (some ⟨b3, 0, none⟩) nb d3, .int .i64 row, .int .i64 col, .bool vis] 24 (0, 0)) from ⟨HR10.out.below b, HS10.out.below b, HQ10.out.below b, (b.block _ (lt_of_block HV10.out)).trans HV10.out, (b.block _ (lt_of_block HU10.out)).trans HU10.out, (b.block _ (lt_of_block HY10.out)).trans HY10.out⟩)
        clear b hk HW10 HR10 HV10 HB10 HS10 HU10 HQ10 HY10
        go_wp2_with fail
        refine (alive_any _ (HT.out.below HW11.out.1 HT.out.big)).mono ?_
        rintro e w12 ⟨rfl, b⟩
        have HW12 := Lib.hid (show Below w.heap.size w w12 ∧ w12.heap[vb]? = some (.cells #[.int .i64 Ra, .int .i64 Ca, .slice A na ca, .int .i64 rowa, .int .i64 cola, .bool visa] 24 (0, 0)) ∧ w12.heap[vb + 1]? = some (.cells #[.int .i64 R, .int .i64 C, .slice B nb cb, .int .i64 row, .int .i64 col, .bool vis] 24 (0, 0)) ∧ w12.heap[vb + 2]? = some (.cells #[.int .i64 Rd, .int .i64 Cd, .slice D nd cd, .int .i64 rowd, .int .i64 cold, .bool visd] 24 (0, 0)) from ⟨HW11.out.1.trans (b.mono HW11.out.1.size), (b.block _ (lt_of_block HW11.out.2.1)).trans HW11.out.2.1, (b.block _ (lt_of_block HW11.out.2.2.1)).trans HW11.out.2.2.1, (b.block _ (lt_of_block HW11.out.2.2.2)).trans HW11.out.2.2.2⟩)
        have HG12 := Lib.hid (show RowAt w12 b1 d1 L ∧ RowAt w12 b2 d2 M ∧ RowAt w12 b3 d3 L ∧ w12.heap[t1]? = some (.cells #[.int .i64 R, .int .i64 C, .slice (some ⟨b1, 0, none⟩) nb d1, .int .i64 row, .int .i64 col, .bool vis] 24 (0, 0)) ∧ w12.heap[t2]? = some (.cells #[.int .i64 Rd, .int .i64 Cd, .slice (some ⟨b2, 0, none⟩) nd d2, .int .i64 rowd, .int .i64 cold, .bool visd] 24 (0, 0)) ∧ w12.heap[t3]? = some (.cells #[.int .i64 R, .int .i64 C, .slice (some ⟨b3, 0, none⟩) nb d3, .int .i64 row, .int .i64 col, .bool vis] 24 (0, 0)) from ⟨HG11.out.1.below b, HG11.out.2.1.below b, HG11.out.2.2.1.below b, (b.block _ (lt_of_block HG11.out.2.2.2.1)).trans HG11.out.2.2.2.1, (b.block _ (lt_of_block HG11.out.2.2.2.2.1)).trans HG11.out.2.2.2.2.1, (b.block _ (lt_of_block HG11.out.2.2.2.2.2)).trans HG11.out.2.2.2.2.2⟩)
        clear b HW11 HG11
        obtain ⟨x0, x1, x2, x3, x4, x5⟩ := six_cells HW12.out.2.1
        obtain ⟨y0, y1, y2, y3, y4, y5⟩ := six_cells HW12.out.2.2.1
        obtain ⟨z0, z1, z2, z3, z4, z5⟩ := six_cells HW12.out.2.2.2
        obtain ⟨p0, p1, p2, p3, p4, p5⟩ := six_cells HG12.out.2.2.2.1
        go_wp2_with fail
        refine (p_viewsame (cap := d1) (cap2 := cb) HG12.out.1.cr (HCR.out _ HW12.out.1).2.1 HLL.out.2.1 HLL.out.2.1 (by have := HSZ.out; omega) R C row col R C row col vis vis).mono ?_
        rintro e w13 ⟨rfl, b⟩
        rw [same_self]
        have HW13 := Lib.hid (show Below w.heap.size w w13 ∧ w13.heap[vb]? = some (.cells #[.int .i64 Ra, .int .i64 Ca, .slice A na ca, .int .i64 rowa, .int .i64 cola, .bool visa] 24 (0, 0)) ∧ w13.heap[vb + 1]? = some (.cells #[.int .i64 R, .int .i64 C, .slice B nb cb, .int .i64 row, .int .i64 col, .bool vis] 24 (0, 0)) ∧ w13.heap[vb + 2]? = some (.cells #[.int .i64 Rd, .int .i64 Cd, .slice D nd cd, .int .i64 rowd, .int .i64 cold, .bool visd] 24 (0, 0)) from ⟨HW12.out.1.trans (b.mono HW12.out.1.size), (b.block _ (lt_of_block HW12.out.2.1)).trans HW12.out.2.1, (b.block _ (lt_of_block HW12.out.2.2.1)).trans HW12.out.2.2.1, (b.block _ (lt_of_block HW12.out.2.2.2)).trans HW12.out.2.2.2⟩)
        have HG13 := Lib.hid (show RowAt w13 b1 d1 L ∧ RowAt w13 b2 d2 M ∧ RowAt w13 b3 d3 L ∧ w13.heap[t1]? = some (.cells #[.int .i64 R, .int .i64 C, .slice (some ⟨b1, 0, none⟩) nb d1, .int .i64 row, .int .i64 col, .bool vis] 24 (0, 0)) ∧ w13.heap[t2]? = some (.cells #[.int .i64 Rd, .int .i64 Cd, .slice (some ⟨b2, 0, none⟩) nd d2, .int .i64 rowd, .int .i64 cold, .bool visd] 24 (0, 0)) ∧ w13.heap[t3]? = some (.cells #[.int .i64 R, .int .i64 C, .slice (some ⟨b3, 0, none⟩) nb d3, .int .i64 row, .int .i64 col, .bool vis] 24 (0, 0)) from ⟨HG12.out.1.below b, HG12.out.2.1.below b, HG12.out.2.2.1.below b, (b.block _ (lt_of_block HG12.out.2.2.2.1)).trans HG12.out.2.2.2.1, (b.block _ (lt_of_block HG12.out.2.2.2.2.1)).trans HG12.out.2.2.2.2.1, (b.block _ (lt_of_block HG12.out.2.2.2.2.2)).trans HG12.out.2.2.2.2.2⟩)
        clear b HW12 HG12 p0 p1 p2 p3 p4 p5
        clear x0 x1 x2 x3 x4 x5 y0 y1 y2 y3 y4 y5 z0 z1 z2 z3 z4 z5
        obtain ⟨x0, x1, x2, x3, x4, x5⟩ := six_cells HW13.out.2.1
        obtain ⟨y0, y1, y2, y3, y4, y5⟩ := six_cells HW13.out.2.2.1
        obtain ⟨z0, z1, z2, z3, z4, z5⟩ := six_cells HW13.out.2.2.2
        obtain ⟨p0, p1, p2, p3, p4, p5⟩ := six_cells HG13.out.2.2.2.2.1
        have l1 : decide ((m1 : Int) ≤ 8192) = true := by simp; have := HNUM.out; omega
        have l1' : decide (m1 ≤ 8192) = true := by simp; have := HNUM.out; omega
        go_wp2_with fail
        refine (p_viewsame (cap := d2) (cap2 := cd) HG13.out.2.1.cr (HCR.out _ HW13.out.1).2.2 HLL.out.2.2.1 HLL.out.2.2.1 (by have := HSZ.out; omega) Rd Cd rowd cold Rd Cd rowd cold visd visd).mono ?_
        rintro e w14 ⟨rfl, b⟩
        rw [same_self]
        have HW14 := Lib.hid (show Below w.heap.size w w14 ∧ w14.heap[vb]? = some (.cells #[.int .i64 Ra, .int .i64 Ca, .slice A na ca, .int .i64 rowa, .int .i64 cola, .bool visa] 24 (0, 0)) ∧ w14.heap[vb + 1]? = some (.cells #[.int .i64 R, .int .i64 C, .slice B nb cb, .int .i64 row, .int .i64 col, .bool vis] 24 (0, 0)) ∧ w14.heap[vb + 2]? = some (.cells #[.int .i64 Rd, .int .i64 Cd, .slice D nd cd, .int .i64 rowd, .int .i64 cold, .bool visd] 24 (0, 0)) from ⟨HW13.out.1.trans (b.mono HW13.out.1.size), (b.block _ (lt_of_block HW13.out.2.1)).trans HW13.out.2.1, (b.block _ (lt_of_block HW13.out.2.2.1)).trans HW13.out.2.2.1, (b.block _ (lt_of_block HW13.out.2.2.2)).trans HW13.out.2.2.2⟩)
        have HG14 := Lib.hid (show RowAt w14 b1 d1 L ∧ RowAt w14 b2 d2 M ∧ RowAt w14 b3 d3 L ∧ w14.heap[t1]? = some (.cells #[.int .i64 R, .int .i64 C, .slice (some ⟨b1, 0, none⟩) nb d1, .int .i64 row, .int .i64 col, .bool vis] 24 (0, 0)) ∧ w14.heap[t2]? = some (.cells #[.int .i64 Rd, .int .i64 Cd, .slice (some ⟨b2, 0, none⟩) nd d2, .int .i64 rowd, .int .i64 cold, .bool visd] 24 (0, 0)) ∧ w14.heap[t3]? = some (.cells #[.int .i64 R, .int .i64 C, .slice (some ⟨b3, 0, none⟩) nb d3, .int .i64 row, .int .i64 col, .bool vis] 24 (0, 0)) from ⟨HG13.out.1.below b, HG13.out.2.1.below b, HG13.out.2.2.1.below b, (b.block _ (lt_of_block HG13.out.2.2.2.1)).trans HG13.out.2.2.2.1, (b.block _ (lt_of_block HG13.out.2.2.2.2.1)).trans HG13.out.2.2.2.2.1, (b.block _ (lt_of_block HG13.out.2.2.2.2.2)).trans HG13.out.2.2.2.2.2⟩)
        clear b HW13 HG13 p0 p1 p2 p3 p4 p5
        clear x0 x1 x2 x3 x4 x5 y0 y1 y2 y3 y4 y5 z0 z1 z2 z3 z4 z5
        obtain ⟨x0, x1, x2, x3, x4, x5⟩ := six_cells HW14.out.2.1
        obtain ⟨y0, y1, y2, y3, y4, y5⟩ := six_cells HW14.out.2.2.1
        obtain ⟨z0, z1, z2, z3, z4, z5⟩ := six_cells HW14.out.2.2.2
        obtain ⟨p0, p1, p2, p3, p4, p5⟩ := six_cells HG14.out.2.2.2.2.2
        go_wp2_with fail
        refine (p_viewsame (cap := d3) (cap2 := cb) HG14.out.2.2.1.cr (HCR.out _ HW14.out.1).2.1 HLL.out.2.1 HLL.out.2.1 (by have := HSZ.out; omega) R C row col R C row col vis vis).mono ?_
        rintro e w15 ⟨rfl, b⟩
        rw [same_self]
        have HW15 := Lib.hid (show Below w.heap.size w w15 ∧ w15.heap[vb]? = some (.cells #[.int .i64 Ra, .int .i64 Ca, .slice A na ca, .int .i64 rowa, .int .i64 cola, .bool visa] 24 (0, 0)) ∧ w15.heap[vb + 1]? = some (.cells #[.int .i64 R, .int .i64 C, .slice B nb cb, .int .i64 row, .int .i64 col, .bool vis] 24 (0, 0)) ∧ w15.heap[vb + 2]? = some (.cells #[.int .i64 Rd, .int .i64 Cd, .slice D nd cd, .int .i64 rowd, .int .i64 cold, .bool visd] 24 (0, 0)) from ⟨HW14.out.1.trans (b.mono HW14.out.1.size), (b.block _ (lt_of_block HW14.out.2.1)).trans HW14.out.2.1, (b.block _ (lt_of_block HW14.out.2.2.1)).trans HW14.out.2.2.1, (b.block _ (lt_of_block HW14.out.2.2.2)).trans HW14.out.2.2.2⟩)
        clear b HW14 HG14 p0 p1 p2 p3 p4 p5
        clear x0 x1 x2 x3 x4 x5 y0 y1 y2 y3 y4 y5 z0 z1 z2 z3 z4 z5
        obtain ⟨x0, x1, x2, x3, x4, x5⟩ := six_cells HW15.out.2.1
        obtain ⟨y0, y1, y2, y3, y4, y5⟩ := six_cells HW15.out.2.2.1
        obtain ⟨z0, z1, z2, z3, z4, z5⟩ := six_cells HW15.out.2.2.2
        rcases Nat.eq_zero_or_pos k with hk0 | hk0
        · have l3 : decide ((0 : Int) < (k : Int)) = false := by simp; omega
          have l3' : decide ((k : Int) > 0) = false := l3
          have l3n : decide (0 < k) = false := by simp; omega
          have l4 : decide ((5 : Int) < (m1 : Int)) = false := by simp; have := HNUM.out; omega
          have l4' : decide ((m1 : Int) > 5) = false := l4
          have l4n : decide (5 < m1) = false := by simp; have := HNUM.out; omega
          clear hk0
          go_wp2_with fail
          refine (HSAB.out _ HW15.out.1).mono ?_
          rintro e w16 ⟨rfl, b⟩
          have HB16 := Lib.hid (HW15.out.1.trans (b.mono HW15.out.1.size))
          clear b
          cases sm with
          | false =>
            go_wp2
            go_ret
            exact ⟨by rfl, HB16.out⟩
          | true =>
            have hm5 : m1 = 5 := HNUM.out.2.2.2 rfl
            subst hm5
            go_wp2
            go_ret
            exact ⟨by rfl, HB16.out⟩
        · have l3 : decide ((0 : Int) < (k : Int)) = true := by simp; omega
          have l3' : decide ((k : Int) > 0) = true := l3
          have l3n : decide (0 < k) = true := by simp; omega
          have l4 : decide ((5 : Int) < (m1 : Int)) = true := by simp; have := HNUM.out; omega
          have l4' : decide ((m1 : Int) > 5) = true := l4
          have l4n : decide (5 < m1) = true := by simp; have := HNUM.out; omega
          clear hk0
          go_wp2_with fail
          refine (HSAB.out _ HW15.out.1).mono ?_
          rintro e w16 ⟨rfl, b⟩
          have HB16 := Lib.hid (HW15.out.1.trans (b.mono HW15.out.1.size))
          clear b
          cases sm with
          | false =>
            go_wp2
            go_ret
            exact ⟨by rfl, HB16.out⟩
          | true =>
            have hm5 : m1 = 5 := HNUM.out.2.2.2 rfl
            subst hm5
            go_wp2
            go_ret
            exact ⟨by rfl, HB16.out⟩
end Go.Proofs.YtnejiniiehfmaaaDoor
