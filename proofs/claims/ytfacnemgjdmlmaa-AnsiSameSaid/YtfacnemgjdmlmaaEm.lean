/-
  Proved here: of ansi: Same tells whether two events are equal.
-/
import Derived.Test.YtfacnemgjdmlmaaEl
set_option linter.unusedSimpArgs false
set_option linter.unusedVariables false
namespace Go.Proofs.Ytfacnemgjdmlmaa
open Go.RowKit
set_option maxRecDepth 100000 in
set_option maxHeartbeats 4000000 in
theorem sl_equal {w : World} {Aa Ab : Option Addr} {na nb ca cb : Nat} {L M : List Int} (hRa : RI .i64 w Aa L) (hRb : RI .i64 w Ab M) (hL : L.length = na) (hM : M.length = nb) (hn : na ≤ 100000) (hn2 : nb ≤ 100000) :
    Calls Try.prog 26 #[.slice Aa na ca, .slice Ab nb cb] w fun e w' => e = .returned (.bool (decide (L = M))) ∧ Below w.heap.size w w' := by
  obtain ⟨r, hr⟩ : ∃ r, decide (L = M) = r := ⟨_, rfl⟩
  by_cases hne : na = nb
  case neg =>
    have d0 : ((na : Int) != (nb : Int)) = true := by simp; omega
    have hrf : r = false := by rw [← hr]; simp; intro e; subst e; omega
    rw [hr, hrf]
    have HZ := Lib.hid (Below.refl w.heap.size w)
    clear hRa hRb hL hM hne hr hrf
    go_enter Try.func26, Try.ntmps26
    go_wp2
    go_ret
    exact ⟨rfl, HZ.out⟩
  subst hne
  have z0 : ((na : Int) != (na : Int)) = false := by simp
  have HNO : Hid (∀ i : Nat, i < na → L.getD i 0 ≠ M.getD i 0 → r = false) := Lib.hid (fun i hi hne => by rw [← hr]; simp; intro e; subst e; exact hne rfl)
  have HYES : Hid ((∀ i : Nat, i < na → L.getD i 0 = M.getD i 0) → r = true) := Lib.hid (fun hall => by
    rw [← hr]; simp
    apply List.ext_getElem (by omega)
    intro i h1 h2
    have := hall i (by omega)
    simpa [List.getD, h1, h2] using this)
  rw [hr]
  have HRA := Lib.hid hRa
  have HRB := Lib.hid hRb
  have HL := Lib.hid hL
  have HM := Lib.hid hM
  have HZ := Lib.hid (Below.refl w.heap.size w)
  clear hr hRa hRb hL hM
  go_enter Try.func26, Try.ntmps26
  go_wp2
  go_loopw [13] (fun iv wr => ∃ i : Nat, iv = .int .i64 i ∧ i ≤ na ∧ Hid (∀ j : Nat, j < i → L.getD j 0 = M.getD j 0) ∧ Hid (Below w.heap.size w wr)) (fun iv _ => na - (intOf iv).toNat)
  case atStart => exact ⟨0, rfl, by omega, Lib.hid (fun j hj => absurd hj (by omega)), HZ⟩
  case round =>
    obtain ⟨i, rfl, hi, HJ, HBW⟩ := hrel
    clear HZ z0
    by_cases hin : i < na
    · have d1 : decide ((i : Int) < (na : Int)) = true := by simp; omega
      have d1' : decide (i < na) = true := by simp; omega
      obtain ⟨ba, oa, rfl, hba, hca⟩ := HRA.out (by rw [HL.out]; omega)
      obtain ⟨bb, ob, rfl, hbb, hcb⟩ := HRB.out (by rw [HM.out]; omega)
      have k1 := (HBW.out.cell (p := ⟨ba, oa + i, none⟩) hba).trans (hca i (by rw [HL.out]; exact hin))
      have k2 := (HBW.out.cell (p := ⟨bb, ob + i, none⟩) hbb).trans (hcb i (by rw [HM.out]; exact hin))
      have HN := Lib.hid (HNO.out i hin)
      obtain ⟨x, hx⟩ : ∃ x, L.getD i 0 = x := ⟨_, rfl⟩
      obtain ⟨y, hy⟩ : ∃ y, M.getD i 0 = y := ⟨_, rfl⟩
      have HX := Lib.hid hx
      have HY := Lib.hid hy
      rw [hx] at k1 HN
      rw [hy] at k2 HN
      have g3 : (0 : Int) ≤ (i : Int) := by omega
      have g4 : (i : Int) < (na : Int) := by omega
      have w1 : IntKind.i64.wrap ((i : Int) + 1) = (i : Int) + 1 := IntWalk.i64_in _ (by omega)
      have HBD := Lib.hid HBW.out.drew
      clear hx hy hca hcb HBW
      by_cases hxy : x = y
      · have d2 : (x != y) = false := by simp; exact hxy
        have HJ' : Hid (∀ j : Nat, j < i + 1 → L.getD j 0 = M.getD j 0) := Lib.hid (fun j hj => by
          rcases Nat.lt_or_ge j i with e | e
          · exact HJ.out j e
          · rw [show j = i by omega, HX.out, HY.out, hxy])
        clear hxy HN HJ HX HY
        go_wp2
        refine wp_region_held_drew (S := fun W => W.cell? ⟨ba, oa + i, none⟩ = some (.int .i64 x) ∧ W.cell? ⟨bb, ob + i, none⟩ = some (.int .i64 y)) (by kernel_rfl) ⟨k1, k2⟩ (fun hHeld => ?_)
        refine wpAnyH_take (i := 0) (v := ?_) (by simp; rfl) (by kernel_rfl) (by kernel_rfl) (by kernel_rfl) (by exact fun _ _ _ h => h) (Or.inl ⟨by rfl, fun wx hSx => ?_⟩) hHeld ?_
        rotate_left
        · clear hSx; go_simp; (try with_reducible rfl)
        simp only [Act.put, List.setIfInBounds_toArray, List.set_cons_zero, List.set_cons_succ]
        refine wpAnyH_take (i := 1) (v := ?_) (by simp; rfl) (by kernel_rfl) (by kernel_rfl) (by kernel_rfl) (by exact fun _ _ _ h => h) (Or.inl ⟨by rfl, fun wx hSx => ?_⟩) hHeld ?_
        rotate_left
        · clear hSx; go_simp; (try with_reducible rfl)
        simp only [Act.put, List.setIfInBounds_toArray, List.set_cons_zero, List.set_cons_succ]
        refine wpAnyH_take (i := 2) (v := ?_) (by simp; rfl) (by kernel_rfl) (by kernel_rfl) (by kernel_rfl) (by exact fun _ _ _ h => h) (Or.inl ⟨by rfl, fun wx hSx => ?_⟩) hHeld ?_
        rotate_left
        · clear hSx; go_simp; (try with_reducible rfl)
        simp only [Act.put, List.setIfInBounds_toArray, List.set_cons_zero, List.set_cons_succ]
        refine wpAnyH_take (i := 3) (v := ?_) (by simp; rfl) (by kernel_rfl) (by kernel_rfl) (by kernel_rfl) (by exact fun _ _ _ h => h) (Or.inl ⟨by rfl, fun wx hSx => ?_⟩) hHeld ?_
        rotate_left
        · obtain ⟨s1, s2⟩ := hSx; clear s2; go_simp; (try with_reducible rfl)
        simp only [Act.put, List.setIfInBounds_toArray, List.set_cons_zero, List.set_cons_succ]
        refine wpAnyH_take (i := 4) (v := ?_) (by simp; rfl) (by kernel_rfl) (by kernel_rfl) (by kernel_rfl) (by exact fun _ _ _ h => h) (Or.inl ⟨by rfl, fun wx hSx => ?_⟩) hHeld ?_
        rotate_left
        · clear hSx; go_simp; (try with_reducible rfl)
        simp only [Act.put, List.setIfInBounds_toArray, List.set_cons_zero, List.set_cons_succ]
        refine wpAnyH_take (i := 5) (v := ?_) (by simp; rfl) (by kernel_rfl) (by kernel_rfl) (by kernel_rfl) (by exact fun _ _ _ h => h) (Or.inl ⟨by rfl, fun wx hSx => ?_⟩) hHeld ?_
        rotate_left
        · clear hSx; go_simp; (try with_reducible rfl)
        simp only [Act.put, List.setIfInBounds_toArray, List.set_cons_zero, List.set_cons_succ]
        refine wpAnyH_take (i := 6) (v := ?_) (by simp; rfl) (by kernel_rfl) (by kernel_rfl) (by kernel_rfl) (by exact fun _ _ _ h => h) (Or.inl ⟨by rfl, fun wx hSx => ?_⟩) hHeld ?_
        rotate_left
        · clear hSx; go_simp; (try with_reducible rfl)
        simp only [Act.put, List.setIfInBounds_toArray, List.set_cons_zero, List.set_cons_succ]
        refine wpAnyH_take (i := 7) (v := ?_) (by simp; rfl) (by kernel_rfl) (by kernel_rfl) (by kernel_rfl) (by exact fun _ _ _ h => h) (Or.inl ⟨by rfl, fun wx hSx => ?_⟩) hHeld ?_
        rotate_left
        · obtain ⟨s1, s2⟩ := hSx; clear s1; go_simp; (try with_reducible rfl)
        simp only [Act.put, List.setIfInBounds_toArray, List.set_cons_zero, List.set_cons_succ]
        refine wpAnyH_take (i := 8) (v := ?_) (by simp; rfl) (by kernel_rfl) (by kernel_rfl) (by kernel_rfl) (by exact fun _ _ _ h => h) (Or.inl ⟨by rfl, fun wx hSx => ?_⟩) hHeld ?_
        rotate_left
        · clear hSx; go_simp; (try with_reducible rfl)
        simp only [Act.put, List.setIfInBounds_toArray, List.set_cons_zero, List.set_cons_succ]
        refine wpAnyH_done (by kernel_rfl) ?_ _
        clear hHeld
        go_wp2
        go_roundw
        case rel => exact ⟨i + 1, by go_num, by omega, HJ', HBD⟩
        case measure => simp [intOf]; omega
      · have d2 : (x != y) = true := by simp; exact hxy
        have e := HN.out hxy
        subst e
        clear hxy HN HJ HX HY HNO HYES
        go_wp2
        refine wp_region_held_drew (S := fun W => W.cell? ⟨ba, oa + i, none⟩ = some (.int .i64 x) ∧ W.cell? ⟨bb, ob + i, none⟩ = some (.int .i64 y)) (by kernel_rfl) ⟨k1, k2⟩ (fun hHeld => ?_)
        refine wpAnyH_take (i := 0) (v := ?_) (by simp; rfl) (by kernel_rfl) (by kernel_rfl) (by kernel_rfl) (by exact fun _ _ _ h => h) (Or.inl ⟨by rfl, fun wx hSx => ?_⟩) hHeld ?_
        rotate_left
        · clear hSx; go_simp; (try with_reducible rfl)
        simp only [Act.put, List.setIfInBounds_toArray, List.set_cons_zero, List.set_cons_succ]
        refine wpAnyH_take (i := 1) (v := ?_) (by simp; rfl) (by kernel_rfl) (by kernel_rfl) (by kernel_rfl) (by exact fun _ _ _ h => h) (Or.inl ⟨by rfl, fun wx hSx => ?_⟩) hHeld ?_
        rotate_left
        · clear hSx; go_simp; (try with_reducible rfl)
        simp only [Act.put, List.setIfInBounds_toArray, List.set_cons_zero, List.set_cons_succ]
        refine wpAnyH_take (i := 2) (v := ?_) (by simp; rfl) (by kernel_rfl) (by kernel_rfl) (by kernel_rfl) (by exact fun _ _ _ h => h) (Or.inl ⟨by rfl, fun wx hSx => ?_⟩) hHeld ?_
        rotate_left
        · clear hSx; go_simp; (try with_reducible rfl)
        simp only [Act.put, List.setIfInBounds_toArray, List.set_cons_zero, List.set_cons_succ]
        refine wpAnyH_take (i := 3) (v := ?_) (by simp; rfl) (by kernel_rfl) (by kernel_rfl) (by kernel_rfl) (by exact fun _ _ _ h => h) (Or.inl ⟨by rfl, fun wx hSx => ?_⟩) hHeld ?_
        rotate_left
        · obtain ⟨s1, s2⟩ := hSx; clear s2; go_simp; (try with_reducible rfl)
        simp only [Act.put, List.setIfInBounds_toArray, List.set_cons_zero, List.set_cons_succ]
        refine wpAnyH_take (i := 4) (v := ?_) (by simp; rfl) (by kernel_rfl) (by kernel_rfl) (by kernel_rfl) (by exact fun _ _ _ h => h) (Or.inl ⟨by rfl, fun wx hSx => ?_⟩) hHeld ?_
        rotate_left
        · clear hSx; go_simp; (try with_reducible rfl)
        simp only [Act.put, List.setIfInBounds_toArray, List.set_cons_zero, List.set_cons_succ]
        refine wpAnyH_take (i := 5) (v := ?_) (by simp; rfl) (by kernel_rfl) (by kernel_rfl) (by kernel_rfl) (by exact fun _ _ _ h => h) (Or.inl ⟨by rfl, fun wx hSx => ?_⟩) hHeld ?_
        rotate_left
        · clear hSx; go_simp; (try with_reducible rfl)
        simp only [Act.put, List.setIfInBounds_toArray, List.set_cons_zero, List.set_cons_succ]
        refine wpAnyH_take (i := 6) (v := ?_) (by simp; rfl) (by kernel_rfl) (by kernel_rfl) (by kernel_rfl) (by exact fun _ _ _ h => h) (Or.inl ⟨by rfl, fun wx hSx => ?_⟩) hHeld ?_
        rotate_left
        · clear hSx; go_simp; (try with_reducible rfl)
        simp only [Act.put, List.setIfInBounds_toArray, List.set_cons_zero, List.set_cons_succ]
        refine wpAnyH_take (i := 7) (v := ?_) (by simp; rfl) (by kernel_rfl) (by kernel_rfl) (by kernel_rfl) (by exact fun _ _ _ h => h) (Or.inl ⟨by rfl, fun wx hSx => ?_⟩) hHeld ?_
        rotate_left
        · obtain ⟨s1, s2⟩ := hSx; clear s1; go_simp; (try with_reducible rfl)
        simp only [Act.put, List.setIfInBounds_toArray, List.set_cons_zero, List.set_cons_succ]
        refine wpAnyH_take (i := 8) (v := ?_) (by simp; rfl) (by kernel_rfl) (by kernel_rfl) (by kernel_rfl) (by exact fun _ _ _ h => h) (Or.inl ⟨by rfl, fun wx hSx => ?_⟩) hHeld ?_
        rotate_left
        · clear hSx; go_simp; (try with_reducible rfl)
        simp only [Act.put, List.setIfInBounds_toArray, List.set_cons_zero, List.set_cons_succ]
        refine wpAnyH_done (by kernel_rfl) ?_ _
        clear hHeld
        go_wp2
        go_ret
        exact ⟨rfl, HBD.out⟩
    · have d1 : decide ((i : Int) < (na : Int)) = false := by simp; omega
      have d1' : decide (i < na) = false := by simp; omega
      have e := HYES.out (fun j hj => HJ.out j (by omega))
      subst e
      clear HJ HNO HYES
      go_wp2
      go_ret
      exact ⟨rfl, HBW.out⟩
/-- Two events are equal. -/
def SameE (a0 a1 a2 a3 a4 b0 b1 b2 b3 b4 : Int) (sa sb : ByteArray) (L M : List Int) : Prop := a0 = b0 ∧ a1 = b1 ∧ a2 = b2 ∧ a3 = b3 ∧ a4 = b4 ∧ sa.toList = sb.toList ∧ L = M
instance {a0 a1 a2 a3 a4 b0 b1 b2 b3 b4 : Int} {sa sb : ByteArray} {L M : List Int} : Decidable (SameE a0 a1 a2 a3 a4 b0 b1 b2 b3 b4 sa sb L M) := by unfold SameE; infer_instance
set_option maxRecDepth 100000 in
theorem eq_any {w : World} {a0 a1 a2 a3 a4 b0 b1 b2 b3 b4 : Int} {Aa Ab : Option Addr} {na nb ca cb : Nat} {sa sb : ByteArray} {L M : List Int} (hRa : RI .i64 w Aa L) (hRb : RI .i64 w Ab M) (hL : L.length = na) (hM : M.length = nb) (hn : na ≤ 100000) :
    Calls Try.prog 14 #[.agg #[.int .i64 a0, .int .i32 a1, .int .u8 a2, .int .u8 a3, .int .u8 a4, .slice Aa na ca, .string sa], .agg #[.int .i64 b0, .int .i32 b1, .int .u8 b2, .int .u8 b3, .int .u8 b4, .slice Ab nb cb, .string sb]] w fun e w' => e = .returned (.bool (decide (SameE a0 a1 a2 a3 a4 b0 b1 b2 b3 b4 sa sb L M))) ∧ Below w.heap.size w w' := by
  by_cases h : a0 = b0 ∧ a1 = b1 ∧ a2 = b2 ∧ a3 = b3 ∧ a4 = b4 ∧ sa.toList = sb.toList ∧ na = nb
  · obtain ⟨rfl, rfl, rfl, rfl, rfl, hs, rfl⟩ := h
    have e : decide (SameE a0 a1 a2 a3 a4 a0 a1 a2 a3 a4 sa sb L M) = decide (L = M) := by simp [SameE, hs]
    rw [e]
    exact eq_yes hs hRa hRb hL hM hn
  · have e : decide (SameE a0 a1 a2 a3 a4 b0 b1 b2 b3 b4 sa sb L M) = false := by
      refine decide_eq_false (fun ⟨q0, q1, q2, q3, q4, q5, q6⟩ => h ⟨q0, q1, q2, q3, q4, q5, ?_⟩)
      rw [← hL, ← hM, q6]
    rw [e]
    exact eq_no h
set_option maxRecDepth 100000 in
set_option maxHeartbeats 4000000 in
theorem same_any {w : World} {a0 a1 a2 a3 a4 b0 b1 b2 b3 b4 : Int} {Aa Ab : Option Addr} {na nb ca cb : Nat} {sa sb : ByteArray} {L M : List Int} (hRa : RI .i64 w Aa L) (hRb : RI .i64 w Ab M) (hL : L.length = na) (hM : M.length = nb) (hn : na ≤ 100000) (hn2 : nb ≤ 100000) :
    Calls Try.prog 16 #[.agg #[.int .i64 a0, .int .i32 a1, .int .u8 a2, .int .u8 a3, .int .u8 a4, .slice Aa na ca, .string sa], .agg #[.int .i64 b0, .int .i32 b1, .int .u8 b2, .int .u8 b3, .int .u8 b4, .slice Ab nb cb, .string sb]] w fun e w' => e = .returned (.bool (decide (SameE a0 a1 a2 a3 a4 b0 b1 b2 b3 b4 sa sb L M))) ∧ Below w.heap.size w w' := by
  have hb0 : Below w.heap.size w ((w.alloc (.cells #[.int .i64 a0, .int .i32 a1, .int .u8 a2, .int .u8 a3, .int .u8 a4, .slice Aa na ca, .string sa] 40)).alloc (.cells #[.int .i64 b0, .int .i32 b1, .int .u8 b2, .int .u8 b3, .int .u8 b4, .slice Ab nb cb, .string sb] 40)) := (((Below.refl _ _).alloc (Nat.le_refl _) _).alloc (by simp) _)
  have HB := Lib.hid hb0
  obtain ⟨b, hb⟩ : ∃ b, decide (SameE a0 a1 a2 a3 a4 b0 b1 b2 b3 b4 sa sb L M) = b := ⟨_, rfl⟩
  rw [hb]
  unfold SameE at hb
  have HE := Lib.hid (fun (X : World) (hX : Below w.heap.size w X) => sl_equal (w := X) (ca := ca) (cb := cb) (RI.below hRa hX) (RI.below hRb hX) hL hM hn hn2)
  clear hRa hRb hL hM hb0
  by_cases h0 : a0 = b0
  case neg =>
    have d0 : (a0 == b0) = false := by simpa using h0
    have hbf : b = false := by rw [← hb]; exact decide_eq_false (fun q => h0 q.1)
    subst hbf
    clear h0 hb HE
    go_enter Try.func16, Try.ntmps16
    go_wp2
    go_ret
    exact ⟨rfl, HB.out⟩
  have d0 : (a0 == b0) = true := by simpa using h0
  by_cases h1 : a1 = b1
  case neg =>
    have d1 : (a1 == b1) = false := by simpa using h1
    have hbf : b = false := by rw [← hb]; exact decide_eq_false (fun q => h1 q.2.1)
    subst hbf
    clear h0 h1 hb HE
    go_enter Try.func16, Try.ntmps16
    go_wp2
    go_ret
    exact ⟨rfl, HB.out⟩
  have d1 : (a1 == b1) = true := by simpa using h1
  by_cases h2 : a2 = b2
  case neg =>
    have d2 : (a2 == b2) = false := by simpa using h2
    have hbf : b = false := by rw [← hb]; exact decide_eq_false (fun q => h2 q.2.2.1)
    subst hbf
    clear h0 h1 h2 hb HE
    go_enter Try.func16, Try.ntmps16
    go_wp2
    go_ret
    exact ⟨rfl, HB.out⟩
  have d2 : (a2 == b2) = true := by simpa using h2
  by_cases h3 : a3 = b3
  case neg =>
    have d3 : (a3 == b3) = false := by simpa using h3
    have hbf : b = false := by rw [← hb]; exact decide_eq_false (fun q => h3 q.2.2.2.1)
    subst hbf
    clear h0 h1 h2 h3 hb HE
    go_enter Try.func16, Try.ntmps16
    go_wp2
    go_ret
    exact ⟨rfl, HB.out⟩
  have d3 : (a3 == b3) = true := by simpa using h3
  by_cases h4 : a4 = b4
  case neg =>
    have d4 : (a4 == b4) = false := by simpa using h4
    have hbf : b = false := by rw [← hb]; exact decide_eq_false (fun q => h4 q.2.2.2.2.1)
    subst hbf
    clear h0 h1 h2 h3 h4 hb HE
    go_enter Try.func16, Try.ntmps16
    go_wp2
    go_ret
    exact ⟨rfl, HB.out⟩
  have d4 : (a4 == b4) = true := by simpa using h4
  obtain ⟨r, hr⟩ : ∃ r, decide (L = M) = r := ⟨_, rfl⟩
  rw [hr] at HE
  have HR : Hid (b = (r && (sa.toList == sb.toList))) := Lib.hid (by
    rw [← hb, ← hr]
    by_cases e1 : sa.toList = sb.toList <;> by_cases e2 : L = M <;> simp [h0, h1, h2, h3, h4, e1, e2])
  obtain ⟨q, hq⟩ : ∃ q, (sa.toList == sb.toList) = q := ⟨_, rfl⟩
  rw [hq] at HR
  clear hb hr h0 h1 h2 h3 h4
  go_enter Try.func16, Try.ntmps16
  go_wp2_with fail
  refine (HE.out _ HB.out).mono ?_
  have k1 := heap_alloc2_new w (.cells #[.int .i64 a0, .int .i32 a1, .int .u8 a2, .int .u8 a3, .int .u8 a4, .slice Aa na ca, .string sa] 40) (.cells #[.int .i64 b0, .int .i32 b1, .int .u8 b2, .int .u8 b3, .int .u8 b4, .slice Ab nb cb, .string sb] 40)
  have k0 := (Below.heap_alloc (w.alloc (.cells #[.int .i64 a0, .int .i32 a1, .int .u8 a2, .int .u8 a3, .int .u8 a4, .slice Aa na ca, .string sa] 40)) (.cells #[.int .i64 b0, .int .i32 b1, .int .u8 b2, .int .u8 b3, .int .u8 b4, .slice Ab nb cb, .string sb] 40) w.heap.size (by simp)).trans (heap_alloc_new w (.cells #[.int .i64 a0, .int .i32 a1, .int .u8 a2, .int .u8 a3, .int .u8 a4, .slice Aa na ca, .string sa] 40))
  generalize ((w.alloc (.cells #[.int .i64 a0, .int .i32 a1, .int .u8 a2, .int .u8 a3, .int .u8 a4, .slice Aa na ca, .string sa] 40)).alloc (.cells #[.int .i64 b0, .int .i32 b1, .int .u8 b2, .int .u8 b3, .int .u8 b4, .slice Ab nb cb, .string sb] 40)) = U at HB k0 k1 ⊢
  rintro e V ⟨rfl, hx⟩
  have HV := Lib.hid (HB.out.trans (hx.mono HB.out.size))
  have c0 : V.cell? ⟨w.heap.size, 6, none⟩ = some (.string sa) := by
    have := (hx.block _ (lt_of_block k0)).trans k0
    unfold World.cell?; simp only [this]; rfl
  have c1 : V.cell? ⟨w.heap.size + 1, 6, none⟩ = some (.string sb) := by
    have := (hx.block _ (lt_of_block k1)).trans k1
    unfold World.cell?; simp only [this]; rfl
  clear hx k0 k1 HE HB
  cases r
  · have e := HR.out
    rw [Bool.false_and] at e
    subst e
    clear HR hq
    go_wp2
    go_ret
    exact ⟨rfl, HV.out⟩
  · have e := HR.out
    rw [Bool.true_and] at e
    subst e
    clear HR
    go_wp2
    go_ret
    exact ⟨rfl, HV.out⟩
end Go.Proofs.Ytfacnemgjdmlmaa
