/-
  Proved here: of the law of ansi: equal.
-/
import Derived.Test.YtfacnemgjdmlmaaNb
import Derived.LoopTactic
import Derived.Deep.QuietTactic
set_option linter.unusedSimpArgs false
set_option linter.unusedVariables false
namespace Go.Proofs.Ytfacnemgjdmlmaa
open Go.RowKit
set_option maxRecDepth 100000 in
set_option maxHeartbeats 1000000 in
theorem eq_no {w : World} {a0 a1 a2 a3 a4 b0 b1 b2 b3 b4 : Int} {Aa Ab : Option Addr} {na nb ca cb : Nat} {sa sb : ByteArray} (h : ¬ (a0 = b0 ∧ a1 = b1 ∧ a2 = b2 ∧ a3 = b3 ∧ a4 = b4 ∧ sa.toList = sb.toList ∧ na = nb)) :
    Calls Try.prog 14 #[.agg #[.int .i64 a0, .int .i32 a1, .int .u8 a2, .int .u8 a3, .int .u8 a4, .slice Aa na ca, .string sa], .agg #[.int .i64 b0, .int .i32 b1, .int .u8 b2, .int .u8 b3, .int .u8 b4, .slice Ab nb cb, .string sb]] w fun e w' => e = .returned (.bool false) ∧ Below w.heap.size w w' := by
  have HB : Hid (Below w.heap.size w ((w.alloc (.cells #[.int .i64 a0, .int .i32 a1, .int .u8 a2, .int .u8 a3, .int .u8 a4, .slice Aa na ca, .string sa] 38)).alloc (.cells #[.int .i64 b0, .int .i32 b1, .int .u8 b2, .int .u8 b3, .int .u8 b4, .slice Ab nb cb, .string sb] 38))) := Lib.hid (((Below.refl _ _).alloc (Nat.le_refl _) _).alloc (by simp) _)
  by_cases h0 : a0 = b0
  case neg =>
    have d0 : (a0 != b0) = true := by simp; (first | exact h0 | omega)
    clear h h0
    go_enter Try.func14, Try.ntmps14
    go_wp2
    go_ret
    exact ⟨rfl, HB.out⟩
  have d0 : (a0 != b0) = false := by simp; (first | exact h0 | omega)
  by_cases h1 : a1 = b1
  case neg =>
    have d1 : (a1 != b1) = true := by simp; (first | exact h1 | omega)
    clear h h0 h1
    go_enter Try.func14, Try.ntmps14
    go_wp2
    go_ret
    exact ⟨rfl, HB.out⟩
  have d1 : (a1 != b1) = false := by simp; (first | exact h1 | omega)
  by_cases h2 : a2 = b2
  case neg =>
    have d2 : (a2 != b2) = true := by simp; (first | exact h2 | omega)
    clear h h0 h1 h2
    go_enter Try.func14, Try.ntmps14
    go_wp2
    go_ret
    exact ⟨rfl, HB.out⟩
  have d2 : (a2 != b2) = false := by simp; (first | exact h2 | omega)
  by_cases h3 : a3 = b3
  case neg =>
    have d3 : (a3 != b3) = true := by simp; (first | exact h3 | omega)
    clear h h0 h1 h2 h3
    go_enter Try.func14, Try.ntmps14
    go_wp2
    go_ret
    exact ⟨rfl, HB.out⟩
  have d3 : (a3 != b3) = false := by simp; (first | exact h3 | omega)
  by_cases h4 : a4 = b4
  case neg =>
    have d4 : (a4 != b4) = true := by simp; (first | exact h4 | omega)
    clear h h0 h1 h2 h3 h4
    go_enter Try.func14, Try.ntmps14
    go_wp2
    go_ret
    exact ⟨rfl, HB.out⟩
  have d4 : (a4 != b4) = false := by simp; (first | exact h4 | omega)
  by_cases h5 : sa.toList = sb.toList
  case neg =>
    have d5 : (sa.toList == sb.toList) = false := by simp; (first | exact h5 | omega)
    clear h h0 h1 h2 h3 h4 h5
    go_enter Try.func14, Try.ntmps14
    go_wp2
    go_ret
    exact ⟨rfl, HB.out⟩
  have d5 : (sa.toList == sb.toList) = true := by simp; (first | exact h5 | omega)
  by_cases h6 : na = nb
  case neg =>
    have d6 : ((na : Int) != (nb : Int)) = true := by simp; (first | exact h6 | omega)
    clear h h0 h1 h2 h3 h4 h5 h6
    go_enter Try.func14, Try.ntmps14
    go_wp2
    go_ret
    exact ⟨rfl, HB.out⟩
  have d6 : ((na : Int) != (nb : Int)) = false := by simp; (first | exact h6 | omega)
  exact absurd ⟨h0, h1, h2, h3, h4, h5, h6⟩ h
set_option maxRecDepth 100000 in
set_option maxHeartbeats 1000000 in
theorem eq_yes {w : World} {a0 a1 a2 a3 a4 : Int} {Aa Ab : Option Addr} {n ca cb : Nat} {sa sb : ByteArray} {L M : List Int} (hs : sa.toList = sb.toList) (hRa : RI .i64 w Aa L) (hRb : RI .i64 w Ab M) (hL : L.length = n) (hM : M.length = n) (hn : n ≤ 100000) :
    Calls Try.prog 14 #[.agg #[.int .i64 a0, .int .i32 a1, .int .u8 a2, .int .u8 a3, .int .u8 a4, .slice Aa n ca, .string sa], .agg #[.int .i64 a0, .int .i32 a1, .int .u8 a2, .int .u8 a3, .int .u8 a4, .slice Ab n cb, .string sb]] w fun e w' => e = .returned (.bool (decide (L = M))) ∧ Below w.heap.size w w' := by
  have d0 : (sa.toList == sb.toList) = true := by simp; exact hs
  have z0 : (a0 != a0) = false := by simp
  have z1 : (a1 != a1) = false := by simp
  have z2 : (a2 != a2) = false := by simp
  have z3 : (a3 != a3) = false := by simp
  have z4 : (a4 != a4) = false := by simp
  have z5 : ((n : Int) != (n : Int)) = false := by simp
  obtain ⟨r, hr⟩ : ∃ r, decide (L = M) = r := ⟨_, rfl⟩
  have HNO : Hid (∀ i : Nat, i < n → L.getD i 0 ≠ M.getD i 0 → r = false) := Lib.hid (fun i hi hne => by rw [← hr]; simp; intro e; subst e; exact hne rfl)
  have HYES : Hid ((∀ i : Nat, i < n → L.getD i 0 = M.getD i 0) → r = true) := Lib.hid (fun hall => by
    rw [← hr]; simp
    apply List.ext_getElem (by omega)
    intro i h1 h2
    have := hall i (by omega)
    simpa [List.getD, h1, h2] using this)
  rw [hr]
  have HRA := Lib.hid hRa
  have HRB := Lib.hid hRb
  have HL := Lib.hid hL
  have HM := Lib.hid hM
  have HB : Hid (Below w.heap.size w ((w.alloc (.cells #[.int .i64 a0, .int .i32 a1, .int .u8 a2, .int .u8 a3, .int .u8 a4, .slice Aa n ca, .string sa] 38)).alloc (.cells #[.int .i64 a0, .int .i32 a1, .int .u8 a2, .int .u8 a3, .int .u8 a4, .slice Ab n cb, .string sb] 38))) := Lib.hid (((Below.refl _ _).alloc (Nat.le_refl _) _).alloc (by simp) _)
  have hk1 : ((w.alloc (.cells #[.int .i64 a0, .int .i32 a1, .int .u8 a2, .int .u8 a3, .int .u8 a4, .slice Aa n ca, .string sa] 38)).alloc (.cells #[.int .i64 a0, .int .i32 a1, .int .u8 a2, .int .u8 a3, .int .u8 a4, .slice Ab n cb, .string sb] 38)).cell? ⟨w.heap.size, 5, none⟩ = some (.slice Aa n ca) := by
    have h1 := heap_alloc_new w (.cells #[.int .i64 a0, .int .i32 a1, .int .u8 a2, .int .u8 a3, .int .u8 a4, .slice Aa n ca, .string sa] 38)
    have h2 := (Below.heap_alloc (w.alloc (.cells #[.int .i64 a0, .int .i32 a1, .int .u8 a2, .int .u8 a3, .int .u8 a4, .slice Aa n ca, .string sa] 38)) (.cells #[.int .i64 a0, .int .i32 a1, .int .u8 a2, .int .u8 a3, .int .u8 a4, .slice Ab n cb, .string sb] 38) w.heap.size (by simp)).trans h1
    unfold World.cell?; simp only [h2]; rfl
  have hk2 : ((w.alloc (.cells #[.int .i64 a0, .int .i32 a1, .int .u8 a2, .int .u8 a3, .int .u8 a4, .slice Aa n ca, .string sa] 38)).alloc (.cells #[.int .i64 a0, .int .i32 a1, .int .u8 a2, .int .u8 a3, .int .u8 a4, .slice Ab n cb, .string sb] 38)).cell? ⟨w.heap.size + 1, 5, none⟩ = some (.slice Ab n cb) := by
    have h1 := heap_alloc_new (w.alloc (.cells #[.int .i64 a0, .int .i32 a1, .int .u8 a2, .int .u8 a3, .int .u8 a4, .slice Aa n ca, .string sa] 38)) (.cells #[.int .i64 a0, .int .i32 a1, .int .u8 a2, .int .u8 a3, .int .u8 a4, .slice Ab n cb, .string sb] 38)
    rw [show (w.alloc (.cells #[.int .i64 a0, .int .i32 a1, .int .u8 a2, .int .u8 a3, .int .u8 a4, .slice Aa n ca, .string sa] 38)).heap.size = w.heap.size + 1 by simp] at h1
    unfold World.cell?; simp only [h1]; rfl
  have HSZ : Hid (w.heap.size + 1 < ((w.alloc (.cells #[.int .i64 a0, .int .i32 a1, .int .u8 a2, .int .u8 a3, .int .u8 a4, .slice Aa n ca, .string sa] 38)).alloc (.cells #[.int .i64 a0, .int .i32 a1, .int .u8 a2, .int .u8 a3, .int .u8 a4, .slice Ab n cb, .string sb] 38)).heap.size) := Lib.hid (by simp)
  have HK1 := Lib.hid hk1
  have HK2 := Lib.hid hk2
  have HZ : Hid (Below ((w.alloc (.cells #[.int .i64 a0, .int .i32 a1, .int .u8 a2, .int .u8 a3, .int .u8 a4, .slice Aa n ca, .string sa] 38)).alloc (.cells #[.int .i64 a0, .int .i32 a1, .int .u8 a2, .int .u8 a3, .int .u8 a4, .slice Ab n cb, .string sb] 38)).heap.size ((w.alloc (.cells #[.int .i64 a0, .int .i32 a1, .int .u8 a2, .int .u8 a3, .int .u8 a4, .slice Aa n ca, .string sa] 38)).alloc (.cells #[.int .i64 a0, .int .i32 a1, .int .u8 a2, .int .u8 a3, .int .u8 a4, .slice Ab n cb, .string sb] 38)) ((w.alloc (.cells #[.int .i64 a0, .int .i32 a1, .int .u8 a2, .int .u8 a3, .int .u8 a4, .slice Aa n ca, .string sa] 38)).alloc (.cells #[.int .i64 a0, .int .i32 a1, .int .u8 a2, .int .u8 a3, .int .u8 a4, .slice Ab n cb, .string sb] 38))) := Lib.hid (Below.refl _ _)
  clear hs hr hRa hRb hL hM hk1 hk2
  go_enter Try.func14, Try.ntmps14
  go_wp2
  generalize (w.alloc (.cells #[.int .i64 a0, .int .i32 a1, .int .u8 a2, .int .u8 a3, .int .u8 a4, .slice Aa n ca, .string sa] 38)).alloc (.cells #[.int .i64 a0, .int .i32 a1, .int .u8 a2, .int .u8 a3, .int .u8 a4, .slice Ab n cb, .string sb] 38) = U at HB HSZ HK1 HK2 HZ ⊢
  go_loopw [5] (fun iv wr => ∃ i : Nat, iv = .int .i64 i ∧ i ≤ n ∧ Hid (∀ j : Nat, j < i → L.getD j 0 = M.getD j 0) ∧ Hid (Below U.heap.size U wr)) (fun iv _ => n - (intOf iv).toNat)
  case atStart => exact ⟨0, rfl, by omega, Lib.hid (fun j hj => absurd hj (by omega)), HZ⟩
  case round =>
    obtain ⟨i, rfl, hi, HJ, HBW⟩ := hrel
    clear HZ
    have c1 := (HBW.out.cell (p := ⟨w.heap.size, 5, none⟩) (by have := HSZ.out; show w.heap.size < _; omega)).trans HK1.out
    have c2 := (HBW.out.cell (p := ⟨w.heap.size + 1, 5, none⟩) HSZ.out).trans HK2.out
    by_cases hin : i < n
    · have d1 : decide ((i : Int) < (n : Int)) = true := by simp; omega
      have d1' : decide (i < n) = true := by simp; omega
      obtain ⟨ba, oa, rfl, hba, hca⟩ := HRA.out (by rw [HL.out]; omega)
      obtain ⟨bb, ob, rfl, hbb, hcb⟩ := HRB.out (by rw [HM.out]; omega)
      have k1 := (HBW.out.cell (p := ⟨ba, oa + i, none⟩) (by have := HSZ.out; show ba < _; omega)).trans ((HB.out.cell (p := ⟨ba, oa + i, none⟩) hba).trans (hca i (by rw [HL.out]; exact hin)))
      have k2 := (HBW.out.cell (p := ⟨bb, ob + i, none⟩) (by have := HSZ.out; show bb < _; omega)).trans ((HB.out.cell (p := ⟨bb, ob + i, none⟩) hbb).trans (hcb i (by rw [HM.out]; exact hin)))
      have HN := Lib.hid (HNO.out i hin)
      obtain ⟨x, hx⟩ : ∃ x, L.getD i 0 = x := ⟨_, rfl⟩
      obtain ⟨y, hy⟩ : ∃ y, M.getD i 0 = y := ⟨_, rfl⟩
      have HX := Lib.hid hx
      have HY := Lib.hid hy
      rw [hx] at k1 HN
      rw [hy] at k2 HN
      have g3 : (0 : Int) ≤ (i : Int) := by omega
      have g4 : (i : Int) < (n : Int) := by omega
      have w1 : IntKind.i64.wrap ((i : Int) + 1) = (i : Int) + 1 := IntWalk.i64_in _ (by omega)
      have HBD := Lib.hid HBW.out.drew
      clear hx hy hca hcb HBW
      by_cases hxy : x = y
      · have d2 : (x != y) = false := by simp; exact hxy
        have HJ' : Hid (∀ j : Nat, j < i + 1 → L.getD j 0 = M.getD j 0) := Lib.hid (fun j hj => by
          rcases Nat.lt_or_ge j i with e | e
          · exact HJ.out j e
          · rw [show j = i by omega, HX.out, HY.out, hxy])
        clear hxy HN HJ HX HY
        go_wp2
        refine wp_region_held_drew (S := fun W => W.cell? ⟨w.heap.size, 5, none⟩ = some (.slice (some ⟨ba, oa, none⟩) n ca) ∧ W.cell? ⟨w.heap.size + 1, 5, none⟩ = some (.slice (some ⟨bb, ob, none⟩) n cb) ∧ W.cell? ⟨ba, oa + i, none⟩ = some (.int .i64 x) ∧ W.cell? ⟨bb, ob + i, none⟩ = some (.int .i64 y)) (by kernel_rfl) ⟨c1, c2, k1, k2⟩ (fun hHeld => ?_)
        refine wpAnyH_take (i := 0) (v := ?_) (by simp; rfl) (by kernel_rfl) (by kernel_rfl) (by kernel_rfl) (by exact fun _ _ _ h => h) (Or.inl ⟨by rfl, fun wx hSx => ?_⟩) hHeld ?_
        rotate_left
        · clear hSx; go_simp; (try with_reducible rfl)
        simp only [Act.put, List.setIfInBounds_toArray, List.set_cons_zero, List.set_cons_succ]
        refine wpAnyH_take (i := 1) (v := ?_) (by simp; rfl) (by kernel_rfl) (by kernel_rfl) (by kernel_rfl) (by exact fun _ _ _ h => h) (Or.inl ⟨by rfl, fun wx hSx => ?_⟩) hHeld ?_
        rotate_left
        · obtain ⟨s1, s2, s3, s4⟩ := hSx; clear s2 s3 s4; go_simp; (try with_reducible rfl)
        simp only [Act.put, List.setIfInBounds_toArray, List.set_cons_zero, List.set_cons_succ]
        refine wpAnyH_take (i := 2) (v := ?_) (by simp; rfl) (by kernel_rfl) (by kernel_rfl) (by kernel_rfl) (by exact fun _ _ _ h => h) (Or.inl ⟨by rfl, fun wx hSx => ?_⟩) hHeld ?_
        rotate_left
        · clear hSx; go_simp; (try with_reducible rfl)
        simp only [Act.put, List.setIfInBounds_toArray, List.set_cons_zero, List.set_cons_succ]
        refine wpAnyH_take (i := 3) (v := ?_) (by simp; rfl) (by kernel_rfl) (by kernel_rfl) (by kernel_rfl) (by exact fun _ _ _ h => h) (Or.inl ⟨by rfl, fun wx hSx => ?_⟩) hHeld ?_
        rotate_left
        · clear hSx; go_simp; (try with_reducible rfl)
        simp only [Act.put, List.setIfInBounds_toArray, List.set_cons_zero, List.set_cons_succ]
        refine wpAnyH_take (i := 4) (v := ?_) (by simp; rfl) (by kernel_rfl) (by kernel_rfl) (by kernel_rfl) (by exact fun _ _ _ h => h) (Or.inl ⟨by rfl, fun wx hSx => ?_⟩) hHeld ?_
        rotate_left
        · obtain ⟨s1, s2, s3, s4⟩ := hSx; clear s1 s2 s4; go_simp; (try with_reducible rfl)
        simp only [Act.put, List.setIfInBounds_toArray, List.set_cons_zero, List.set_cons_succ]
        refine wpAnyH_take (i := 5) (v := ?_) (by simp; rfl) (by kernel_rfl) (by kernel_rfl) (by kernel_rfl) (by exact fun _ _ _ h => h) (Or.inl ⟨by rfl, fun wx hSx => ?_⟩) hHeld ?_
        rotate_left
        · clear hSx; go_simp; (try with_reducible rfl)
        simp only [Act.put, List.setIfInBounds_toArray, List.set_cons_zero, List.set_cons_succ]
        refine wpAnyH_take (i := 6) (v := ?_) (by simp; rfl) (by kernel_rfl) (by kernel_rfl) (by kernel_rfl) (by exact fun _ _ _ h => h) (Or.inl ⟨by rfl, fun wx hSx => ?_⟩) hHeld ?_
        rotate_left
        · obtain ⟨s1, s2, s3, s4⟩ := hSx; clear s1 s3 s4; go_simp; (try with_reducible rfl)
        simp only [Act.put, List.setIfInBounds_toArray, List.set_cons_zero, List.set_cons_succ]
        refine wpAnyH_take (i := 7) (v := ?_) (by simp; rfl) (by kernel_rfl) (by kernel_rfl) (by kernel_rfl) (by exact fun _ _ _ h => h) (Or.inl ⟨by rfl, fun wx hSx => ?_⟩) hHeld ?_
        rotate_left
        · clear hSx; go_simp; (try with_reducible rfl)
        simp only [Act.put, List.setIfInBounds_toArray, List.set_cons_zero, List.set_cons_succ]
        refine wpAnyH_take (i := 8) (v := ?_) (by simp; rfl) (by kernel_rfl) (by kernel_rfl) (by kernel_rfl) (by exact fun _ _ _ h => h) (Or.inl ⟨by rfl, fun wx hSx => ?_⟩) hHeld ?_
        rotate_left
        · clear hSx; go_simp; (try with_reducible rfl)
        simp only [Act.put, List.setIfInBounds_toArray, List.set_cons_zero, List.set_cons_succ]
        refine wpAnyH_take (i := 9) (v := ?_) (by simp; rfl) (by kernel_rfl) (by kernel_rfl) (by kernel_rfl) (by exact fun _ _ _ h => h) (Or.inl ⟨by rfl, fun wx hSx => ?_⟩) hHeld ?_
        rotate_left
        · obtain ⟨s1, s2, s3, s4⟩ := hSx; clear s1 s2 s3; go_simp; (try with_reducible rfl)
        simp only [Act.put, List.setIfInBounds_toArray, List.set_cons_zero, List.set_cons_succ]
        refine wpAnyH_take (i := 10) (v := ?_) (by simp; rfl) (by kernel_rfl) (by kernel_rfl) (by kernel_rfl) (by exact fun _ _ _ h => h) (Or.inl ⟨by rfl, fun wx hSx => ?_⟩) hHeld ?_
        rotate_left
        · clear hSx; go_simp; (try with_reducible rfl)
        simp only [Act.put, List.setIfInBounds_toArray, List.set_cons_zero, List.set_cons_succ]
        refine wpAnyH_done (by kernel_rfl) ?_ _
        clear hHeld
        go_wp2
        go_roundw
        case rel => exact ⟨i + 1, by go_num, by omega, HJ', HBD⟩
        case measure => simp [intOf]; omega
      · have d2 : (x != y) = true := by simp; exact hxy
        have e := HN.out hxy
        subst e
        clear hxy HN HJ HX HY HNO HYES
        go_wp2
        refine wp_region_held_drew (S := fun W => W.cell? ⟨w.heap.size, 5, none⟩ = some (.slice (some ⟨ba, oa, none⟩) n ca) ∧ W.cell? ⟨w.heap.size + 1, 5, none⟩ = some (.slice (some ⟨bb, ob, none⟩) n cb) ∧ W.cell? ⟨ba, oa + i, none⟩ = some (.int .i64 x) ∧ W.cell? ⟨bb, ob + i, none⟩ = some (.int .i64 y)) (by kernel_rfl) ⟨c1, c2, k1, k2⟩ (fun hHeld => ?_)
        refine wpAnyH_take (i := 0) (v := ?_) (by simp; rfl) (by kernel_rfl) (by kernel_rfl) (by kernel_rfl) (by exact fun _ _ _ h => h) (Or.inl ⟨by rfl, fun wx hSx => ?_⟩) hHeld ?_
        rotate_left
        · clear hSx; go_simp; (try with_reducible rfl)
        simp only [Act.put, List.setIfInBounds_toArray, List.set_cons_zero, List.set_cons_succ]
        refine wpAnyH_take (i := 1) (v := ?_) (by simp; rfl) (by kernel_rfl) (by kernel_rfl) (by kernel_rfl) (by exact fun _ _ _ h => h) (Or.inl ⟨by rfl, fun wx hSx => ?_⟩) hHeld ?_
        rotate_left
        · obtain ⟨s1, s2, s3, s4⟩ := hSx; clear s2 s3 s4; go_simp; (try with_reducible rfl)
        simp only [Act.put, List.setIfInBounds_toArray, List.set_cons_zero, List.set_cons_succ]
        refine wpAnyH_take (i := 2) (v := ?_) (by simp; rfl) (by kernel_rfl) (by kernel_rfl) (by kernel_rfl) (by exact fun _ _ _ h => h) (Or.inl ⟨by rfl, fun wx hSx => ?_⟩) hHeld ?_
        rotate_left
        · clear hSx; go_simp; (try with_reducible rfl)
        simp only [Act.put, List.setIfInBounds_toArray, List.set_cons_zero, List.set_cons_succ]
        refine wpAnyH_take (i := 3) (v := ?_) (by simp; rfl) (by kernel_rfl) (by kernel_rfl) (by kernel_rfl) (by exact fun _ _ _ h => h) (Or.inl ⟨by rfl, fun wx hSx => ?_⟩) hHeld ?_
        rotate_left
        · clear hSx; go_simp; (try with_reducible rfl)
        simp only [Act.put, List.setIfInBounds_toArray, List.set_cons_zero, List.set_cons_succ]
        refine wpAnyH_take (i := 4) (v := ?_) (by simp; rfl) (by kernel_rfl) (by kernel_rfl) (by kernel_rfl) (by exact fun _ _ _ h => h) (Or.inl ⟨by rfl, fun wx hSx => ?_⟩) hHeld ?_
        rotate_left
        · obtain ⟨s1, s2, s3, s4⟩ := hSx; clear s1 s2 s4; go_simp; (try with_reducible rfl)
        simp only [Act.put, List.setIfInBounds_toArray, List.set_cons_zero, List.set_cons_succ]
        refine wpAnyH_take (i := 5) (v := ?_) (by simp; rfl) (by kernel_rfl) (by kernel_rfl) (by kernel_rfl) (by exact fun _ _ _ h => h) (Or.inl ⟨by rfl, fun wx hSx => ?_⟩) hHeld ?_
        rotate_left
        · clear hSx; go_simp; (try with_reducible rfl)
        simp only [Act.put, List.setIfInBounds_toArray, List.set_cons_zero, List.set_cons_succ]
        refine wpAnyH_take (i := 6) (v := ?_) (by simp; rfl) (by kernel_rfl) (by kernel_rfl) (by kernel_rfl) (by exact fun _ _ _ h => h) (Or.inl ⟨by rfl, fun wx hSx => ?_⟩) hHeld ?_
        rotate_left
        · obtain ⟨s1, s2, s3, s4⟩ := hSx; clear s1 s3 s4; go_simp; (try with_reducible rfl)
        simp only [Act.put, List.setIfInBounds_toArray, List.set_cons_zero, List.set_cons_succ]
        refine wpAnyH_take (i := 7) (v := ?_) (by simp; rfl) (by kernel_rfl) (by kernel_rfl) (by kernel_rfl) (by exact fun _ _ _ h => h) (Or.inl ⟨by rfl, fun wx hSx => ?_⟩) hHeld ?_
        rotate_left
        · clear hSx; go_simp; (try with_reducible rfl)
        simp only [Act.put, List.setIfInBounds_toArray, List.set_cons_zero, List.set_cons_succ]
        refine wpAnyH_take (i := 8) (v := ?_) (by simp; rfl) (by kernel_rfl) (by kernel_rfl) (by kernel_rfl) (by exact fun _ _ _ h => h) (Or.inl ⟨by rfl, fun wx hSx => ?_⟩) hHeld ?_
        rotate_left
        · clear hSx; go_simp; (try with_reducible rfl)
        simp only [Act.put, List.setIfInBounds_toArray, List.set_cons_zero, List.set_cons_succ]
        refine wpAnyH_take (i := 9) (v := ?_) (by simp; rfl) (by kernel_rfl) (by kernel_rfl) (by kernel_rfl) (by exact fun _ _ _ h => h) (Or.inl ⟨by rfl, fun wx hSx => ?_⟩) hHeld ?_
        rotate_left
        · obtain ⟨s1, s2, s3, s4⟩ := hSx; clear s1 s2 s3; go_simp; (try with_reducible rfl)
        simp only [Act.put, List.setIfInBounds_toArray, List.set_cons_zero, List.set_cons_succ]
        refine wpAnyH_take (i := 10) (v := ?_) (by simp; rfl) (by kernel_rfl) (by kernel_rfl) (by kernel_rfl) (by exact fun _ _ _ h => h) (Or.inl ⟨by rfl, fun wx hSx => ?_⟩) hHeld ?_
        rotate_left
        · clear hSx; go_simp; (try with_reducible rfl)
        simp only [Act.put, List.setIfInBounds_toArray, List.set_cons_zero, List.set_cons_succ]
        refine wpAnyH_done (by kernel_rfl) ?_ _
        clear hHeld
        go_wp2
        go_ret
        exact ⟨rfl, HB.out.trans (HBD.out.mono HB.out.size)⟩
    · have d1 : decide ((i : Int) < (n : Int)) = false := by simp; omega
      have d1' : decide (i < n) = false := by simp; omega
      have e := HYES.out (fun j hj => HJ.out j (by omega))
      subst e
      have HF := Lib.hid (HB.out.trans (HBW.out.mono HB.out.size))
      clear HJ HNO HYES HBW
      go_wp2
      go_ret
      exact ⟨rfl, HF.out⟩
end Go.Proofs.Ytfacnemgjdmlmaa

