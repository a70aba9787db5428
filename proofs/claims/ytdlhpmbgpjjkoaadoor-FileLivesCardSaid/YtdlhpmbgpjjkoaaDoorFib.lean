/-
  Proved here: of store's calls: isSize, Right, Chunks and Length, of descriptions and sizes that are not too great for any machine.
-/
import Derived.Test.YtdlhpmbgpjjkoaaDoorFia
set_option linter.unusedSimpArgs false
set_option linter.unusedVariables false
namespace Go.Proofs.YtdlhpmbgpjjkoaaDoor
open Go.RowKit
theorem isSize_yes {n : Nat} (h : n ≤ 4096) (w : World) : Calls Tryd.prog 31 #[.int .i64 n] w fun e w' => e = .returned (.bool true) ∧ w = w' := by
  have d0 : decide ((0 : Int) ≤ (n : Int)) = true := by simp
  have d1 : decide ((n : Int) ≤ 4096) = true := by simp; omega
  have h1 : (n : Int) ≤ 4096 := by omega
  go_enter Tryd.func31, Tryd.ntmps31
  go_wp2
  go_ret
  exact ⟨rfl, rfl⟩
theorem isSize_no {n : Nat} (h : 4096 < n) (w : World) : Calls Tryd.prog 31 #[.int .i64 n] w fun e w' => e = .returned (.bool false) ∧ w = w' := by
  have d0 : decide ((0 : Int) ≤ (n : Int)) = true := by simp
  have d1 : decide ((n : Int) ≤ 4096) = false := by simp; omega
  have h1 : ¬ (n : Int) ≤ 4096 := by omega
  go_enter Tryd.func31, Tryd.ntmps31
  go_wp2
  go_ret
  exact ⟨rfl, rfl⟩
theorem chunks_yes {n N : Nat} (h : n ≤ 4096) (hN : N = (n + 63) / 64) (w : World) : Calls Tryd.prog 29 #[.int .i64 n] w fun e w' => e = .returned (.int .i64 N) ∧ w = w' := by
  have HI := Lib.hid (fun W => isSize_yes h W)
  have w1 : IntKind.i64.wrap ((n : Int) + 64) = (n : Int) + 64 := IntWalk.i64_in _ (by omega)
  have w2 : IntKind.i64.wrap ((n : Int) + 64 - 1) = (n : Int) + 63 := by rw [IntWalk.i64_in _ (by omega)]; omega
  have w3 : ((n : Int) + 63).tdiv 64 = (N : Int) := by rw [Int.tdiv_eq_ediv_of_nonneg (by omega)]; omega
  have w4 : IntKind.i64.wrap (N : Int) = (N : Int) := IntWalk.i64_in _ (by omega)
  clear h hN
  go_enter Tryd.func29, Tryd.ntmps29
  go_wp2_with (go_at_call 31; refine (HI.out _).mono ?_; rintro e wx ⟨rfl, rfl⟩)
  go_ret
  exact ⟨rfl, rfl⟩
/-- How many bytes a chunk has. -/
def lenS (n i : Nat) : Nat := min (n - 64 * i) 64
theorem length_yes {n i : Nat} (h : n ≤ 4096) (hi : i < (n + 63) / 64) (w : World) : Calls Tryd.prog 48 #[.int .i64 n, .int .i64 i] w fun e w' => e = .returned (.int .i64 (lenS n i)) ∧ w = w' := by
  obtain ⟨N, hN⟩ : ∃ N, N = (n + 63) / 64 := ⟨_, rfl⟩
  have HI := Lib.hid (fun W => chunks_yes h hN W)
  obtain ⟨q, hq⟩ : ∃ q, n - 64 * i = q := ⟨_, rfl⟩
  have w1 : IntKind.i64.wrap ((i : Int) * 64) = (i : Int) * 64 := IntWalk.i64_in _ (by omega)
  have w2 : IntKind.i64.wrap ((n : Int) - (i : Int) * 64) = (q : Int) := by rw [IntWalk.i64_in _ (by omega)]; omega
  have d0 : decide ((i : Int) < 0) = false := by simp
  have d1 : decide ((N : Int) ≤ (i : Int)) = false := by simp; omega
  have d2 : ¬ (N : Int) ≤ (i : Int) := by omega
  have d3 : decide (N ≤ i) = false := by simp; omega
  have d4 : ¬ N ≤ i := by omega
  have HQ := Lib.hid (show lenS n i = min q 64 by unfold lenS; rw [hq])
  clear h hi hN hq
  by_cases h64 : q ≤ 64
  · have e1 : (q : Int) ≤ 64 := by omega
    have HQ := Lib.hid (show lenS n i = q by rw [HQ.out]; omega)
    go_enter Tryd.func48, Tryd.ntmps48
    go_wp2_with (go_at_call 29; refine (HI.out _).mono ?_; rintro e wx ⟨rfl, rfl⟩)
    go_ret
    exact ⟨by rw [HQ.out]; first | rfl | (congr 3; omega) | simp [e1], rfl⟩
  · have e1 : ¬ (q : Int) ≤ 64 := by omega
    have e2 : (64 : Int) ≤ (q : Int) := by omega
    have HQ := Lib.hid (show lenS n i = 64 by rw [HQ.out]; omega)
    go_enter Tryd.func48, Tryd.ntmps48
    go_wp2_with (go_at_call 29; refine (HI.out _).mono ?_; rintro e wx ⟨rfl, rfl⟩)
    go_ret
    exact ⟨by rw [HQ.out]; first | rfl | (congr 3; omega) | simp [e1], rfl⟩
/-- May a description be? -/
def rI (id : Nat) (nm : ByteArray) (n : Nat) : Bool := decide (1 ≤ id) && (decide (id ≤ 4611686018427387903) && (decide (1 ≤ nm.size) && (decide (nm.size ≤ 24) && decide (n ≤ 4096))))
theorem inf_cells {w : World} {g : Nat} {id : Nat} {nm : ByteArray} {n : Nat} {sum : List Nat} {t : TypeId} {fr : Nat × Nat} (h : w.heap[g]? = some (.cells (infL id nm n sum).toArray t fr)) : w.cell? ⟨g, 0, none⟩ = some (.int .u64 id) ∧ w.cell? ⟨g, 1, none⟩ = some (.string nm) ∧ w.cell? ⟨g, 2, none⟩ = some (.int .i64 n) := by
  refine ⟨?_, ?_, ?_⟩ <;> (rw [cell_of_row w g _ _ _ _ h]; rfl)
set_option maxRecDepth 100000 in
theorem sright_any (id : Nat) (nm : ByteArray) (n : Nat) (hnm : nm.size ≤ 1000000) (sum : List Nat) (w : World) : Calls Tryd.prog 7 #[.agg (infL id nm n sum).toArray] w fun e w' => e = .returned (.bool (rI id nm n)) ∧ Below w.heap.size w w' := by
  have HB := Lib.hid ((Below.refl _ w).alloc (Nat.le_refl _) (.cells (infL id nm n sum).toArray 34))
  obtain ⟨k0, k1, k2⟩ := inf_cells (heap_alloc_new w (.cells (infL id nm n sum).toArray 34))
  obtain ⟨l, hl⟩ : ∃ l, (infL id nm n sum).toArray = l := ⟨_, rfl⟩
  rw [hl] at HB k0 k1 k2 ⊢
  clear hl
  by_cases a0 : 1 ≤ id
  · have e0 : decide ((1 : Int) ≤ (id : Int)) = true := by simp; omega
    have f0 : (1 : Int) ≤ (id : Int) := by omega
    by_cases a1 : id ≤ 4611686018427387903
    · have e1 : decide ((id : Int) ≤ 4611686018427387903) = true := by simp; omega
      have f1 : (id : Int) ≤ 4611686018427387903 := by omega
      by_cases a2 : 1 ≤ nm.size
      · have e2 : decide ((1 : Int) ≤ (nm.size : Int)) = true := by simp; omega
        have f2 : (1 : Int) ≤ (nm.size : Int) := by omega
        by_cases a3 : nm.size ≤ 24
        · have e3 : decide ((nm.size : Int) ≤ 24) = true := by simp; omega
          have f3 : (nm.size : Int) ≤ 24 := by omega
          by_cases a4 : n ≤ 4096
          · have HS := Lib.hid (fun W => isSize_yes a4 W)
            have HR := Lib.hid (show rI id nm n = true by simp [rI, a0, a1, a2, a3, a4])
            clear hnm a0 a1 a2 a3 a4
            go_enter Tryd.func7, Tryd.ntmps7
            go_wp2_with (go_at_call 31; refine (HS.out _).mono ?_; rintro e wx ⟨rfl, rfl⟩)
            go_ret
            exact ⟨by rw [HR.out]; rfl, HB.out⟩
          · have HS := Lib.hid (fun W => isSize_no (n := n) (by omega) W)
            have HR := Lib.hid (show rI id nm n = false by simp [rI, a0, a1, a2, a3, a4])
            clear hnm a0 a1 a2 a3 a4
            go_enter Tryd.func7, Tryd.ntmps7
            go_wp2_with (go_at_call 31; refine (HS.out _).mono ?_; rintro e wx ⟨rfl, rfl⟩)
            go_ret
            exact ⟨by rw [HR.out]; rfl, HB.out⟩
        · have e3 : decide ((nm.size : Int) ≤ 24) = false := by simp; omega
          have f3 : ¬ (nm.size : Int) ≤ 24 := by omega
          have HR := Lib.hid (show rI id nm n = false by simp [rI, a3])
          clear hnm a0 a1 a2 a3
          go_enter Tryd.func7, Tryd.ntmps7
          go_wp2
          go_ret
          exact ⟨by rw [HR.out]; rfl, HB.out⟩
      · have e2 : decide ((1 : Int) ≤ (nm.size : Int)) = false := by simp; omega
        have f2 : ¬ (1 : Int) ≤ (nm.size : Int) := by omega
        have HR := Lib.hid (show rI id nm n = false by simp [rI, a2])
        clear hnm a0 a1 a2
        go_enter Tryd.func7, Tryd.ntmps7
        go_wp2
        go_ret
        exact ⟨by rw [HR.out]; rfl, HB.out⟩
    · have e1 : decide ((id : Int) ≤ 4611686018427387903) = false := by simp; omega
      have f1 : ¬ (id : Int) ≤ 4611686018427387903 := by omega
      have HR := Lib.hid (show rI id nm n = false by simp [rI, a1])
      clear hnm a0 a1
      go_enter Tryd.func7, Tryd.ntmps7
      go_wp2
      go_ret
      exact ⟨by rw [HR.out]; rfl, HB.out⟩
  · have e0 : decide ((1 : Int) ≤ (id : Int)) = false := by simp; omega
    have f0 : ¬ (1 : Int) ≤ (id : Int) := by omega
    have HR := Lib.hid (show rI id nm n = false by simp [rI, a0])
    clear hnm a0
    go_enter Tryd.func7, Tryd.ntmps7
    go_wp2
    go_ret
    exact ⟨by rw [HR.out]; rfl, HB.out⟩
end Go.Proofs.YtdlhpmbgpjjkoaaDoor
