/-
  Proved here: a new grid of the program's.
-/
import Derived.Test.YtjihcpnaebghnaaDoorGa
import Derived.Laws.MakeOwn
set_option linter.unusedSimpArgs false
set_option linter.unusedVariables false
namespace Go.Proofs.YtjihcpnaebghnaaDoor
open Go.RowKit
theorem mul64_1 (n : Nat) (hn : n ≤ 70000) (w : World) : Calls Tryd.prog 107 #[.int .u64 1, .int .u64 n] w fun e w' => e = .returned (.tuple #[.int .u64 0, .int .u64 n]) ∧ w = w' := by
  have m1 : bits .and .u64 (n : Int) 4294967295 = (n : Int) := (bits_mask .u64 64 (by decide) (fun n h1 h2 => by rw [IntKind.wrap_u64]; omega) 32 (by decide) (n : Int) (by omega) (by omega)).trans (by omega)
  have m2 : (n : Int) / 4294967296 = 0 := by omega
  have a0 : bits .and .u64 0 4294967295 = 0 := by decide +kernel
  have a1 : bits .and .u64 1 4294967295 = 1 := by decide +kernel
  have m3 : IntKind.u64.wrap (n : Int) = (n : Int) := by rw [IntKind.wrap_u64]; omega
  go_enter Tryd.func107, Tryd.ntmps107
  go_wp2
  go_ret2
  exact ⟨rfl, rfl⟩
set_option maxRecDepth 100000 in
theorem mul_1 (n : Nat) (hn : n ≤ 70000) (w : World) : Calls Tryd.prog 96 #[.int .u64 1, .int .u64 n] w fun e w' => e = .returned (.tuple #[.int .u64 0, .int .u64 n]) ∧ w = w' := by
  go_enter Tryd.func96, Tryd.ntmps96
  go_wp2_with fail
  refine (mul64_1 n hn _).mono ?_
  rintro e wx ⟨rfl, rfl⟩
  go_wp2
  go_ret2
  exact ⟨rfl, rfl⟩
def rep (n : Nat) (c : Ce) : List Ce := List.replicate n c
theorem rep_len (n : Nat) (c : Ce) : (rep n c).length = n := by simp [rep]
theorem flat_rep {n : Nat} {c : Ce} {i j : Nat} (hi : i < n) (hj : j < 4) : (flat (rep n c))[i * 4 + j]? = (gC c)[j]? := by
  rw [flat_get _ i j (by rw [rep_len]; exact hi) hj]
  simp [rep]
theorem made_flat (n : Nat) : (madeCells (cV zeC).cells (n * 4)).toList = flat (rep n zeC) := by
  apply List.ext_getElem?
  intro k
  by_cases hk : k < n * 4
  · have e : k = k / 4 * 4 + k % 4 := by omega
    have h4 : k % 4 < 4 := by omega
    have hz : (cV zeC).cells = #[.int .i32 0, .int .u8 0, .int .u32 0, .int .u32 0] := rfl
    rw [show (flat (rep n zeC))[k]? = (flat (rep n zeC))[k / 4 * 4 + k % 4]? from by rw [← e], flat_rep (by omega) h4]
    simp only [madeCells, hz, Array.toList_map, Array.toList_range, List.getElem?_map, List.getElem?_range hk, Option.map_some]
    have h5 : k % 4 = 0 ∨ k % 4 = 1 ∨ k % 4 = 2 ∨ k % 4 = 3 := by omega
    rcases h5 with h | h | h | h <;> simp [h, gC, zeC]
  · rw [List.getElem?_eq_none (by simp [size_madeCells]; omega), List.getElem?_eq_none (by rw [flat_len, rep_len]; omega)]
/-- A row that is made. -/
theorem run_make4 (W : World) (n : Nat) (hn : n ≤ 100000) : ∃ W', (Instr.makeSlice 22 (.int .i64 (n : Int)) (.int .i64 (n : Int))).run Tryd.prog W = .ok (.slice (some ⟨W.heap.size, 0, none⟩) n n) W' ∧ RowAt W' W.heap.size n (rep n zeC) ∧ Below W.heap.size W W' := by
  obtain ⟨i0, hi, hz0, hz1, hz2⟩ := info_parts infoCell
  refine ⟨_, run_make (P := Tryd.prog) W 22 88 i0 _ Tryd.underlying22 hi hz0 .i64 .i64 n n (by omega) (by omega) (by rw [hz2]; omega) (by omega), ?_, (Below.refl _ _).alloc (Nat.le_refl _) _⟩
  rw [hz1, Int.toNat_natCast]
  refine ⟨_, heap_alloc_new W _, by rw [size_madeCells], by rw [rep_len]; exact Nat.le_refl _, by unfold maxLen; omega, ?_⟩
  rw [made_flat, rep_len, List.take_of_length_le (by rw [flat_len, rep_len]; exact Nat.le_refl _)]
theorem lay_first {n : Nat} (hn : 1 ≤ n) (z c : Ce) : lay (rep n z) 0 [c] = rep 1 c ++ rep (n - 1) z := by
  simp [lay, rep]
theorem lay_more {n k m : Nat} (h : k + m ≤ n) (z c : Ce) : lay (rep k c ++ rep (n - k) z) k (rep m c) = rep (k + m) c ++ rep (n - (k + m)) z := by
  unfold lay rep
  rw [List.take_left' (by simp), List.replicate_append_replicate, List.length_replicate, List.drop_append, List.drop_eq_nil_of_le (by simp), List.drop_replicate]
  simp
  try omega
set_option maxRecDepth 100000 in
set_option maxHeartbeats 4000000 in
theorem repeat_any {w : World} {b0 : Nat} {c : Ce} (hb0 : b0 < w.heap.size) (hc : ∀ j v, (gC c)[j]? = some v → w.cell? ⟨b0, j, none⟩ = some v) {n : Nat} (h1 : 1 ≤ n) (h2 : n ≤ 70000) :
    Calls Tryd.prog 81 #[.slice (some ⟨b0, 0, none⟩) 1 1, .int .i64 n] w fun e w' => ∃ b, e = .returned (.slice (some ⟨b, 0, none⟩) n n) ∧ w.heap.size ≤ b ∧ RowAt w' b n (rep n c) ∧ Below w.heap.size w w' := by
  have HC := Lib.hid hc
  have HB0 := Lib.hid hb0
  clear hc hb0
  have d1 : decide ((n : Int) < 0) = false := by simp
  have d1' : decide (n < 0) = false := by simp
  have e1 : IntKind.u64.wrap (n : Int) = (n : Int) := by rw [IntKind.wrap_u64]; omega
  have e2 : IntKind.i64.wrap (n : Int) = (n : Int) := IntWalk.i64_in _ (by omega)
  have d2 : decide ((9223372036854775807 : Int) < (n : Int)) = false := by simp; omega
  have d2' : decide (9223372036854775807 < n) = false := by simp; omega
  have d3 : decide ((0 : Int) < 0) = false := by simp
  obtain ⟨W1, hmk, hR1, hB1⟩ := run_make4 w n (by omega)
  obtain ⟨W2, hcp, hR2, hg2⟩ := run_copy4 hR1 3 (o := 0) (m := n) (dc := n) (k := 1) (sc := 1) (a := ⟨b0, 0, none⟩) (cs := [c]) (by simp [Nat.min_def]; try omega) (by rw [rep_len]; simp; omega) (fun j v hv => by
    rw [show (⟨b0, 0, none⟩ : Addr).add j = ⟨b0, j, none⟩ by unfold Addr.add; split <;> simp_all]
    exact (hB1.cell (p := ⟨b0, j, none⟩) HB0.out).trans (HC.out j v (by simpa [flat] using hv)))
  obtain ⟨b, hb⟩ : ∃ b, w.heap.size = b := ⟨_, rfl⟩
  have HBL := Lib.hid (fun (_ : Unit) => hb)
  have HR2 := Lib.hid hR2
  have HB2 := Lib.hid (show Below w.heap.size w W2 from hB1.grown hg2 hB1.size (fun k e => by injection e with e; omega))
  rw [lay_first h1] at HR2
  rw [hb] at HR2 hmk hcp
  rw [Nat.zero_mul, show goInt (([c].length : Nat) : Int) = .int .i64 1 from rfl] at hcp
  have HCP := Lib.hid hcp
  have HMU := Lib.hid (fun W => mul_1 n h2 W)
  clear hR1 hB1 hR2 hg2 hcp hb
  go_enter Tryd.func81, Tryd.ntmps81
  go_wp2_with fail
  refine (HMU.out _).mono ?_
  rintro e wx ⟨rfl, rfl⟩
  go_wp2_with (refine wpList_copy rfl (.tmp 31) (.tmp 32) _ _ rfl _ _ rfl rfl HCP.out ?_)
  clear HCP hmk HMU
  have HL0 : Hid (RowAt W2 b n (rep 1 c ++ rep (n - 1) zeC) ∧ Below w.heap.size w W2) := Lib.hid ⟨HR2.out, HB2.out⟩
  clear HR2 HB2
  go_loopw [8] (fun kv wr => ∃ k : Nat, kv = .int .i64 k ∧ 1 ≤ k ∧ k ≤ n ∧ Hid (RowAt wr b n (rep k c ++ rep (n - k) zeC) ∧ Below w.heap.size w wr)) (fun kv _ => n - (intOf kv).toNat)
  case atStart => exact ⟨1, rfl, by omega, by omega, HL0⟩
  case round =>
    obtain ⟨k, rfl, hk1, hk2, HL⟩ := hrel
    clear HL0
    by_cases hkn : k < n
    · have f1 : decide ((k : Int) < (n : Int)) = true := by simp; omega
      have f1' : decide (k < n) = true := by simp; omega
      have g1 : (0 : Int) ≤ (k : Int) := by omega
      have g2 : (k : Int) ≤ (n : Int) := by omega
      have g3 : ¬ n = k := by omega
      obtain ⟨m, hm⟩ : ∃ m, Nat.min k (n - k) = m := ⟨_, rfl⟩
      have hm1 : m ≤ k ∧ m ≤ n - k ∧ 1 ≤ m := by rw [← hm]; simp only [Nat.min_def]; split <;> omega
      obtain ⟨W4, hcp, hR4, hg4⟩ := run_copy4 (HL.out.1.keep (W' := wr.drew) rfl) 3 (o := k) (m := n - k) (dc := n - k) (k := k) (sc := n) (a := ⟨b, 0, none⟩) (cs := rep m c) (by rw [rep_len, hm]) (by rw [rep_len]; simp [rep_len]; omega) (fun j v hv => by
        rw [show (⟨b, 0, none⟩ : Addr).add j = ⟨b, j, none⟩ by unfold Addr.add; split <;> simp_all]
        have hj : j < m * 4 := by
          have := (List.getElem?_eq_some_iff.1 hv).1
          rw [flat_len, rep_len] at this
          exact this
        have := HL.out.1.at_ (k := j) (by simp [rep_len]; omega)
        rw [show wr.drew.cell? ⟨b, j, none⟩ = wr.cell? ⟨b, j, none⟩ from rfl, this, ← hv, flat_app, List.getElem?_append_left (by rw [flat_len, rep_len]; omega)]
        rw [show j = j / 4 * 4 + j % 4 by omega, flat_rep (by omega) (by omega), flat_rep (by omega) (by omega)])
      rw [lay_more (by omega)] at hR4
      rw [rep_len, show goInt ((m : Nat) : Int) = .int .i64 (m : Int) from rfl] at hcp
      have HCP := Lib.hid hcp
      have HL4 := Lib.hid (show RowAt W4 b n (rep (k + m) c ++ rep (n - (k + m)) zeC) ∧ Below w.heap.size w W4 from ⟨hR4, HL.out.2.drew.grown hg4 (HL.out.2.size) (fun q e => by injection e with e; have := HBL.out (); omega)⟩)
      have w1 : IntKind.i64.wrap ((k : Int) + (m : Int)) = ((k + m : Nat) : Int) := by rw [← Int.natCast_add]; exact IntWalk.i64_in _ (by omega)
      clear hcp hR4 hg4 hm
      go_wp2
      refine wp_region_held_drew (S := fun _ => True) (by kernel_rfl) trivial (fun hHeld => ?_)
      refine wpAnyH_take (i := 0) (v := ?_) (by simp; rfl) (by kernel_rfl) (by kernel_rfl) (by kernel_rfl) (by exact fun _ _ _ h => h) (Or.inl ⟨by rfl, fun wx hSx => ?_⟩) hHeld ?_
      rotate_left
      · clear hSx; go_simp; (try with_reducible rfl)
      simp only [Act.put, List.setIfInBounds_toArray, List.set_cons_zero, List.set_cons_succ]
      refine wpAnyH_take (i := 1) (v := ?_) (by simp; rfl) (by kernel_rfl) (by kernel_rfl) (by kernel_rfl) (by exact fun _ _ _ h => h) (Or.inl ⟨by rfl, fun wx hSx => ?_⟩) hHeld ?_
      rotate_left
      · clear hSx; go_simp; (try with_reducible rfl)
      simp only [Act.put, List.setIfInBounds_toArray, List.set_cons_zero, List.set_cons_succ]
      refine wpAnyH_take (i := 2) (v := ?_) (by simp; rfl) (by kernel_rfl) (by kernel_rfl) (by kernel_rfl) (by exact fun _ _ _ h => h) (Or.inl ⟨by rfl, fun wx hSx => ?_⟩) hHeld ?_
      rotate_left
      · clear hSx; go_simp; (try with_reducible rfl)
      simp only [Act.put, List.setIfInBounds_toArray, List.set_cons_zero, List.set_cons_succ]
      refine wpAnyH_take (i := 3) (v := ?_) (by simp; rfl) (by kernel_rfl) (by kernel_rfl) (by kernel_rfl) (by exact fun _ _ _ h => h) (Or.inl ⟨by rfl, fun wx hSx => ?_⟩) hHeld ?_
      rotate_left
      · clear hSx; go_simp; (try with_reducible rfl)
      simp only [Act.put, List.setIfInBounds_toArray, List.set_cons_zero, List.set_cons_succ]
      refine wpAnyH_take (i := 4) (v := ?_) (by simp; rfl) (by kernel_rfl) (by kernel_rfl) (by kernel_rfl) (by exact fun _ _ _ h => h) (Or.inl ⟨by rfl, fun wx hSx => ?_⟩) hHeld ?_
      rotate_left
      · clear hSx; go_simp; (try with_reducible rfl)
      simp only [Act.put, List.setIfInBounds_toArray, List.set_cons_zero, List.set_cons_succ]
      refine wpAnyH_take (i := 5) (v := ?_) (by simp; rfl) (by kernel_rfl) (by kernel_rfl) (by kernel_rfl) (by exact fun _ _ _ h => h) (Or.inl ⟨by rfl, fun wx hSx => ?_⟩) hHeld ?_
      rotate_left
      · clear hSx; go_simp; (try with_reducible rfl)
      simp only [Act.put, List.setIfInBounds_toArray, List.set_cons_zero, List.set_cons_succ]
      refine wpAnyH_take (i := 6) (v := ?_) (by simp; rfl) (by kernel_rfl) (by kernel_rfl) (by kernel_rfl) (by exact fun _ _ _ h => h) (Or.inl ⟨by rfl, fun wx hSx => ?_⟩) hHeld ?_
      rotate_left
      · clear hSx; go_simp; (try with_reducible rfl)
      simp only [Act.put, List.setIfInBounds_toArray, List.set_cons_zero, List.set_cons_succ]
      refine wpAnyH_ready (rs := [7]) (by kernel_rfl) (by simp) ?_
      refine AllReadyH.cons (by simp; rfl) (fun K0 hK0 => ?_) AllReadyH.nil
      refine step_copy rfl (.tmp 41) (.tmp 44) _ _ rfl _ _ rfl rfl HCP.out ?_
      simp only [Act.put, List.setIfInBounds_toArray, List.set_cons_zero, List.set_cons_succ]
      refine hK0.out _ _ trivial (fun hHeld => ?_)
      clear hK0 K0
      refine wpAnyH_take (i := 8) (v := ?_) (by simp; rfl) (by kernel_rfl) (by kernel_rfl) (by kernel_rfl) (by exact fun _ _ _ h => h) (Or.inl ⟨by rfl, fun wx hSx => ?_⟩) hHeld ?_
      rotate_left
      · clear hSx; go_simp; (try with_reducible rfl)
      simp only [Act.put, List.setIfInBounds_toArray, List.set_cons_zero, List.set_cons_succ]
      refine wpAnyH_take (i := 9) (v := ?_) (by simp; rfl) (by kernel_rfl) (by kernel_rfl) (by kernel_rfl) (by exact fun _ _ _ h => h) (Or.inl ⟨by rfl, fun wx hSx => ?_⟩) hHeld ?_
      rotate_left
      · clear hSx; go_simp; (try with_reducible rfl)
      simp only [Act.put, List.setIfInBounds_toArray, List.set_cons_zero, List.set_cons_succ]
      refine wpAnyH_done (by kernel_rfl) ?_ _
      go_wp2
      go_roundw
      case rel => exact ⟨k + m, by go_num, by omega, by omega, HL4⟩
      case measure => simp [intOf]; omega
    · have f1 : decide ((k : Int) < (n : Int)) = false := by simp; omega
      have f1' : decide (k < n) = false := by simp; omega
      obtain rfl : k = n := by omega
      go_wp2
      go_ret
      refine ⟨b, rfl, by have := HBL.out (); omega, ?_, HL.out.2⟩
      have h := HL.out.1
      rw [Nat.sub_self] at h
      simpa [rep] using h
end Go.Proofs.YtjihcpnaebghnaaDoor
