/-
  Proved here, where the table of constants is as the program lays it, for every row of slices that read as bytes: Of tells the sum of all of them, as 'sumS' says, and changes nothing that was there.
-/
import Derived.Test.YtdlhpmbgpjjkoaaDoorSSum
namespace Go.Proofs.YtdlhpmbgpjjkoaaDoor
open Go.RowKit
/-- A slice that reads as cs. -/
def R0 (w : World) (A : Option Addr) (cs : List Nat) : Prop :=
  0 < cs.length → ∃ b off, A = some ⟨b, off, none⟩ ∧ b < w.heap.size ∧ ∀ i, i < cs.length → w.cell? ⟨b, off + i, none⟩ = some (.int .u8 (cs.getD i 0 : Nat))
theorem R0.to {w w' : World} {A : Option Addr} {cs : List Nat} (h : R0 w A cs) (hb : Below w.heap.size w w') : R0 w' A cs := fun hl => by
  obtain ⟨b, off, e, hlt, hc⟩ := h hl
  exact ⟨b, off, e, Nat.lt_of_lt_of_le hlt hb.size, fun i hi => (hb.cell (p := ⟨b, off + i, none⟩) hlt).trans (hc i hi)⟩
theorem R0.rd {w w' : World} {A : Option Addr} {cs : List Nat} (h : R0 w A cs) (hb : Below w.heap.size w w') {g : Nat} (hg : w.heap.size ≤ g) : Rd w' g A cs := fun hl => by
  obtain ⟨b, off, e, hlt, hc⟩ := h hl
  exact ⟨b, off, e, Nat.lt_of_lt_of_le hlt hb.size, by omega, fun i hi => (hb.cell (p := ⟨b, off + i, none⟩) hlt).trans (hc i hi)⟩
/-- Slices side by side that read as ps. -/
def RS (w : World) (A : Option Addr) (ps : List (List Nat)) : Prop :=
  0 < ps.length → ∃ b off, A = some ⟨b, off, none⟩ ∧ b < w.heap.size ∧ ∀ i, i < ps.length → ∃ A' c', w.cell? ⟨b, off + i, none⟩ = some (.slice A' (ps.getD i []).length c') ∧ R0 w A' (ps.getD i []) ∧ (ps.getD i []).length ≤ c' ∧ c' ≤ maxLen
theorem RS.to {w w' : World} {A : Option Addr} {ps : List (List Nat)} (h : RS w A ps) (hb : Below w.heap.size w w') : RS w' A ps := fun hl => by
  obtain ⟨b, off, e, hlt, hc⟩ := h hl
  refine ⟨b, off, e, Nat.lt_of_lt_of_le hlt hb.size, fun i hi => ?_⟩
  obtain ⟨A', c', h1, h2, h3, h4⟩ := hc i hi
  exact ⟨A', c', (hb.cell (p := ⟨b, off + i, none⟩) hlt).trans h1, h2.to hb, h3, h4⟩
structure OR (w : World) (ps : List (List Nat)) (k : Nat) (wr : World) : Prop where
  sha : IsSha wr (w.heap.size + 1) (ps.take k).flatten
  ans : wr.heap[w.heap.size]? = some (.cells (V8 Z32).toArray 32 (0, 0))
  below : Below w.heap.size w wr
  size : w.heap.size + 2 ≤ wr.heap.size
theorem len_flat (ps : List (List Nat)) (k : Nat) (hk : k < ps.length) : (ps.take (k + 1)).flatten = (ps.take k).flatten ++ ps.getD k [] := by
  rw [List.take_succ_eq_append_getElem hk, List.flatten_append]
  simp [List.getD, hk]
theorem len_flat_le (ps : List (List Nat)) (k : Nat) : (ps.take k).flatten.length ≤ ps.flatten.length := by
  conv => rhs; rw [← List.take_append_drop k ps, List.flatten_append, List.length_append]
  omega

set_option maxRecDepth 100000 in
set_option maxHeartbeats 1000000 in
theorem of_any (ps : List (List Nat)) (A : Option Addr) (cap : Nat) (w : World) (hR : RS w A ps) (hcap : ps.length ≤ cap) (hm : cap ≤ maxLen) (hT : Tab w) (hn : ps.flatten.length < 1152921504606846000) :
    Calls Tryd.prog 25 #[.slice A ps.length cap] w fun e w' => e = .returned (.agg (V8 (sumS ps.flatten)).toArray) ∧ Below w.heap.size w w' := by
  unfold maxLen at hm
  have HR := Lib.hid hR
  have HT := Lib.hid hT
  clear hR hT
  go_enter Tryd.func25, Tryd.ntmps25
  go_wp2_with fail
  refine (new_any _).mono ?_
  rintro e w1 ⟨rfl, hs1, hz1, hb1⟩
  have F2 : w1.heap[w.heap.size]? = some (.cells (V8 Z32).toArray 32 (0, 0)) := (hb1.block _ (by simp)).trans (heap_alloc_new _ _)
  have F3 : Below w.heap.size w w1 := ((Below.refl _ _).alloc (Nat.le_refl _) _).trans (hb1.mono (by simp))
  have F4 : w1.heap.size = w.heap.size + 2 := by rw [hz1]; simp
  have F1 : IsSha w1 (w.heap.size + 1) [] := by simpa using hs1
  have H0 := Lib.hid (show OR w ps 0 w1 from ⟨by simpa using F1, F2, F3, by omega⟩)
  clear hb1 hs1 hz1 F1 F2 F3 F4
  go_wp2
  go_loopw [5, 11] (fun _ i wr => ∃ k : Nat, k ≤ ps.length ∧ i = .int .i64 k ∧ Hid (OR w ps k wr)) (fun _ i _ => ps.length - (intOf i).toNat)
  case atStart => exact ⟨0, by omega, rfl, H0⟩
  case round =>
    obtain ⟨k, hk, rfl, HK⟩ := hrel
    by_cases hlt : k < ps.length
    · obtain ⟨b, off, rfl, hbl, hc⟩ := HR.out (by omega)
      obtain ⟨A', c', hc1, hr1, hl1, hm1⟩ := hc k hlt
      clear hc
      have hcw : wr.cell? ⟨b, off + k, none⟩ = some (.slice A' (ps.getD k []).length c') := (HK.out.below.cell (p := ⟨b, off + k, none⟩) hbl).trans hc1
      obtain ⟨p, hp⟩ : ∃ p, ps.getD k [] = p := ⟨_, rfl⟩
      rw [hp] at hcw hr1 hl1
      have HP := Lib.hid (show (ps.take (k + 1)).flatten = (ps.take k).flatten ++ p by rw [← hp]; exact len_flat ps k hlt)
      have hle := len_flat_le ps (k + 1)
      rw [HP.out, List.length_append] at hle
      have HX := Lib.hid (take_any (ps.take k).flatten p (w.heap.size + 1) A' c' wr HK.out.sha (hr1.rd HK.out.below (by omega)) hl1 hm1 (HT.out.to HK.out.below) (by omega) (by omega))
      clear hc1 hr1 hl1 hm1 hp hle
      go_wp2_with fail
      refine HX.out.mono ?_
      rintro e w2 ⟨rfl, hS2, hO2⟩
      have hz := HK.out.size
      have HK2 := Lib.hid (show OR w ps (k + 1) w2 from ⟨by rw [HP.out]; exact hS2, (hO2.block _ (by omega) (by omega)).trans HK.out.ans, hO2.below HK.out.below (by omega) (by omega), Nat.le_trans hz hO2.size⟩)
      clear hS2 hO2 HX HK hz
      go_wp2
      go_roundw
      case rel => exact ⟨k + 1, by omega, by go_num, HK2⟩
      case measure => simp [intOf]; omega
    · obtain rfl : k = ps.length := by omega
      have HX := Lib.hid (sum_any (ps.take ps.length).flatten (w.heap.size + 1) wr HK.out.sha (HT.out.to HK.out.below) (by rw [List.take_length]; exact hn))
      rw [List.take_length] at HX
      go_wp2_with fail
      refine HX.out.mono ?_
      rintro e w2 ⟨rfl, hb2⟩
      have hz := HK.out.size
      have HZ2 := Lib.hid (show w2.heap[w.heap.size]? = some (.cells (V8 Z32).toArray 32 (0, 0)) from (hb2.block _ (by omega)).trans HK.out.ans)
      have HB2 := Lib.hid (show Below w.heap.size w w2 from HK.out.below.trans (hb2.mono (by omega)))
      have hz2 : w.heap.size + 2 ≤ w2.heap.size := Nat.le_trans hz hb2.size
      have HS := Lib.hid (show (Tryd.prog.info? 32).map (·.size) = some (V8 (sumS ps.flatten)).toArray.size by rw [List.size_toArray, length_V8, length_sumS]; exact info29)
      have HE := Lib.hid (show (V8 Z32).toArray.size = (V8 (sumS ps.flatten)).toArray.size by simp [length_sumS, Z32])
      have HA := Lib.hid (show (V8 (sumS ps.flatten)).toArray.all (·.oneCell') = true by simpa using one_V8 (sumS ps.flatten))
      clear hb2 HX HK hz
      go_wp2_with (first | (refine wpList_store_row rfl 32 _ _ rfl w2.heap.size (V8 (sumS ps.flatten)).toArray rfl rfl 32 (V8 Z32).toArray (heap_alloc_new _ _) HS.out HE.out HA.out ?_) | (refine wpList_load_row rfl 32 _ rfl w2.heap.size rfl 32 (V8 (sumS ps.flatten)).toArray (0, 0) _ (setRow_heap _ _ _ _ _ _ (heap_alloc_new _ _)) Tryd.underlying32 rfl HS.out ?_) | (refine wpList_store_row rfl 32 _ _ rfl w.heap.size (V8 (sumS ps.flatten)).toArray rfl rfl 32 (V8 Z32).toArray ((setRow_other _ _ _ _ (by omega)).trans ((old_block _ _ _ (by omega)).trans HZ2.out)) HS.out HE.out HA.out ?_))
      exact bodyPost_ret (v := .agg (V8 (sumS ps.flatten)).toArray) (results_cell_row (p := 2) (ty := 32) Tryd.results25 _ _ w.heap.size 32 _ (0, 0) _ rfl (setRow_heap _ _ _ _ _ _ ((setRow_other _ _ _ _ (by omega)).trans ((old_block _ _ _ (by omega)).trans HZ2.out))) Tryd.underlying32 rfl HS.out) rfl ⟨rfl, below_setRow (below_setRow (HB2.out.alloc (by omega) _) (by omega) _) (Nat.le_refl _) _⟩
end Go.Proofs.YtdlhpmbgpjjkoaaDoor
