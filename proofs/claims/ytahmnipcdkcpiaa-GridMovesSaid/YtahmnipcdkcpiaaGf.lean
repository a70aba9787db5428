/-
  Proved here: a grid's cells are filled, and moved to the beginning or the end of a list.
-/
import Derived.Test.YtahmnipcdkcpiaaGe
set_option linter.unusedSimpArgs false
set_option linter.unusedVariables false
namespace Go.Proofs.Ytahmnipcdkcpiaa
open Go.RowKit
theorem lay_step {L : List Ce} {o i : Nat} (c : Ce) (h : o + i < L.length) : (lay L o (rep i c)).set (o + i) c = lay L o (rep (i + 1) c) := by
  have hl : (lay L o (rep i c)).length = L.length := lay_len (by rw [rep_len]; omega)
  apply List.ext_getElem?
  intro k
  rw [List.getElem?_set]
  have e2 : (lay L o (rep (i + 1) c))[k]? = if k < o then L[k]? else if k < o + (i + 1) then some c else L[k]? := by
    unfold lay rep
    rw [List.getElem?_append, List.getElem?_append, List.length_append, List.length_take, List.length_replicate]
    have e : min o L.length = o := by omega
    rw [e]
    by_cases k1 : k < o
    · simp [k1, show k < o + (i + 1) by omega]
    · by_cases k2 : k < o + (i + 1)
      · simp [k1, k2, List.getElem?_replicate, show k - o < i + 1 by omega]
      · simp [k1, k2, List.getElem?_drop, show o + (i + 1) + (k - (o + (i + 1))) = k by omega]
  have e1 : (lay L o (rep i c))[k]? = if k < o then L[k]? else if k < o + i then some c else L[k]? := by
    unfold lay rep
    rw [List.getElem?_append, List.getElem?_append, List.length_append, List.length_take, List.length_replicate]
    have e : min o L.length = o := by omega
    rw [e]
    by_cases k1 : k < o
    · simp [k1, show k < o + i by omega]
    · by_cases k2 : k < o + i
      · simp [k1, k2, List.getElem?_replicate, show k - o < i by omega]
      · simp [k1, k2, List.getElem?_drop, show o + i + (k - (o + i)) = k by omega]
  rw [e1, e2, hl]
  by_cases k1 : o + i = k
  · subst k1
    rw [if_pos rfl, if_pos h, if_neg (by omega), if_pos (by omega)]
  · rw [if_neg k1]
    by_cases k2 : k < o
    · simp [k2]
    · by_cases k3 : k < o + i
      · simp [k2, k3, show k < o + (i + 1) by omega]
      · simp [k2, k3, show ¬ k < o + (i + 1) by omega]
theorem lay_zero (L : List Ce) (o : Nat) (c : Ce) : lay L o (rep 0 c) = L := by
  unfold lay rep
  simp
theorem grown_trans {a b c : World} {row : Option Nat} (h : a.grownBy b row) (k : b.grownBy c row) : a.grownBy c row :=
  ⟨k.os.trans h.os, k.tape.trans h.tape, k.output.trans h.output, Nat.le_trans h.size k.size, fun i hi hr => (k.block i (Nat.lt_of_lt_of_le hi h.size) hr).trans (h.block i hi hr)⟩
/-- What is boxed stays. -/
theorem box_cells {w W : World} {b : Nat} {p f gg bb : Int} (hb : b < w.heap.size) (hW : (w.alloc (.cells #[.int .i32 p, .int .u8 f, .int .u32 gg, .int .u32 bb] 39)).grownBy W (some b)) : W.cell? ⟨w.heap.size, 0, none⟩ = some (.int .i32 p) ∧ W.cell? ⟨w.heap.size, 1, none⟩ = some (.int .u8 f) ∧ W.cell? ⟨w.heap.size, 2, none⟩ = some (.int .u32 gg) ∧ W.cell? ⟨w.heap.size, 3, none⟩ = some (.int .u32 bb) := by
  have hh := (hW.block w.heap.size (by simp) (fun e => by injection e with e; omega)).trans (heap_alloc_new w _)
  refine ⟨?_, ?_, ?_, ?_⟩ <;> (unfold World.cell?; simp only [hh]; rfl)
set_option maxRecDepth 100000 in
set_option maxHeartbeats 2000000 in
theorem fill_any {w : World} {b cap : Nat} {L : List Ce} (h : RowAt w b cap L) {A : Option Addr} {o m dc : Nat} (hA : 0 < m → A = some ⟨b, o * 4, none⟩) (ho : o + m ≤ L.length) (hm : m ≤ 1000) (c : Ce) :
    Calls Try.prog 42 #[.slice A m dc, cV c] w fun e w' => e = .returned (.tuple #[]) ∧ RowAt w' b cap (lay L o (rep m c)) ∧ w.grownBy w' (some b) := by
  obtain ⟨p, f, gg, bb⟩ := c
  have hb0 : Below w.heap.size w (w.alloc (.cells #[.int .i32 p, .int .u8 f, .int .u32 gg, .int .u32 bb] 39)) := (Below.refl _ _).alloc (Nat.le_refl _) _
  have HB0 := Lib.hid hb0
  have HBN := Lib.hid h.lt
  have HA := Lib.hid hA
  have HO := Lib.hid ho
  have HI0 : Hid (RowAt (w.alloc (.cells #[.int .i32 p, .int .u8 f, .int .u32 gg, .int .u32 bb] 39)) b cap (lay L o (rep 0 ⟨p, f, gg, bb⟩)) ∧ (w.alloc (.cells #[.int .i32 p, .int .u8 f, .int .u32 gg, .int .u32 bb] 39)).grownBy (w.alloc (.cells #[.int .i32 p, .int .u8 f, .int .u32 gg, .int .u32 bb] 39)) (some b)) := Lib.hid ⟨by rw [lay_zero]; exact h.below hb0, World.grownBy.refl _ _⟩
  unfold cV
  clear h hb0 hA ho
  go_enter Try.func42, Try.ntmps42
  go_wp2
  go_loopw [4, 7] (fun _ iv wr => ∃ i : Nat, iv = .int .i64 i ∧ i ≤ m ∧ Hid (RowAt wr b cap (lay L o (rep i ⟨p, f, gg, bb⟩)) ∧ (w.alloc (.cells #[.int .i32 p, .int .u8 f, .int .u32 gg, .int .u32 bb] 39)).grownBy wr (some b))) (fun _ iv _ => m - (intOf iv).toNat)
  case atStart => exact ⟨0, rfl, by omega, HI0⟩
  case round =>
    obtain ⟨i, rfl, hi, HI⟩ := hrel
    clear HI0
    by_cases him : i < m
    · have f1 : decide ((i : Int) < (m : Int)) = true := by simp; omega
      have f1' : decide (i < m) = true := by simp; omega
      have g1 : (0 : Int) ≤ (i : Int) := by omega
      have g2 : (i : Int) < (m : Int) := by omega
      have w1 : IntKind.i64.wrap ((i : Int) + 1) = (i : Int) + 1 := IntWalk.i64_in _ (by omega)
      obtain rfl := HA.out (by omega)
      obtain ⟨q0, q1, q2, q3⟩ := box_cells HBN.out HI.out.2
      have HK := Lib.hid (show o + i < (lay L o (rep i ⟨p, f, gg, bb⟩)).length from by rw [lay_len (by rw [rep_len]; have := HO.out; omega)]; have := HO.out; omega)
      have HS := Lib.hid (lay_step (L := L) (o := o) (i := i) ⟨p, f, gg, bb⟩ (by have := HO.out; omega))
      go_wp2_with (refine wpList_store4 rfl (.tmp 13) (.tmp 12) rfl HI.out.1 (k := o + i) HK.out (by simp [Nat.add_mul]; rfl) (c := ⟨p, f, gg, bb⟩) rfl ?_; intro V hV hgV; have HI2 := Lib.hid (And.intro (HS.out ▸ hV) (grown_trans HI.out.2 hgV)); clear hV hgV q0 q1 q2 q3)
      go_roundw
      case rel => exact ⟨i + 1, by go_num, by omega, HI2⟩
      case measure => simp [intOf]; omega
    · have f1 : decide ((i : Int) < (m : Int)) = false := by simp; omega
      have f1' : decide (i < m) = false := by simp; omega
      obtain rfl : i = m := by omega
      go_wp2
      go_end0
      exact ⟨rfl, HI.out.1, below_grown HB0.out HI.out.2⟩
/-- A list's rest. -/
theorem slice_from4 {b o m dc k : Nat} (hk : k ≤ m) (hm : m ≤ dc) : ∃ A : Option Addr, (0 < m - k → A = some ⟨b, (o + k) * 4, none⟩) ∧ A.isSome = true ∧ ∀ W : World, (Instr.slice 55 (.slice (some ⟨b, o * 4, none⟩) m dc) (some (.int .i64 (k : Int))) none none).run Try.prog W = .ok (.slice A (m - k) (dc - k)) W := by
  have h1 : (k : Int) ≤ (m : Int) := by omega
  refine ⟨some (if dc = k then ⟨b, o * 4, none⟩ else ⟨b, (o + k) * 4, none⟩), fun hp => by rw [if_neg (by omega)], rfl, fun W => ?_⟩
  obtain ⟨i0, hi, _, hz1, _⟩ := info_parts infoCell
  have ha : (⟨b, o * 4, none⟩ : Addr).add (k * 4) = ⟨b, (o + k) * 4, none⟩ := by
    rw [Nat.add_mul]; unfold Addr.add; split <;> simp_all
  simp [Instr.slice, run_underlying Try.underlying55, Instr.sliceBounds, run_sliceBound, h1, hi, hz1, ha]
  split <;> rfl
theorem slice_to4 {b o m dc k : Nat} (hk : k ≤ m) (hm : m ≤ dc) (W : World) : (Instr.slice 55 (.slice (some ⟨b, o * 4, none⟩) m dc) none (some (.int .i64 (k : Int))) none).run Try.prog W = .ok (.slice (some ⟨b, o * 4, none⟩) k dc) W := by
  have h1 : (k : Int) ≤ (dc : Int) := by omega
  obtain ⟨i0, hi, _, hz1, _⟩ := info_parts infoCell
  simp [Instr.slice, run_underlying Try.underlying55, Instr.sliceBounds, run_sliceBound, h1, hi, hz1]
  try (intro _; rfl)
/-- Cells that move to the beginning, to the end, of a list. -/
def fwdL (L : List Ce) (o m n : Nat) (c : Ce) : List Ce := lay (lay L o ((L.drop (o + n)).take (m - n))) (o + (m - n)) (rep n c)
def bckL (L : List Ce) (o m n : Nat) (c : Ce) : List Ce := lay (lay L (o + n) ((L.drop o).take (m - n))) o (rep n c)
/-- How far, at most. -/
def atMost (n : Int) (m : Nat) : Nat := if (m : Int) < n then m else n.toNat
theorem atMost_le {n : Int} {m : Nat} (h : 0 ≤ n) : atMost n m ≤ m := by unfold atMost; split <;> omega
theorem RowAt.sub {W : World} {b cap : Nat} {L : List Ce} (h : RowAt W b cap L) {s len : Nat} : ∀ j v, (flat ((L.drop s).take len))[j]? = some v → W.cell? ((⟨b, s * 4, none⟩ : Addr).add j) = some v := by
  intro j v hv
  rw [show (⟨b, s * 4, none⟩ : Addr).add j = ⟨b, s * 4 + j, none⟩ by unfold Addr.add; split <;> simp_all]
  have hj := (List.getElem?_eq_some_iff.1 hv).1
  rw [flat_len, List.length_take, List.length_drop] at hj
  rw [h.at_ (by omega), ← hv, flat_take, flat_drop, List.getElem?_take_of_lt (by omega), List.getElem?_drop]
theorem sub_len {L : List Ce} {s len : Nat} (h : s + len ≤ L.length) : ((L.drop s).take len).length = len := by simp; omega
theorem lay_nil (L : List Ce) (o : Nat) : lay L o [] = L := by unfold lay; simp
/-- Cells are copied within a list. -/
theorem copy_any {W : World} {b cap : Nat} {L : List Ce} (h : RowAt W b cap L) {dA sA : Option Addr} {d s m k dc sc r : Nat} (hr : Nat.min k m = r) (hd : 0 < r → dA = some ⟨b, d * 4, none⟩) (hs : 0 < r → sA = some ⟨b, s * 4, none⟩) (h1 : d + r ≤ L.length) (h2 : s + r ≤ L.length) :
    ∃ W', (Builtin.copy_ #[55, 55] 3 #[.slice dA m dc, .slice sA k sc]).run Try.prog W = .ok (.int .i64 (r : Int)) W' ∧ RowAt W' b cap (lay L d ((L.drop s).take r)) ∧ W.grownBy W' (some b) := by
  rcases Nat.eq_zero_or_pos r with h0 | h0
  · subst h0
    refine ⟨W, run_copy0 W _ hr, ?_, World.grownBy.refl _ _⟩
    rw [List.take_zero, lay_nil]
    exact h
  · obtain rfl := hd h0
    obtain rfl := hs h0
    have hl := sub_len (L := L) h2
    obtain ⟨W', e1, e2, e3⟩ := run_copy4 h 3 (o := d) (m := m) (dc := dc) (k := k) (sc := sc) (a := ⟨b, s * 4, none⟩) (cs := (L.drop s).take r) (by rw [hl, hr]) (by rw [hl]; exact h1) h.sub
    rw [hl] at e1
    exact ⟨W', e1, e2, e3⟩
set_option maxRecDepth 100000 in
set_option maxHeartbeats 2000000 in
theorem forward_any {w : World} {b cap : Nat} {L : List Ce} (h : RowAt w b cap L) {o m dc : Nat} (ho : o + m ≤ L.length) (hm : m ≤ 1000) (hm1 : 1 ≤ m) (hmd : m ≤ dc) {n : Int} (hn : 0 ≤ n) (c : Ce) :
    Calls Try.prog 44 #[.slice (some ⟨b, o * 4, none⟩) m dc, .int .i64 n, cV c] w fun e w' => e = .returned (.tuple #[]) ∧ RowAt w' b cap (fwdL L o m (atMost n m) c) ∧ w.grownBy w' (some b) := by
  obtain ⟨p, f, gg, bb⟩ := c
  have hb0 : Below w.heap.size w (w.alloc (.cells #[.int .i32 p, .int .u8 f, .int .u32 gg, .int .u32 bb] 39)) := (Below.refl _ _).alloc (Nat.le_refl _) _
  have hR0 := h.below hb0
  have HBN := Lib.hid h.lt
  have HB0 := Lib.hid hb0
  unfold cV
  by_cases hnm : (m : Int) < n
  · have hk : atMost n m = m := if_pos hnm
    rw [hk]
    have d1 : decide ((m : Int) < n) = true := by simpa using hnm
    have w0 : IntKind.i64.wrap 0 = 0 := rfl
    have d2 : decide (n < (m : Int)) = false := by simp; omega
    have d3 : decide (n ≤ (m : Int)) = false := by simp; omega
    obtain ⟨A3, hA3, hA3s, hsl3⟩ := slice_from4 (b := b) (o := o) (m := m) (dc := dc) (k := 0) (Nat.zero_le _) hmd
    have HFL := Lib.hid (fill_any (w := (w.alloc (.cells #[.int .i32 p, .int .u8 f, .int .u32 gg, .int .u32 bb] 39)).drew) (hR0.below (Below.refl _ _).drew) (A := A3) (o := o) (m := m) (dc := dc) (fun hp => by simpa using hA3 (by omega)) ho hm ⟨p, f, gg, bb⟩)
    simp only [Nat.sub_zero, Int.natCast_zero] at hsl3
    clear hA3 hA3s
    rw [show fwdL L o m m ⟨p, f, gg, bb⟩ = lay L o (rep m ⟨p, f, gg, bb⟩) from by unfold fwdL; rw [Nat.sub_self, List.take_zero, lay_nil]; try rfl]
    have HG1 := Lib.hid (World.grownBy.refl (w.alloc (.cells #[.int .i32 p, .int .u8 f, .int .u32 gg, .int .u32 bb] 39)) (some b))
    clear h hb0 hR0 hk hn
    by_cases hdm : dc = m
    · obtain rfl : m = dc := hdm.symm
      have HCP := Lib.hid (run_copy0 (w.alloc (.cells #[.int .i32 p, .int .u8 f, .int .u32 gg, .int .u32 bb] 39)) 3 (d := some ⟨b, o * 4, none⟩) (s := some ⟨b, o * 4, none⟩) (m := m) (dc := m) (k := 0) (sc := 0) (by simp))
      go_enter Try.func44, Try.ntmps44
      go_wp2_with (refine wpList_copy rfl (.tmp 10) (.tmp 13) _ _ rfl _ _ rfl rfl HCP.out ?_)
      clear HCP
      refine wp_region_held_drew (S := fun W => (w.alloc (.cells #[.int .i32 p, .int .u8 f, .int .u32 gg, .int .u32 bb] 39)).grownBy W (some b)) (by kernel_rfl) (show (w.alloc (.cells #[.int .i32 p, .int .u8 f, .int .u32 gg, .int .u32 bb] 39)).grownBy (w.alloc (.cells #[.int .i32 p, .int .u8 f, .int .u32 gg, .int .u32 bb] 39)).drew (some b) from ⟨HG1.out.os, HG1.out.tape, HG1.out.output, HG1.out.size, HG1.out.block⟩) (fun hHeld => ?_)
      refine wpAnyH_take (i := 0) (v := ?_) (by simp; rfl) (by kernel_rfl) (by kernel_rfl) (by kernel_rfl) (by exact fun _ _ _ h => h) (Or.inl ⟨by rfl, fun wx hSx => ?_⟩) hHeld ?_
      rotate_left
      · clear hSx; go_simp; (try with_reducible rfl)
      simp only [Act.put, List.setIfInBounds_toArray, List.set_cons_zero, List.set_cons_succ]
      refine wpAnyH_take (i := 1) (v := ?_) (by simp; rfl) (by kernel_rfl) (by kernel_rfl) (by kernel_rfl) (by exact fun _ _ _ h => h) (Or.inl ⟨by rfl, fun wx hSx => ?_⟩) hHeld ?_
      rotate_left
      · clear hSx; go_simp; (try with_reducible rfl)
      simp only [Act.put, List.setIfInBounds_toArray, List.set_cons_zero, List.set_cons_succ]
      refine wpAnyH_take (i := 2) (v := ?_) (by simp; rfl) (by kernel_rfl) (by kernel_rfl) (by kernel_rfl) (by exact fun _ _ _ h => h) (Or.inl ⟨by rfl, fun wx hSx => ?_⟩) hHeld ?_
      rotate_left
      · clear hSx; go_simp; (try with_reducible rfl)
      simp only [Act.put, List.setIfInBounds_toArray, List.set_cons_zero, List.set_cons_succ]
      refine wpAnyH_take (i := 3) (v := ?_) (by simp; rfl) (by kernel_rfl) (by kernel_rfl) (by kernel_rfl) (by exact fun _ _ _ h => h) (Or.inl ⟨by rfl, fun wx hSx => ?_⟩) hHeld ?_
      rotate_left
      · clear hSx; go_simp; (try with_reducible rfl)
      simp only [Act.put, List.setIfInBounds_toArray, List.set_cons_zero, List.set_cons_succ]
      refine wpAnyH_take (i := 4) (v := ?_) (by simp; rfl) (by kernel_rfl) (by kernel_rfl) (by kernel_rfl) (by exact fun _ _ _ h => h) (Or.inl ⟨by rfl, fun wx hSx => ?_⟩) hHeld ?_
      rotate_left
      · clear hSx; go_simp; (try with_reducible rfl)
      simp only [Act.put, List.setIfInBounds_toArray, List.set_cons_zero, List.set_cons_succ]
      refine wpAnyH_take (i := 5) (v := ?_) (by simp; rfl) (by kernel_rfl) (by kernel_rfl) (by kernel_rfl) (by exact fun _ _ _ h => h) (Or.inl ⟨by rfl, fun wx hSx => ?_⟩) hHeld ?_
      rotate_left
      · clear hSx; go_simp; (try with_reducible rfl)
      simp only [Act.put, List.setIfInBounds_toArray, List.set_cons_zero, List.set_cons_succ]
      refine wpAnyH_take (i := 6) (v := ?_) (by simp; rfl) (by kernel_rfl) (by kernel_rfl) (by kernel_rfl) (by exact fun _ _ _ h => h) (Or.inl ⟨by rfl, fun wx hSx => ?_⟩) hHeld ?_
      rotate_left
      · obtain ⟨q0, q1, q2, q3⟩ := box_cells HBN.out hSx; clear hSx; go_simp; (try with_reducible rfl)
      simp only [Act.put, List.setIfInBounds_toArray, List.set_cons_zero, List.set_cons_succ]
      refine wpAnyH_ready (rs := [7]) (by kernel_rfl) (by simp) ?_
      refine AllReadyH.cons (by simp; rfl) (fun K0 hK0 => ?_) AllReadyH.nil
      go_simp
      refine HFL.out.mono ?_
      rintro e V ⟨rfl, hV, hgV⟩
      have HV := Lib.hid (And.intro hV (grown_trans HG1.out (show (w.alloc (.cells #[.int .i32 p, .int .u8 f, .int .u32 gg, .int .u32 bb] 39)).grownBy V (some b) from ⟨hgV.os, hgV.tape, hgV.output, hgV.size, hgV.block⟩)))
      refine hK0.out _ _ HV.out.2 (fun _ => ?_)
      clear hK0 K0 hV hgV hHeld
      refine wpAnyH_done (by kernel_rfl) ?_ _
      go_wp2
      go_end0
      exact ⟨rfl, HV.out.1, below_grown HB0.out HV.out.2⟩
    · have HCP := Lib.hid (run_copy0 (w.alloc (.cells #[.int .i32 p, .int .u8 f, .int .u32 gg, .int .u32 bb] 39)) 3 (d := some ⟨b, o * 4, none⟩) (s := some ⟨b, o * 4 + m * 4, none⟩) (m := m) (dc := dc) (k := 0) (sc := dc - m) (by simp))
      go_enter Try.func44, Try.ntmps44
      go_wp2_with (refine wpList_copy rfl (.tmp 10) (.tmp 13) _ _ rfl _ _ rfl rfl HCP.out ?_)
      clear HCP
      refine wp_region_held_drew (S := fun W => (w.alloc (.cells #[.int .i32 p, .int .u8 f, .int .u32 gg, .int .u32 bb] 39)).grownBy W (some b)) (by kernel_rfl) (show (w.alloc (.cells #[.int .i32 p, .int .u8 f, .int .u32 gg, .int .u32 bb] 39)).grownBy (w.alloc (.cells #[.int .i32 p, .int .u8 f, .int .u32 gg, .int .u32 bb] 39)).drew (some b) from ⟨HG1.out.os, HG1.out.tape, HG1.out.output, HG1.out.size, HG1.out.block⟩) (fun hHeld => ?_)
      refine wpAnyH_take (i := 0) (v := ?_) (by simp; rfl) (by kernel_rfl) (by kernel_rfl) (by kernel_rfl) (by exact fun _ _ _ h => h) (Or.inl ⟨by rfl, fun wx hSx => ?_⟩) hHeld ?_
      rotate_left
      · clear hSx; go_simp; (try with_reducible rfl)
      simp only [Act.put, List.setIfInBounds_toArray, List.set_cons_zero, List.set_cons_succ]
      refine wpAnyH_take (i := 1) (v := ?_) (by simp; rfl) (by kernel_rfl) (by kernel_rfl) (by kernel_rfl) (by exact fun _ _ _ h => h) (Or.inl ⟨by rfl, fun wx hSx => ?_⟩) hHeld ?_
      rotate_left
      · clear hSx; go_simp; (try with_reducible rfl)
      simp only [Act.put, List.setIfInBounds_toArray, List.set_cons_zero, List.set_cons_succ]
      refine wpAnyH_take (i := 2) (v := ?_) (by simp; rfl) (by kernel_rfl) (by kernel_rfl) (by kernel_rfl) (by exact fun _ _ _ h => h) (Or.inl ⟨by rfl, fun wx hSx => ?_⟩) hHeld ?_
      rotate_left
      · clear hSx; go_simp; (try with_reducible rfl)
      simp only [Act.put, List.setIfInBounds_toArray, List.set_cons_zero, List.set_cons_succ]
      refine wpAnyH_take (i := 3) (v := ?_) (by simp; rfl) (by kernel_rfl) (by kernel_rfl) (by kernel_rfl) (by exact fun _ _ _ h => h) (Or.inl ⟨by rfl, fun wx hSx => ?_⟩) hHeld ?_
      rotate_left
      · clear hSx; go_simp; (try with_reducible rfl)
      simp only [Act.put, List.setIfInBounds_toArray, List.set_cons_zero, List.set_cons_succ]
      refine wpAnyH_take (i := 4) (v := ?_) (by simp; rfl) (by kernel_rfl) (by kernel_rfl) (by kernel_rfl) (by exact fun _ _ _ h => h) (Or.inl ⟨by rfl, fun wx hSx => ?_⟩) hHeld ?_
      rotate_left
      · clear hSx; go_simp; (try with_reducible rfl)
      simp only [Act.put, List.setIfInBounds_toArray, List.set_cons_zero, List.set_cons_succ]
      refine wpAnyH_take (i := 5) (v := ?_) (by simp; rfl) (by kernel_rfl) (by kernel_rfl) (by kernel_rfl) (by exact fun _ _ _ h => h) (Or.inl ⟨by rfl, fun wx hSx => ?_⟩) hHeld ?_
      rotate_left
      · clear hSx; go_simp; (try with_reducible rfl)
      simp only [Act.put, List.setIfInBounds_toArray, List.set_cons_zero, List.set_cons_succ]
      refine wpAnyH_take (i := 6) (v := ?_) (by simp; rfl) (by kernel_rfl) (by kernel_rfl) (by kernel_rfl) (by exact fun _ _ _ h => h) (Or.inl ⟨by rfl, fun wx hSx => ?_⟩) hHeld ?_
      rotate_left
      · obtain ⟨q0, q1, q2, q3⟩ := box_cells HBN.out hSx; clear hSx; go_simp; (try with_reducible rfl)
      simp only [Act.put, List.setIfInBounds_toArray, List.set_cons_zero, List.set_cons_succ]
      refine wpAnyH_ready (rs := [7]) (by kernel_rfl) (by simp) ?_
      refine AllReadyH.cons (by simp; rfl) (fun K0 hK0 => ?_) AllReadyH.nil
      go_simp
      refine HFL.out.mono ?_
      rintro e V ⟨rfl, hV, hgV⟩
      have HV := Lib.hid (And.intro hV (grown_trans HG1.out (show (w.alloc (.cells #[.int .i32 p, .int .u8 f, .int .u32 gg, .int .u32 bb] 39)).grownBy V (some b) from ⟨hgV.os, hgV.tape, hgV.output, hgV.size, hgV.block⟩)))
      refine hK0.out _ _ HV.out.2 (fun _ => ?_)
      clear hK0 K0 hV hgV hHeld
      refine wpAnyH_done (by kernel_rfl) ?_ _
      go_wp2
      go_end0
      exact ⟨rfl, HV.out.1, below_grown HB0.out HV.out.2⟩
  · obtain ⟨k, rfl⟩ : ∃ k : Nat, n = k := ⟨n.toNat, by omega⟩
    have hkm : k ≤ m := by omega
    have hk : atMost (k : Int) m = k := by unfold atMost; rw [if_neg hnm]; simp
    rw [hk]
    have d1 : decide ((m : Int) < (k : Int)) = false := by simpa using hnm
    have d1' : decide (m < k) = false := by simp; omega
    have d3 : decide ((k : Int) ≤ (m : Int)) = true := by simp; omega
    have d3' : decide (k ≤ m) = true := by simp; omega
    obtain ⟨A2, hA2, hA2s, hsl⟩ := slice_from4 (b := b) (o := o) (m := m) (dc := dc) (k := k) hkm hmd
    obtain ⟨r, hr⟩ : ∃ r, m - k = r := ⟨_, rfl⟩
    obtain ⟨dr, hdr⟩ : ∃ r, dc - k = r := ⟨_, rfl⟩
    rw [hr] at hA2 hsl
    rw [hdr] at hsl
    have hrm : m - r = k := by omega
    obtain ⟨W1, hcp, hR1, hg1⟩ := copy_any hR0 (dA := some ⟨b, o * 4, none⟩) (sA := A2) (d := o) (s := o + k) (m := m) (k := r) (dc := dc) (sc := dr) (r := r) (Nat.min_eq_left (by omega)) (fun _ => rfl) hA2 (by omega) (by omega)
    obtain ⟨A3, hA3, hA3s, hsl3⟩ := slice_from4 (b := b) (o := o) (m := m) (dc := dc) (k := r) (by omega) hmd
    rw [hrm] at hA3 hsl3
    have w1 : IntKind.i64.wrap ((m : Int) - (k : Int)) = (r : Int) := by rw [show (m : Int) - (k : Int) = (r : Int) by omega]; exact IntWalk.i64_in _ (by omega)
    have HFL := Lib.hid (fill_any (w := W1.drew) (hR1.below (Below.refl _ _).drew) (A := A3) (o := o + r) (m := k) (dc := dc - r) hA3 (by rw [lay_len (by rw [sub_len (by omega)]; omega)]; omega) (by omega) ⟨p, f, gg, bb⟩)
    rw [show fwdL L o m k ⟨p, f, gg, bb⟩ = lay (lay L o ((L.drop (o + k)).take r)) (o + r) (rep k ⟨p, f, gg, bb⟩) from by unfold fwdL; rw [hr]]
    have HCP := Lib.hid hcp
    have HG1 := Lib.hid hg1
    clear h hb0 hR0 hA2 hA2s hcp hR1 hg1 hA3 hA3s hrm hk hr hdr hn hnm
    go_enter Try.func44, Try.ntmps44
    go_wp2_with (refine wpList_copy rfl (.tmp 10) (.tmp 13) _ _ rfl _ _ rfl rfl HCP.out ?_)
    clear HCP hsl
    refine wp_region_held_drew (S := fun W => (w.alloc (.cells #[.int .i32 p, .int .u8 f, .int .u32 gg, .int .u32 bb] 39)).grownBy W (some b)) (by kernel_rfl) (show (w.alloc (.cells #[.int .i32 p, .int .u8 f, .int .u32 gg, .int .u32 bb] 39)).grownBy W1.drew (some b) from ⟨HG1.out.os, HG1.out.tape, HG1.out.output, HG1.out.size, HG1.out.block⟩) (fun hHeld => ?_)
    refine wpAnyH_take (i := 0) (v := ?_) (by simp; rfl) (by kernel_rfl) (by kernel_rfl) (by kernel_rfl) (by exact fun _ _ _ h => h) (Or.inl ⟨by rfl, fun wx hSx => ?_⟩) hHeld ?_
    rotate_left
    · clear hSx; go_simp; (try with_reducible rfl)
    simp only [Act.put, List.setIfInBounds_toArray, List.set_cons_zero, List.set_cons_succ]
    refine wpAnyH_take (i := 1) (v := ?_) (by simp; rfl) (by kernel_rfl) (by kernel_rfl) (by kernel_rfl) (by exact fun _ _ _ h => h) (Or.inl ⟨by rfl, fun wx hSx => ?_⟩) hHeld ?_
    rotate_left
    · clear hSx; go_simp; (try with_reducible rfl)
    simp only [Act.put, List.setIfInBounds_toArray, List.set_cons_zero, List.set_cons_succ]
    refine wpAnyH_take (i := 2) (v := ?_) (by simp; rfl) (by kernel_rfl) (by kernel_rfl) (by kernel_rfl) (by exact fun _ _ _ h => h) (Or.inl ⟨by rfl, fun wx hSx => ?_⟩) hHeld ?_
    rotate_left
    · clear hSx; go_simp; (try with_reducible rfl)
    simp only [Act.put, List.setIfInBounds_toArray, List.set_cons_zero, List.set_cons_succ]
    refine wpAnyH_take (i := 3) (v := ?_) (by simp; rfl) (by kernel_rfl) (by kernel_rfl) (by kernel_rfl) (by exact fun _ _ _ h => h) (Or.inl ⟨by rfl, fun wx hSx => ?_⟩) hHeld ?_
    rotate_left
    · clear hSx; go_simp; (try with_reducible rfl)
    simp only [Act.put, List.setIfInBounds_toArray, List.set_cons_zero, List.set_cons_succ]
    refine wpAnyH_take (i := 4) (v := ?_) (by simp; rfl) (by kernel_rfl) (by kernel_rfl) (by kernel_rfl) (by exact fun _ _ _ h => h) (Or.inl ⟨by rfl, fun wx hSx => ?_⟩) hHeld ?_
    rotate_left
    · clear hSx; go_simp; (try with_reducible rfl)
    simp only [Act.put, List.setIfInBounds_toArray, List.set_cons_zero, List.set_cons_succ]
    refine wpAnyH_take (i := 5) (v := ?_) (by simp; rfl) (by kernel_rfl) (by kernel_rfl) (by kernel_rfl) (by exact fun _ _ _ h => h) (Or.inl ⟨by rfl, fun wx hSx => ?_⟩) hHeld ?_
    rotate_left
    · clear hSx; go_simp; (try with_reducible rfl)
    simp only [Act.put, List.setIfInBounds_toArray, List.set_cons_zero, List.set_cons_succ]
    refine wpAnyH_take (i := 6) (v := ?_) (by simp; rfl) (by kernel_rfl) (by kernel_rfl) (by kernel_rfl) (by exact fun _ _ _ h => h) (Or.inl ⟨by rfl, fun wx hSx => ?_⟩) hHeld ?_
    rotate_left
    · obtain ⟨q0, q1, q2, q3⟩ := box_cells HBN.out hSx; clear hSx; go_simp; (try with_reducible rfl)
    simp only [Act.put, List.setIfInBounds_toArray, List.set_cons_zero, List.set_cons_succ]
    refine wpAnyH_ready (rs := [7]) (by kernel_rfl) (by simp) ?_
    refine AllReadyH.cons (by simp; rfl) (fun K0 hK0 => ?_) AllReadyH.nil
    go_simp
    refine HFL.out.mono ?_
    rintro e V ⟨rfl, hV, hgV⟩
    have HV := Lib.hid (And.intro hV (grown_trans HG1.out (show W1.grownBy V (some b) from ⟨hgV.os, hgV.tape, hgV.output, hgV.size, hgV.block⟩)))
    refine hK0.out _ _ HV.out.2 (fun _ => ?_)
    clear hK0 K0 hV hgV hHeld
    refine wpAnyH_done (by kernel_rfl) ?_ _
    go_wp2
    go_end0
    exact ⟨rfl, HV.out.1, below_grown HB0.out HV.out.2⟩
set_option maxRecDepth 100000 in
set_option maxHeartbeats 2000000 in
theorem back_any {w : World} {b cap : Nat} {L : List Ce} (h : RowAt w b cap L) {o m dc : Nat} (ho : o + m ≤ L.length) (hm : m ≤ 1000) (hm1 : 1 ≤ m) (hmd : m ≤ dc) {n : Int} (hn : 0 ≤ n) (c : Ce) :
    Calls Try.prog 46 #[.slice (some ⟨b, o * 4, none⟩) m dc, .int .i64 n, cV c] w fun e w' => e = .returned (.tuple #[]) ∧ RowAt w' b cap (bckL L o m (atMost n m) c) ∧ w.grownBy w' (some b) := by
  obtain ⟨p, f, gg, bb⟩ := c
  have hb0 : Below w.heap.size w (w.alloc (.cells #[.int .i32 p, .int .u8 f, .int .u32 gg, .int .u32 bb] 39)) := (Below.refl _ _).alloc (Nat.le_refl _) _
  have hR0 := h.below hb0
  have HBN := Lib.hid h.lt
  have HB0 := Lib.hid hb0
  unfold cV
  by_cases hnm : (m : Int) < n
  · have hk : atMost n m = m := if_pos hnm
    rw [hk]
    have d1 : decide ((m : Int) < n) = true := by simpa using hnm
    have w0 : IntKind.i64.wrap 0 = 0 := rfl
    have d2 : decide (n < (m : Int)) = false := by simp; omega
    have d3 : decide (n ≤ (m : Int)) = false := by simp; omega
    have hsl3 := fun W => slice_to4 (b := b) (o := o) (m := m) (dc := dc) (k := m) (Nat.le_refl _) hmd W
    have HFL := Lib.hid (fill_any (w := (w.alloc (.cells #[.int .i32 p, .int .u8 f, .int .u32 gg, .int .u32 bb] 39)).drew) (hR0.below (Below.refl _ _).drew) (A := some ⟨b, o * 4, none⟩) (o := o) (m := m) (dc := dc) (fun _ => rfl) ho hm ⟨p, f, gg, bb⟩)
    rw [show bckL L o m m ⟨p, f, gg, bb⟩ = lay L o (rep m ⟨p, f, gg, bb⟩) from by unfold bckL; rw [Nat.sub_self, List.take_zero, lay_nil]; try rfl]
    have HG1 := Lib.hid (World.grownBy.refl (w.alloc (.cells #[.int .i32 p, .int .u8 f, .int .u32 gg, .int .u32 bb] 39)) (some b))
    clear h hb0 hR0 hk hn
    by_cases hdm : dc = m
    · obtain rfl : m = dc := hdm.symm
      have HCP := Lib.hid (run_copy0 (w.alloc (.cells #[.int .i32 p, .int .u8 f, .int .u32 gg, .int .u32 bb] 39)) 3 (d := some ⟨b, o * 4, none⟩) (s := some ⟨b, o * 4, none⟩) (m := 0) (dc := 0) (k := m) (sc := m) (by simp))
      go_enter Try.func46, Try.ntmps46
      go_wp2_with (refine wpList_copy rfl (.tmp 12) (.tmp 13) _ _ rfl _ _ rfl rfl HCP.out ?_)
      clear HCP
      refine wp_region_held_drew (S := fun W => (w.alloc (.cells #[.int .i32 p, .int .u8 f, .int .u32 gg, .int .u32 bb] 39)).grownBy W (some b)) (by kernel_rfl) (show (w.alloc (.cells #[.int .i32 p, .int .u8 f, .int .u32 gg, .int .u32 bb] 39)).grownBy (w.alloc (.cells #[.int .i32 p, .int .u8 f, .int .u32 gg, .int .u32 bb] 39)).drew (some b) from ⟨HG1.out.os, HG1.out.tape, HG1.out.output, HG1.out.size, HG1.out.block⟩) (fun hHeld => ?_)
      refine wpAnyH_take (i := 0) (v := ?_) (by simp; rfl) (by kernel_rfl) (by kernel_rfl) (by kernel_rfl) (by exact fun _ _ _ h => h) (Or.inl ⟨by rfl, fun wx hSx => ?_⟩) hHeld ?_
      rotate_left
      · clear hSx; go_simp; (try with_reducible rfl)
      simp only [Act.put, List.setIfInBounds_toArray, List.set_cons_zero, List.set_cons_succ]
      refine wpAnyH_take (i := 1) (v := ?_) (by simp; rfl) (by kernel_rfl) (by kernel_rfl) (by kernel_rfl) (by exact fun _ _ _ h => h) (Or.inl ⟨by rfl, fun wx hSx => ?_⟩) hHeld ?_
      rotate_left
      · clear hSx; go_simp; (try with_reducible rfl)
      simp only [Act.put, List.setIfInBounds_toArray, List.set_cons_zero, List.set_cons_succ]
      refine wpAnyH_take (i := 2) (v := ?_) (by simp; rfl) (by kernel_rfl) (by kernel_rfl) (by kernel_rfl) (by exact fun _ _ _ h => h) (Or.inl ⟨by rfl, fun wx hSx => ?_⟩) hHeld ?_
      rotate_left
      · clear hSx; go_simp; (try with_reducible rfl)
      simp only [Act.put, List.setIfInBounds_toArray, List.set_cons_zero, List.set_cons_succ]
      refine wpAnyH_take (i := 3) (v := ?_) (by simp; rfl) (by kernel_rfl) (by kernel_rfl) (by kernel_rfl) (by exact fun _ _ _ h => h) (Or.inl ⟨by rfl, fun wx hSx => ?_⟩) hHeld ?_
      rotate_left
      · obtain ⟨q0, q1, q2, q3⟩ := box_cells HBN.out hSx; clear hSx; go_simp; (try with_reducible rfl)
      simp only [Act.put, List.setIfInBounds_toArray, List.set_cons_zero, List.set_cons_succ]
      refine wpAnyH_ready (rs := [4]) (by kernel_rfl) (by simp) ?_
      refine AllReadyH.cons (by simp; rfl) (fun K0 hK0 => ?_) AllReadyH.nil
      go_simp
      refine HFL.out.mono ?_
      rintro e V ⟨rfl, hV, hgV⟩
      have HV := Lib.hid (And.intro hV (grown_trans HG1.out (show (w.alloc (.cells #[.int .i32 p, .int .u8 f, .int .u32 gg, .int .u32 bb] 39)).grownBy V (some b) from ⟨hgV.os, hgV.tape, hgV.output, hgV.size, hgV.block⟩)))
      refine hK0.out _ _ HV.out.2 (fun _ => ?_)
      clear hK0 K0 hV hgV hHeld
      refine wpAnyH_done (by kernel_rfl) ?_ _
      go_wp2
      go_end0
      exact ⟨rfl, HV.out.1, below_grown HB0.out HV.out.2⟩
    · have HCP := Lib.hid (run_copy0 (w.alloc (.cells #[.int .i32 p, .int .u8 f, .int .u32 gg, .int .u32 bb] 39)) 3 (d := some ⟨b, o * 4 + m * 4, none⟩) (s := some ⟨b, o * 4, none⟩) (m := 0) (dc := dc - m) (k := m) (sc := dc) (by simp))
      go_enter Try.func46, Try.ntmps46
      go_wp2_with (refine wpList_copy rfl (.tmp 12) (.tmp 13) _ _ rfl _ _ rfl rfl HCP.out ?_)
      clear HCP
      refine wp_region_held_drew (S := fun W => (w.alloc (.cells #[.int .i32 p, .int .u8 f, .int .u32 gg, .int .u32 bb] 39)).grownBy W (some b)) (by kernel_rfl) (show (w.alloc (.cells #[.int .i32 p, .int .u8 f, .int .u32 gg, .int .u32 bb] 39)).grownBy (w.alloc (.cells #[.int .i32 p, .int .u8 f, .int .u32 gg, .int .u32 bb] 39)).drew (some b) from ⟨HG1.out.os, HG1.out.tape, HG1.out.output, HG1.out.size, HG1.out.block⟩) (fun hHeld => ?_)
      refine wpAnyH_take (i := 0) (v := ?_) (by simp; rfl) (by kernel_rfl) (by kernel_rfl) (by kernel_rfl) (by exact fun _ _ _ h => h) (Or.inl ⟨by rfl, fun wx hSx => ?_⟩) hHeld ?_
      rotate_left
      · clear hSx; go_simp; (try with_reducible rfl)
      simp only [Act.put, List.setIfInBounds_toArray, List.set_cons_zero, List.set_cons_succ]
      refine wpAnyH_take (i := 1) (v := ?_) (by simp; rfl) (by kernel_rfl) (by kernel_rfl) (by kernel_rfl) (by exact fun _ _ _ h => h) (Or.inl ⟨by rfl, fun wx hSx => ?_⟩) hHeld ?_
      rotate_left
      · clear hSx; go_simp; (try with_reducible rfl)
      simp only [Act.put, List.setIfInBounds_toArray, List.set_cons_zero, List.set_cons_succ]
      refine wpAnyH_take (i := 2) (v := ?_) (by simp; rfl) (by kernel_rfl) (by kernel_rfl) (by kernel_rfl) (by exact fun _ _ _ h => h) (Or.inl ⟨by rfl, fun wx hSx => ?_⟩) hHeld ?_
      rotate_left
      · clear hSx; go_simp; (try with_reducible rfl)
      simp only [Act.put, List.setIfInBounds_toArray, List.set_cons_zero, List.set_cons_succ]
      refine wpAnyH_take (i := 3) (v := ?_) (by simp; rfl) (by kernel_rfl) (by kernel_rfl) (by kernel_rfl) (by exact fun _ _ _ h => h) (Or.inl ⟨by rfl, fun wx hSx => ?_⟩) hHeld ?_
      rotate_left
      · obtain ⟨q0, q1, q2, q3⟩ := box_cells HBN.out hSx; clear hSx; go_simp; (try with_reducible rfl)
      simp only [Act.put, List.setIfInBounds_toArray, List.set_cons_zero, List.set_cons_succ]
      refine wpAnyH_ready (rs := [4]) (by kernel_rfl) (by simp) ?_
      refine AllReadyH.cons (by simp; rfl) (fun K0 hK0 => ?_) AllReadyH.nil
      go_simp
      refine HFL.out.mono ?_
      rintro e V ⟨rfl, hV, hgV⟩
      have HV := Lib.hid (And.intro hV (grown_trans HG1.out (show (w.alloc (.cells #[.int .i32 p, .int .u8 f, .int .u32 gg, .int .u32 bb] 39)).grownBy V (some b) from ⟨hgV.os, hgV.tape, hgV.output, hgV.size, hgV.block⟩)))
      refine hK0.out _ _ HV.out.2 (fun _ => ?_)
      clear hK0 K0 hV hgV hHeld
      refine wpAnyH_done (by kernel_rfl) ?_ _
      go_wp2
      go_end0
      exact ⟨rfl, HV.out.1, below_grown HB0.out HV.out.2⟩
  · obtain ⟨k, rfl⟩ : ∃ k : Nat, n = k := ⟨n.toNat, by omega⟩
    have hkm : k ≤ m := by omega
    have hk : atMost (k : Int) m = k := by unfold atMost; rw [if_neg hnm]; simp
    rw [hk]
    have d1 : decide ((m : Int) < (k : Int)) = false := by simpa using hnm
    have d1' : decide (m < k) = false := by simp; omega
    have d3 : decide ((k : Int) ≤ (m : Int)) = true := by simp; omega
    have d3' : decide (k ≤ m) = true := by simp; omega
    obtain ⟨A2, hA2, hA2s, hsl⟩ := slice_from4 (b := b) (o := o) (m := m) (dc := dc) (k := k) hkm hmd
    obtain ⟨r, hr⟩ : ∃ r, m - k = r := ⟨_, rfl⟩
    obtain ⟨dr, hdr⟩ : ∃ r, dc - k = r := ⟨_, rfl⟩
    rw [hr] at hA2 hsl
    rw [hdr] at hsl
    obtain ⟨W1, hcp, hR1, hg1⟩ := copy_any hR0 (dA := A2) (sA := some ⟨b, o * 4, none⟩) (d := o + k) (s := o) (m := r) (k := m) (dc := dr) (sc := dc) (r := r) (Nat.min_eq_right (by omega)) hA2 (fun _ => rfl) (by omega) (by omega)
    have hsl3 := fun W => slice_to4 (b := b) (o := o) (m := m) (dc := dc) (k := k) hkm hmd W
    have HFL := Lib.hid (fill_any (w := W1.drew) (hR1.below (Below.refl _ _).drew) (A := some ⟨b, o * 4, none⟩) (o := o) (m := k) (dc := dc) (fun _ => rfl) (by rw [lay_len (by rw [sub_len (by omega)]; omega)]; omega) (by omega) ⟨p, f, gg, bb⟩)
    rw [show bckL L o m k ⟨p, f, gg, bb⟩ = lay (lay L (o + k) ((L.drop o).take r)) o (rep k ⟨p, f, gg, bb⟩) from by unfold bckL; rw [hr]]
    have HCP := Lib.hid hcp
    have HG1 := Lib.hid hg1
    clear h hb0 hR0 hA2 hA2s hcp hR1 hg1 hk hr hdr hn hnm
    go_enter Try.func46, Try.ntmps46
    go_wp2_with (refine wpList_copy rfl (.tmp 12) (.tmp 13) _ _ rfl _ _ rfl rfl HCP.out ?_)
    clear HCP hsl
    refine wp_region_held_drew (S := fun W => (w.alloc (.cells #[.int .i32 p, .int .u8 f, .int .u32 gg, .int .u32 bb] 39)).grownBy W (some b)) (by kernel_rfl) (show (w.alloc (.cells #[.int .i32 p, .int .u8 f, .int .u32 gg, .int .u32 bb] 39)).grownBy W1.drew (some b) from ⟨HG1.out.os, HG1.out.tape, HG1.out.output, HG1.out.size, HG1.out.block⟩) (fun hHeld => ?_)
    refine wpAnyH_take (i := 0) (v := ?_) (by simp; rfl) (by kernel_rfl) (by kernel_rfl) (by kernel_rfl) (by exact fun _ _ _ h => h) (Or.inl ⟨by rfl, fun wx hSx => ?_⟩) hHeld ?_
    rotate_left
    · clear hSx; go_simp; (try with_reducible rfl)
    simp only [Act.put, List.setIfInBounds_toArray, List.set_cons_zero, List.set_cons_succ]
    refine wpAnyH_take (i := 1) (v := ?_) (by simp; rfl) (by kernel_rfl) (by kernel_rfl) (by kernel_rfl) (by exact fun _ _ _ h => h) (Or.inl ⟨by rfl, fun wx hSx => ?_⟩) hHeld ?_
    rotate_left
    · clear hSx; go_simp; (try with_reducible rfl)
    simp only [Act.put, List.setIfInBounds_toArray, List.set_cons_zero, List.set_cons_succ]
    refine wpAnyH_take (i := 2) (v := ?_) (by simp; rfl) (by kernel_rfl) (by kernel_rfl) (by kernel_rfl) (by exact fun _ _ _ h => h) (Or.inl ⟨by rfl, fun wx hSx => ?_⟩) hHeld ?_
    rotate_left
    · clear hSx; go_simp; (try with_reducible rfl)
    simp only [Act.put, List.setIfInBounds_toArray, List.set_cons_zero, List.set_cons_succ]
    refine wpAnyH_take (i := 3) (v := ?_) (by simp; rfl) (by kernel_rfl) (by kernel_rfl) (by kernel_rfl) (by exact fun _ _ _ h => h) (Or.inl ⟨by rfl, fun wx hSx => ?_⟩) hHeld ?_
    rotate_left
    · obtain ⟨q0, q1, q2, q3⟩ := box_cells HBN.out hSx; clear hSx; go_simp; (try with_reducible rfl)
    simp only [Act.put, List.setIfInBounds_toArray, List.set_cons_zero, List.set_cons_succ]
    refine wpAnyH_ready (rs := [4]) (by kernel_rfl) (by simp) ?_
    refine AllReadyH.cons (by simp; rfl) (fun K0 hK0 => ?_) AllReadyH.nil
    go_simp
    refine HFL.out.mono ?_
    rintro e V ⟨rfl, hV, hgV⟩
    have HV := Lib.hid (And.intro hV (grown_trans HG1.out (show W1.grownBy V (some b) from ⟨hgV.os, hgV.tape, hgV.output, hgV.size, hgV.block⟩)))
    refine hK0.out _ _ HV.out.2 (fun _ => ?_)
    clear hK0 K0 hV hgV hHeld
    refine wpAnyH_done (by kernel_rfl) ?_ _
    go_wp2
    go_end0
    exact ⟨rfl, HV.out.1, below_grown HB0.out HV.out.2⟩
end Go.Proofs.Ytahmnipcdkcpiaa
