/-
  Proved here: a grid's rows and cells are moved.
-/
import Derived.Test.YtahmnipcdkcpiaaGf
set_option linter.unusedSimpArgs false
set_option linter.unusedVariables false
namespace Go.Proofs.Ytahmnipcdkcpiaa
open Go.RowKit
/-- May rows be moved so? -/
def btwB (R : Nat) (top bottom n : Int) : Bool := hasR R bottom && decide (0 ≤ top) && decide (top ≤ bottom) && decide (0 ≤ n)
theorem btw_nums {R : Nat} {top bottom n : Int} (h : btwB R top bottom n = true) : ∃ t d k : Nat, top = t ∧ bottom = d ∧ n = k ∧ t ≤ d ∧ d < R := by
  unfold btwB hasR at h
  simp at h
  exact ⟨top.toNat, bottom.toNat, n.toNat, by omega, by omega, by omega, by omega, by omega⟩
section
variable {g b cap R C : Nat} {L : List Ce} {w : World}
theorem between_no (h : Gr g b cap R C L w) {top bottom n : Int} (hq : btwB R top bottom n = false) : Calls Try.prog 43 #[.pointer (some ⟨g, 0, none⟩), .int .i64 top, .int .i64 bottom, .int .i64 n] w fun e w' => e = .returned (.tuple #[.slice none 0 0, .int .i64 1]) ∧ w = w' := by
  have HF := Lib.hid (rowFault_gr h bottom)
  clear h
  unfold btwB at hq
  cases hr : hasR R bottom with
  | false =>
    rw [hr, show flt false = 1 from rfl] at HF
    clear hr hq
    go_enter Try.func43, Try.ntmps43
    go_wp2_with fail
    refine HF.out.mono ?_
    rintro e wx ⟨rfl, rfl⟩
    go_wp2
    go_ret2
    exact ⟨rfl, rfl⟩
  | true =>
    rw [hr, show flt true = 0 from rfl] at HF
    rw [hr] at hq
    clear hr
    by_cases h1 : top < 0
    · have d1 : decide (top < 0) = true := by simpa using h1
      clear hq h1
      go_enter Try.func43, Try.ntmps43
      go_wp2_with fail
      refine HF.out.mono ?_
      rintro e wx ⟨rfl, rfl⟩
      go_wp2
      go_ret2
      exact ⟨rfl, rfl⟩
    have d1 : decide (top < 0) = false := by simpa using h1
    by_cases h2 : bottom < top
    · have d2 : decide (bottom < top) = true := by simpa using h2
      clear hq h1 h2
      go_enter Try.func43, Try.ntmps43
      go_wp2_with fail
      refine HF.out.mono ?_
      rintro e wx ⟨rfl, rfl⟩
      go_wp2
      go_ret2
      exact ⟨rfl, rfl⟩
    have d2 : decide (bottom < top) = false := by simpa using h2
    have d3 : decide (n < 0) = true := by
      simp at hq
      simp; omega
    clear hq h1 h2
    go_enter Try.func43, Try.ntmps43
    go_wp2_with fail
    refine HF.out.mono ?_
    rintro e wx ⟨rfl, rfl⟩
    go_wp2
    go_ret2
    exact ⟨rfl, rfl⟩
theorem rows_in {t d : Nat} (h1 : t ≤ d) (h2 : d < R) : t * C + (d + 1 - t) * C = (d + 1) * C ∧ (d + 1) * C ≤ R * C := by
  refine ⟨?_, Nat.mul_le_mul_right C h2⟩
  rw [← Nat.add_mul]
  congr 1
  omega
theorem between_yes (h : Gr g b cap R C L w) {t d n o m : Nat} (htd : t ≤ d) (hd : d < R) (ho : t * C = o) (hm : (d + 1 - t) * C = m) : Calls Try.prog 43 #[.pointer (some ⟨g, 0, none⟩), .int .i64 t, .int .i64 d, .int .i64 n] w fun e w' => e = .returned (.tuple #[.slice (some ⟨b, o * 4, none⟩) m (cap - o), .int .i64 0]) ∧ w' = w.drew := by
  have HF := Lib.hid (rowFault_gr h d)
  rw [show hasR R (d : Int) = true by unfold hasR; simp; omega, show flt true = 0 from rfl] at HF
  obtain ⟨k0, k1, k2⟩ := h.cells
  have hroom := h.room
  have hp := h.pos
  obtain ⟨hin, hin2⟩ := rows_in (C := C) htd hd
  have hm1 : 1 ≤ m := by rw [← hm]; exact Nat.mul_pos (by omega) hp.2.2.1
  rw [ho, hm] at hin
  obtain ⟨z, hz⟩ : ∃ z, R * C = z := ⟨_, rfl⟩
  rw [hz] at hroom hin2 k2
  have w1 : IntKind.i64.wrap ((t : Int) * (C : Int)) = (o : Int) := by rw [← Int.natCast_mul, ho]; exact IntWalk.i64_in _ (by omega)
  have w2 : IntKind.i64.wrap ((d : Int) + 1) = (d : Int) + 1 := IntWalk.i64_in _ (by omega)
  have w3 : IntKind.i64.wrap (((d : Int) + 1) * (C : Int)) = (o : Int) + (m : Int) := by
    rw [show ((d : Int) + 1) * (C : Int) = (((d + 1) * C : Nat) : Int) by simp, ← hin]; simp; exact IntWalk.i64_in _ (by omega)
  have g1 : (0 : Int) ≤ (o : Int) := by omega
  have g2 : (o : Int) ≤ (o : Int) + (m : Int) := by omega
  have g3 : (o : Int) + (m : Int) ≤ (cap : Int) := by omega
  have g4 : ¬ cap = o := by omega
  have g5 : ((o : Int) + (m : Int)).toNat = o + m := by omega
  have g6 : o + m - o = m := by omega
  have d1 : decide ((t : Int) < 0) = false := by simp
  have d2 : decide ((d : Int) < (t : Int)) = false := by simp; omega
  have d2' : decide (d < t) = false := by simp; omega
  have d3 : decide ((n : Int) < 0) = false := by simp
  clear h hroom hp hin hin2 hz ho hm htd hd hm1
  go_enter Try.func43, Try.ntmps43
  go_wp2_with fail
  refine HF.out.mono ?_
  rintro e wx ⟨rfl, rfl⟩
  go_wp2
  go_region
  go_wp2
  go_ret2
  exact ⟨rfl, rfl⟩
theorem rowsLong_gr (h : Gr g b cap R C L w) {n : Int} (hn : 0 ≤ n) : Calls Try.prog 45 #[.pointer (some ⟨g, 0, none⟩), .int .i64 n] w fun e w' => e = .returned (.int .i64 ((atMost n R * C : Nat) : Int)) ∧ w' = w.drew := by
  obtain ⟨k0, k1, k2⟩ := h.cells
  have hp := h.pos
  have hle := atMost_le (n := n) (m := R) hn
  have hmul : atMost n R * C ≤ 480 := Nat.mul_le_mul (Nat.le_trans hle hp.2.1) hp.2.2.2
  clear h
  by_cases hnm : (R : Int) < n
  · have e : atMost n R = R := if_pos hnm
    rw [e] at hmul ⊢
    have w1 : IntKind.i64.wrap ((R : Int) * (C : Int)) = ((R * C : Nat) : Int) := by rw [← Int.natCast_mul]; exact IntWalk.i64_in _ (by omega)
    have d1 : decide ((R : Int) < n) = true := by simpa using hnm
    have d2 : decide (n < (R : Int)) = false := by simp; omega
    have d3 : decide (n ≤ (R : Int)) = false := by simp; omega
    obtain ⟨z, hz⟩ : ∃ z, R * C = z := ⟨_, rfl⟩
    rw [hz] at w1 ⊢
    clear e hle hmul hz
    go_enter Try.func45, Try.ntmps45
    go_wp2
    go_region
    go_wp2
    go_ret
    exact ⟨rfl, rfl⟩
  · obtain ⟨k, rfl⟩ : ∃ k : Nat, n = k := ⟨n.toNat, by omega⟩
    have e : atMost (k : Int) R = k := by unfold atMost; rw [if_neg hnm]; simp
    rw [e] at hmul ⊢
    have w1 : IntKind.i64.wrap ((k : Int) * (C : Int)) = ((k * C : Nat) : Int) := by rw [← Int.natCast_mul]; exact IntWalk.i64_in _ (by omega)
    have hkm : k ≤ R := by omega
    have d1 : decide ((R : Int) < (k : Int)) = false := by simpa using hnm
    have d1' : decide (R < k) = false := by simp; omega
    have d3 : decide ((k : Int) ≤ (R : Int)) = true := by simp; omega
    have d3' : decide (k ≤ R) = true := by simp; omega
    obtain ⟨z, hz⟩ : ∃ z, k * C = z := ⟨_, rfl⟩
    rw [hz] at w1 ⊢
    clear e hle hmul hz
    go_enter Try.func45, Try.ntmps45
    go_wp2
    go_region
    go_wp2
    go_ret
    exact ⟨rfl, rfl⟩
theorem from_no (h : Gr g b cap R C L w) {row col n : Int} (hq : (hasC R C row col && decide (0 ≤ n)) = false) : Calls Try.prog 47 #[.pointer (some ⟨g, 0, none⟩), .int .i64 row, .int .i64 col, .int .i64 n] w fun e w' => e = .returned (.tuple #[.slice none 0 0, .int .i64 1]) ∧ w = w' := by
  have HF := Lib.hid (cellFault_gr h row col)
  clear h
  cases hr : hasC R C row col with
  | false =>
    rw [hr, show flt false = 1 from rfl] at HF
    clear hr hq
    go_enter Try.func47, Try.ntmps47
    go_wp2_with fail
    refine HF.out.mono ?_
    rintro e wx ⟨rfl, rfl⟩
    go_wp2
    go_ret2
    exact ⟨rfl, rfl⟩
  | true =>
    rw [hr, show flt true = 0 from rfl] at HF
    rw [hr] at hq
    have d3 : decide (n < 0) = true := by
      simp at hq
      simpa using hq
    clear hr hq
    go_enter Try.func47, Try.ntmps47
    go_wp2_with fail
    refine HF.out.mono ?_
    rintro e wx ⟨rfl, rfl⟩
    go_wp2
    go_ret2
    exact ⟨rfl, rfl⟩
theorem from_yes (h : Gr g b cap R C L w) {i j n o m : Nat} (hi : i < R) (hj : j < C) (ho : i * C = o) (hm : C - j = m) : Calls Try.prog 47 #[.pointer (some ⟨g, 0, none⟩), .int .i64 i, .int .i64 j, .int .i64 n] w fun e w' => ∃ dc, e = .returned (.tuple #[.slice (some ⟨b, (o + j) * 4, none⟩) m dc, .int .i64 0]) ∧ m ≤ dc ∧ w' = w.drew := by
  have HF := Lib.hid (cellFault_gr h i j)
  rw [show hasC R C (i : Int) (j : Int) = true by unfold hasC hasR; simp; omega, show flt true = 0 from rfl] at HF
  have HLN := Lib.hid (line_gr h hi ho)
  have hk := ix_lt hi hj
  have hroom := h.room
  have hrow := (rows_in (C := C) (t := i) (d := i) (Nat.le_refl _) hi)
  rw [show i + 1 - i = 1 by omega, Nat.one_mul, ho] at hrow
  obtain ⟨A, hA, _, hsl⟩ := slice_from4 (b := b) (o := o) (m := C) (dc := cap - o) (k := j) (by omega) (by omega)
  rw [hm] at hA hsl
  obtain rfl := hA (by omega)
  have d3 : decide ((n : Int) < 0) = false := by simp
  have HDC := Lib.hid (show m ≤ cap - o - j by omega)
  clear h hi hj ho hm hk hroom hrow hA
  go_enter Try.func47, Try.ntmps47
  go_wp2_with fail
  refine HF.out.mono ?_
  rintro e wx ⟨rfl, rfl⟩
  go_wp2_with fail
  refine HLN.out.mono ?_
  rintro e wx ⟨rfl, rfl⟩
  go_wp2
  go_ret2
  exact ⟨_, rfl, HDC.out, rfl⟩
/-- Rows that move up, down; cells that move to the right, to the left. -/
def upL (R C : Nat) (L : List Ce) (t d n : Nat) (c : Ce) : List Ce := fwdL L (t * C) ((d + 1 - t) * C) (atMost (((atMost (n : Int) R) * C : Nat) : Int) ((d + 1 - t) * C)) c
def downL (R C : Nat) (L : List Ce) (t d n : Nat) (c : Ce) : List Ce := bckL L (t * C) ((d + 1 - t) * C) (atMost (((atMost (n : Int) R) * C : Nat) : Int) ((d + 1 - t) * C)) c
def insL (C : Nat) (L : List Ce) (i j n : Nat) (c : Ce) : List Ce := bckL L (i * C + j) (C - j) (atMost (n : Int) (C - j)) c
def delL (C : Nat) (L : List Ce) (i j n : Nat) (c : Ce) : List Ce := fwdL L (i * C + j) (C - j) (atMost (n : Int) (C - j)) c
theorem fwdL_len {L : List Ce} {o m n : Nat} {c : Ce} (h : o + m ≤ L.length) (hn : n ≤ m) : (fwdL L o m n c).length = L.length := by
  have h1 : (lay L o ((L.drop (o + n)).take (m - n))).length = L.length := lay_len (by rw [sub_len (by omega)]; omega)
  unfold fwdL
  rw [lay_len (by rw [h1, rep_len]; omega), h1]
theorem bckL_len {L : List Ce} {o m n : Nat} {c : Ce} (h : o + m ≤ L.length) (hn : n ≤ m) : (bckL L o m n c).length = L.length := by
  have h1 : (lay L (o + n) ((L.drop o).take (m - n))).length = L.length := lay_len (by rw [sub_len (by omega)]; omega)
  unfold bckL
  rw [lay_len (by rw [h1, rep_len]; omega), h1]
set_option maxRecDepth 100000 in
set_option maxHeartbeats 2000000 in
theorem up_no (h : Gr g b cap R C L w) {top bottom n : Int} (hq : btwB R top bottom n = false) (c : Ce) : Calls Try.prog 20 #[.pointer (some ⟨g, 0, none⟩), .int .i64 top, .int .i64 bottom, .int .i64 n, cV c] w fun e w' => e = .returned (.int .i64 1) ∧ Gr g b cap R C L w' ∧ w.grownBy w' (some b) := by
  obtain ⟨p, f, gg, bb⟩ := c
  have hb0 : Below w.heap.size w (w.alloc (.cells #[.int .i32 p, .int .u8 f, .int .u32 gg, .int .u32 bb] 39)) := (Below.refl _ _).alloc (Nat.le_refl _) _
  have h1 := h.below hb0
  have HF := Lib.hid (between_no h1 hq)
  have HH := Lib.hid (show Gr g b cap R C L (w.alloc (.cells #[.int .i32 p, .int .u8 f, .int .u32 gg, .int .u32 bb] 39)) ∧ w.grownBy (w.alloc (.cells #[.int .i32 p, .int .u8 f, .int .u32 gg, .int .u32 bb] 39)) (some b) from ⟨h1, below_grown hb0 (World.grownBy.refl _ _)⟩)
  unfold cV
  clear h h1 hb0 hq
  go_enter Try.func20, Try.ntmps20
  go_wp2_with fail
  refine HF.out.mono ?_
  rintro e wx ⟨rfl, rfl⟩
  go_wp2
  go_ret
  exact ⟨rfl, HH.out⟩
set_option maxRecDepth 100000 in
set_option maxHeartbeats 2000000 in
theorem up_yes (h : Gr g b cap R C L w) {t d n : Nat} (htd : t ≤ d) (hd : d < R) (c : Ce) : Calls Try.prog 20 #[.pointer (some ⟨g, 0, none⟩), .int .i64 t, .int .i64 d, .int .i64 n, cV c] w fun e w' => e = .returned (.int .i64 0) ∧ Gr g b cap R C (upL R C L t d n c) w' ∧ w.grownBy w' (some b) := by
  obtain ⟨p, f, gg, bb⟩ := c
  · have hb0 : Below w.heap.size w (w.alloc (.cells #[.int .i32 p, .int .u8 f, .int .u32 gg, .int .u32 bb] 39)) := (Below.refl _ _).alloc (Nat.le_refl _) _
    have h1 := h.below hb0
    have HG := Lib.hid h1
    have HB0 := Lib.hid hb0
    have HBN := Lib.hid h.row.lt
    obtain ⟨o, ho⟩ : ∃ o, t * C = o := ⟨_, rfl⟩
    obtain ⟨m, hm⟩ : ∃ m, (d + 1 - t) * C = m := ⟨_, rfl⟩
    have hroom := h.room
    have hin := rows_in (C := C) htd hd
    have hm1 : 1 ≤ m := by rw [← hm]; exact Nat.mul_pos (by omega) h.pos.2.2.1
    rw [ho, hm] at hin
    have hom : o + m ≤ L.length := by rw [h.len]; omega
    have HF := Lib.hid (between_yes (n := n) h1 htd hd ho hm)
    have HFW := Lib.hid (forward_any (w := (w.alloc (.cells #[.int .i32 p, .int .u8 f, .int .u32 gg, .int .u32 bb] 39)).drew.drew.drew) (h1.below (Below.refl _ _).drew.drew.drew).row (o := o) (m := m) (dc := cap - o) hom (by omega) hm1 (by omega) (n := (((atMost (n : Int) R) * C : Nat) : Int)) (by omega) ⟨p, f, gg, bb⟩)
    have HLEN := Lib.hid (show (upL R C L t d n ⟨p, f, gg, bb⟩).length = L.length from by unfold upL; rw [ho, hm]; exact fwdL_len hom (atMost_le (by omega)))
    rw [show fwdL L o m (atMost (((atMost (n : Int) R) * C : Nat) : Int) m) ⟨p, f, gg, bb⟩ = upL R C L t d n ⟨p, f, gg, bb⟩ from by unfold upL; rw [ho, hm]] at HFW
    obtain ⟨z, hz⟩ : ∃ z, (atMost (n : Int) R) * C = z := ⟨_, rfl⟩
    rw [hz] at HFW
    have HZ := Lib.hid (fun (_ : Unit) => hz)
    unfold cV
    clear h h1 hb0 hroom hin hm1 hom ho hm hz
    go_enter Try.func20, Try.ntmps20
    go_wp2_with fail
    refine HF.out.mono ?_
    rintro e wx ⟨rfl, rfl⟩
    go_wp2
    refine wp_region_held_drew (S := fun W => (w.alloc (.cells #[.int .i32 p, .int .u8 f, .int .u32 gg, .int .u32 bb] 39)).grownBy W (some b)) (by kernel_rfl) ⟨rfl, rfl, rfl, Nat.le_refl _, fun _ _ _ => rfl⟩ (fun hHeld => ?_)
    refine wpAnyH_take (i := 0) (v := ?_) (by simp; rfl) (by kernel_rfl) (by kernel_rfl) (by kernel_rfl) (by exact fun _ _ _ h => h) (Or.inl ⟨by rfl, fun wx hSx => ?_⟩) hHeld ?_
    rotate_left
    · clear hSx; go_simp; (try with_reducible rfl)
    simp only [Act.put, List.setIfInBounds_toArray, List.set_cons_zero, List.set_cons_succ]
    refine wpAnyH_take (i := 1) (v := ?_) (by simp; rfl) (by kernel_rfl) (by kernel_rfl) (by kernel_rfl) (by exact fun _ _ _ h => h) (Or.inl ⟨by rfl, fun wx hSx => ?_⟩) hHeld ?_
    rotate_left
    · clear hSx; go_simp; (try with_reducible rfl)
    simp only [Act.put, List.setIfInBounds_toArray, List.set_cons_zero, List.set_cons_succ]
    refine wpAnyH_take (i := 2) (v := ?_) (by simp; rfl) (by kernel_rfl) (by kernel_rfl) (by kernel_rfl) (by exact fun _ _ _ h => h) (Or.inl ⟨by rfl, fun wx hSx => ?_⟩) hHeld ?_
    rotate_left
    · clear hSx; go_simp; (try with_reducible rfl)
    simp only [Act.put, List.setIfInBounds_toArray, List.set_cons_zero, List.set_cons_succ]
    refine wpAnyH_take (i := 4) (v := ?_) (by simp; rfl) (by kernel_rfl) (by kernel_rfl) (by kernel_rfl) (by exact fun _ _ _ h => h) (Or.inl ⟨by rfl, fun wx hSx => ?_⟩) hHeld ?_
    rotate_left
    · obtain ⟨q0, q1, q2, q3⟩ := box_cells HBN.out hSx; clear hSx; go_simp; (try with_reducible rfl)
    simp only [Act.put, List.setIfInBounds_toArray, List.set_cons_zero, List.set_cons_succ]
    refine wpAnyH_ready (rs := [3]) (by kernel_rfl) (by simp) ?_
    refine AllReadyH.cons (by simp; rfl) (fun K0 hK0 => ?_) AllReadyH.nil
    go_simp
    refine (rowsLong_gr (HG.out.below (Below.refl _ _).drew.drew) (by omega)).mono ?_
    rintro e V ⟨rfl, rfl⟩
    rw [HZ.out ()]
    refine hK0.out _ _ ⟨rfl, rfl, rfl, Nat.le_refl _, fun _ _ _ => rfl⟩ (fun hHeld => ?_)
    clear hK0 K0
    refine wpAnyH_ready (rs := [5]) (by kernel_rfl) (by simp) ?_
    refine AllReadyH.cons (by simp; rfl) (fun K0 hK0 => ?_) AllReadyH.nil
    go_simp
    refine HFW.out.mono ?_
    rintro e V ⟨rfl, hV, hgV⟩
    have HV := Lib.hid (show RowAt V b cap (upL R C L t d n ⟨p, f, gg, bb⟩) ∧ (w.alloc (.cells #[.int .i32 p, .int .u8 f, .int .u32 gg, .int .u32 bb] 39)).grownBy V (some b) from ⟨hV, ⟨hgV.os, hgV.tape, hgV.output, hgV.size, hgV.block⟩⟩)
    refine hK0.out _ _ HV.out.2 (fun _ => ?_)
    clear hK0 K0 hV hgV hHeld
    refine wpAnyH_done (by kernel_rfl) ?_ _
    go_wp2
    go_ret
    exact ⟨rfl, (HG.out.put HV.out.1 HLEN.out HV.out.2), below_grown HB0.out HV.out.2⟩
set_option maxRecDepth 100000 in
set_option maxHeartbeats 2000000 in
theorem down_no (h : Gr g b cap R C L w) {top bottom n : Int} (hq : btwB R top bottom n = false) (c : Ce) : Calls Try.prog 21 #[.pointer (some ⟨g, 0, none⟩), .int .i64 top, .int .i64 bottom, .int .i64 n, cV c] w fun e w' => e = .returned (.int .i64 1) ∧ Gr g b cap R C L w' ∧ w.grownBy w' (some b) := by
  obtain ⟨p, f, gg, bb⟩ := c
  have hb0 : Below w.heap.size w (w.alloc (.cells #[.int .i32 p, .int .u8 f, .int .u32 gg, .int .u32 bb] 39)) := (Below.refl _ _).alloc (Nat.le_refl _) _
  have h1 := h.below hb0
  have HF := Lib.hid (between_no h1 hq)
  have HH := Lib.hid (show Gr g b cap R C L (w.alloc (.cells #[.int .i32 p, .int .u8 f, .int .u32 gg, .int .u32 bb] 39)) ∧ w.grownBy (w.alloc (.cells #[.int .i32 p, .int .u8 f, .int .u32 gg, .int .u32 bb] 39)) (some b) from ⟨h1, below_grown hb0 (World.grownBy.refl _ _)⟩)
  unfold cV
  clear h h1 hb0 hq
  go_enter Try.func21, Try.ntmps21
  go_wp2_with fail
  refine HF.out.mono ?_
  rintro e wx ⟨rfl, rfl⟩
  go_wp2
  go_ret
  exact ⟨rfl, HH.out⟩
set_option maxRecDepth 100000 in
set_option maxHeartbeats 2000000 in
theorem down_yes (h : Gr g b cap R C L w) {t d n : Nat} (htd : t ≤ d) (hd : d < R) (c : Ce) : Calls Try.prog 21 #[.pointer (some ⟨g, 0, none⟩), .int .i64 t, .int .i64 d, .int .i64 n, cV c] w fun e w' => e = .returned (.int .i64 0) ∧ Gr g b cap R C (downL R C L t d n c) w' ∧ w.grownBy w' (some b) := by
  obtain ⟨p, f, gg, bb⟩ := c
  · have hb0 : Below w.heap.size w (w.alloc (.cells #[.int .i32 p, .int .u8 f, .int .u32 gg, .int .u32 bb] 39)) := (Below.refl _ _).alloc (Nat.le_refl _) _
    have h1 := h.below hb0
    have HG := Lib.hid h1
    have HB0 := Lib.hid hb0
    have HBN := Lib.hid h.row.lt
    obtain ⟨o, ho⟩ : ∃ o, t * C = o := ⟨_, rfl⟩
    obtain ⟨m, hm⟩ : ∃ m, (d + 1 - t) * C = m := ⟨_, rfl⟩
    have hroom := h.room
    have hin := rows_in (C := C) htd hd
    have hm1 : 1 ≤ m := by rw [← hm]; exact Nat.mul_pos (by omega) h.pos.2.2.1
    rw [ho, hm] at hin
    have hom : o + m ≤ L.length := by rw [h.len]; omega
    have HF := Lib.hid (between_yes (n := n) h1 htd hd ho hm)
    have HFW := Lib.hid (back_any (w := (w.alloc (.cells #[.int .i32 p, .int .u8 f, .int .u32 gg, .int .u32 bb] 39)).drew.drew.drew) (h1.below (Below.refl _ _).drew.drew.drew).row (o := o) (m := m) (dc := cap - o) hom (by omega) hm1 (by omega) (n := (((atMost (n : Int) R) * C : Nat) : Int)) (by omega) ⟨p, f, gg, bb⟩)
    have HLEN := Lib.hid (show (downL R C L t d n ⟨p, f, gg, bb⟩).length = L.length from by unfold downL; rw [ho, hm]; exact bckL_len hom (atMost_le (by omega)))
    rw [show bckL L o m (atMost (((atMost (n : Int) R) * C : Nat) : Int) m) ⟨p, f, gg, bb⟩ = downL R C L t d n ⟨p, f, gg, bb⟩ from by unfold downL; rw [ho, hm]] at HFW
    obtain ⟨z, hz⟩ : ∃ z, (atMost (n : Int) R) * C = z := ⟨_, rfl⟩
    rw [hz] at HFW
    have HZ := Lib.hid (fun (_ : Unit) => hz)
    unfold cV
    clear h h1 hb0 hroom hin hm1 hom ho hm hz
    go_enter Try.func21, Try.ntmps21
    go_wp2_with fail
    refine HF.out.mono ?_
    rintro e wx ⟨rfl, rfl⟩
    go_wp2
    refine wp_region_held_drew (S := fun W => (w.alloc (.cells #[.int .i32 p, .int .u8 f, .int .u32 gg, .int .u32 bb] 39)).grownBy W (some b)) (by kernel_rfl) ⟨rfl, rfl, rfl, Nat.le_refl _, fun _ _ _ => rfl⟩ (fun hHeld => ?_)
    refine wpAnyH_take (i := 0) (v := ?_) (by simp; rfl) (by kernel_rfl) (by kernel_rfl) (by kernel_rfl) (by exact fun _ _ _ h => h) (Or.inl ⟨by rfl, fun wx hSx => ?_⟩) hHeld ?_
    rotate_left
    · clear hSx; go_simp; (try with_reducible rfl)
    simp only [Act.put, List.setIfInBounds_toArray, List.set_cons_zero, List.set_cons_succ]
    refine wpAnyH_take (i := 1) (v := ?_) (by simp; rfl) (by kernel_rfl) (by kernel_rfl) (by kernel_rfl) (by exact fun _ _ _ h => h) (Or.inl ⟨by rfl, fun wx hSx => ?_⟩) hHeld ?_
    rotate_left
    · clear hSx; go_simp; (try with_reducible rfl)
    simp only [Act.put, List.setIfInBounds_toArray, List.set_cons_zero, List.set_cons_succ]
    refine wpAnyH_take (i := 2) (v := ?_) (by simp; rfl) (by kernel_rfl) (by kernel_rfl) (by kernel_rfl) (by exact fun _ _ _ h => h) (Or.inl ⟨by rfl, fun wx hSx => ?_⟩) hHeld ?_
    rotate_left
    · clear hSx; go_simp; (try with_reducible rfl)
    simp only [Act.put, List.setIfInBounds_toArray, List.set_cons_zero, List.set_cons_succ]
    refine wpAnyH_take (i := 4) (v := ?_) (by simp; rfl) (by kernel_rfl) (by kernel_rfl) (by kernel_rfl) (by exact fun _ _ _ h => h) (Or.inl ⟨by rfl, fun wx hSx => ?_⟩) hHeld ?_
    rotate_left
    · obtain ⟨q0, q1, q2, q3⟩ := box_cells HBN.out hSx; clear hSx; go_simp; (try with_reducible rfl)
    simp only [Act.put, List.setIfInBounds_toArray, List.set_cons_zero, List.set_cons_succ]
    refine wpAnyH_ready (rs := [3]) (by kernel_rfl) (by simp) ?_
    refine AllReadyH.cons (by simp; rfl) (fun K0 hK0 => ?_) AllReadyH.nil
    go_simp
    refine (rowsLong_gr (HG.out.below (Below.refl _ _).drew.drew) (by omega)).mono ?_
    rintro e V ⟨rfl, rfl⟩
    rw [HZ.out ()]
    refine hK0.out _ _ ⟨rfl, rfl, rfl, Nat.le_refl _, fun _ _ _ => rfl⟩ (fun hHeld => ?_)
    clear hK0 K0
    refine wpAnyH_ready (rs := [5]) (by kernel_rfl) (by simp) ?_
    refine AllReadyH.cons (by simp; rfl) (fun K0 hK0 => ?_) AllReadyH.nil
    go_simp
    refine HFW.out.mono ?_
    rintro e V ⟨rfl, hV, hgV⟩
    have HV := Lib.hid (show RowAt V b cap (downL R C L t d n ⟨p, f, gg, bb⟩) ∧ (w.alloc (.cells #[.int .i32 p, .int .u8 f, .int .u32 gg, .int .u32 bb] 39)).grownBy V (some b) from ⟨hV, ⟨hgV.os, hgV.tape, hgV.output, hgV.size, hgV.block⟩⟩)
    refine hK0.out _ _ HV.out.2 (fun _ => ?_)
    clear hK0 K0 hV hgV hHeld
    refine wpAnyH_done (by kernel_rfl) ?_ _
    go_wp2
    go_ret
    exact ⟨rfl, (HG.out.put HV.out.1 HLEN.out HV.out.2), below_grown HB0.out HV.out.2⟩
set_option maxRecDepth 100000 in
set_option maxHeartbeats 2000000 in
theorem insert_no (h : Gr g b cap R C L w) {row col n : Int} (hq : (hasC R C row col && decide (0 ≤ n)) = false) (c : Ce) : Calls Try.prog 22 #[.pointer (some ⟨g, 0, none⟩), .int .i64 row, .int .i64 col, .int .i64 n, cV c] w fun e w' => e = .returned (.int .i64 1) ∧ Gr g b cap R C L w' ∧ w.grownBy w' (some b) := by
  obtain ⟨p, f, gg, bb⟩ := c
  have hb0 : Below w.heap.size w (w.alloc (.cells #[.int .i32 p, .int .u8 f, .int .u32 gg, .int .u32 bb] 39)) := (Below.refl _ _).alloc (Nat.le_refl _) _
  have h1 := h.below hb0
  have HF := Lib.hid (from_no h1 hq)
  have HH := Lib.hid (show Gr g b cap R C L (w.alloc (.cells #[.int .i32 p, .int .u8 f, .int .u32 gg, .int .u32 bb] 39)) ∧ w.grownBy (w.alloc (.cells #[.int .i32 p, .int .u8 f, .int .u32 gg, .int .u32 bb] 39)) (some b) from ⟨h1, below_grown hb0 (World.grownBy.refl _ _)⟩)
  unfold cV
  clear h h1 hb0 hq
  go_enter Try.func22, Try.ntmps22
  go_wp2_with fail
  refine HF.out.mono ?_
  rintro e wx ⟨rfl, rfl⟩
  go_wp2
  go_ret
  exact ⟨rfl, HH.out⟩
set_option maxRecDepth 100000 in
set_option maxHeartbeats 2000000 in
theorem insert_yes (h : Gr g b cap R C L w) {i j n : Nat} (hi : i < R) (hj : j < C) (c : Ce) : Calls Try.prog 22 #[.pointer (some ⟨g, 0, none⟩), .int .i64 i, .int .i64 j, .int .i64 n, cV c] w fun e w' => e = .returned (.int .i64 0) ∧ Gr g b cap R C (insL C L i j n c) w' ∧ w.grownBy w' (some b) := by
  obtain ⟨p, f, gg, bb⟩ := c
  have hb0 : Below w.heap.size w (w.alloc (.cells #[.int .i32 p, .int .u8 f, .int .u32 gg, .int .u32 bb] 39)) := (Below.refl _ _).alloc (Nat.le_refl _) _
  have h1 := h.below hb0
  have HG := Lib.hid h1
  have HB0 := Lib.hid hb0
  obtain ⟨o, ho⟩ : ∃ o, i * C = o := ⟨_, rfl⟩
  obtain ⟨m, hm⟩ : ∃ m, C - j = m := ⟨_, rfl⟩
  have hin := rows_in (C := C) (t := i) (d := i) (Nat.le_refl _) hi
  rw [show i + 1 - i = 1 by omega, Nat.one_mul, ho] at hin
  have hom : o + j + m ≤ L.length := by rw [h.len]; omega
  have hp := h.pos
  have HF := Lib.hid (from_yes (n := n) h1 hi hj ho hm)
  have HFW := Lib.hid (fun dc (hdc : m ≤ dc) => back_any (w := (w.alloc (.cells #[.int .i32 p, .int .u8 f, .int .u32 gg, .int .u32 bb] 39)).drew) (h1.below (Below.refl _ _).drew).row (o := o + j) (m := m) (dc := dc) hom (by omega) (by omega) hdc (n := (n : Int)) (by omega) ⟨p, f, gg, bb⟩)
  have HLEN := Lib.hid (show (insL C L i j n ⟨p, f, gg, bb⟩).length = L.length from by unfold insL; rw [ho, hm]; exact bckL_len hom (atMost_le (by omega)))
  rw [show bckL L (o + j) m (atMost (n : Int) m) ⟨p, f, gg, bb⟩ = insL C L i j n ⟨p, f, gg, bb⟩ from by unfold insL; rw [ho, hm]] at HFW
  unfold cV
  clear h h1 hb0 hin hom ho hm hp
  go_enter Try.func22, Try.ntmps22
  go_wp2_with fail
  refine HF.out.mono ?_
  rintro e wx ⟨dc, rfl, hdc, rfl⟩
  have HFX := Lib.hid (HFW.out dc hdc)
  clear hdc HFW HF
  go_wp2_with fail
  refine HFX.out.mono ?_
  rintro e V ⟨rfl, hV, hgV⟩
  have HV := Lib.hid (show RowAt V b cap (insL C L i j n ⟨p, f, gg, bb⟩) ∧ (w.alloc (.cells #[.int .i32 p, .int .u8 f, .int .u32 gg, .int .u32 bb] 39)).grownBy V (some b) from ⟨hV, ⟨hgV.os, hgV.tape, hgV.output, hgV.size, hgV.block⟩⟩)
  clear hV hgV HFX
  go_wp2
  go_ret
  exact ⟨rfl, HG.out.put HV.out.1 HLEN.out HV.out.2, below_grown HB0.out HV.out.2⟩
set_option maxRecDepth 100000 in
set_option maxHeartbeats 2000000 in
theorem delete_no (h : Gr g b cap R C L w) {row col n : Int} (hq : (hasC R C row col && decide (0 ≤ n)) = false) (c : Ce) : Calls Try.prog 30 #[.pointer (some ⟨g, 0, none⟩), .int .i64 row, .int .i64 col, .int .i64 n, cV c] w fun e w' => e = .returned (.int .i64 1) ∧ Gr g b cap R C L w' ∧ w.grownBy w' (some b) := by
  obtain ⟨p, f, gg, bb⟩ := c
  have hb0 : Below w.heap.size w (w.alloc (.cells #[.int .i32 p, .int .u8 f, .int .u32 gg, .int .u32 bb] 39)) := (Below.refl _ _).alloc (Nat.le_refl _) _
  have h1 := h.below hb0
  have HF := Lib.hid (from_no h1 hq)
  have HH := Lib.hid (show Gr g b cap R C L (w.alloc (.cells #[.int .i32 p, .int .u8 f, .int .u32 gg, .int .u32 bb] 39)) ∧ w.grownBy (w.alloc (.cells #[.int .i32 p, .int .u8 f, .int .u32 gg, .int .u32 bb] 39)) (some b) from ⟨h1, below_grown hb0 (World.grownBy.refl _ _)⟩)
  unfold cV
  clear h h1 hb0 hq
  go_enter Try.func30, Try.ntmps30
  go_wp2_with fail
  refine HF.out.mono ?_
  rintro e wx ⟨rfl, rfl⟩
  go_wp2
  go_ret
  exact ⟨rfl, HH.out⟩
set_option maxRecDepth 100000 in
set_option maxHeartbeats 2000000 in
theorem delete_yes (h : Gr g b cap R C L w) {i j n : Nat} (hi : i < R) (hj : j < C) (c : Ce) : Calls Try.prog 30 #[.pointer (some ⟨g, 0, none⟩), .int .i64 i, .int .i64 j, .int .i64 n, cV c] w fun e w' => e = .returned (.int .i64 0) ∧ Gr g b cap R C (delL C L i j n c) w' ∧ w.grownBy w' (some b) := by
  obtain ⟨p, f, gg, bb⟩ := c
  have hb0 : Below w.heap.size w (w.alloc (.cells #[.int .i32 p, .int .u8 f, .int .u32 gg, .int .u32 bb] 39)) := (Below.refl _ _).alloc (Nat.le_refl _) _
  have h1 := h.below hb0
  have HG := Lib.hid h1
  have HB0 := Lib.hid hb0
  obtain ⟨o, ho⟩ : ∃ o, i * C = o := ⟨_, rfl⟩
  obtain ⟨m, hm⟩ : ∃ m, C - j = m := ⟨_, rfl⟩
  have hin := rows_in (C := C) (t := i) (d := i) (Nat.le_refl _) hi
  rw [show i + 1 - i = 1 by omega, Nat.one_mul, ho] at hin
  have hom : o + j + m ≤ L.length := by rw [h.len]; omega
  have hp := h.pos
  have HF := Lib.hid (from_yes (n := n) h1 hi hj ho hm)
  have HFW := Lib.hid (fun dc (hdc : m ≤ dc) => forward_any (w := (w.alloc (.cells #[.int .i32 p, .int .u8 f, .int .u32 gg, .int .u32 bb] 39)).drew) (h1.below (Below.refl _ _).drew).row (o := o + j) (m := m) (dc := dc) hom (by omega) (by omega) hdc (n := (n : Int)) (by omega) ⟨p, f, gg, bb⟩)
  have HLEN := Lib.hid (show (delL C L i j n ⟨p, f, gg, bb⟩).length = L.length from by unfold delL; rw [ho, hm]; exact fwdL_len hom (atMost_le (by omega)))
  rw [show fwdL L (o + j) m (atMost (n : Int) m) ⟨p, f, gg, bb⟩ = delL C L i j n ⟨p, f, gg, bb⟩ from by unfold delL; rw [ho, hm]] at HFW
  unfold cV
  clear h h1 hb0 hin hom ho hm hp
  go_enter Try.func30, Try.ntmps30
  go_wp2_with fail
  refine HF.out.mono ?_
  rintro e wx ⟨dc, rfl, hdc, rfl⟩
  have HFX := Lib.hid (HFW.out dc hdc)
  clear hdc HFW HF
  go_wp2_with fail
  refine HFX.out.mono ?_
  rintro e V ⟨rfl, hV, hgV⟩
  have HV := Lib.hid (show RowAt V b cap (delL C L i j n ⟨p, f, gg, bb⟩) ∧ (w.alloc (.cells #[.int .i32 p, .int .u8 f, .int .u32 gg, .int .u32 bb] 39)).grownBy V (some b) from ⟨hV, ⟨hgV.os, hgV.tape, hgV.output, hgV.size, hgV.block⟩⟩)
  clear hV hgV HFX
  go_wp2
  go_ret
  exact ⟨rfl, HG.out.put HV.out.1 HLEN.out HV.out.2, below_grown HB0.out HV.out.2⟩
end
end Go.Proofs.Ytahmnipcdkcpiaa
