/-
  Proved here: what a movement and the one back leave of a grid, as lists.
-/
import Derived.Test.YtahmnipcdkcpiaaHq
set_option linter.unusedSimpArgs false
set_option linter.unusedVariables false
namespace Go.Proofs.Ytahmnipcdkcpiaa
open Go.RowKit
theorem mv_up {R C : Nat} {L : List Ce} (hL : L.length = R * C) {t d n : Nat} (htd : t ≤ d) (hd : d < R) (hR : R ≤ 12) (hC : 0 < C) (hC4 : C ≤ 40) {i j : Nat} (hi : i < R) (hj : j < C) :
    ceAt (downL R C (upL R C L t d n blC) t d n blC) (i * C + j) = if (decide (t ≤ i) && decide (i ≤ d) && decide (i < t + n)) = true then blC else ceAt L (i * C + j) := by
  have hlu : (upL R C L t d n blC).length = R * C := by rw [← dup_eq hL htd hd hR hC, genL_len, hL]
  rw [← ddown_eq hlu htd hd hR hC, ceAt_gen (by rw [hlu]; exact ix_lt hi hj)]
  have hb : by60 n = if 60 < n then (60 : Int) else (n : Int) := by unfold by60; split <;> split <;> omega
  unfold dmoveF
  rw [(place_div hj).1, (place_div hj).2]
  by_cases h1 : t ≤ i ∧ i ≤ d
  · rw [if_pos (show (t : Int) ≤ ((i : Nat) : Int) ∧ ((i : Nat) : Int) ≤ (d : Int) by omega)]
    by_cases h2 : i < t + n
    · rw [if_pos (show (decide (t ≤ i) && decide (i ≤ d) && decide (i < t + n)) = true by simp; omega), if_neg (by rw [hb]; split <;> omega)]
    · have hn : n ≤ 20 := by omega
      rw [if_neg (show ¬ (decide (t ≤ i) && decide (i ≤ d) && decide (i < t + n)) = true by simp; omega), hb, if_neg (show ¬ 60 < n by omega), if_pos (by omega), show ((i : Int) + (0 - (n : Int))).toNat = i - n by omega, ← dup_eq hL htd hd hR hC, ceAt_gen (by rw [hL]; exact ix_lt (by omega) hj)]
      unfold dmoveF
      rw [(place_div hj).1, (place_div hj).2, hb, if_neg (show ¬ 60 < n by omega), if_pos (show (t : Int) ≤ ((i - n : Nat) : Int) ∧ ((i - n : Nat) : Int) ≤ (d : Int) by omega), if_pos (by omega), show (((i - n : Nat) : Int) + (n : Int)).toNat = i by omega]
  · rw [if_neg (by omega), if_neg (show ¬ (decide (t ≤ i) && decide (i ≤ d) && decide (i < t + n)) = true by simp; omega), ← dup_eq hL htd hd hR hC, ceAt_gen (by rw [hL]; exact ix_lt hi hj)]
    unfold dmoveF
    rw [(place_div hj).1, (place_div hj).2, if_neg (by omega)]
theorem mv_ins {R C : Nat} {L : List Ce} (hL : L.length = R * C) {a q m : Nat} (ha : a < R) (hq : q < C) (hC4 : C ≤ 40) {i j : Nat} (hi : i < R) (hj : j < C) :
    ceAt (delL C (insL C L a q m blC) a q m blC) (i * C + j) = if (decide (i = a) && decide (q ≤ j) && decide (C ≤ j + m)) = true then blC else ceAt L (i * C + j) := by
  have hli : (insL C L a q m blC).length = R * C := by rw [← dins_eq hL ha hq hC4, genL_len, hL]
  rw [← ddel_eq hli ha hq hC4, ceAt_gen (by rw [hli]; exact ix_lt hi hj)]
  have hb : by60 m = if 60 < m then (60 : Int) else (m : Int) := by unfold by60; split <;> split <;> omega
  unfold dshiftF
  rw [(place_div hj).1, (place_div hj).2]
  by_cases h1 : i = a ∧ q ≤ j
  · rw [if_pos (show ((i : Nat) : Int) = (a : Int) ∧ (q : Int) ≤ ((j : Nat) : Int) by omega)]
    by_cases h2 : C ≤ j + m
    · rw [if_pos (show (decide (i = a) && decide (q ≤ j) && decide (C ≤ j + m)) = true by simp; omega), if_neg (by rw [hb]; split <;> omega)]
    · rw [if_neg (show ¬ (decide (i = a) && decide (q ≤ j) && decide (C ≤ j + m)) = true by simp; omega), hb, if_neg (show ¬ 60 < m by omega), if_pos (by omega), Int.toNat_natCast, show ((j : Int) + (m : Int)).toNat = j + m by omega, ← dins_eq hL ha hq hC4, ceAt_gen (by rw [hL]; exact ix_lt ha (by omega))]
      unfold dshiftF
      rw [(place_div (show j + m < C by omega)).1, (place_div (show j + m < C by omega)).2, hb, if_neg (show ¬ 60 < m by omega), if_pos (show ((a : Nat) : Int) = (a : Int) ∧ (q : Int) ≤ ((j + m : Nat) : Int) by omega), if_pos (by omega), Int.toNat_natCast, show (((j + m : Nat) : Int) + (0 - (m : Int))).toNat = j by omega, h1.1]
  · rw [if_neg (by omega), if_neg (show ¬ (decide (i = a) && decide (q ≤ j) && decide (C ≤ j + m)) = true by simp; omega), ← dins_eq hL ha hq hC4, ceAt_gen (by rw [hL]; exact ix_lt hi hj)]
    unfold dshiftF
    rw [(place_div hj).1, (place_div hj).2, if_neg (by omega)]
theorem ok_up {R C : Nat} {L : List Ce} (hL : L.length = R * C) (h : OkL L) {t d n : Nat} (htd : t ≤ d) (hd : d < R) (hR : R ≤ 12) (hC : 0 < C) : OkL (upL R C L t d n blC) := by
  rw [← dup_eq hL htd hd hR hC]; exact ok_move h ⟨by decide, by decide⟩ _ _ _ _
theorem ok_down {R C : Nat} {L : List Ce} (hL : L.length = R * C) (h : OkL L) {t d n : Nat} (htd : t ≤ d) (hd : d < R) (hR : R ≤ 12) (hC : 0 < C) : OkL (downL R C L t d n blC) := by
  rw [← ddown_eq hL htd hd hR hC]; exact ok_move h ⟨by decide, by decide⟩ _ _ _ _
theorem ok_ins {R C : Nat} {L : List Ce} (hL : L.length = R * C) (h : OkL L) {a q m : Nat} (ha : a < R) (hq : q < C) (hC4 : C ≤ 40) : OkL (insL C L a q m blC) := by
  rw [← dins_eq hL ha hq hC4]; exact ok_shift h ⟨by decide, by decide⟩ _ _ _ _
theorem ok_del {R C : Nat} {L : List Ce} (hL : L.length = R * C) (h : OkL L) {a q m : Nat} (ha : a < R) (hq : q < C) (hC4 : C ≤ 40) : OkL (delL C L a q m blC) := by
  rw [← ddel_eq hL ha hq hC4]; exact ok_shift h ⟨by decide, by decide⟩ _ _ _ _
/-- What stands below what has grown. -/
theorem below_by {n k : Nat} {W X : World} (h : W.grownBy X (some k)) (hn : n ≤ k) (hw : n ≤ W.heap.size) : Below n W X :=
  ⟨h.os, h.tape, h.output, h.size, fun j hj => h.block j (Nat.lt_of_lt_of_le hj hw) (by intro e; injection e with e; omega)⟩
theorem up_both {g b cap R C : Nat} {L : List Ce} {w : World} (h : Gr g b cap R C L w) (top bot n : Int) : Calls Try.prog 20 #[.pointer (some ⟨g, 0, none⟩), .int .i64 top, .int .i64 bot, .int .i64 n, cV blC] w fun e w' => ∃ E L5, e = .returned (.int .i64 E) ∧ Gr g b cap R C L5 w' ∧ w.grownBy w' (some b) ∧ ((E = 1 ∧ L5 = L) ∨ (E = 0 ∧ ∃ t d k0 : Nat, top = t ∧ bot = d ∧ n = k0 ∧ t ≤ d ∧ d < R ∧ L5 = upL R C L t d k0 blC)) := by
  cases hq : btwB R top bot n with
  | false => exact (up_no h hq blC).mono (fun e w' ⟨h1, h2, h3⟩ => ⟨1, L, h1, h2, h3, .inl ⟨rfl, rfl⟩⟩)
  | true =>
    obtain ⟨t, d, k, rfl, rfl, rfl, h1, h2⟩ := btw_nums hq
    exact (up_yes h h1 h2 blC).mono (fun e w' ⟨h3, h4, h5⟩ => ⟨0, _, h3, h4, h5, .inr ⟨rfl, t, d, k, rfl, rfl, rfl, h1, h2, rfl⟩⟩)
theorem ins_both {g b cap R C : Nat} {L : List Ce} {w : World} (h : Gr g b cap R C L w) (row col m : Int) : Calls Try.prog 22 #[.pointer (some ⟨g, 0, none⟩), .int .i64 row, .int .i64 col, .int .i64 m, cV blC] w fun e w' => ∃ E L5, e = .returned (.int .i64 E) ∧ Gr g b cap R C L5 w' ∧ w.grownBy w' (some b) ∧ ((E = 1 ∧ L5 = L) ∨ (E = 0 ∧ ∃ a q k0 : Nat, row = a ∧ col = q ∧ m = k0 ∧ a < R ∧ q < C ∧ L5 = insL C L a q k0 blC)) := by
  cases hq : (hasC R C row col && decide (0 ≤ m)) with
  | false => exact (insert_no h hq blC).mono (fun e w' ⟨h1, h2, h3⟩ => ⟨1, L, h1, h2, h3, .inl ⟨rfl, rfl⟩⟩)
  | true =>
    rw [Bool.and_eq_true] at hq
    obtain ⟨a, q, rfl, rfl, h1, h2⟩ := has_bounds hq.1
    obtain ⟨k, rfl⟩ : ∃ k : Nat, m = k := ⟨m.toNat, by have := of_decide_eq_true hq.2; omega⟩
    exact (insert_yes h h1 h2 blC).mono (fun e w' ⟨h3, h4, h5⟩ => ⟨0, _, h3, h4, h5, .inr ⟨rfl, a, q, k, rfl, rfl, rfl, h1, h2, rfl⟩⟩)
end Go.Proofs.Ytahmnipcdkcpiaa
