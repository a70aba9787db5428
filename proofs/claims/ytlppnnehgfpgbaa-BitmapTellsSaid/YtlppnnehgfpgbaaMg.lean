/-
  Kept here: of lists alone: the number that bytes are, the lowest first, and which bytes are a map's.
-/
import Derived.Test.YtlppnnehgfpgbaaMf
set_option linter.unusedSimpArgs false
set_option linter.unusedVariables false
namespace Go.Proofs.Ytlppnnehgfpgbaa
open Go.RowKit
def isB8 (l : List Int) : Prop := ∀ i, 0 ≤ l.getD i 0 ∧ l.getD i 0 < 256
/-- What the first bytes come to. -/
def acR : Nat → List Int → Nat
  | 0, _ => 0
  | i + 1, l => acR i l ||| ((l.getD i 0).toNat * 2 ^ (8 * i) % 2 ^ 64)
theorem acR_lt : ∀ (i : Nat) (l : List Int), acR i l < 2 ^ 64
  | 0, _ => by unfold acR; omega
  | i + 1, l => by
    unfold acR
    exact Nat.or_lt_two_pow (acR_lt i l) (Nat.mod_lt _ (by omega))
theorem byte_bit {c t : Nat} (h : c < 256) (ht : 8 ≤ t) : c.testBit t = false := bit_far (n := 8) (by simpa using h) ht
theorem acR_bit {l : List Int} (hl : isB8 l) (t : Nat) : ∀ i, (acR i l).testBit t = (decide (t < 8 * i) && decide (t < 64) && (l.getD (t / 8) 0).toNat.testBit (t % 8))
  | 0 => by simp [acR]
  | i + 1 => by
    have hb := hl i
    unfold acR
    rw [Nat.testBit_or, acR_bit hl t i, Nat.testBit_mod_two_pow, Nat.testBit_mul_two_pow]
    rcases Nat.lt_or_ge t (8 * i) with h1 | h1
    · have e1 : decide (t < 8 * i) = true := by simpa using h1
      have e2 : decide (t < 8 * (i + 1)) = true := by simp; omega
      have e3 : decide (8 * i ≤ t) = false := by simp; omega
      simp [e1, e2, e3]
    · have e1 : decide (t < 8 * i) = false := by simp; omega
      have e3 : decide (8 * i ≤ t) = true := by simpa using h1
      rcases Nat.lt_or_ge t (8 * (i + 1)) with h2 | h2
      · have e2 : decide (t < 8 * (i + 1)) = true := by simpa using h2
        rw [e1, e2, e3, show t / 8 = i by omega, show t - 8 * i = t % 8 by omega]
        simp
      · have e2 : decide (t < 8 * (i + 1)) = false := by simp; omega
        rw [e1, e2, byte_bit (t := t - 8 * i) (by omega) (by omega)]
        simp
theorem sizeB_le {n : Nat} (h : n ≤ 64) : sizeB n ≤ 8 := by unfold sizeB; omega
theorem part_bit (b j t : Nat) : (b / 2 ^ (8 * j) % 256).testBit t = (decide (t < 8) && b.testBit (8 * j + t)) := by
  rw [show (256 : Nat) = 2 ^ 8 from rfl, Nat.testBit_mod_two_pow, Nat.testBit_div_two_pow, Nat.add_comm]
theorem byR_acR {l : List Int} (hl : isB8 l) {q : Nat} (hq : q ≤ 8) (hlen : l.length = q) : byR q (acR q l) = l := by
  refine List.ext_getElem (by rw [byR_len, hlen]) fun j h1 h2 => ?_
  rw [byR_len] at h1
  have e1 : (byR q (acR q l))[j] = (byR q (acR q l)).getD j 0 := by simp [List.getD, byR_len, h1]
  have e2 : l[j] = l.getD j 0 := by simp [List.getD, h2]
  have hb := hl j
  rw [e1, e2, byR_at h1]
  have : acR q l / 2 ^ (8 * j) % 256 = (l.getD j 0).toNat := by
    refine Nat.eq_of_testBit_eq fun t => ?_
    rw [part_bit]
    rcases Nat.lt_or_ge t 8 with h3 | h3
    · rw [acR_bit hl, decide_eq_true h3, decide_eq_true (show 8 * j + t < 8 * q by omega), decide_eq_true (show 8 * j + t < 64 by omega), show (8 * j + t) / 8 = j by omega, show (8 * j + t) % 8 = t by omega]
      simp
    · rw [byte_bit (by omega) h3, decide_eq_false (by omega)]
      simp
  omega
theorem byR_b8 (q b : Nat) : isB8 (byR q b) := fun i => by
  rcases Nat.lt_or_ge i q with h | h
  · rw [byR_at h]; omega
  · have : (byR q b).getD i 0 = 0 := by simp [List.getD, byR_len, h]
    rw [this]; omega
theorem acR_byR {n b : Nat} (hn : n ≤ 64) (hb : b < 2 ^ n) : acR (sizeB n) (byR (sizeB n) b) = b := by
  refine Nat.eq_of_testBit_eq fun t => ?_
  rw [acR_bit (byR_b8 _ _)]
  rcases Nat.lt_or_ge t n with h | h
  · rw [decide_eq_true (show t < 8 * sizeB n by unfold sizeB; omega), decide_eq_true (show t < 64 by omega), byR_at (by unfold sizeB; omega)]
    rw [show (((b / 2 ^ (8 * (t / 8)) % 256 : Nat) : Int)).toNat = b / 2 ^ (8 * (t / 8)) % 256 by omega, part_bit, decide_eq_true (show t % 8 < 8 by omega), show 8 * (t / 8) + t % 8 = t by omega]
    simp
  · rw [bit_far hb h]
    rcases Nat.lt_or_ge t (8 * sizeB n) with h2 | h2
    · rw [byR_at (by omega), show (((b / 2 ^ (8 * (t / 8)) % 256 : Nat) : Int)).toNat = b / 2 ^ (8 * (t / 8)) % 256 by omega, part_bit, show 8 * (t / 8) + t % 8 = t by omega, bit_far hb h]
      simp
    · rw [decide_eq_false (show ¬ t < 8 * sizeB n by omega)]
      simp
/-- Bytes are a map's. -/
def isMap (bs : List Int) (n b : Nat) : Prop := rB n b = true ∧ bs = wrB n b
theorem rB_parts {n b : Nat} (h : rB n b = true) : n ≤ 64 ∧ b < 2 ^ n := by
  obtain ⟨m, hm, h2, h3⟩ := rB_yes h
  obtain rfl : n = m := by omega
  exact ⟨h2, h3⟩
theorem one_map {bs : List Int} {n b m c : Nat} (h : isMap bs n b) (k : isMap bs m c) : n = m ∧ b = c := by
  have e := h.2.symm.trans k.2
  unfold wrB at e
  injection e with e1 e2
  obtain rfl : n = m := by omega
  obtain ⟨h1, h2⟩ := rB_parts h.1
  obtain ⟨_, k2⟩ := rB_parts k.1
  refine ⟨rfl, ?_⟩
  rw [← acR_byR h1 h2, ← acR_byR h1 k2, e2]
theorem no_empty (n b : Nat) : ¬ isMap [] n b := fun h => by have := h.2; simp [wrB] at this
theorem no_len {bs : List Int} {x : Nat} (hx : bs.getD 0 0 = x) (hl : bs.length ≠ sizeB x + 1) (n b : Nat) : ¬ isMap bs n b := fun h => by
  have e := h.2
  subst e
  have : (wrB n b).getD 0 0 = n := rfl
  obtain rfl : n = x := by omega
  exact hl (wrB_len _ _)
theorem no_right {bs : List Int} {x : Nat} (hx : bs.getD 0 0 = x) (hr : rB x (acR (sizeB x) (bs.drop 1)) = false) (n b : Nat) : ¬ isMap bs n b := fun h => by
  obtain ⟨h0, e⟩ := h
  obtain ⟨h1, h2⟩ := rB_parts h0
  subst e
  have : (wrB n b).getD 0 0 = n := rfl
  obtain rfl : n = x := by omega
  rw [show (wrB n b).drop 1 = byR (sizeB n) b from rfl, acR_byR h1 h2, h0] at hr
  cases hr
theorem yes_right {bs : List Int} (hb : isB8 bs) {x : Nat} (hx : bs.getD 0 0 = x) (hl : bs.length = sizeB x + 1) (hr : rB x (acR (sizeB x) (bs.drop 1)) = true) : isMap bs x (acR (sizeB x) (bs.drop 1)) := by
  refine ⟨hr, ?_⟩
  obtain ⟨h1, _⟩ := rB_parts hr
  unfold wrB
  rw [byR_acR (fun i => by have := hb (i + 1); simpa [List.getD] using this) (sizeB_le h1) (by simp; omega)]
  cases bs with
  | nil => simp at hl
  | cons y r =>
    have : y = x := by simpa using hx
    subst this
    rfl
theorem shl_byte (c r : Nat) : IntKind.u64.wrap ((c : Int) * 2 ^ min r 64) = ((c * 2 ^ r % 2 ^ 64 : Nat) : Int) := by
  rw [show ((c : Int) * 2 ^ min r 64) = ((c * 2 ^ min r 64 : Nat) : Int) by simp, wrap64]
  rcases Nat.lt_or_ge r 64 with h | h
  · rw [show min r 64 = r by omega]
  · rw [show min r 64 = 64 by omega, show r = 64 + (r - 64) by omega, Nat.pow_add, ← Nat.mul_assoc, Nat.mul_right_comm, show (18446744073709551616 : Nat) = 2 ^ 64 from rfl, Nat.mul_mod_left, Nat.mul_mod_left]
end Go.Proofs.Ytlppnnehgfpgbaa
