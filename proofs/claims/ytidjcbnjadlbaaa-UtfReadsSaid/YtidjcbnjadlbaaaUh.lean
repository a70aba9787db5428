/-
  Proved here, of lists of bytes alone: what waits, and what one more byte makes of it.
-/
import Derived.Test.YtidjcbnjadlbaaaUn
set_option linter.unusedSectionVars false
namespace Go.Proofs.Ytidjcbnjadlbaaa
/-- What waits: these bytes, how many they are, how many are needed, their bits, and what may come. -/
inductive St : List Int → Int → Int → Int → Int → Int → Prop
  | empty : St [] 0 0 0 0 0
  | some (ws : List Int) (f v : Int) (i k : Nat) (hl : ws.length = i) (hi : 1 ≤ i) (hk : 1 ≤ k) (hik : i + k ≤ 4) (hv : 0 ≤ v ∧ v < 32 * 64 ^ (i - 1)) (hone : ∀ r, one (ws ++ r) = cont f v i k r) :
    St ws i k v (if i = 1 then lo1 f else 128) (if i = 1 then hi1 f else 191)
theorem lo1_ge (f : Int) : 128 ≤ lo1 f := by unfold lo1; split <;> (try split) <;> omega
theorem hi1_le (f : Int) : hi1 f ≤ 191 := by unfold hi1; split <;> (try split) <;> omega
theorem waitS_zero {b : List Int} (h : (readS b).2 = 0) : waitS b = [] := by
  apply List.eq_nil_of_length_eq_zero; rw [waitS_len, h]
theorem waitS_all {b : List Int} (h : readS b = ([], b.length)) : waitS b = b := by unfold waitS; rw [h]; simp
theorem one_low {c : Int} (h : c < 128) : readS [c] = ([c], 0) ∧ waitS [c] = [] := by
  have e : readS [c] = ([c], 0) := by
    have e1 : one [c] = (c, 1) := by rw [one_cons, if_pos h]
    rw [readS_step (by simp), e1, if_neg (by simp)]; simp [readS_nil]
  exact ⟨e, waitS_zero (by rw [e])⟩
theorem one_bad {c : Int} (h : ¬ c < 128) (hf : fol c = 0) : readS [c] = ([65533], 0) ∧ waitS [c] = [] := by
  have e : readS [c] = ([65533], 0) := by
    have e1 : one [c] = (65533, 1) := by rw [one_cons, if_neg h, if_pos hf]
    rw [readS_step (by simp), e1, if_neg (by simp)]; simp [readS_nil]
  exact ⟨e, waitS_zero (by rw [e])⟩
theorem fol_top {c : Int} (hf : fol c ≠ 0) : 0 ≤ c - topB (fol c) ∧ c - topB (fol c) < 32 ∧ ¬ c < 128 := by
  unfold fol at hf ⊢
  unfold topB
  split
  · simp; omega
  · split
    · simp; omega
    · split
      · simp; omega
      · rename_i h1 h2 h3; rw [if_neg h1, if_neg h2, if_neg h3] at hf; exact absurd rfl hf
theorem cont_nil (f v : Int) (i k : Nat) (h : 1 ≤ k) : cont f v i k [] = (0, 0) := by
  obtain ⟨m, rfl⟩ : ∃ m, k = m + 1 := ⟨k - 1, by omega⟩
  exact contE f v i m
theorem one_beg {c : Int} (hf : fol c ≠ 0) : readS [c] = ([], 1) ∧ waitS [c] = [c] ∧ St [c] 1 (fol c : Nat) (c - topB (fol c)) (lo1 c) (hi1 c) := by
  have ht := fol_top hf
  have h3 := fol_le c
  have hone : ∀ r, one ([c] ++ r) = cont c (c - topB (fol c)) 1 (fol c) r := fun r => by
    rw [List.singleton_append, one_cons, if_neg ht.2.2, if_neg hf]
  have e : readS [c] = ([], 1) := by
    have e1 : one [c] = (0, 0) := by have := hone []; rw [List.append_nil] at this; rw [this, cont_nil _ _ _ _ (by omega)]
    rw [readS_step (by simp), e1, if_pos rfl]; simp
  have hs := St.some [c] c (c - topB (fol c)) 1 (fol c) rfl (by omega) (by omega) (by omega) ⟨ht.1, by simpa using ht.2.1⟩ hone
  exact ⟨e, waitS_all (by rw [e]; rfl), by simpa using hs⟩
section
variable {ws : List Int} {f v : Int} {i k : Nat} (hl : ws.length = i) (hi : 1 ≤ i) (hk : 1 ≤ k) (hone : ∀ r, one (ws ++ r) = cont f v i k r)
include hl hi hk hone
theorem some_rest : readS ws = ([], ws.length) := by
  have e1 : one ws = (0, 0) := by have := hone []; rw [List.append_nil] at this; rw [this, cont_nil _ _ _ _ hk]
  rw [readS_step (fun e => by rw [e] at hl; simp at hl; omega), e1, if_pos rfl]
theorem some_done (hk1 : k = 1) {c : Int} (hm : (if i = 1 then lo1 f else 128) ≤ c ∧ c ≤ (if i = 1 then hi1 f else 191)) : readS (ws ++ [c]) = ([64 * v + c - 128], 0) ∧ waitS (ws ++ [c]) = [] := by
  subst hk1
  have e1 : one (ws ++ [c]) = (64 * v + c - 128, i + 1) := by rw [hone, contY (mayB_iff.2 hm), cont0]
  have e : readS (ws ++ [c]) = ([64 * v + c - 128], 0) := by
    rw [readS_step (by simp), e1, if_neg (by simp), List.drop_eq_nil_of_le (by simp; omega)]; simp [readS_nil]
  exact ⟨e, waitS_zero (by rw [e])⟩
theorem some_more (hik : i + k ≤ 4) (hv : 0 ≤ v ∧ v < 32 * 64 ^ (i - 1)) (hk1 : k ≠ 1) {c : Int} (hm : (if i = 1 then lo1 f else 128) ≤ c ∧ c ≤ (if i = 1 then hi1 f else 191)) :
    readS (ws ++ [c]) = ([], i + 1) ∧ waitS (ws ++ [c]) = ws ++ [c] ∧ St (ws ++ [c]) ((i + 1 : Nat) : Int) ((k - 1 : Nat) : Int) (64 * v + c - 128) 128 191 := by
  obtain ⟨m, rfl⟩ : ∃ m, k = m + 1 := ⟨k - 1, by omega⟩
  have hone' : ∀ r, one ((ws ++ [c]) ++ r) = cont f (64 * v + c - 128) (i + 1) m r := fun r => by
    rw [List.append_assoc, hone, List.singleton_append, contY (mayB_iff.2 hm)]
  have hb : 128 ≤ c ∧ c ≤ 191 := by
    have := lo1_ge f
    have := hi1_le f
    obtain ⟨h1, h2⟩ := hm
    split at h1 <;> split at h2 <;> omega
  have hv' : 0 ≤ 64 * v + c - 128 ∧ 64 * v + c - 128 < 32 * 64 ^ (i + 1 - 1) := by
    have e : (64 : Int) ^ (i + 1 - 1) = 64 * 64 ^ (i - 1) := by
      obtain ⟨j, rfl⟩ : ∃ j, i = j + 1 := ⟨i - 1, by omega⟩
      rw [show j + 1 + 1 - 1 = j + 1 by omega, show j + 1 - 1 = j by omega, Int.pow_succ, Int.mul_comm]
    rw [e]
    omega
  have hs := St.some (ws ++ [c]) f (64 * v + c - 128) (i + 1) m (by simp [hl]) (by omega) (by omega) (by omega) hv' hone'
  have e := some_rest (ws := ws ++ [c]) (i := i + 1) (k := m) (by simp [hl]) (by omega) (by omega) hone'
  have e2 : (ws ++ [c]).length = i + 1 := by simp [hl]
  rw [if_neg (by omega), if_neg (by omega)] at hs
  refine ⟨by rw [e, e2], waitS_all e, ?_⟩
  rw [show m + 1 - 1 = m by omega]
  exact hs
theorem some_bad {c : Int} (hm : ¬ ((if i = 1 then lo1 f else 128) ≤ c ∧ c ≤ (if i = 1 then hi1 f else 191))) : readS (ws ++ [c]) = (65533 :: (readS [c]).1, (readS [c]).2) ∧ waitS (ws ++ [c]) = waitS [c] := by
  obtain ⟨m, rfl⟩ : ∃ m, k = m + 1 := ⟨k - 1, by omega⟩
  have hf : mayB f i c = false := by
    cases h : mayB f i c
    · rfl
    · exact absurd (mayB_iff.1 h) hm
  have e1 : one (ws ++ [c]) = (65533, i) := by rw [hone, contN hf]
  have e : readS (ws ++ [c]) = (65533 :: (readS [c]).1, (readS [c]).2) := by
    rw [readS_step (by simp), e1, if_neg (by dsimp only; omega)]
    dsimp only
    rw [List.drop_append_of_le_length (by omega), List.drop_eq_nil_of_le (by omega)]; rfl
  refine ⟨e, ?_⟩
  have h1 := (readS_wait [c]).1
  have hl1 : [c].length = 1 := rfl
  unfold waitS
  rw [e, List.length_append]
  dsimp only
  rw [show ws.length + [c].length - (readS [c]).2 = ws.length + ([c].length - (readS [c]).2) by omega, List.drop_append]
  rw [List.drop_eq_nil_of_le (by omega), List.nil_append]
  congr 1
  omega
end
theorem St.len {ws : List Int} {W N P L H : Int} (h : St ws W N P L H) : ws.length ≤ 3 ∧ W = (ws.length : Nat) ∧ readS ws = ([], ws.length) ∧ waitS ws = ws := by
  cases h with
  | empty => exact ⟨by simp, rfl, rfl, rfl⟩
  | some _ f _ i k hl hi hk hik hv hone =>
    have e := some_rest hl hi hk hone
    exact ⟨by omega, by rw [hl], e, waitS_all e⟩
end Go.Proofs.Ytidjcbnjadlbaaa
