/-
  Proved here, of lists alone: which letter may stand behind a beginning of letters; where a text goes wrong, letter by letter.
-/
import Derived.Test.YtmpmlmhphnpdlaaBc
set_option linter.unusedSimpArgs false
set_option linter.unusedVariables false
namespace Go.Proofs.Ytmpmlmhphnpdlaa
/-- The last one; 0: there is none. -/
def lastC : List Int → Int
  | [] => 0
  | [a] => a
  | _ :: b :: r => lastC (b :: r)
theorem lastC_snoc : ∀ (t : List Int) (c : Int), lastC (t ++ [c]) = c
  | [], _ => rfl
  | [a], _ => rfl
  | a :: b :: r, c => by
    have := lastC_snoc (b :: r) c
    simpa [lastC] using this
/-- May this one stand there? -/
def okC (place before : Int) (padded : Bool) (c : Int) : Bool := if padded && decide (c ≠ 61) then false else if c = 61 then mayS place before padded else isL c
theorem okC_61 (place before : Int) (padded : Bool) : okC place before padded 61 = mayS place before padded := by unfold okC; simp
theorem okC_no (place before : Int) {c : Int} (h : c ≠ 61) : okC place before true c = false := by unfold okC; simp [h]
theorem okC_l (place before : Int) {c : Int} (h : c ≠ 61) : okC place before false c = isL c := by unfold okC; simp [h]
theorem isL_61 : isL 61 = false := by decide
theorem pre_next : ∀ (t : List Int) (c : Int), preB t = true → preB (t ++ [c]) = okC (t.length % 4 : Nat) (valL (lastC t)) (decide (lastC t = 61)) c
  | [], c, _ => by
    by_cases h : c = 61
    · subst h; rfl
    · show preB [c] = okC 0 (valL 0) (decide ((0 : Int) = 61)) c
      rw [show decide ((0 : Int) = 61) = false by decide, okC_l _ _ h]; rfl
  | [a], c, ha => by
    have ha' : isL a = true := ha
    have hn := isL_ne ha'
    show preB [a, c] = okC 1 (valL a) (decide (a = 61)) c
    rw [show decide (a = 61) = false by simpa using hn]
    by_cases h : c = 61
    · subst h; rw [okC_61]; simp [preB, isL_61, mayS]
    · rw [okC_l _ _ h]; simp [preB, ha']
  | [a, b], c, hab => by
    have h2 : isL a = true ∧ isL b = true := by simpa [preB] using hab
    have hn := isL_ne h2.2
    show preB [a, b, c] = okC 2 (valL b) (decide (b = 61)) c
    rw [show decide (b = 61) = false by simpa using hn]
    by_cases h : c = 61
    · subst h; rw [okC_61]; simp [preB, isL_61, mayS, h2]
    · rw [okC_l _ _ h]; simp [preB, h2, h]
  | [a, b, c], d, habc => by
    have h2 : (isL a = true ∧ isL b = true) ∧ (isL c = true ∨ (c = 61 ∧ valL b % 16 = 0)) := by simpa [preB] using habc
    show preB [a, b, c, d] = okC 3 (valL c) (decide (c = 61)) d
    rcases h2.2 with hc | ⟨rfl, hb⟩
    · have hn := isL_ne hc
      rw [show decide (c = 61) = false by simpa using hn]
      by_cases h : d = 61
      · subst h; rw [okC_61]; simp [preB, goodB, isL_61, mayS, h2, hc, hn]
      · rw [okC_l _ _ h]; simp [preB, goodB, h2, hc, hn, h]
    · rw [show decide ((61 : Int) = 61) = true by decide]
      by_cases h : d = 61
      · subst h; rw [okC_61]; simp [preB, goodB, isL_61, mayS, h2.1, hb]
      · rw [okC_no _ _ h]; simp [preB, goodB, isL_61, h]
  | [a, b, c, d], x, h4 => by
    rw [show ([a, b, c, d] : List Int).length % 4 = 0 by simp, show lastC [a, b, c, d] = d from rfl]
    show preB [a, b, c, d, x] = okC 0 (valL d) (decide (d = 61)) x
    have hg : isL a = true ∧ isL b = true := by
      have := h4; simp [preB, goodB] at this; exact this.1
    by_cases hd : d = 61
    · subst hd
      rw [show decide ((61 : Int) = 61) = true by decide]
      by_cases h : x = 61
      · subst h; rw [okC_61]; simp [preB, isL_61, mayS]
      · rw [okC_no _ _ h]; simp [preB, isL_61]
    · rw [show decide (d = 61) = false by simpa using hd]
      have hcd : isL c = true ∧ isL d = true := by
        have := h4; simp [preB, goodB, hd] at this; exact this.2
      by_cases h : x = 61
      · subst h; rw [okC_61]; simp [preB, isL_61, mayS]
      · rw [okC_l _ _ h]; simp [preB, hg, hcd]
  | a :: b :: c :: d :: e :: r, x, h => by
    simp only [preB, Bool.and_eq_true] at h
    have ih := pre_next (e :: r) x h.2
    have e1 : preB (a :: b :: c :: d :: e :: r ++ [x]) = preB (e :: r ++ [x]) := by
      simp only [List.cons_append, preB, h.1]; simp [h.1]
    rw [e1, ih]
    have e2 : lastC (a :: b :: c :: d :: e :: r) = lastC (e :: r) := rfl
    rw [e2]
    congr 2
    simp only [List.length_cons]
    omega
/-- The number ahead of a place where a pad may stand. -/
theorem pre_last : ∀ (t : List Int), preB t = true → (t.length % 4 = 2 ∨ (t.length % 4 = 3 ∧ lastC t ≠ 61)) → 0 ≤ valL (lastC t) ∧ valL (lastC t) < 64
  | [], _, h => by simp at h
  | [a], _, h => by simp at h
  | [a, b], hp, _ => by
    have h2 : isL a = true ∧ isL b = true := by simpa [preB] using hp
    exact ⟨isL_iff.1 h2.2, (val_range _).2⟩
  | [a, b, c], hp, h => by
    have h2 : (isL a = true ∧ isL b = true) ∧ (isL c = true ∨ (c = 61 ∧ valL b % 16 = 0)) := by simpa [preB] using hp
    have hc : c ≠ 61 := by
      have h' := h; rw [show lastC [a, b, c] = c from rfl] at h'; simpa using h'
    rcases h2.2 with h3 | h3
    · exact ⟨isL_iff.1 h3, (val_range _).2⟩
    · exact absurd h3.1 hc
  | [a, b, c, d], _, h => by simp at h
  | a :: b :: c :: d :: e :: r, hp, h => by
    simp only [preB, Bool.and_eq_true] at hp
    have e2 : lastC (a :: b :: c :: d :: e :: r) = lastC (e :: r) := rfl
    rw [e2] at h ⊢
    refine pre_last (e :: r) hp.2 ?_
    simp only [List.length_cons] at h ⊢
    rcases h with h | ⟨h, h'⟩
    · exact .inl (by omega)
    · exact .inr ⟨by omega, h'⟩
theorem faultF_go (t : List Int) (i : Nat) (hi : i ≤ t.length) (hp : preB (t.take i) = true) : ∀ j, j ≤ i → faultF t j (t.length - j) = faultF t i (t.length - i) := by
  intro j hj
  obtain ⟨d, rfl⟩ : ∃ d, i = j + d := ⟨i - j, by omega⟩
  clear hj
  induction d generalizing j with
  | zero => rfl
  | succ d ih =>
    have h1 : preB (t.take (j + 1)) = true := by
      have := pre_prefix hp (j + 1)
      rwa [List.take_take, show min (j + 1) (j + (d + 1)) = j + 1 by omega] at this
    rw [show t.length - j = (t.length - (j + 1)) + 1 by omega, faultF, if_pos h1]
    have := ih (j + 1) (by omega) (by rw [show j + 1 + d = j + (d + 1) by omega]; exact hp)
    rw [this, show j + 1 + d = j + (d + 1) by omega]
theorem fault_at {t : List Int} {i : Nat} (hi : i < t.length) (hp : preB (t.take i) = true) (hn : preB (t.take (i + 1)) = false) : faultS t = i := by
  have hg : goodB t = false := by
    cases h : goodB t
    · rfl
    · rw [pre_prefix (good_pre t h) (i + 1)] at hn; exact absurd hn (by decide)
  unfold faultS
  rw [hg, if_neg (by decide)]
  have := faultF_go t i (by omega) hp 0 (by omega)
  rw [Nat.sub_zero] at this
  rw [this, show t.length - i = (t.length - (i + 1)) + 1 by omega, faultF, if_neg (by rw [hn]; decide)]
theorem good_len : ∀ t : List Int, goodB t = true → t.length % 4 = 0
  | [], _ => rfl
  | [a], h => by simp [goodB] at h
  | [a, b], h => by simp [goodB] at h
  | [a, b, c], h => by simp [goodB] at h
  | [a, b, c, d], _ => by simp
  | a :: b :: c :: d :: e :: r, h => by
    simp only [goodB, Bool.and_eq_true] at h
    have := good_len (e :: r) h.2
    simp only [List.length_cons] at this ⊢; omega
theorem fault_end {t : List Int} (hp : preB t = true) : faultS t = if t.length % 4 = 0 then (-1 : Int) else (t.length : Nat) := by
  unfold faultS
  by_cases h : t.length % 4 = 0
  · rw [if_pos h, ← pre_mod0 t h, if_pos hp]
  · rw [if_neg h, if_neg (fun hg => h (good_len t hg)), faultF_pre hp]
theorem isL_high {c : Int} (h : 128 ≤ c) : isL c = false := by
  cases hc : isL c
  · rfl
  · rw [isL_iff] at hc
    unfold valL at hc
    repeat' split at hc
    all_goals omega
end Go.Proofs.Ytmpmlmhphnpdlaa
