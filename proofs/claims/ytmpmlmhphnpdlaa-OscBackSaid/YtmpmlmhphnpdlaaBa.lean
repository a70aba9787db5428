/-
  Proved here, of lists of bytes and of letters alone: base64 by groups: there and back, in one way alone; what begins such a text.
-/
import Derived.Test.YtmpmlmhphnpdlaaProg
namespace Go.Proofs.Ytmpmlmhphnpdlaa
/-- The letter of a number, and the number of a letter; -1: it is none. -/
def lett (v : Int) : Int := if v < 26 then 65 + v else if v < 52 then 71 + v else if v < 62 then v - 4 else if v = 62 then 43 else 47
def valL (c : Int) : Int := if 65 ≤ c ∧ c ≤ 90 then c - 65 else if 97 ≤ c ∧ c ≤ 122 then c - 71 else if 48 ≤ c ∧ c ≤ 57 then c + 4 else if c = 43 then 62 else if c = 47 then 63 else -1
theorem lett_range {v : Int} (h0 : 0 ≤ v) (h1 : v < 64) : 43 ≤ lett v ∧ lett v ≤ 122 ∧ lett v ≠ 61 := by unfold lett; split <;> (try split) <;> (try split) <;> (try split) <;> omega
theorem val_lett {v : Int} (h0 : 0 ≤ v) (h1 : v < 64) : valL (lett v) = v := by
  unfold lett
  split
  · unfold valL; rw [if_pos (by omega)]; omega
  · split
    · unfold valL; rw [if_neg (by omega), if_pos (by omega)]; omega
    · split
      · unfold valL; rw [if_neg (by omega), if_neg (by omega), if_pos (by omega)]; omega
      · split
        · unfold valL; rw [if_neg (by omega), if_neg (by omega), if_neg (by omega), if_pos rfl]; omega
        · unfold valL; rw [if_neg (by omega), if_neg (by omega), if_neg (by omega), if_neg (by omega), if_pos rfl]; omega
theorem val_range (c : Int) : -1 ≤ valL c ∧ valL c < 64 := by unfold valL; split <;> (try split) <;> (try split) <;> (try split) <;> (try split) <;> omega
theorem lett_val {c : Int} (h : 0 ≤ valL c) : lett (valL c) = c := by
  unfold valL at h ⊢
  split
  · unfold lett; rw [if_pos (by omega)]; omega
  · rename_i h1
    rw [if_neg h1] at h
    split
    · unfold lett; rw [if_neg (by omega), if_pos (by omega)]; omega
    · rename_i h2
      rw [if_neg h2] at h
      split
      · unfold lett; rw [if_neg (by omega), if_neg (by omega), if_pos (by omega)]; omega
      · rename_i h3
        rw [if_neg h3] at h
        split
        · unfold lett; rw [if_neg (by omega), if_neg (by omega), if_neg (by omega), if_pos rfl]; omega
        · rename_i h4
          rw [if_neg h4] at h
          split
          · unfold lett; rw [if_neg (by omega), if_neg (by omega), if_neg (by omega), if_neg (by omega)]; omega
          · rename_i h5
            rw [if_neg h5] at h; omega
theorem val_pad : valL 61 = -1 := by decide
/-- Bytes as letters. -/
def writeS : List Int → List Int
  | [] => []
  | [a] => [lett (a / 4), lett (a % 4 * 16), 61, 61]
  | [a, b] => [lett (a / 4), lett (a % 4 * 16 + b / 16), lett (b % 16 * 4), 61]
  | a :: b :: c :: r => lett (a / 4) :: lett (a % 4 * 16 + b / 16) :: lett (b % 16 * 4 + c / 64) :: lett (c % 64) :: writeS r
def isL (c : Int) : Bool := decide (0 ≤ valL c)
/-- Is it what is written of some bytes? -/
def goodB : List Int → Bool
  | [] => true
  | [a, b, c, d] => isL a && isL b && ((isL c && isL d) || (isL c && decide (d = 61) && decide (valL c % 4 = 0)) || (decide (c = 61) && decide (d = 61) && decide (valL b % 16 = 0)))
  | a :: b :: c :: d :: e :: r => isL a && isL b && isL c && isL d && goodB (e :: r)
  | _ => false
/-- The bytes that it is written of. -/
def decB : List Int → List Int
  | [a, b, c, d] => if c = 61 then [valL a * 4 + valL b / 16] else if d = 61 then [valL a * 4 + valL b / 16, valL b % 16 * 16 + valL c / 4] else [valL a * 4 + valL b / 16, valL b % 16 * 16 + valL c / 4, valL c % 4 * 64 + valL d]
  | a :: b :: c :: d :: e :: r => (valL a * 4 + valL b / 16) :: (valL b % 16 * 16 + valL c / 4) :: (valL c % 4 * 64 + valL d) :: decB (e :: r)
  | _ => []
/-- Does some such text go on so? -/
def preB : List Int → Bool
  | [] => true
  | [a] => isL a
  | [a, b] => isL a && isL b
  | [a, b, c] => isL a && isL b && (isL c || (decide (c = 61) && decide (valL b % 16 = 0)))
  | [a, b, c, d] => goodB [a, b, c, d]
  | a :: b :: c :: d :: e :: r => isL a && isL b && isL c && isL d && preB (e :: r)
def IsBytes (l : List Int) : Prop := ∀ x ∈ l, 0 ≤ x ∧ x < 256
theorem isL_lett {v : Int} (h0 : 0 ≤ v) (h1 : v < 64) : isL (lett v) = true := by unfold isL; rw [val_lett h0 h1]; simpa using h0
theorem isL_iff {c : Int} : isL c = true ↔ 0 ≤ valL c := by unfold isL; simp
theorem isL_ne {c : Int} (h : isL c = true) : c ≠ 61 := fun e => by subst e; rw [isL_iff, val_pad] at h; omega
theorem writeS_nil_iff {x : List Int} : writeS x = [] ↔ x = [] := by
  match x with
  | [] => simp [writeS]
  | [a] => simp [writeS]
  | [a, b] => simp [writeS]
  | a :: b :: c :: r => simp [writeS]
theorem write_len : ∀ x : List Int, (writeS x).length = (x.length + 2) / 3 * 4
  | [] => by simp [writeS]
  | [a] => by simp [writeS]
  | [a, b] => by simp [writeS]
  | a :: b :: c :: r => by
    have := write_len r
    simp only [writeS, List.length_cons, this]; omega
theorem write_app : ∀ a b : List Int, a.length % 3 = 0 → writeS (a ++ b) = writeS a ++ writeS b
  | [], b, _ => by simp [writeS]
  | [x], b, h => by simp at h
  | [x, y], b, h => by simp at h
  | x :: y :: z :: r, b, h => by
    have := write_app r b (by simp only [List.length_cons] at h; omega)
    simp only [List.cons_append, writeS, this]
/-- What is written is good, and is read as it was. -/
theorem good_write : ∀ x : List Int, IsBytes x → goodB (writeS x) = true ∧ decB (writeS x) = x
  | [], _ => ⟨rfl, rfl⟩
  | [a], h => by
    have ha := h a (by simp)
    have e1 := val_lett (v := a / 4) (by omega) (by omega)
    have e2 := val_lett (v := a % 4 * 16) (by omega) (by omega)
    have l1 := isL_lett (v := a / 4) (by omega) (by omega)
    have l2 := isL_lett (v := a % 4 * 16) (by omega) (by omega)
    simp only [writeS, goodB, decB, l1, l2, e1, e2]
    refine ⟨by simp <;> omega, ?_⟩
    simp only [if_true]
    congr 1
    omega
  | [a, b], h => by
    have ha := h a (by simp)
    have hb := h b (by simp)
    have e1 := val_lett (v := a / 4) (by omega) (by omega)
    have e2 := val_lett (v := a % 4 * 16 + b / 16) (by omega) (by omega)
    have e3 := val_lett (v := b % 16 * 4) (by omega) (by omega)
    have l1 := isL_lett (v := a / 4) (by omega) (by omega)
    have l2 := isL_lett (v := a % 4 * 16 + b / 16) (by omega) (by omega)
    have l3 := isL_lett (v := b % 16 * 4) (by omega) (by omega)
    have n3 := isL_ne l3
    simp only [writeS, goodB, decB, l1, l2, l3, e1, e2, e3]
    refine ⟨by simp <;> omega, ?_⟩
    rw [if_neg n3, if_pos trivial]
    refine List.cons_eq_cons.2 ⟨by omega, List.cons_eq_cons.2 ⟨by omega, rfl⟩⟩
  | a :: b :: c :: r, h => by
    have ha := h a (by simp)
    have hb := h b (by simp)
    have hc := h c (by simp)
    have ih := good_write r (fun x hx => h x (by simp [hx]))
    have e1 := val_lett (v := a / 4) (by omega) (by omega)
    have e2 := val_lett (v := a % 4 * 16 + b / 16) (by omega) (by omega)
    have e3 := val_lett (v := b % 16 * 4 + c / 64) (by omega) (by omega)
    have e4 := val_lett (v := c % 64) (by omega) (by omega)
    have l1 := isL_lett (v := a / 4) (by omega) (by omega)
    have l2 := isL_lett (v := a % 4 * 16 + b / 16) (by omega) (by omega)
    have l3 := isL_lett (v := b % 16 * 4 + c / 64) (by omega) (by omega)
    have l4 := isL_lett (v := c % 64) (by omega) (by omega)
    have n3 := isL_ne l3
    have n4 := isL_ne l4
    rw [writeS]
    cases hr : writeS r with
    | nil =>
      have hr0 : r = [] := writeS_nil_iff.1 hr
      subst hr0
      simp only [goodB, decB, l1, l2, l3, l4, e1, e2, e3, e4]
      refine ⟨by simp, ?_⟩
      rw [if_neg n3, if_neg n4]
      refine List.cons_eq_cons.2 ⟨by omega, List.cons_eq_cons.2 ⟨by omega, List.cons_eq_cons.2 ⟨by omega, rfl⟩⟩⟩
    | cons e t =>
      rw [hr] at ih
      simp only [goodB, decB, l1, l2, l3, l4, e1, e2, e3, e4, ih.1, ih.2]
      refine ⟨by simp, List.cons_eq_cons.2 ⟨by omega, List.cons_eq_cons.2 ⟨by omega, List.cons_eq_cons.2 ⟨by omega, rfl⟩⟩⟩⟩
/-- What is good is written of what it is read as. -/
theorem write_dec : ∀ t : List Int, goodB t = true → writeS (decB t) = t ∧ IsBytes (decB t)
  | [], _ => ⟨rfl, fun x hx => by cases hx⟩
  | [a], h => by simp [goodB] at h
  | [a, b], h => by simp [goodB] at h
  | [a, b, c], h => by simp [goodB] at h
  | [a, b, c, d], h => by
    have ra := val_range a
    have rb := val_range b
    have rc := val_range c
    have rd := val_range d
    simp only [goodB, Bool.and_eq_true, Bool.or_eq_true, decide_eq_true_eq, isL_iff] at h
    obtain ⟨⟨ha, hb⟩, hcd⟩ := h
    have la := lett_val ha
    have lb := lett_val hb
    simp only [decB]
    by_cases hc : c = 61
    · have hb16 : valL b % 16 = 0 ∧ d = 61 := by
        rcases hcd with (⟨h1, _⟩ | ⟨⟨h1, _⟩, _⟩) | ⟨⟨h1, h2⟩, h3⟩
        · rw [hc, val_pad] at h1; omega
        · rw [hc, val_pad] at h1; omega
        · exact ⟨h3, h2⟩
      rw [if_pos hc]
      refine ⟨?_, fun x hx => by rw [List.mem_singleton.1 hx]; omega⟩
      rw [writeS, show (valL a * 4 + valL b / 16) / 4 = valL a by omega, show (valL a * 4 + valL b / 16) % 4 * 16 = valL b by omega, la, lb, hc, hb16.2]
    · rw [if_neg hc]
      have hc0 : 0 ≤ valL c := by
        rcases hcd with (⟨h1, _⟩ | ⟨⟨h1, _⟩, _⟩) | ⟨⟨h1, _⟩, _⟩
        · exact h1
        · exact h1
        · exact absurd h1 hc
      have lc := lett_val hc0
      by_cases hd : d = 61
      · have hc4 : valL c % 4 = 0 := by
          rcases hcd with (⟨_, h1⟩ | ⟨⟨_, _⟩, h1⟩) | ⟨⟨h1, _⟩, _⟩
          · rw [hd, val_pad] at h1; omega
          · exact h1
          · exact absurd h1 hc
        rw [if_pos hd]
        refine ⟨?_, fun x hx => by rcases List.mem_cons.1 hx with rfl | hx; · omega
                                   · rw [List.mem_singleton.1 hx]; omega⟩
        rw [writeS, show (valL a * 4 + valL b / 16) / 4 = valL a by omega, show (valL a * 4 + valL b / 16) % 4 * 16 + (valL b % 16 * 16 + valL c / 4) / 16 = valL b by omega, show (valL b % 16 * 16 + valL c / 4) % 16 * 4 = valL c by omega, la, lb, lc, hd]
      · rw [if_neg hd]
        have hd0 : 0 ≤ valL d := by
          rcases hcd with (⟨_, h1⟩ | ⟨⟨_, h1⟩, _⟩) | ⟨⟨h1, _⟩, _⟩
          · exact h1
          · exact absurd h1 hd
          · exact absurd h1 hc
        have ld := lett_val hd0
        refine ⟨?_, fun x hx => ?_⟩
        · rw [writeS, writeS, show (valL a * 4 + valL b / 16) / 4 = valL a by omega, show (valL a * 4 + valL b / 16) % 4 * 16 + (valL b % 16 * 16 + valL c / 4) / 16 = valL b by omega, show (valL b % 16 * 16 + valL c / 4) % 16 * 4 + (valL c % 4 * 64 + valL d) / 64 = valL c by omega, show (valL c % 4 * 64 + valL d) % 64 = valL d by omega, la, lb, lc, ld]
        · simp only [List.mem_cons, List.not_mem_nil, or_false] at hx
          rcases hx with rfl | rfl | rfl <;> omega
  | a :: b :: c :: d :: e :: r, h => by
    have ra := val_range a
    have rb := val_range b
    have rc := val_range c
    have rd := val_range d
    simp only [goodB, Bool.and_eq_true, isL_iff] at h
    obtain ⟨⟨⟨⟨ha, hb⟩, hc⟩, hd⟩, hr⟩ := h
    obtain ⟨ih1, ih2⟩ := write_dec (e :: r) hr
    have la := lett_val ha
    have lb := lett_val hb
    have lc := lett_val hc
    have ld := lett_val hd
    simp only [decB]
    refine ⟨?_, fun x hx => ?_⟩
    · rw [writeS, ih1, show (valL a * 4 + valL b / 16) / 4 = valL a by omega, show (valL a * 4 + valL b / 16) % 4 * 16 + (valL b % 16 * 16 + valL c / 4) / 16 = valL b by omega, show (valL b % 16 * 16 + valL c / 4) % 16 * 4 + (valL c % 4 * 64 + valL d) / 64 = valL c by omega, show (valL c % 4 * 64 + valL d) % 64 = valL d by omega, la, lb, lc, ld]
    · simp only [List.mem_cons] at hx
      rcases hx with rfl | rfl | rfl | hx
      · omega
      · omega
      · omega
      · exact ih2 x hx
/-- What begins such a text: just what the document's own completions find. -/
theorem pre_four {a b c d : Int} {r : List Int} (h : isL a = true ∧ isL b = true ∧ isL c = true ∧ isL d = true) (hr : r ≠ []) : preB (a :: b :: c :: d :: r) = preB r ∧ goodB (a :: b :: c :: d :: r) = goodB r := by
  obtain ⟨h1, h2, h3, h4⟩ := h
  cases r with
  | nil => exact absurd rfl hr
  | cons e r => simp [preB, goodB, h1, h2, h3, h4]
theorem good_pre : ∀ t : List Int, goodB t = true → preB t = true
  | [], _ => rfl
  | [a], h => by simp [goodB] at h
  | [a, b], h => by simp [goodB] at h
  | [a, b, c], h => by simp [goodB] at h
  | [a, b, c, d], h => h
  | a :: b :: c :: d :: e :: r, h => by
    simp only [goodB, Bool.and_eq_true] at h
    have := good_pre (e :: r) h.2
    simp only [preB, Bool.and_eq_true]
    exact ⟨h.1, this⟩
theorem pre_mod0 : ∀ t : List Int, t.length % 4 = 0 → preB t = goodB t
  | [], _ => rfl
  | [a], h => by simp at h
  | [a, b], h => by simp at h
  | [a, b, c], h => by simp at h
  | [a, b, c, d], _ => rfl
  | a :: b :: c :: d :: e :: r, h => by
    have := pre_mod0 (e :: r) (by simp only [List.length_cons] at h ⊢; omega)
    simp only [preB, goodB, this]
/-- A beginning of a beginning is one. -/
theorem pre_snoc : ∀ (t : List Int) (x : Int), preB (t ++ [x]) = true → preB t = true
  | [], _, _ => rfl
  | [a], x, h => by simp [preB] at h ⊢; exact h.1
  | [a, b], x, h => by simp [preB] at h ⊢; exact h.1
  | [a, b, c], x, h => by
    simp [preB, goodB] at h ⊢
    refine ⟨h.1, ?_⟩
    rcases h.2 with (h | h) | h
    · exact .inl h.1
    · exact .inl h.1.1
    · exact .inr ⟨h.1.1, h.2⟩
  | [a, b, c, d], x, h => by
    simp [preB, goodB] at h ⊢
    obtain ⟨⟨⟨⟨h1, h2⟩, h3⟩, h4⟩, _⟩ := h
    exact ⟨⟨h1, h2⟩, .inl (.inl ⟨h3, h4⟩)⟩
  | a :: b :: c :: d :: e :: r, x, h => by
    simp only [List.cons_append, preB, Bool.and_eq_true] at h
    have := pre_snoc (e :: r) x h.2
    simp only [preB, Bool.and_eq_true]
    exact ⟨h.1, this⟩
theorem pre_take {t : List Int} (h : preB t = true) : ∀ k, preB (t.take (t.length - k)) = true
  | 0 => by simpa using h
  | k + 1 => by
    have ih := pre_take h k
    by_cases hk : k < t.length
    · refine pre_snoc _ (t.getD (t.length - (k + 1)) 0) ?_
      have e : t.take (t.length - k) = t.take (t.length - (k + 1)) ++ [t.getD (t.length - (k + 1)) 0] := by
        have hlt : t.length - (k + 1) < t.length := by omega
        rw [show t.length - k = t.length - (k + 1) + 1 by omega, List.take_add_one]
        simp [List.getD, hlt]
      rw [← e]; exact ih
    · rw [show t.length - (k + 1) = 0 by omega]; rfl
theorem pre_prefix {t : List Int} (h : preB t = true) (i : Nat) : preB (t.take i) = true := by
  rcases Nat.lt_or_ge i t.length with hi | hi
  · have := pre_take h (t.length - i)
    rwa [show t.length - (t.length - i) = i by omega] at this
  · rwa [List.take_of_length_le hi]
/-- Where a text goes wrong. -/
def faultF (t : List Int) : Nat → Nat → Int
  | _, 0 => t.length
  | i, k + 1 => if preB (t.take (i + 1)) then faultF t (i + 1) k else i
def faultS (t : List Int) : Int := if goodB t then -1 else faultF t 0 t.length
theorem faultF_pre {t : List Int} (h : preB t = true) : ∀ k i, faultF t i k = t.length
  | 0, _ => rfl
  | k + 1, i => by rw [faultF, if_pos (pre_prefix h _), faultF_pre h k (i + 1)]
/-- What is cut out of a text at no whole place goes wrong just at its end. -/
theorem fault_cut {x : List Int} (hx : IsBytes x) {n : Nat} (hn : n % 4 ≠ 0) (hl : n ≤ (writeS x).length) : faultS ((writeS x).take n) = n := by
  have hp := pre_prefix (good_pre _ (good_write x hx).1) n
  have hlen : ((writeS x).take n).length = n := by simp; omega
  have hg : goodB ((writeS x).take n) = false := by
    cases hgg : goodB ((writeS x).take n)
    · rfl
    · have := write_len (decB ((writeS x).take n))
      rw [(write_dec _ hgg).1, hlen] at this
      omega
  unfold faultS
  rw [hg, if_neg (by decide), faultF_pre hp, hlen]
theorem write_take : ∀ (x : List Int) (k : Nat), k * 3 ≤ x.length → (writeS x).take (k * 4) = writeS (x.take (k * 3))
  | x, 0, _ => by simp [writeS]
  | [], k + 1, h => by simp at h
  | [a], k + 1, h => by simp at h; omega
  | [a, b], k + 1, h => by simp at h; omega
  | a :: b :: c :: r, k + 1, h => by
    have ih := write_take r k (by simp only [List.length_cons] at h; omega)
    rw [show (k + 1) * 4 = k * 4 + 1 + 1 + 1 + 1 by omega, show (k + 1) * 3 = k * 3 + 1 + 1 + 1 by omega]
    simp only [writeS, List.take_succ_cons, ih]
end Go.Proofs.Ytmpmlmhphnpdlaa
