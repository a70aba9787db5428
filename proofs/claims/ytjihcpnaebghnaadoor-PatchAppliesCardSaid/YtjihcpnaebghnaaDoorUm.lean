/-
  Proved here, of lists of bytes and of points alone: what bytes are read as, in whatever pieces they come; there and back.
-/
import Derived.Test.YtjihcpnaebghnaaDoorProg
namespace Go.Proofs.YtjihcpnaebghnaaDoor
/-- How many bytes follow a beginning; 0: it is none. -/
def fol (c : Int) : Nat := if 194 ≤ c ∧ c ≤ 223 then 1 else if 224 ≤ c ∧ c ≤ 239 then 2 else if 240 ≤ c ∧ c ≤ 244 then 3 else 0
def lo1 (f : Int) : Int := if f = 224 then 160 else if f = 240 then 144 else 128
def hi1 (f : Int) : Int := if f = 237 then 159 else if f = 244 then 143 else 191
/-- May a byte follow a beginning, as its i-th? -/
def mayB (f : Int) (i : Nat) (c : Int) : Bool := decide ((if i = 1 then lo1 f else 128) ≤ c ∧ c ≤ (if i = 1 then hi1 f else 191))
def topB (n : Nat) : Int := if n = 1 then 192 else if n = 2 then 224 else if n = 3 then 240 else 0
def cont (f : Int) : Int → Nat → Nat → List Int → Int × Nat
  | v, i, 0, _ => (v, i)
  | _, _, _ + 1, [] => (0, 0)
  | v, i, k + 1, c :: r => if mayB f i c then cont f (64 * v + c - 128) (i + 1) k r else (65533, i)
/-- What stands at the beginning: a point, and how many bytes are told by it; 0: they wait. -/
def one : List Int → Int × Nat
  | [] => (0, 0)
  | c :: r => if c < 128 then (c, 1) else if fol c = 0 then (65533, 1) else cont c (c - topB (fol c)) 1 (fol c) r
def readF : Nat → List Int → List Int × Nat
  | 0, _ => ([], 0)
  | _ + 1, [] => ([], 0)
  | k + 1, c :: r => if (one (c :: r)).2 = 0 then ([], (c :: r).length) else ((one (c :: r)).1 :: (readF k ((c :: r).drop (one (c :: r)).2)).1, (readF k ((c :: r).drop (one (c :: r)).2)).2)
/-- What bytes are read as, and how many wait. -/
def readS (b : List Int) : List Int × Nat := readF b.length b
/-- What bytes are read as, a beginning at their end as Bad. -/
def pointsS (b : List Int) : List Int := (readS b).1 ++ (if 0 < (readS b).2 then [65533] else [])
def isP (p : Int) : Bool := decide ((0 ≤ p ∧ p < 55296) ∨ (57343 < p ∧ p < 1114112))

theorem one_cons (c : Int) (r : List Int) : one (c :: r) = if c < 128 then (c, 1) else if fol c = 0 then (65533, 1) else cont c (c - topB (fol c)) 1 (fol c) r := rfl
theorem fol_le (c : Int) : fol c ≤ 3 := by unfold fol; split <;> (try split) <;> (try split) <;> omega
theorem cont_le (f : Int) : ∀ (k : Nat) (v : Int) (i : Nat) (r : List Int), (cont f v i k r).2 ≤ i + r.length ∧ ((cont f v i k r).2 = 0 → i ≠ 0 → r.length < k)
  | 0, v, i, r => by unfold cont; exact ⟨by simp, fun h h' => absurd h h'⟩
  | k + 1, v, i, [] => by unfold cont; exact ⟨by simp, fun _ _ => by simp⟩
  | k + 1, v, i, c :: r => by
    unfold cont
    split
    · have := cont_le f k (64 * v + c - 128) (i + 1) r
      exact ⟨by have := this.1; simp only [List.length_cons]; omega, fun h _ => by have := this.2 h (by omega); simp only [List.length_cons]; omega⟩
    · exact ⟨by simp only [List.length_cons]; omega, fun h h' => absurd h h'⟩
theorem one_le (b : List Int) : (one b).2 ≤ b.length := by
  cases b with
  | nil => simp [one]
  | cons c r =>
    rw [one_cons]
    split
    · simp
    · split
      · simp
      · have := (cont_le c (fol c) (c - topB (fol c)) 1 r).1
        simp only [List.length_cons]; omega
/-- What waits is short. -/
theorem one_wait {b : List Int} (h : (one b).2 = 0) : b.length ≤ 3 := by
  cases b with
  | nil => simp
  | cons c r =>
    rw [one_cons] at h
    split at h
    · simp at h
    · split at h
      · simp at h
      · have := (cont_le c (fol c) (c - topB (fol c)) 1 r).2 h (by omega)
        have := fol_le c
        simp only [List.length_cons]; omega
theorem cont_app (f : Int) : ∀ (k : Nat) (v : Int) (i : Nat) (r d : List Int), i ≠ 0 → (cont f v i k r).2 ≠ 0 → cont f v i k (r ++ d) = cont f v i k r
  | 0, v, i, r, d, _, _ => by unfold cont; rfl
  | k + 1, v, i, [], d, _, h => by unfold cont at h; exact absurd rfl h
  | k + 1, v, i, c :: r, d, hi, h => by
    unfold cont at h ⊢
    rw [List.cons_append]
    dsimp only
    split
    · rename_i hm
      rw [if_pos hm] at h
      exact cont_app f k _ _ r d (by omega) h
    · rfl
theorem one_app {b : List Int} (d : List Int) (h : (one b).2 ≠ 0) : one (b ++ d) = one b := by
  cases b with
  | nil => exact absurd rfl h
  | cons c r =>
    rw [List.cons_append]
    rw [one_cons] at h ⊢
    rw [one_cons]
    split
    · rfl
    · rename_i h1
      rw [if_neg h1] at h
      split
      · rfl
      · rename_i h2
        rw [if_neg h2] at h
        exact cont_app c _ _ _ r d (by omega) h
theorem readF_more : ∀ (k m : Nat) (b : List Int), b.length ≤ k → b.length ≤ m → readF k b = readF m b
  | 0, m, b, h, _ => by
    have : b = [] := List.eq_nil_of_length_eq_zero (by omega)
    subst this
    cases m <;> rfl
  | k + 1, 0, b, _, h => by
    have : b = [] := List.eq_nil_of_length_eq_zero (by omega)
    subst this
    rfl
  | k + 1, m + 1, [], _, _ => rfl
  | k + 1, m + 1, c :: r, h1, h2 => by
    unfold readF
    by_cases h0 : (one (c :: r)).2 = 0
    · rw [if_pos h0, if_pos h0]
    · rw [if_neg h0, if_neg h0]
      have hl : ((c :: r).drop (one (c :: r)).2).length ≤ r.length := by
        rw [List.length_drop, List.length_cons]; omega
      simp only [List.length_cons] at h1 h2
      rw [readF_more k m _ (by omega) (by omega)]
theorem readS_nil : readS [] = ([], 0) := rfl
/-- One step of a reading. -/
theorem readS_step {b : List Int} (hb : b ≠ []) : readS b = if (one b).2 = 0 then ([], b.length) else ((one b).1 :: (readS (b.drop (one b).2)).1, (readS (b.drop (one b).2)).2) := by
  cases b with
  | nil => exact absurd rfl hb
  | cons c r =>
    unfold readS
    rw [List.length_cons]
    rw [readF]
    by_cases h0 : (one (c :: r)).2 = 0
    · rw [if_pos h0, if_pos h0, List.length_cons]
    · rw [if_neg h0, if_neg h0]
      have hl : ((c :: r).drop (one (c :: r)).2).length ≤ r.length := by
        rw [List.length_drop, List.length_cons]; omega
      rw [readF_more r.length _ _ hl (Nat.le_refl _)]
/-- By steps. -/
theorem readS_ind {P : List Int → Prop} (h0 : P []) (h1 : ∀ b, b ≠ [] → (one b).2 = 0 → P b) (h2 : ∀ b, b ≠ [] → (one b).2 ≠ 0 → P (b.drop (one b).2) → P b) : ∀ b, P b := by
  intro b
  have key : ∀ n (b : List Int), b.length ≤ n → P b := by
    intro n
    induction n with
    | zero => intro b hb; rw [List.eq_nil_of_length_eq_zero (show b.length = 0 by omega)]; exact h0
    | succ n ih =>
      intro b hb
      by_cases hn : b = []
      · subst hn; exact h0
      · by_cases hz : (one b).2 = 0
        · exact h1 b hn hz
        · exact h2 b hn hz (ih _ (by rw [List.length_drop]; omega))
  exact key _ b (Nat.le_refl _)
theorem readS_wait (b : List Int) : (readS b).2 ≤ b.length ∧ (readS b).2 ≤ 3 := by
  refine readS_ind (P := fun b => (readS b).2 ≤ b.length ∧ (readS b).2 ≤ 3) ⟨by simp [readS_nil], by simp [readS_nil]⟩ (fun b hb hz => ?_) (fun b hb hz ih => ?_) b
  · rw [readS_step hb, if_pos hz]; exact ⟨Nat.le_refl _, one_wait hz⟩
  · rw [readS_step hb, if_neg hz]
    have := one_le b
    rw [List.length_drop] at ih
    exact ⟨by dsimp only; omega, ih.2⟩
/-- What waits. -/
def waitS (b : List Int) : List Int := b.drop (b.length - (readS b).2)
theorem waitS_len (b : List Int) : (waitS b).length = (readS b).2 := by
  have := (readS_wait b).1
  unfold waitS
  rw [List.length_drop]; omega
theorem readS_app (d : List Int) : ∀ b, readS (b ++ d) = ((readS b).1 ++ (readS (waitS b ++ d)).1, (readS (waitS b ++ d)).2) := by
  refine readS_ind ?_ (fun b hb hz => ?_) (fun b hb hz ih => ?_)
  · simp [readS_nil, waitS]
  · have e : readS b = ([], b.length) := by rw [readS_step hb, if_pos hz]
    have ew : waitS b = b := by unfold waitS; rw [e]; simp
    rw [ew, e]
    simp
  · have hle := one_le b
    have e : readS b = ((one b).1 :: (readS (b.drop (one b).2)).1, (readS (b.drop (one b).2)).2) := by rw [readS_step hb, if_neg hz]
    have ha := one_app d hz
    have hne : b ++ d ≠ [] := fun h => hb (List.append_eq_nil_iff.1 h).1
    have ew : waitS b = waitS (b.drop (one b).2) := by
      unfold waitS
      rw [e]
      have := (readS_wait (b.drop (one b).2)).1
      rw [List.length_drop] at this
      rw [List.drop_drop, List.length_drop]
      congr 1
      dsimp only
      omega
    rw [readS_step hne, ha, if_neg hz, List.drop_append_of_le_length hle, ih, ew, e]
    simp
theorem waitS_again (b : List Int) : readS (waitS b) = ([], (waitS b).length) := by
  refine readS_ind (P := fun b => readS (waitS b) = ([], (waitS b).length)) ?_ (fun b hb hz => ?_) (fun b hb hz ih => ?_) b
  · simp [waitS, readS_nil]
  · have e : readS b = ([], b.length) := by rw [readS_step hb, if_pos hz]
    have ew : waitS b = b := by unfold waitS; rw [e]; simp
    rw [ew, e]
  · have hle := one_le b
    have e : readS b = ((one b).1 :: (readS (b.drop (one b).2)).1, (readS (b.drop (one b).2)).2) := by rw [readS_step hb, if_neg hz]
    have ew : waitS b = waitS (b.drop (one b).2) := by
      unfold waitS
      rw [e]
      have := (readS_wait (b.drop (one b).2)).1
      rw [List.length_drop] at this
      rw [List.drop_drop, List.length_drop]
      congr 1
      dsimp only
      omega
    rw [ew]; exact ih
/-- In pieces. -/
theorem pointsS_app (b d : List Int) : pointsS (b ++ d) = (readS b).1 ++ pointsS (waitS b ++ d) := by
  unfold pointsS
  rw [readS_app d b]
  simp
theorem waitS_app (b d : List Int) : waitS (b ++ d) = waitS (waitS b ++ d) := by
  have h1 := readS_app d b
  have hw := (readS_wait (waitS b ++ d)).1
  have hb := (readS_wait b).1
  unfold waitS at h1 hw ⊢
  rw [h1]
  dsimp only
  have hl : (List.drop (b.length - (readS b).2) b ++ d).length = (readS b).2 + d.length := by rw [List.length_append, List.length_drop]; omega
  have ed : List.drop (b.length - (readS b).2) b ++ d = (b ++ d).drop (b.length - (readS b).2) := by rw [List.drop_append_of_le_length (by omega)]
  rw [hl] at hw ⊢
  rw [List.length_append, ed, List.drop_drop]
  congr 1
  rw [ed] at hw
  omega
end Go.Proofs.YtjihcpnaebghnaaDoor
