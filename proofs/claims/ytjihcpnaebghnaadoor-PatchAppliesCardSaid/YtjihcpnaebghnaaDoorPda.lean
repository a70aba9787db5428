/-
  Proved here, of lists alone: a patch's bytes, run by run; how many runs bytes have; a patch is of one view alone.
-/
import Derived.Test.YtjihcpnaebghnaaDoorIe
set_option linter.unusedSimpArgs false
set_option linter.unusedVariables false
namespace Go.Proofs.YtjihcpnaebghnaaDoor
open Go.RowKit
/-- Cells' bytes, one behind the other. -/
def cellsB : List Ce → List Int
  | [] => []
  | c :: L => cellB c ++ cellsB L
theorem cellsB_app (A B : List Ce) : cellsB (A ++ B) = cellsB A ++ cellsB B := by
  induction A with
  | nil => rfl
  | cons a A ih => simp [cellsB, ih]
def flushB (g : Nat) (R : List Ce) : List Int := if R.length = 0 then [] else numB (g : Int) ++ (numB (R.length : Int) ++ cellsB R)
/-- The bytes of runs: g cells that are equal, and the run R, were passed already. -/
def dB : Nat → List Ce → List Ce → List Ce → List Int
  | g, R, [], _ => flushB g R
  | g, R, _ :: _, [] => flushB g R
  | g, R, o :: O, l :: L => if o = l then flushB g R ++ dB (if R.length = 0 then g + 1 else 1) [] O L else dB g (R ++ [l]) O L
/-- Cells that are others, each. -/
def neL : List Ce → List Ce → Prop
  | [], [] => True
  | a :: A, b :: B => a ≠ b ∧ neL A B
  | _, _ => False
/-- Both begin with the same, or are at their end. -/
def hdE : List Ce → List Ce → Prop
  | [], [] => True
  | a :: _, b :: _ => a = b
  | _, _ => False
theorem flush_nil (g : Nat) : flushB g [] = [] := rfl
theorem neL_len : ∀ {A B : List Ce}, neL A B → A.length = B.length
  | [], [], _ => rfl
  | a :: A, b :: B, h => by simp [neL_len h.2]
  | [], b :: B, h => h.elim
  | a :: A, [], h => h.elim
theorem dB_eqs : ∀ (E O L : List Ce) (g : Nat), dB g [] (E ++ O) (E ++ L) = dB (g + E.length) [] O L
  | [], O, L, g => by simp
  | e :: E, O, L, g => by
    have := dB_eqs E O L (g + 1)
    simp [dB, flush_nil, this]
    congr 1; omega
theorem dB_nes : ∀ {A B : List Ce} (_ : neL A B) (R O L : List Ce) (g : Nat), dB g R (A ++ O) (B ++ L) = dB g (R ++ B) O L
  | [], [], _, R, O, L, g => by simp
  | a :: A, b :: B, h, R, O, L, g => by
    have := dB_nes h.2 (R ++ [b]) O L g
    simp [dB, h.1, this]
  | [], b :: B, h, _, _, _, _ => h.elim
  | a :: A, [], h, _, _, _, _ => h.elim
theorem dB_fl {R : List Ce} (hR : R.length ≠ 0) : ∀ {O L : List Ce} (_ : hdE O L) (g : Nat), dB g R O L = flushB g R ++ dB 0 [] O L
  | [], [], _, g => by simp [dB, flush_nil]
  | a :: A, b :: B, h, g => by
    obtain rfl : a = b := h
    simp [dB, flush_nil, hR]
  | [], b :: B, h, _ => h.elim
  | a :: A, [], h, _ => h.elim
theorem dB_run {A B : List Ce} (h : neL A B) (hB : 1 ≤ B.length) {O L : List Ce} (hh : hdE O L) (E : List Ce) : dB 0 [] (E ++ (A ++ O)) (E ++ (B ++ L)) = numB (E.length : Int) ++ (numB (B.length : Int) ++ (cellsB B ++ dB 0 [] O L)) := by
  have hb0 : ([] ++ B).length ≠ 0 := by rw [List.nil_append]; omega
  rw [dB_eqs, dB_nes h, dB_fl hb0 hh]
  unfold flushB
  rw [if_neg hb0]
  simp
theorem dB_self (E : List Ce) (g : Nat) : dB g [] E E = [] := by
  have := dB_eqs E [] [] g
  simp only [List.append_nil] at this
  rw [this]; rfl
theorem ne_split : ∀ (O L : List Ce), O.length = L.length → ∃ A B O' L', O = A ++ O' ∧ L = B ++ L' ∧ neL A B ∧ hdE O' L'
  | [], [], _ => ⟨[], [], [], [], rfl, rfl, trivial, trivial⟩
  | [], l :: L, h => by simp at h
  | o :: O, [], h => by simp at h
  | o :: O, l :: L, h => by
    by_cases e : o = l
    · exact ⟨[], [], o :: O, l :: L, rfl, rfl, trivial, e⟩
    · obtain ⟨A, B, O', L', h1, h2, h3, h4⟩ := ne_split O L (by simpa using h)
      exact ⟨o :: A, l :: B, O', L', by rw [h1]; rfl, by rw [h2]; rfl, ⟨e, h3⟩, h4⟩
/-- All is equal; or there is a first run. -/
theorem first_run : ∀ (O L : List Ce), O.length = L.length → O = L ∨ ∃ E A B O' L', O = E ++ (A ++ O') ∧ L = E ++ (B ++ L') ∧ neL A B ∧ 1 ≤ B.length ∧ hdE O' L'
  | [], [], _ => .inl rfl
  | [], l :: L, h => by simp at h
  | o :: O, [], h => by simp at h
  | o :: O, l :: L, h => by
    by_cases e : o = l
    · subst e
      rcases first_run O L (by simpa using h) with r | ⟨E, A, B, O', L', h1, h2, h3, h4, h5⟩
      · exact .inl (by rw [r])
      · exact .inr ⟨o :: E, A, B, O', L', by rw [h1]; rfl, by rw [h2]; rfl, h3, h4, h5⟩
    · obtain ⟨A, B, O', L', h1, h2, h3, h4⟩ := ne_split O L (by simpa using h)
      exact .inr ⟨[], o :: A, l :: B, O', L', by rw [h1]; rfl, by rw [h2]; rfl, ⟨e, h3⟩, by simp, h4⟩
theorem drop_seg (X : List Ce) {b k : Nat} (h : b ≤ k) : X.drop b = (X.drop b).take (k - b) ++ X.drop k := by
  have := List.take_append_drop (k - b) (X.drop b)
  rw [List.drop_drop, show b + (k - b) = k by omega] at this
  exact this.symm
theorem seg_len {X : List Ce} {b k : Nat} (h : b ≤ k) (hk : k ≤ X.length) : ((X.drop b).take (k - b)).length = k - b := by
  rw [List.length_take, List.length_drop]; omega
theorem seg_get {X : List Ce} {b k i : Nat} (hk : k ≤ X.length) (hi : i < k - b) : ceAt ((X.drop b).take (k - b)) i = ceAt X (b + i) := by
  unfold ceAt
  rw [List.getD_eq_getElem?_getD, List.getD_eq_getElem?_getD, List.getElem?_take_of_lt hi, List.getElem?_drop]
theorem ce_ext {X Y : List Ce} (h : X.length = Y.length) (hh : ∀ i, i < X.length → ceAt X i = ceAt Y i) : X = Y := by
  apply List.ext_getElem h
  intro i h1 h2
  have := hh i h1
  simpa [ceAt, List.getD, h1, h2] using this
theorem neL_of : ∀ {A B : List Ce}, A.length = B.length → (∀ i, i < A.length → ceAt A i ≠ ceAt B i) → neL A B
  | [], [], _, _ => trivial
  | [], b :: B, h, _ => by simp at h
  | a :: A, [], h, _ => by simp at h
  | a :: A, b :: B, h, hh => ⟨hh 0 (by simp), neL_of (by simpa using h) (fun i hi => hh (i + 1) (by simpa using hi))⟩
theorem neL_get : ∀ {A B : List Ce}, neL A B → ∀ i, i < A.length → ceAt A i ≠ ceAt B i
  | [], [], _, i, hi => by simp at hi
  | [], b :: B, h, _, _ => h.elim
  | a :: A, [], h, _, _ => h.elim
  | a :: A, b :: B, h, 0, _ => h.1
  | a :: A, b :: B, h, i + 1, hi => neL_get h.2 i (by simpa using hi)
theorem drop_cons {X : List Ce} {k : Nat} (h : k < X.length) : X.drop k = ceAt X k :: X.drop (k + 1) := by
  rw [List.drop_eq_getElem_cons h]
  congr 1
  simp [ceAt, List.getD, h]
theorem hdE_at {O L : List Ce} (h : O.length = L.length) {k : Nat} (hk : k = L.length ∨ ceAt O k = ceAt L k) (hl : k ≤ L.length) : hdE (O.drop k) (L.drop k) := by
  rcases Nat.lt_or_ge k L.length with h1 | h1
  · rw [drop_cons (show k < O.length by omega), drop_cons h1]
    rcases hk with h2 | h2
    · omega
    · exact h2
  · rw [List.drop_eq_nil_of_le (by omega), List.drop_eq_nil_of_le h1]; trivial
/-- A run from one place to another one. -/
theorem dB_seg {O L : List Ce} (h : O.length = L.length) {b f t : Nat} (h1 : b ≤ f) (h2 : f < t) (h3 : t ≤ L.length) (he : ∀ i, b ≤ i → i < f → ceAt O i = ceAt L i) (hn : ∀ i, f ≤ i → i < t → ceAt O i ≠ ceAt L i) (hk : t = L.length ∨ ceAt O t = ceAt L t) :
    dB 0 [] (O.drop b) (L.drop b) = numB ((f - b : Nat) : Int) ++ (numB ((t - f : Nat) : Int) ++ (cellsB ((L.drop f).take (t - f)) ++ dB 0 [] (O.drop t) (L.drop t))) := by
  have l1 := seg_len (X := O) h1 (by omega)
  have l2 := seg_len (X := L) h1 (by omega)
  have l3 := seg_len (X := O) (b := f) (k := t) (by omega) (by omega)
  have l4 := seg_len (X := L) (b := f) (k := t) (by omega) (by omega)
  have e : (O.drop b).take (f - b) = (L.drop b).take (f - b) := ce_ext (by omega) (fun i hi => by
    rw [seg_get (by omega) (by omega), seg_get (by omega) (by omega)]
    exact he _ (by omega) (by omega))
  have n : neL ((O.drop f).take (t - f)) ((L.drop f).take (t - f)) := neL_of (by omega) (fun i hi => by
    rw [seg_get (by omega) (by omega), seg_get (by omega) (by omega)]
    exact hn _ (by omega) (by omega))
  have := dB_run n (by omega) (hdE_at h hk h3) ((L.drop b).take (f - b))
  rw [l2, l4] at this
  rw [← this]
  congr 1
  · rw [← drop_seg O (show f ≤ t by omega), ← e, ← drop_seg O h1]
  · rw [← drop_seg L (show f ≤ t by omega), ← drop_seg L h1]
theorem dB_end {O L : List Ce} (h : O.length = L.length) {b : Nat} (he : ∀ i, b ≤ i → i < L.length → ceAt O i = ceAt L i) : dB 0 [] (O.drop b) (L.drop b) = [] := by
  have : O.drop b = L.drop b := ce_ext (by simp; omega) (fun i hi => by
    simp at hi
    have := he (b + i) (by omega) (by omega)
    simpa [ceAt, List.getD] using this)
  rw [this]; exact dB_self _ _
/-- How many cells are others. -/
def cnt : List Ce → List Ce → Nat
  | a :: A, b :: B => (if a = b then 0 else 1) + cnt A B
  | _, _ => 0
theorem cnt_eqs : ∀ (E O L : List Ce), cnt (E ++ O) (E ++ L) = cnt O L
  | [], O, L => rfl
  | e :: E, O, L => by simp [cnt, cnt_eqs E O L]
theorem cnt_nes : ∀ {A B : List Ce} (_ : neL A B) (O L : List Ce), cnt (A ++ O) (B ++ L) = B.length + cnt O L
  | [], [], _, O, L => by simp
  | a :: A, b :: B, h, O, L => by have := cnt_nes h.2 O L; simp [cnt, h.1, this]; omega
  | [], b :: B, h, _, _ => h.elim
  | a :: A, [], h, _, _ => h.elim
theorem cnt_self : ∀ (E : List Ce), cnt E E = 0
  | [] => rfl
  | e :: E => by simp [cnt, cnt_self E]
/-- Cells that stand one behind the other in bytes, from a place on: the place behind them. -/
def cellsF : Nat → List Int → Int → Option Int
  | 0, _, p => some p
  | k + 1, bs, p => if (getC bs p).2.2 = 0 then cellsF k bs (getC bs p).2.1 else none
def StepP (bs : List Int) (p q : Int) : Prop := ∃ g m c r, getS bs p = (g, m, 0) ∧ getS bs m = (c, r, 0) ∧ c ≠ 0 ∧ cellsF c.toNat bs r = some q
/-- From a place on n runs stand in bytes, up to their end. -/
inductive RunsP (bs : List Int) : Int → Nat → Prop
  | done : RunsP bs (bs.length : Int) 0
  | step {p q : Int} {n : Nat} : p < (bs.length : Int) → StepP bs p q → RunsP bs q n → RunsP bs p (n + 1)
theorem StepP.one {bs : List Int} {p q q' : Int} (h : StepP bs p q) (h' : StepP bs p q') : q = q' := by
  obtain ⟨g, m, c, r, h1, h2, h3, h4⟩ := h
  obtain ⟨g', m', c', r', h1', h2', h3', h4'⟩ := h'
  rw [h1] at h1'
  obtain ⟨rfl, rfl, _⟩ : g = g' ∧ m = m' ∧ True := by simpa using h1'
  rw [h2] at h2'
  obtain ⟨rfl, rfl, _⟩ : c = c' ∧ r = r' ∧ True := by simpa using h2'
  rw [h4] at h4'
  simpa using h4'
theorem RunsP.one {bs : List Int} {p : Int} {n : Nat} (h : RunsP bs p n) : ∀ {m : Nat}, RunsP bs p m → n = m := by
  induction h with
  | done => intro m h'; cases h' with | done => rfl | step h1 => omega
  | step h1 h2 h3 ih =>
    intro m h'
    cases h' with
    | done => omega
    | step k1 k2 k3 =>
      rw [h2.one k2] at ih
      rw [ih k3]
/-- How many runs bytes have. -/
def isRuns (bs : List Int) (n : Nat) : Prop := 5 ≤ bs.length ∧ RunsP bs 5 n
theorem cellsF_mid : ∀ (B : List Ce) (a c : List Int), (∀ x ∈ B, CeOk x ∧ cellR x = true) → cellsF B.length (a ++ (cellsB B ++ c)) (a.length : Int) = some ((a.length : Int) + ((cellsB B).length : Int))
  | [], a, c, _ => by simp [cellsF, cellsB]
  | b :: B, a, c, h => by
    obtain ⟨h1, h2⟩ := h b (by simp)
    have e : a ++ (cellsB (b :: B) ++ c) = a ++ (cellB b ++ (cellsB B ++ c)) := by simp [cellsB]
    have e2 : a ++ (cellB b ++ (cellsB B ++ c)) = (a ++ cellB b) ++ (cellsB B ++ c) := by simp
    have g := getC_mid a (cellsB B ++ c) h1 h2
    have r := cellsF_mid B (a ++ cellB b) c (fun x hx => h x (by simp [hx]))
    rw [e]
    show (if _ then _ else _) = _
    rw [g]
    dsimp only
    rw [if_pos rfl, e2, show (a.length : Int) + ((cellB b).length : Int) = ((a ++ cellB b).length : Int) by simp, r]
    simp [cellsB]; omega
theorem cellsB_len : ∀ (B : List Ce), (∀ x ∈ B, CeOk x ∧ cellR x = true) → B.length ≤ (cellsB B).length ∧ (cellsB B).length ≤ 13 * B.length
  | [], _ => by simp [cellsB]
  | b :: B, h => by
    have h1 := cellB_len (h b (by simp)).1 (h b (by simp)).2
    have h2 := cellsB_len B (fun x hx => h x (by simp [hx]))
    simp [cellsB]; omega
/-- A run, read: its numbers and its cells. -/
theorem run_read (a c : List Int) {g : Nat} {B : List Ce} (hg : g ≤ 100000) (hb : B.length ≤ 100000) (hok : ∀ x ∈ B, CeOk x ∧ cellR x = true) {bs : List Int} (h : bs = a ++ (numB (g : Int) ++ (numB (B.length : Int) ++ (cellsB B ++ c)))) :
    getS bs (a.length : Int) = ((g : Int), ((a ++ numB (g : Int)).length : Int), 0) ∧ getS bs ((a ++ numB (g : Int)).length : Int) = ((B.length : Int), (((a ++ numB (g : Int)) ++ numB (B.length : Int)).length : Int), 0) ∧ cellsF B.length bs (((a ++ numB (g : Int)) ++ numB (B.length : Int)).length : Int) = some ((((a ++ numB (g : Int)) ++ numB (B.length : Int)) ++ cellsB B).length : Int) := by
  subst h
  refine ⟨?_, ?_, ?_⟩
  · rw [getS_num a _ (by omega) (by omega)]; simp [numB_length]
  · have := getS_num (a ++ numB (g : Int)) (cellsB B ++ c) (v := (B.length : Int)) (by omega) (by omega)
    rw [List.append_assoc] at this
    rw [this]; simp [numB_length]; omega
  · have := cellsF_mid B ((a ++ numB (g : Int)) ++ numB (B.length : Int)) c hok
    rw [List.append_assoc, List.append_assoc] at this
    simp only [List.append_assoc] at this ⊢
    rw [this]
    simp only [List.length_append, Int.natCast_add]
    congr 1
    omega
/-- A patch's runs are told: not more than cells that are others, at most 17 bytes for each. -/
theorem runs_of : ∀ (k : Nat) (O L : List Ce), L.length ≤ k → O.length = L.length → L.length ≤ 10000 → (∀ x ∈ L, CeOk x ∧ cellR x = true) → ∃ n, (∀ a, RunsP (a ++ dB 0 [] O L) (a.length : Int) n) ∧ n ≤ cnt O L ∧ (n = 0 ↔ cnt O L = 0) ∧ (dB 0 [] O L).length ≤ 17 * cnt O L ∧ n ≤ (dB 0 [] O L).length ∧ cnt O L ≤ L.length := by
  intro k
  induction k with
  | zero =>
    intro O L h1 h2 _ _
    obtain rfl : L = [] := by cases L with | nil => rfl | cons _ _ => simp at h1
    obtain rfl : O = [] := by cases O with | nil => rfl | cons _ _ => simp at h2
    refine ⟨0, fun a => ?_, by omega, by simp [cnt], by simp [dB, flush_nil], by omega, by simp [cnt]⟩
    have e : a ++ dB 0 [] ([] : List Ce) [] = a := by simp [dB, flush_nil]
    rw [e]; exact RunsP.done
  | succ k ih =>
    intro O L h1 h2 h3 hok
    rcases first_run O L h2 with rfl | ⟨E, A, B, O', L', rfl, rfl, r3, r4, r5⟩
    · refine ⟨0, fun a => ?_, by omega, by simp [cnt_self], by simp [dB_self], by omega, by simp [cnt_self]⟩
      rw [dB_self]; simp only [List.append_nil]; exact RunsP.done
    · have hab := neL_len r3
      simp only [List.length_append] at h1 h2 h3
      have hokB : ∀ x ∈ B, CeOk x ∧ cellR x = true := fun x hx => hok x (by simp [hx])
      obtain ⟨n, i1, i2, i3, i4, i5, i6⟩ := ih O' L' (by omega) (by omega) (by omega) (fun x hx => hok x (by simp [hx]))
      have hl := cellsB_len B hokB
      have z1 := szN_480 (n := (E.length : Int)) (by omega)
      have z2 := szN_480 (n := (B.length : Int)) (by omega)
      have hc : cnt (E ++ (A ++ O')) (E ++ (B ++ L')) = B.length + cnt O' L' := by rw [cnt_eqs, cnt_nes r3]
      have hd := dB_run r3 r4 r5 E
      refine ⟨n + 1, fun a => ?_, by omega, by omega, ?_, ?_, by simp only [List.length_append]; omega⟩
      · obtain ⟨q1, q2, q3⟩ := run_read a (dB 0 [] O' L') (g := E.length) (by omega) (by omega) hokB (show a ++ dB 0 [] (E ++ (A ++ O')) (E ++ (B ++ L')) = _ by rw [hd])
        refine RunsP.step (q := ((((a ++ numB (E.length : Int)) ++ numB (B.length : Int)) ++ cellsB B).length : Int)) ?_ ⟨_, _, _, _, q1, q2, by omega, by rw [Int.toNat_natCast]; exact q3⟩ ?_
        · rw [hd]; simp only [List.length_append]; omega
        · have := i1 (((a ++ numB (E.length : Int)) ++ numB (B.length : Int)) ++ cellsB B)
          rw [hd]
          simpa only [List.append_assoc] using this
      · rw [hd]; simp only [List.length_append, numB_length]; omega
      · rw [hd]; simp only [List.length_append, numB_length]; omega
end Go.Proofs.YtjihcpnaebghnaaDoor
