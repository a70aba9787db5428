/-
  Proved here, of lists alone: what a grid's calls make of its cells, place by place.
-/
import Derived.Test.YtahmnipcdkcpiaaGr
set_option linter.unusedSimpArgs false
set_option linter.unusedVariables false
namespace Go.Proofs.Ytahmnipcdkcpiaa
/-- A list, cell by cell. -/
def genL (n : Nat) (f : Nat → Ce) : List Ce := (List.range n).map f
theorem genL_len (n : Nat) (f : Nat → Ce) : (genL n f).length = n := by simp [genL]
theorem genL_succ (n : Nat) (f : Nat → Ce) : genL (n + 1) f = genL n f ++ [f n] := by simp [genL, List.range_succ]
theorem ceAt_gen {n : Nat} {f : Nat → Ce} {k : Nat} (h : k < n) : ceAt (genL n f) k = f k := by
  simp [ceAt, genL, List.getD, h]
theorem ceAt_get {L : List Ce} {k : Nat} (h : k < L.length) : L[k] = ceAt L k := by simp [ceAt, List.getD, h]
theorem ext_ce {L M : List Ce} (hl : L.length = M.length) (h : ∀ k, k < L.length → ceAt L k = ceAt M k) : L = M := by
  apply List.ext_getElem hl
  intro k h1 h2
  rw [ceAt_get h1, ceAt_get h2]
  exact h k h1
theorem ceAt_lay {L : List Ce} {o k : Nat} {cs : List Ce} (h : o + cs.length ≤ L.length) : ceAt (lay L o cs) k = if k < o then ceAt L k else if k < o + cs.length then ceAt cs (k - o) else ceAt L k := by
  unfold ceAt lay
  simp only [List.getD_eq_getElem?_getD]
  have hto : (L.take o).length = o := by simp; omega
  by_cases h1 : k < o
  · rw [if_pos h1, List.append_assoc, List.getElem?_append_left (by rw [hto]; exact h1), List.getElem?_take_of_lt h1]
  · rw [if_neg h1, List.append_assoc, List.getElem?_append_right (by rw [hto]; omega), hto]
    by_cases h2 : k < o + cs.length
    · rw [if_pos h2, List.getElem?_append_left (by omega)]
    · rw [if_neg h2, List.getElem?_append_right (by omega), List.getElem?_drop, show o + cs.length + (k - o - cs.length) = k by omega]
theorem ceAt_rep {n k : Nat} {c : Ce} (h : k < n) : ceAt (rep n c) k = c := by simp [ceAt, rep, List.getD, h]
theorem ceAt_sub {L : List Ce} {s len k : Nat} (h : k < len) : ceAt ((L.drop s).take len) k = ceAt L (s + k) := by
  unfold ceAt
  simp only [List.getD_eq_getElem?_getD]
  rw [List.getElem?_take_of_lt h, List.getElem?_drop]
theorem ceAt_fwd {L : List Ce} {o m n k : Nat} {c : Ce} (h : o + m ≤ L.length) (hn : n ≤ m) : ceAt (fwdL L o m n c) k = if k < o ∨ o + m ≤ k then ceAt L k else if k + n < o + m then ceAt L (k + n) else c := by
  unfold fwdL
  have h1 : ((L.drop (o + n)).take (m - n)).length = m - n := by simp; omega
  have h2 : (lay L o ((L.drop (o + n)).take (m - n))).length = L.length := lay_len (by rw [h1]; omega)
  rw [ceAt_lay (by rw [rep_len, h2]; omega), ceAt_lay (by rw [h1]; omega), h1, rep_len]
  by_cases a1 : k < o
  · rw [if_pos (show k < o + (m - n) by omega), if_pos a1, if_pos (Or.inl a1)]
  · by_cases a2 : o + m ≤ k
    · rw [if_neg (by omega), if_neg (by omega), if_neg (by omega), if_neg (by omega), if_pos (Or.inr a2)]
    · rw [if_neg (show ¬ (k < o ∨ o + m ≤ k) by omega)]
      by_cases a3 : k + n < o + m
      · rw [if_pos (by omega), if_neg a1, if_pos (by omega), if_pos a3, ceAt_sub (by omega), show o + n + (k - o) = k + n by omega]
      · rw [if_neg (by omega), if_pos (by omega), if_neg a3, ceAt_rep (by omega)]
theorem ceAt_bck {L : List Ce} {o m n k : Nat} {c : Ce} (h : o + m ≤ L.length) (hn : n ≤ m) : ceAt (bckL L o m n c) k = if k < o ∨ o + m ≤ k then ceAt L k else if o + n ≤ k then ceAt L (k - n) else c := by
  unfold bckL
  have h1 : ((L.drop o).take (m - n)).length = m - n := by simp; omega
  have h2 : (lay L (o + n) ((L.drop o).take (m - n))).length = L.length := lay_len (by rw [h1]; omega)
  rw [ceAt_lay (by rw [rep_len, h2]; omega), ceAt_lay (by rw [h1]; omega), h1, rep_len]
  by_cases a1 : k < o
  · rw [if_pos a1, if_pos (by omega), if_pos (Or.inl a1)]
  · by_cases a2 : o + m ≤ k
    · rw [if_neg (by omega), if_neg (by omega), if_neg (by omega), if_neg (by omega), if_pos (Or.inr a2)]
    · rw [if_neg (show ¬ (k < o ∨ o + m ≤ k) by omega), if_neg a1]
      by_cases a3 : o + n ≤ k
      · rw [if_neg (by omega), if_neg (by omega), if_pos (by omega), if_pos a3, ceAt_sub (by omega), show o + (k - (o + n)) = k - n by omega]
      · rw [if_pos (by omega), if_neg a3, ceAt_rep (by omega)]
theorem row_lt {a i : Nat} (C : Nat) (h : a < i) : a * C + C ≤ i * C := by
  have := Nat.mul_le_mul_right C (show a + 1 ≤ i from h)
  rwa [Nat.succ_mul] at this
theorem place_div {C a r : Nat} (h : r < C) : (a * C + r) / C = a ∧ (a * C + r) % C = r := by
  refine ⟨?_, ?_⟩
  · rw [Nat.mul_comm, Nat.mul_add_div (by omega), Nat.div_eq_of_lt h, Nat.add_zero]
  · rw [Nat.mul_comm, Nat.mul_add_mod, Nat.mod_eq_of_lt h]
theorem place_of {C : Nat} (k : Nat) (h : 0 < C) : ∃ a r, k = a * C + r ∧ r < C := ⟨k / C, k % C, by rw [Nat.mul_comm]; exact (Nat.div_add_mod k C).symm, Nat.mod_lt _ h⟩
theorem place_row {C R a r : Nat} (h : r < C) (hk : a * C + r < R * C) : a < R := by
  rcases Nat.lt_or_ge a R with h1 | h1
  · exact h1
  · have := Nat.mul_le_mul_right C h1
    omega
/-- The document's Fill. -/
def dfillF (C : Nat) (L : List Ce) (i : Nat) (x y : Int) (c : Ce) (k : Nat) : Ce := if k / C = i ∧ x ≤ ((k % C : Nat) : Int) ∧ ((k % C : Nat) : Int) < y then c else ceAt L k
theorem dfill_eq {R C : Nat} {L : List Ce} (hL : L.length = R * C) {i : Nat} (hi : i < R) (hC : 0 < C) (x y : Int) (c : Ce) : genL L.length (dfillF C L i x y c) = filL C L i x y c := by
  have hr := row_lt C hi
  have hlo : 0 ≤ lo x := by unfold Go.Proofs.Ytahmnipcdkcpiaa.lo; split <;> omega
  have hhi : Go.Proofs.Ytahmnipcdkcpiaa.hi y C ≤ C := by unfold Go.Proofs.Ytahmnipcdkcpiaa.hi; split <;> omega
  apply ext_ce
  · rw [genL_len]; unfold filL; split
    · rw [lay_len (by rw [rep_len]; omega)]
    · rfl
  intro k hk
  rw [genL_len] at hk
  rw [ceAt_gen hk]
  obtain ⟨a, r, rfl, hr2⟩ := place_of k hC
  unfold dfillF
  rw [(place_div hr2).1, (place_div hr2).2]
  unfold filL
  by_cases h : lo x < Go.Proofs.Ytahmnipcdkcpiaa.hi y C
  · rw [if_pos h, ceAt_lay (by rw [rep_len]; omega), rep_len]
    rcases Nat.lt_trichotomy a i with h1 | h1 | h1
    · have := row_lt C h1
      rw [if_neg (by omega), if_pos (by omega)]
    · subst h1
      have hx : x ≤ (r : Int) ↔ lo x ≤ (r : Int) := by unfold Go.Proofs.Ytahmnipcdkcpiaa.lo; split <;> omega
      have hy : (r : Int) < y ↔ (r : Int) < Go.Proofs.Ytahmnipcdkcpiaa.hi y C := by unfold Go.Proofs.Ytahmnipcdkcpiaa.hi; split <;> omega
      by_cases q1 : x ≤ (r : Int)
      · have := hx.1 q1
        rw [if_neg (show ¬ a * C + r < a * C + (lo x).toNat by omega)]
        by_cases q2 : (r : Int) < y
        · have := hy.1 q2
          rw [if_pos ⟨rfl, q1, q2⟩, if_pos (by omega), ceAt_rep (by omega)]
        · have : ¬ (r : Int) < Go.Proofs.Ytahmnipcdkcpiaa.hi y C := fun e => q2 (hy.2 e)
          rw [if_neg (fun e => q2 e.2.2), if_neg (by omega)]
      · have : ¬ lo x ≤ (r : Int) := fun e => q1 (hx.2 e)
        rw [if_neg (fun e => q1 e.2.1), if_pos (by omega)]
    · have := row_lt C h1
      rw [if_neg (by omega), if_neg (by omega), if_neg (by omega)]
  · rw [if_neg h, if_neg]
    rintro ⟨_, q1, q2⟩
    apply h
    unfold Go.Proofs.Ytahmnipcdkcpiaa.lo Go.Proofs.Ytahmnipcdkcpiaa.hi
    split <;> split <;> omega
/-- The document's Move. -/
def dmoveF (C : Nat) (L : List Ce) (t d by_ : Int) (c : Ce) (k : Nat) : Ce :=
  if t ≤ ((k / C : Nat) : Int) ∧ ((k / C : Nat) : Int) ≤ d then
    (if -20 ≤ by_ ∧ by_ ≤ 20 ∧ t ≤ ((k / C : Nat) : Int) + by_ ∧ ((k / C : Nat) : Int) + by_ ≤ d then ceAt L ((((k / C : Nat) : Int) + by_).toNat * C + k % C) else c)
  else ceAt L k
def by60 (n : Int) : Int := if 60 < n then 60 else if 0 < n then n else 0
theorem atMost_min {R C t d n : Nat} (htd : t ≤ d) (hd : d < R) (hC : 0 < C) : ∃ q, atMost (((atMost (n : Int) R) * C : Nat) : Int) ((d + 1 - t) * C) = q * C ∧ q ≤ d + 1 - t ∧ (q = n ∨ q = d + 1 - t ∧ d + 1 - t ≤ n) := by
  have e1 : atMost (n : Int) R = if R < n then R else n := by unfold atMost; split <;> split <;> omega
  rw [e1]
  by_cases h : d + 1 - t ≤ n
  · refine ⟨d + 1 - t, ?_, Nat.le_refl _, .inr ⟨rfl, h⟩⟩
    have hle : d + 1 - t ≤ (if R < n then R else n) := by split <;> omega
    have := Nat.mul_le_mul_right C hle
    generalize (if R < n then R else n) * C = X at this ⊢
    unfold atMost
    split
    · rfl
    · omega
  · refine ⟨n, ?_, by omega, .inl rfl⟩
    rw [if_neg (by omega)]
    have := Nat.mul_le_mul_right C (show n ≤ d + 1 - t by omega)
    unfold atMost
    rw [if_neg (by omega)]
    omega
theorem dup_eq {R C : Nat} {L : List Ce} (hL : L.length = R * C) {t d n : Nat} (htd : t ≤ d) (hd : d < R) (hR : R ≤ 12) (hC : 0 < C) (c : Ce) : genL L.length (dmoveF C L t d (by60 n) c) = upL R C L t d n c := by
  obtain ⟨q, hq, hqs, hqn⟩ := atMost_min (n := n) htd hd hC
  have hrows := rows_in (R := R) (C := C) htd hd
  have hqm := Nat.mul_le_mul_right C hqs
  unfold upL
  rw [hq]
  apply ext_ce
  · rw [genL_len, fwdL_len (by omega) hqm]
  intro k hk
  rw [genL_len] at hk
  rw [ceAt_gen hk, ceAt_fwd (by omega) hqm]
  obtain ⟨a, r, rfl, hr2⟩ := place_of k hC
  unfold dmoveF
  rw [(place_div hr2).1, (place_div hr2).2]
  have hb : by60 n = if 60 < n then (60 : Int) else (n : Int) := by unfold by60; split <;> split <;> omega
  by_cases h1 : a < t
  · have := row_lt C h1
    rw [if_neg (by omega), if_pos (by omega)]
  · by_cases h2 : d < a
    · have := row_lt C h2
      have hd1 : (d + 1) * C = d * C + C := Nat.succ_mul d C
      rw [if_neg (by omega), if_pos (by omega)]
    · have hta := Nat.mul_le_mul_right C (show t ≤ a by omega)
      have had := Nat.mul_le_mul_right C (show a ≤ d by omega)
      have hd1 : (d + 1) * C = d * C + C := Nat.succ_mul d C
      rw [if_pos (show (t : Int) ≤ ((a : Nat) : Int) ∧ ((a : Nat) : Int) ≤ (d : Int) by omega), if_neg (show ¬ (a * C + r < t * C ∨ t * C + (d + 1 - t) * C ≤ a * C + r) by omega)]
      by_cases h3 : a + q ≤ d
      · have had := Nat.mul_le_mul_right C h3
        rw [Nat.add_mul] at had
        have hqn' : q = n := by omega
        rw [hb, if_neg (show ¬ 60 < n by omega), if_pos (show -20 ≤ (n : Int) ∧ (n : Int) ≤ 20 ∧ (t : Int) ≤ (a : Int) + (n : Int) ∧ (a : Int) + (n : Int) ≤ (d : Int) by omega), if_pos (show a * C + r + q * C < t * C + (d + 1 - t) * C by omega), show ((a : Int) + (n : Int)).toNat = a + q by omega, Nat.add_mul]
        congr 1; omega
      · have hda := row_lt C (show d < a + q by omega)
        rw [Nat.add_mul] at hda
        rw [if_neg (show ¬ (-20 ≤ by60 n ∧ by60 n ≤ 20 ∧ (t : Int) ≤ (a : Int) + by60 n ∧ (a : Int) + by60 n ≤ (d : Int)) by rw [hb]; split <;> omega), if_neg (show ¬ a * C + r + q * C < t * C + (d + 1 - t) * C by omega)]
theorem ddown_eq {R C : Nat} {L : List Ce} (hL : L.length = R * C) {t d n : Nat} (htd : t ≤ d) (hd : d < R) (hR : R ≤ 12) (hC : 0 < C) (c : Ce) : genL L.length (dmoveF C L t d (0 - by60 n) c) = downL R C L t d n c := by
  obtain ⟨q, hq, hqs, hqn⟩ := atMost_min (n := n) htd hd hC
  have hrows := rows_in (R := R) (C := C) htd hd
  have hqm := Nat.mul_le_mul_right C hqs
  unfold downL
  rw [hq]
  apply ext_ce
  · rw [genL_len, bckL_len (by omega) hqm]
  intro k hk
  rw [genL_len] at hk
  rw [ceAt_gen hk, ceAt_bck (by omega) hqm]
  obtain ⟨a, r, rfl, hr2⟩ := place_of k hC
  unfold dmoveF
  rw [(place_div hr2).1, (place_div hr2).2]
  have hb : by60 n = if 60 < n then (60 : Int) else (n : Int) := by unfold by60; split <;> split <;> omega
  by_cases h1 : a < t
  · have := row_lt C h1
    rw [if_neg (by omega), if_pos (by omega)]
  · by_cases h2 : d < a
    · have := row_lt C h2
      have hd1 : (d + 1) * C = d * C + C := Nat.succ_mul d C
      rw [if_neg (by omega), if_pos (by omega)]
    · have hta := Nat.mul_le_mul_right C (show t ≤ a by omega)
      have had := Nat.mul_le_mul_right C (show a ≤ d by omega)
      have hd1 : (d + 1) * C = d * C + C := Nat.succ_mul d C
      rw [if_pos (show (t : Int) ≤ ((a : Nat) : Int) ∧ ((a : Nat) : Int) ≤ (d : Int) by omega), if_neg (show ¬ (a * C + r < t * C ∨ t * C + (d + 1 - t) * C ≤ a * C + r) by omega)]
      by_cases h3 : t + q ≤ a
      · have had := Nat.mul_le_mul_right C h3
        rw [Nat.add_mul] at had
        have hqn' : q = n := by omega
        have hsub : (a - q) * C + q * C = a * C := by rw [← Nat.add_mul, show a - q + q = a by omega]
        rw [hb, if_neg (show ¬ 60 < n by omega), if_pos (show -20 ≤ (0 - (n : Int)) ∧ (0 - (n : Int)) ≤ 20 ∧ (t : Int) ≤ (a : Int) + (0 - (n : Int)) ∧ (a : Int) + (0 - (n : Int)) ≤ (d : Int) by omega), if_pos (show t * C + q * C ≤ a * C + r by omega), show ((a : Int) + (0 - (n : Int))).toNat = a - q by omega]
        congr 1; omega
      · have hda := row_lt C (show a < t + q by omega)
        rw [Nat.add_mul] at hda
        rw [if_neg (show ¬ (-20 ≤ 0 - by60 n ∧ 0 - by60 n ≤ 20 ∧ (t : Int) ≤ (a : Int) + (0 - by60 n) ∧ (a : Int) + (0 - by60 n) ≤ (d : Int)) by rw [hb]; split <;> omega), if_neg (show ¬ t * C + q * C ≤ a * C + r by omega)]
/-- The document's Shift. -/
def dshiftF (C : Nat) (L : List Ce) (i j by_ : Int) (c : Ce) (k : Nat) : Ce :=
  if ((k / C : Nat) : Int) = i ∧ j ≤ ((k % C : Nat) : Int) then
    (if -50 ≤ by_ ∧ by_ ≤ 50 ∧ j ≤ ((k % C : Nat) : Int) + by_ ∧ ((k % C : Nat) : Int) + by_ < C then ceAt L (i.toNat * C + (((k % C : Nat) : Int) + by_).toNat) else c)
  else ceAt L k
theorem ddel_eq {R C : Nat} {L : List Ce} (hL : L.length = R * C) {i j n : Nat} (hi : i < R) (hj : j < C) (hC : C ≤ 40) (c : Ce) : genL L.length (dshiftF C L i j (by60 n) c) = delL C L i j n c := by
  have hr := row_lt C hi
  have hN : atMost (n : Int) (C - j) = if C - j < n then C - j else n := by unfold atMost; split <;> split <;> omega
  have hNle : atMost (n : Int) (C - j) ≤ C - j := atMost_le (by omega)
  unfold delL
  apply ext_ce
  · rw [genL_len, fwdL_len (by omega) hNle]
  intro k hk
  rw [genL_len] at hk
  rw [ceAt_gen hk, ceAt_fwd (by omega) hNle, hN]
  obtain ⟨a, r, rfl, hr2⟩ := place_of k (show 0 < C by omega)
  unfold dshiftF
  rw [(place_div hr2).1, (place_div hr2).2]
  have hb : by60 n = if 60 < n then (60 : Int) else (n : Int) := by unfold by60; split <;> split <;> omega
  rcases Nat.lt_trichotomy a i with h1 | h1 | h1
  · have := row_lt C h1
    rw [if_neg (by omega), if_pos (by omega)]
  · subst h1
    by_cases h2 : r < j
    · rw [if_neg (by omega), if_pos (by omega)]
    · rw [if_pos (show ((a : Nat) : Int) = (a : Int) ∧ (j : Int) ≤ (r : Int) by omega), if_neg (show ¬ (a * C + r < a * C + j ∨ a * C + j + (C - j) ≤ a * C + r) by omega)]
      by_cases h3 : r + n < C
      · rw [hb, if_neg (show ¬ 60 < n by omega), if_pos (show -50 ≤ (n : Int) ∧ (n : Int) ≤ 50 ∧ (j : Int) ≤ (r : Int) + (n : Int) ∧ (r : Int) + (n : Int) < (C : Int) by omega), if_neg (show ¬ C - j < n by omega), if_pos (show a * C + r + n < a * C + j + (C - j) by omega)]
        rw [Int.toNat_natCast]
        congr 1; omega
      · rw [if_neg (show ¬ (-50 ≤ by60 n ∧ by60 n ≤ 50 ∧ (j : Int) ≤ (r : Int) + by60 n ∧ (r : Int) + by60 n < (C : Int)) by rw [hb]; split <;> omega), if_neg (show ¬ a * C + r + (if C - j < n then C - j else n) < a * C + j + (C - j) by split <;> omega)]
  · have := row_lt C h1
    rw [if_neg (by omega), if_pos (by omega)]
theorem dins_eq {R C : Nat} {L : List Ce} (hL : L.length = R * C) {i j n : Nat} (hi : i < R) (hj : j < C) (hC : C ≤ 40) (c : Ce) : genL L.length (dshiftF C L i j (0 - by60 n) c) = insL C L i j n c := by
  have hr := row_lt C hi
  have hN : atMost (n : Int) (C - j) = if C - j < n then C - j else n := by unfold atMost; split <;> split <;> omega
  have hNle : atMost (n : Int) (C - j) ≤ C - j := atMost_le (by omega)
  unfold insL
  apply ext_ce
  · rw [genL_len, bckL_len (by omega) hNle]
  intro k hk
  rw [genL_len] at hk
  rw [ceAt_gen hk, ceAt_bck (by omega) hNle, hN]
  obtain ⟨a, r, rfl, hr2⟩ := place_of k (show 0 < C by omega)
  unfold dshiftF
  rw [(place_div hr2).1, (place_div hr2).2]
  have hb : by60 n = if 60 < n then (60 : Int) else (n : Int) := by unfold by60; split <;> split <;> omega
  rcases Nat.lt_trichotomy a i with h1 | h1 | h1
  · have := row_lt C h1
    rw [if_neg (by omega), if_pos (by omega)]
  · subst h1
    by_cases h2 : r < j
    · rw [if_neg (by omega), if_pos (by omega)]
    · rw [if_pos (show ((a : Nat) : Int) = (a : Int) ∧ (j : Int) ≤ (r : Int) by omega), if_neg (show ¬ (a * C + r < a * C + j ∨ a * C + j + (C - j) ≤ a * C + r) by omega)]
      by_cases h3 : j + n ≤ r
      · rw [hb, if_neg (show ¬ 60 < n by omega), if_pos (show -50 ≤ (0 - (n : Int)) ∧ (0 - (n : Int)) ≤ 50 ∧ (j : Int) ≤ (r : Int) + (0 - (n : Int)) ∧ (r : Int) + (0 - (n : Int)) < (C : Int) by omega), if_neg (show ¬ C - j < n by omega), if_pos (show a * C + j + n ≤ a * C + r by omega)]
        rw [Int.toNat_natCast]
        congr 1; omega
      · rw [if_neg (show ¬ (-50 ≤ 0 - by60 n ∧ 0 - by60 n ≤ 50 ∧ (j : Int) ≤ (r : Int) + (0 - by60 n) ∧ (r : Int) + (0 - by60 n) < (C : Int)) by rw [hb]; split <;> omega), if_neg (show ¬ a * C + j + (if C - j < n then C - j else n) ≤ a * C + r by split <;> omega)]
  · have := row_lt C h1
    rw [if_neg (by omega), if_pos (by omega)]
/-- The document's Resize. -/
def dresF (R C : Nat) (L : List Ce) (C2 : Nat) (c : Ce) (k : Nat) : Ce := if k / C2 < R ∧ k % C2 < C then ceAt L (k / C2 * C + k % C2) else c
theorem resK_len {R C R2 C2 : Nat} {L : List Ce} (hL : L.length = R * C) (c : Ce) : ∀ m, m ≤ R → m ≤ R2 → (resK C L C2 (R2 * C2) c m).length = R2 * C2
  | 0, _, _ => rep_len _ _
  | m + 1, h1, h2 => by
    have ih := resK_len (R2 := R2) (C2 := C2) hL c m (by omega) (by omega)
    have h3 := row_lt C (show m < R by omega)
    have h4 := row_lt C2 (show m < R2 by omega)
    have h5 : Nat.min C C2 ≤ C := Nat.min_le_left _ _
    have h6 : Nat.min C C2 ≤ C2 := Nat.min_le_right _ _
    unfold resK
    rw [lay_len (by rw [sub_len (by omega), ih]; omega), ih]
theorem resK_at {R C R2 C2 : Nat} {L : List Ce} (hL : L.length = R * C) (c : Ce) {a r : Nat} (hr : r < C2) (ha : a < R2) : ∀ m, m ≤ R → m ≤ R2 → ceAt (resK C L C2 (R2 * C2) c m) (a * C2 + r) = if a < m ∧ r < C then ceAt L (a * C + r) else c
  | 0, _, _ => by
    have := row_lt C2 ha
    rw [if_neg (by omega)]
    exact ceAt_rep (by omega)
  | m + 1, h1, h2 => by
    have ih := resK_at (R2 := R2) (C2 := C2) hL c hr ha m (by omega) (by omega)
    have il := resK_len (R2 := R2) (C2 := C2) hL c m (by omega) (by omega)
    have h3 := row_lt C (show m < R by omega)
    have h4 := row_lt C2 (show m < R2 by omega)
    have h5 : Nat.min C C2 ≤ C := Nat.min_le_left _ _
    have h6 : Nat.min C C2 ≤ C2 := Nat.min_le_right _ _
    have h7 : Nat.min C C2 = if C ≤ C2 then C else C2 := rfl
    unfold resK
    rw [ceAt_lay (by rw [sub_len (by omega), il]; omega), sub_len (by omega), ih]
    rcases Nat.lt_trichotomy a m with q | q | q
    · have := row_lt C2 q
      rw [if_pos (by omega)]
      by_cases q2 : r < C
      · rw [if_pos ⟨q, q2⟩, if_pos ⟨by omega, q2⟩]
      · rw [if_neg (fun e => q2 e.2), if_neg (fun e => q2 e.2)]
    · subst q
      rw [if_neg (show ¬ a * C2 + r < a * C2 by omega)]
      by_cases q2 : r < C
      · rw [if_pos (by rw [h7]; split <;> omega), if_pos ⟨by omega, q2⟩, ceAt_sub (by rw [h7]; split <;> omega), show a * C + (a * C2 + r - a * C2) = a * C + r by omega]
      · rw [if_neg (by omega), if_neg (by omega), if_neg (by omega)]
    · have := row_lt C2 q
      rw [if_neg (by omega), if_neg (by omega), if_neg (by omega), if_neg (by omega)]
theorem dres_eq {R C : Nat} {L : List Ce} (hL : L.length = R * C) {R2 C2 : Nat} (h2 : 0 < C2) (c : Ce) : genL (R2 * C2) (dresF R C L C2 c) = resL R C L R2 C2 c := by
  have hm1 : Nat.min R2 R ≤ R := Nat.min_le_right _ _
  have hm2 : Nat.min R2 R ≤ R2 := Nat.min_le_left _ _
  have h7 : Nat.min R2 R = if R2 ≤ R then R2 else R := rfl
  unfold resL
  apply ext_ce
  · rw [genL_len, resK_len hL c _ hm1 hm2]
  intro k hk
  rw [genL_len] at hk
  rw [ceAt_gen hk]
  obtain ⟨a, r, rfl, hr2⟩ := place_of k h2
  have ha := place_row hr2 hk
  rw [resK_at hL c hr2 ha _ hm1 hm2]
  unfold dresF
  rw [(place_div hr2).1, (place_div hr2).2]
  by_cases q : a < R ∧ r < C
  · rw [if_pos q, if_pos ⟨by rw [h7]; split <;> omega, q.2⟩]
  · rw [if_neg q, if_neg (fun e => q ⟨by omega, e.2⟩)]
end Go.Proofs.Ytahmnipcdkcpiaa
