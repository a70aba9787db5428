/-
  Kept here: parts of a frame as lists; which may be, a frame's parts, and the frame that parts are; all by plain reckoning.
-/
import Derived.Test.YtikijkhblfgbpaaBy
namespace Go.Proofs.Ytikijkhblfgbpaa
open Go.RowKit

/-- A part. -/
structure Prt where
  id : Int
  ix : Int
  ct : Int
  d : List Int
deriving DecidableEq
def pNil : Prt := ⟨0, 0, 0, []⟩
def pAt (ps : List Prt) (i : Nat) : Prt := ps.getD i pNil

/-- May a part with these numbers and so many bytes be? -/
def rgtP (id ix ct : Int) (n : Nat) : Prop := 1 ≤ id ∧ id ≤ 4611686018427387903 ∧ 1 ≤ ct ∧ ct ≤ 64 ∧ 0 ≤ ix ∧ ix < ct ∧ (n = 480 ∨ (n < 480 ∧ ix = ct - 1 ∧ (1 ≤ n ∨ ct = 1)))
instance (id ix ct : Int) (n : Nat) : Decidable (rgtP id ix ct n) := by unfold rgtP; infer_instance
def rgt (id ix ct : Int) (n : Nat) : Bool := decide (rgtP id ix ct n)
theorem rgt_yes {id ix ct : Int} {n : Nat} (h : rgt id ix ct n = true) : rgtP id ix ct n := of_decide_eq_true h
theorem rgt_no {id ix ct : Int} {n : Nat} (h : rgt id ix ct n = false) : ¬ rgtP id ix ct n := of_decide_eq_false h
theorem rgt_mk {id ix ct : Int} {n : Nat} (h : rgtP id ix ct n) : rgt id ix ct n = true := decide_eq_true h
theorem rgt_mk0 {id ix ct : Int} {n : Nat} (h : ¬ rgtP id ix ct n) : rgt id ix ct n = false := decide_eq_false h
def Prt.ok (p : Prt) : Bool := rgt p.id p.ix p.ct p.d.length

/-- How many parts a frame of so many bytes has. -/
def cntS (n : Nat) : Nat := if n = 0 then 1 else (n + 479) / 480
theorem cntS_pos (n : Nat) : 1 ≤ cntS n := by unfold cntS; split <;> omega
theorem cntS_le {n : Nat} (h : n ≤ 24000) : cntS n ≤ 50 := by unfold cntS; split <;> omega
theorem cntS_in {n i : Nat} (h : i < cntS n) (hn : 0 < n) : 480 * i < n := by unfold cntS at h; split at h <;> omega
theorem cntS_not_last {n i : Nat} (h : i + 1 < cntS n) : 480 * i + 480 ≤ n := by unfold cntS at h; split at h <;> omega
theorem cntS_last {n i : Nat} (h : i + 1 = cntS n) : n ≤ 480 * i + 480 := by unfold cntS at h; split at h <;> omega
theorem cntS_mono {n m : Nat} (h : n ≤ m) : cntS n ≤ cntS m := by unfold cntS; split <;> split <;> omega
theorem cntS_all (n : Nat) : n ≤ cntS n * 480 := by unfold cntS; split <;> omega
/-- How many bytes the part at i has. -/
def lenS (n i : Nat) : Nat := min 480 (n - 480 * i)
/-- A frame's parts. -/
def partS (id : Int) (bs : List Int) (K i : Nat) : Prt := ⟨id, i, K, cut bs (480 * i) (lenS bs.length i)⟩
def splitS (id : Int) (bs : List Int) : List Prt := (List.range (cntS bs.length)).map (partS id bs (cntS bs.length))
theorem splitS_length (id : Int) (bs : List Int) : (splitS id bs).length = cntS bs.length := by simp [splitS]
theorem splitS_at {id : Int} {bs : List Int} {i : Nat} (h : i < cntS bs.length) : pAt (splitS id bs) i = partS id bs (cntS bs.length) i := by
  simp [pAt, splitS, List.getD, h]
theorem partS_length {id : Int} {bs : List Int} {K i : Nat} (h : i < cntS bs.length) : (partS id bs K i).d.length = lenS bs.length i := by
  refine cut_length ?_
  unfold lenS
  rcases Nat.eq_zero_or_pos bs.length with h0 | h0
  · have : cntS bs.length = 1 := by rw [h0]; rfl
    omega
  · have := cntS_in h h0
    omega
theorem part_right {id : Int} {n i : Nat} (h0 : 1 ≤ id) (h1 : id ≤ 4611686018427387903) (hn : n ≤ 24000) (hi : i < cntS n) : rgt id i (cntS n) (lenS n i) = true := by
  have h2 := cntS_le hn
  refine rgt_mk ⟨h0, h1, by omega, by omega, by omega, by omega, ?_⟩
  rcases Nat.eq_zero_or_pos n with hz | hz
  · subst hz
    have : cntS 0 = 1 := rfl
    unfold lenS
    right; omega
  · have h3 := cntS_in hi hz
    by_cases hl : i + 1 < cntS n
    · have := cntS_not_last hl
      left; unfold lenS; omega
    · have := cntS_last (show i + 1 = cntS n by omega)
      unfold lenS
      by_cases h4 : n - 480 * i = 480
      · left; omega
      · right; omega
theorem split_ok {id : Int} {bs : List Int} {i : Nat} (h0 : 1 ≤ id) (h1 : id ≤ 4611686018427387903) (hn : bs.length ≤ 24000) (hi : i < cntS bs.length) : (pAt (splitS id bs) i).ok = true := by
  rw [splitS_at hi]
  show rgt id i (cntS bs.length) (partS id bs (cntS bs.length) i).d.length = true
  rw [partS_length hi]
  exact part_right h0 h1 hn hi

/-- The bytes of parts, one behind the other. -/
def cat : List Prt → List Int
  | [] => []
  | p :: r => p.d ++ cat r
theorem cat_append (a b : List Prt) : cat (a ++ b) = cat a ++ cat b := by
  induction a with
  | nil => rfl
  | cons p r ih => simp [cat, ih]
theorem ptake_snoc {ps : List Prt} {k : Nat} (h : k < ps.length) : ps.take (k + 1) = ps.take k ++ [pAt ps k] := by
  rw [List.take_succ_eq_append_getElem h]
  simp [pAt, List.getD, h]
theorem cat_take {ps : List Prt} {k : Nat} (h : k < ps.length) : cat (ps.take (k + 1)) = cat (ps.take k) ++ (pAt ps k).d := by
  rw [ptake_snoc h, cat_append]
  simp [cat]
theorem cut_take (bs : List Int) (a n : Nat) : bs.take a ++ cut bs a n = bs.take (a + n) := by
  rw [cut, List.take_add]
theorem cat_split (id : Int) (bs : List Int) : ∀ k, k ≤ cntS bs.length → cat ((splitS id bs).take k) = bs.take (480 * k)
  | 0, _ => by simp [cat]
  | k + 1, h => by
    rw [cat_take (by rw [splitS_length]; omega), cat_split id bs k (by omega), splitS_at (by omega)]
    show _ ++ cut bs (480 * k) (lenS bs.length k) = _
    rw [cut_take]
    unfold lenS
    by_cases h4 : 480 ≤ bs.length - 480 * k
    · rw [show 480 * k + min 480 (bs.length - 480 * k) = 480 * (k + 1) from by omega]
    · rw [List.take_of_length_le (by omega), List.take_of_length_le (by omega)]

/-- Are parts all of one frame, in order? -/
def okJ (ps : List Prt) (k : Nat) : Prop := ∀ i, i < k → (pAt ps i).ok = true ∧ (pAt ps i).id = (pAt ps 0).id ∧ (pAt ps i).ct = ps.length ∧ (pAt ps i).ix = i
open Classical in
/-- The frame that parts are, or why they are none. -/
noncomputable def joinS (ps : List Prt) : List Int × Int := if ps.length = 0 then ([], 4) else if okJ ps ps.length then (cat ps, 0) else ([], 3)
theorem joinS_none : joinS [] = ([], 4) := by simp [joinS]
theorem joinS_bad {ps : List Prt} {k : Nat} (hk : k < ps.length) (h : ¬ ((pAt ps k).ok = true ∧ (pAt ps k).id = (pAt ps 0).id ∧ (pAt ps k).ct = ps.length ∧ (pAt ps k).ix = k)) : joinS ps = ([], 3) := by
  rw [joinS, if_neg (by omega), if_neg (fun hj => h (hj k hk))]
theorem joinS_ok {ps : List Prt} (h0 : 0 < ps.length) (h : okJ ps ps.length) : joinS ps = (cat ps, 0) := by
  rw [joinS, if_neg (by omega), if_pos h]
theorem okJ_succ {ps : List Prt} {k : Nat} (h : okJ ps k) (hk : (pAt ps k).ok = true ∧ (pAt ps k).id = (pAt ps 0).id ∧ (pAt ps k).ct = ps.length ∧ (pAt ps k).ix = k) : okJ ps (k + 1) := fun i hi => by
  rcases Nat.lt_or_ge i k with h' | h'
  · exact h i h'
  · obtain rfl : i = k := by omega
    exact hk
theorem ok_len {p : Prt} (h : p.ok = true) : p.d.length ≤ 480 := by
  obtain ⟨_, _, _, _, _, _, h7⟩ := rgt_yes h
  omega
theorem ok_ct {p : Prt} (h : p.ok = true) : 1 ≤ p.ct ∧ p.ct ≤ 64 ∧ 0 ≤ p.ix ∧ p.ix < p.ct := by
  obtain ⟨_, _, h3, h4, h5, h6, _⟩ := rgt_yes h
  exact ⟨h3, h4, h5, h6⟩
theorem ok_id {p : Prt} (h : p.ok = true) : 1 ≤ p.id ∧ p.id ≤ 4611686018427387903 := by
  obtain ⟨h1, h2, _⟩ := rgt_yes h
  exact ⟨h1, h2⟩
theorem okJ_le {ps : List Prt} {k : Nat} (h : okJ ps k) (hk : 0 < k) : ps.length ≤ 64 := by
  obtain ⟨h1, _, h3, _⟩ := h 0 hk
  have := ok_ct h1
  omega
theorem okJ_cat {ps : List Prt} : ∀ {k : Nat}, okJ ps k → k ≤ ps.length → (cat (ps.take k)).length ≤ 480 * k
  | 0, _, _ => by simp [cat]
  | k + 1, h, hk => by
    rw [cat_take (by omega), List.length_append]
    have h1 := okJ_cat (k := k) (fun i hi => h i (by omega)) (by omega)
    have h2 := ok_len (h k (by omega)).1
    omega
theorem split_okJ {id : Int} {bs : List Int} (h0 : 1 ≤ id) (h1 : id ≤ 4611686018427387903) (hn : bs.length ≤ 24000) : okJ (splitS id bs) (splitS id bs).length := fun i hi => by
  rw [splitS_length] at hi ⊢
  refine ⟨split_ok h0 h1 hn hi, ?_, ?_, ?_⟩
  · rw [splitS_at hi, splitS_at (cntS_pos _)]; rfl
  · rw [splitS_at hi]; rfl
  · rw [splitS_at hi]; rfl
theorem join_split {id : Int} {bs : List Int} (h0 : 1 ≤ id) (h1 : id ≤ 4611686018427387903) (hn : bs.length ≤ 24000) : joinS (splitS id bs) = (bs, 0) := by
  have hl := splitS_length id bs
  have := cntS_pos bs.length
  rw [joinS_ok (by omega) (split_okJ h0 h1 hn)]
  have h2 := cat_split id bs (cntS bs.length) (Nat.le_refl _)
  rw [← hl, List.take_length, List.take_of_length_le] at h2
  · rw [h2]
  · rw [hl]
    have := cntS_all bs.length
    omega
end Go.Proofs.Ytikijkhblfgbpaa
