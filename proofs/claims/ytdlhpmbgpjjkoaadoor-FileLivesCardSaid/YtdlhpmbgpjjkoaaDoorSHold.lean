/-
  Proved here (lists alone, and what of them lies in memory): what a Sha holds behind some bytes: the state behind its whole blocks, what is left of them, and their number; and what becomes of that when bytes are put behind.
-/
import Derived.Test.YtdlhpmbgpjjkoaaDoorSFill
namespace Go.Proofs.YtdlhpmbgpjjkoaaDoor
open Go.RowKit

/-- The state of nothing. -/
def iv : S8 := ⟨0x6a09e667, 0xbb67ae85, 0x3c6ef372, 0xa54ff53a, 0x510e527f, 0x9b05688c, 0x1f83d9ab, 0x5be0cd19⟩
/-- The state behind the first j blocks. -/
def stN (bs : List Nat) : Nat → S8
  | 0 => iv
  | j + 1 => goIntoS (stN bs j) ((bs.drop (64 * j)).take 64)
/-- The state behind all whole blocks. -/
def stOf (bs : List Nat) : S8 := stN bs (bs.length / 64)
/-- The sum of a text. -/
def sumS (bs : List Nat) : List Nat := outS (stOf (bs ++ fillS bs.length))

theorem stN_append (bs cs : List Nat) : ∀ j, 64 * j ≤ bs.length → stN (bs ++ cs) j = stN bs j
  | 0, _ => rfl
  | j + 1, h => by
    rw [stN, stN, stN_append bs cs j (by omega)]
    congr 1
    rw [List.drop_append_of_le_length (by omega), List.take_append_of_le_length (by simp; omega)]

/-- What a Sha's cells are. -/
def shaL (m : Bool) (s : S8) (rest : List Nat) (n : Nat) : List Value := .bool m :: (V32 s.list ++ (V8 rest ++ [.int .u64 (n : Int)]))
theorem length_shaL (m : Bool) (s : S8) (rest : List Nat) (n : Nat) : (shaL m s rest n).length = 10 + rest.length := by simp [shaL, S8.list]; omega

/-- A Sha that holds bs, in block g. -/
structure Holds (w : World) (g : Nat) (s : S8) (rest : List Nat) (n : Nat) : Prop where
  len : rest.length = 64
  blk : w.heap[g]? = some (.cells (shaL true s rest n).toArray 85 (0, 0))
/-- .. and what that says of bytes. -/
structure Of (bs : List Nat) (s : S8) (rest : List Nat) (n : Nat) : Prop where
  st : s = stOf bs
  size : n = bs.length
  rest : ∀ i, i < bs.length % 64 → rest.getD i 0 = bs.getD (64 * (bs.length / 64) + i) 0
def IsSha (w : World) (g : Nat) (bs : List Nat) : Prop := ∃ s rest n, Holds w g s rest n ∧ Of bs s rest n

/-- cs over what stands in rest from k on. -/
def laid (rest : List Nat) (k : Nat) (cs : List Nat) : List Nat := rest.take k ++ (cs ++ rest.drop (k + cs.length))
theorem length_laid {rest : List Nat} {k : Nat} {cs : List Nat} (h : k + cs.length ≤ rest.length) : (laid rest k cs).length = rest.length := by simp [laid]; omega
theorem laid_get {rest : List Nat} {k : Nat} {cs : List Nat} (h : k + cs.length ≤ rest.length) (i : Nat) : (laid rest k cs).getD i 0 = if i < k then rest.getD i 0 else if i < k + cs.length then cs.getD (i - k) 0 else rest.getD i 0 := by
  have hk : (rest.take k).length = k := by simp; omega
  simp only [laid, List.getD_eq_getElem?_getD]
  by_cases h1 : i < k
  · rw [if_pos h1, List.getElem?_append_left (by omega), List.getElem?_take, if_pos h1]
  · rw [if_neg h1, List.getElem?_append_right (by omega), hk]
    by_cases h2 : i < k + cs.length
    · rw [if_pos h2, List.getElem?_append_left (by omega)]
    · rw [if_neg h2, List.getElem?_append_right (by omega), List.getElem?_drop]
      congr 2
      omega
theorem getD_append_left' {a b : List Nat} {i : Nat} (h : i < a.length) : (a ++ b).getD i 0 = a.getD i 0 := by simp [List.getD_eq_getElem?_getD, List.getElem?_append_left h]
theorem getD_append_right' {a b : List Nat} {i : Nat} (h : a.length ≤ i) : (a ++ b).getD i 0 = b.getD (i - a.length) 0 := by simp [List.getD_eq_getElem?_getD, List.getElem?_append_right h]

/-- Bytes that fill no block. -/
theorem Of.part {bs : List Nat} {s : S8} {rest : List Nat} {n : Nat} (h : Of bs s rest n) (hl : rest.length = 64) (cs : List Nat) (hc : bs.length % 64 + cs.length < 64) : Of (bs ++ cs) s (laid rest (bs.length % 64) cs) (n + cs.length) := by
  have e1 : (bs ++ cs).length / 64 = bs.length / 64 := by simp; omega
  have e2 : (bs ++ cs).length % 64 = bs.length % 64 + cs.length := by simp; omega
  refine ⟨?_, by simp [h.size], fun i hi => ?_⟩
  · rw [h.st, stOf, stOf, e1, stN_append bs cs _ (by omega)]
  · rw [e2] at hi
    rw [laid_get (by omega), e1]
    by_cases h1 : i < bs.length % 64
    · rw [if_pos h1, h.rest i h1, getD_append_left' (by omega)]
    · rw [if_neg h1, if_pos hi, getD_append_right' (by omega)]
      congr 1
      omega
/-- Bytes that fill one. -/
theorem Of.full {bs : List Nat} {s : S8} {rest : List Nat} {n : Nat} (h : Of bs s rest n) (hl : rest.length = 64) (cs : List Nat) (hc : bs.length % 64 + cs.length = 64) : Of (bs ++ cs) (goIntoS s (laid rest (bs.length % 64) cs)) (laid rest (bs.length % 64) cs) (n + cs.length) := by
  have e1 : (bs ++ cs).length / 64 = bs.length / 64 + 1 := by simp; omega
  have e2 : (bs ++ cs).length % 64 = 0 := by simp; omega
  refine ⟨?_, by simp [h.size], fun i hi => by omega⟩
  rw [stOf, e1, stN, stN_append bs cs _ (by omega), ← stOf, ← h.st]
  congr 1
  apply List.ext_getElem
  · rw [length_laid (by omega), hl]
    simp
    omega
  · intro i h1 h2
    rw [length_laid (by omega), hl] at h1
    have e : ∀ (l : List Nat) (hx : i < l.length), l[i] = l.getD i 0 := fun l hx => by simp [List.getD, hx]
    rw [e, e, laid_get (by omega)]
    have hd : ((bs ++ cs).drop (64 * (bs.length / 64)) |>.take 64).getD i 0 = (bs ++ cs).getD (64 * (bs.length / 64) + i) 0 := by
      simp [List.getD_eq_getElem?_getD, h1]
    rw [hd]
    by_cases h3 : i < bs.length % 64
    · rw [if_pos h3, h.rest i h3, getD_append_left' (by omega)]
    · rw [if_neg h3, if_pos (by omega), getD_append_right' (by omega)]
      congr 1
      omega
theorem Of.new : Of [] iv (List.replicate 64 0) 0 := ⟨rfl, rfl, fun i hi => by simp at hi⟩

/-- Where in a Sha's cells what lies. -/
theorem shaL_laid (s : S8) (rest : List Nat) (n k : Nat) (cs : List Nat) (hl : rest.length = 64) (hk : k + cs.length ≤ 64) :
    (shaL true s rest n).take (9 + k) ++ V8 cs ++ (shaL true s rest n).drop (9 + k + (V8 cs).length) = shaL true s (laid rest k cs) n := by
  have h8 : (V32 s.list).length = 8 := by simp [S8.list]
  have e1 : (shaL true s rest n).take (9 + k) = .bool true :: (V32 s.list ++ V8 (rest.take k)) := by
    rw [shaL, show 9 + k = (8 + k) + 1 by omega, List.take_succ_cons, List.take_append, h8, show 8 + k - 8 = k by omega, List.take_of_length_le (by omega), List.take_append_of_le_length (by simp; omega)]
    simp [V8, List.map_take]
  have e2 : (shaL true s rest n).drop (9 + k + (V8 cs).length) = V8 (rest.drop (k + cs.length)) ++ [.int .u64 (n : Int)] := by
    rw [shaL, length_V8, show 9 + k + cs.length = (8 + (k + cs.length)) + 1 by omega, List.drop_succ_cons, List.drop_append, h8, show 8 + (k + cs.length) - 8 = k + cs.length by omega, List.drop_of_length_le (by omega), List.nil_append, List.drop_append_of_le_length (by simp; omega)]
    simp [V8, List.map_drop]
  rw [e1, e2]
  simp [shaL, laid, V8]
theorem shaL_state (s s' : S8) (rest : List Nat) (n : Nat) : (shaL true s rest n).take 1 ++ V32 s'.list ++ (shaL true s rest n).drop (1 + (V32 s'.list).length) = shaL true s' rest n := by
  simp [shaL, V32, S8.list]
theorem shaL_size (s : S8) (rest : List Nat) (n m : Nat) (hl : rest.length = 64) : (shaL true s rest n).set 73 (.int .u64 (m : Int)) = shaL true s rest m := by
  have h8 : (V32 s.list).length = 8 := by simp [S8.list]
  rw [shaL, shaL, List.set_cons_succ, List.set_append_right _ _ (by omega), h8, List.set_append_right _ _ (by simp; omega)]
  simp [hl]
theorem Holds.made {w : World} {g : Nat} {s : S8} {rest : List Nat} {n : Nat} (h : Holds w g s rest n) : w.cell? ⟨g, 0, none⟩ = some (.bool true) := by
  rw [cell_of_row w g 0 _ _ _ h.blk]; simp [shaL]
theorem Holds.size {w : World} {g : Nat} {s : S8} {rest : List Nat} {n : Nat} (h : Holds w g s rest n) : w.cell? ⟨g, 73, none⟩ = some (.int .u64 (n : Int)) := by
  have hl := h.len
  rw [cell_of_row w g 73 _ _ _ h.blk]
  simp [shaL, S8.list, V32, V8, hl]
theorem Holds.stCell {w : World} {g : Nat} {s : S8} {rest : List Nat} {n : Nat} (h : Holds w g s rest n) : ∀ j v, (V32 s.list)[j]? = some v → w.cell? ⟨g, 1 + j, none⟩ = some v := by
  intro j v hv
  rw [cell_of_row w g (1 + j) _ _ _ h.blk]
  have hj : j < (V32 s.list).length := (List.getElem?_eq_some_iff.1 hv).1
  rw [List.getElem?_toArray, shaL, show 1 + j = j + 1 by omega, List.getElem?_cons_succ, List.getElem?_append_left hj]
  exact hv
theorem Holds.restCell {w : World} {g : Nat} {s : S8} {rest : List Nat} {n : Nat} (h : Holds w g s rest n) : ∀ j v, (V8 rest)[j]? = some v → w.cell? ⟨g, 9 + j, none⟩ = some v := by
  intro j v hv
  rw [cell_of_row w g (9 + j) _ _ _ h.blk]
  have hj : j < (V8 rest).length := (List.getElem?_eq_some_iff.1 hv).1
  have h8 : (V32 s.list).length = 8 := by simp [S8.list]
  rw [List.getElem?_toArray, shaL, show 9 + j = (8 + j) + 1 by omega, List.getElem?_cons_succ, List.getElem?_append_right (by omega), h8, show 8 + j - 8 = j by omega, List.getElem?_append_left hj]
  exact hv
theorem Holds.free {w : World} {g : Nat} {s : S8} {rest : List Nat} {n : Nat} (h : Holds w g s rest n) (i : Nat) : w.frozen? ⟨g, i, none⟩ = false := frozen_of_row w g i _ _ h.blk
end Go.Proofs.YtdlhpmbgpjjkoaaDoor
