/-
  Proved here, of lists alone: titles and clippings as the document has them.
-/
import Derived.Test.YtmpmlmhphnpdlaaBa
set_option linter.unusedSimpArgs false
set_option linter.unusedVariables false
namespace Go.Proofs.Ytmpmlmhphnpdlaa
/-- A byte that is not a point's first. -/
def folB (c : Int) : Bool := decide (128 ≤ c) && decide (c ≤ 191)
/-- The greatest place at or below a number that is ahead of no such byte. -/
def cutAt (l : List Int) : Nat → Nat
  | 0 => 0
  | k + 1 => if folB (l.getD (k + 1) 0) = true then cutAt l k else k + 1
def cutS (l : List Int) (most : Int) : List Int := if (l.length : Int) ≤ most then l else l.take (cutAt l most.toNat)
def whichB (c : Int) : Bool := c == 99 || c == 112 || c == 115 || c == 113 || (decide (48 ≤ c) && decide (c ≤ 57))
/-- What is asked: a kind, a text; and the error. -/
structure An where
  kind : Int
  data : List Int
  err : Int
def noneA (e : Int) : An := ⟨0, [], e⟩
def decA (d : List Int) : An := if goodB d = true then (if 256 < (decB d).length then noneA 2 else ⟨2, decB d, 0⟩) else noneA 3
def clipS (l : List Int) : An := if (l.dropWhile whichB).getD 0 0 = 59 then decA ((l.dropWhile whichB).drop 1) else noneA 3
def readS (l : List Int) : An :=
  if l.take 2 = [48, 59] ∨ l.take 2 = [50, 59] then ⟨1, cutS (l.drop 2) 64, 0⟩
  else if l.take 3 = [53, 50, 59] then clipS (l.drop 3) else noneA 4
/-- The text that asks for something, and the error. -/
def writeA (k : Int) (d : List Int) : List Int × Int :=
  if k = 1 ∧ cutS d 64 = d then ([50, 59] ++ d, 0) else if k = 2 ∧ 256 < d.length then ([], 2) else if k = 2 then ([53, 50, 59, 99, 59] ++ writeS d, 0) else ([], 3)
theorem cutAt_le (l : List Int) : ∀ k, cutAt l k ≤ k
  | 0 => Nat.le_refl _
  | k + 1 => by
    rw [cutAt]
    split
    · exact Nat.le_succ_of_le (cutAt_le l k)
    · exact Nat.le_refl _
theorem cutAt_fol (l : List Int) : ∀ k, cutAt l k = 0 ∨ folB (l.getD (cutAt l k) 0) = false
  | 0 => .inl rfl
  | k + 1 => by
    rw [cutAt]
    split
    · exact cutAt_fol l k
    · rename_i h
      exact .inr (by simpa using h)
theorem cutS_all {l : List Int} {most : Int} (h : (l.length : Int) ≤ most) : cutS l most = l := if_pos h
theorem cutS_part {l : List Int} {most : Int} (h : most < (l.length : Int)) : cutS l most = l.take (cutAt l most.toNat) ∧ (cutS l most).length = cutAt l most.toNat ∧ cutAt l most.toNat ≤ most.toNat ∧ cutAt l most.toNat ≤ l.length := by
  have h1 := cutAt_le l most.toNat
  have h2 : cutAt l most.toNat ≤ l.length := by omega
  have e : cutS l most = l.take (cutAt l most.toNat) := if_neg (by omega)
  exact ⟨e, by rw [e, List.length_take]; omega, h1, h2⟩
theorem cutS_len (l : List Int) (most : Int) : (cutS l most).length ≤ l.length ∧ cutS l most = l.take (cutS l most).length := by
  rcases (show most < (l.length : Int) ∨ (l.length : Int) ≤ most from by omega) with h | h
  · obtain ⟨e, e2, _, e3⟩ := cutS_part h
    rw [e2]
    exact ⟨e3, e⟩
  · rw [cutS_all h]
    exact ⟨Nat.le_refl _, (List.take_length).symm⟩
theorem cutS_again (l : List Int) (most : Int) : cutS (cutS l most) most = cutS l most := by
  rcases (show most < (l.length : Int) ∨ (l.length : Int) ≤ most from by omega) with h | h
  · obtain ⟨e, e2, e3, _⟩ := cutS_part h
    by_cases h0 : most < 0
    · have h9 : (cutS l most).length = 0 := by omega
      rw [List.eq_nil_of_length_eq_zero h9]
      unfold cutS
      split <;> simp
    · exact cutS_all (by omega)
  · rw [cutS_all h, cutS_all h]
theorem cutS_most (l : List Int) (most : Int) (h : (cutS l most).length < l.length) (h2 : 0 < (cutS l most).length) : ((cutS l most).length : Int) ≤ most := by
  rcases (show most < (l.length : Int) ∨ (l.length : Int) ≤ most from by omega) with h3 | h3
  · obtain ⟨_, e2, e3, _⟩ := cutS_part h3
    omega
  · rw [cutS_all h3] at h
    omega
theorem cutS_end (l : List Int) (most : Int) : (cutS l most).length = l.length ∨ (cutS l most).length = 0 ∨ folB (l.getD (cutS l most).length 0) = false := by
  rcases (show most < (l.length : Int) ∨ (l.length : Int) ≤ most from by omega) with h3 | h3
  · obtain ⟨_, e2, _, _⟩ := cutS_part h3
    rw [e2]
    exact .inr (cutAt_fol l _)
  · rw [cutS_all h3]
    exact .inl rfl
theorem cutS_64 (l : List Int) : (cutS l 64).length ≤ 64 := by
  rcases (show 64 < (l.length : Int) ∨ (l.length : Int) ≤ 64 from by omega) with h3 | h3
  · obtain ⟨_, e2, e3, _⟩ := cutS_part h3
    omega
  · rw [cutS_all h3]
    omega
theorem IsBytes.cut {l : List Int} (h : IsBytes l) (most : Int) : IsBytes (cutS l most) := by
  rw [(cutS_len l most).2]
  exact fun x hx => h x (List.mem_of_mem_take hx)
theorem clip_at {a d : List Int} (ha : ∀ x ∈ a, whichB x = true) : clipS (a ++ 59 :: d) = decA d := by
  have h : (a ++ 59 :: d).dropWhile whichB = 59 :: d := by
    rw [List.dropWhile_append_of_pos ha]
    rfl
  unfold clipS
  rw [h]
  rfl
/-- A letter ahead of it changes nothing. -/
theorem clip_cons {x : Int} (hx : whichB x = true) (l : List Int) : clipS (x :: l) = clipS l := by
  unfold clipS
  rw [List.dropWhile_cons_of_pos hx]
theorem read_0 (l : List Int) : readS (48 :: 59 :: l) = ⟨1, cutS l 64, 0⟩ := by simp [readS]
theorem read_2 (l : List Int) : readS (50 :: 59 :: l) = ⟨1, cutS l 64, 0⟩ := by simp [readS]
theorem read_52 (l : List Int) : readS (53 :: 50 :: 59 :: l) = clipS l := by simp [readS]
theorem read_cut {n r : List Int} (hn : (59 : Int) ∉ n) : readS (n ++ 59 :: r) = if n = [48] ∨ n = [50] then ⟨1, cutS r 64, 0⟩ else if n = [53, 50] then clipS r else noneA 4 := by
  match n, hn with
  | [], _ => simp [readS]
  | [a], h =>
    by_cases h0 : a = 48
    · subst h0; exact read_0 r
    · by_cases h2 : a = 50
      · subst h2; exact read_2 r
      · have : readS ([a] ++ 59 :: r) = noneA 4 := by
          unfold readS
          rw [if_neg (by simp [h0, h2]), if_neg (by simp)]
        rw [this, if_neg (by simp [h0, h2]), if_neg (by simp)]
  | [a, b], h =>
    have hb : b ≠ 59 := fun e => h (by simp [e])
    by_cases h5 : a = 53 ∧ b = 50
    · obtain ⟨rfl, rfl⟩ := h5
      exact read_52 r
    · have : readS ([a, b] ++ 59 :: r) = noneA 4 := by
        unfold readS
        rw [if_neg (by simp [hb]), if_neg (by simpa using h5)]
      rw [this, if_neg (by simp), if_neg (by simpa using h5)]
  | a :: b :: c :: m, h =>
    have hb : b ≠ 59 := fun e => h (by simp [e])
    have hc : c ≠ 59 := fun e => h (by simp [e])
    have : readS (a :: b :: c :: m ++ 59 :: r) = noneA 4 := by
      unfold readS
      rw [if_neg (by simp [hb]), if_neg (by simp [hc])]
    rw [this, if_neg (by simp), if_neg (by simp)]
theorem read_miss {l : List Int} (h : (59 : Int) ∉ l) : readS l = noneA 4 := by
  have h2 : ∀ (n : Nat) (m : List Int), (59 : Int) ∈ m → l.take n ≠ m := fun n m hm e => h (List.mem_of_mem_take (e ▸ hm : (59 : Int) ∈ l.take n))
  unfold readS
  rw [if_neg (by rintro (e | e) <;> exact h2 2 _ (by simp) e), if_neg (fun e => h2 3 _ (by simp) e)]
theorem dec_err (d : List Int) : ((decA d).err = 0 ∧ (decA d).kind = 2 ∧ (decA d).data.length ≤ 256) ∨ ((decA d).err ≠ 0 ∧ (decA d).kind = 0 ∧ (decA d).data = []) := by
  unfold decA
  split
  · split
    · exact .inr ⟨by decide, rfl, rfl⟩
    · exact .inl ⟨rfl, rfl, by dsimp only; omega⟩
  · exact .inr ⟨by decide, rfl, rfl⟩
theorem clip_err (l : List Int) : ((clipS l).err = 0 ∧ (clipS l).kind = 2 ∧ (clipS l).data.length ≤ 256) ∨ ((clipS l).err ≠ 0 ∧ (clipS l).kind = 0 ∧ (clipS l).data = []) := by
  unfold clipS
  split
  · exact dec_err _
  · exact .inr ⟨by decide, rfl, rfl⟩
/-- What is read is a title that is a beginning, or a clipping that is short, or nothing. -/
theorem read_kinds (l : List Int) : ((readS l).err = 0 ∧ (readS l).kind = 1 ∧ (readS l).data.length ≤ 64 ∧ 2 ≤ l.length ∧ (readS l).data.length + 2 ≤ l.length ∧ (l.drop 2).take (readS l).data.length = (readS l).data) ∨
    ((readS l).err = 0 ∧ (readS l).kind = 2 ∧ (readS l).data.length ≤ 256) ∨ ((readS l).err ≠ 0 ∧ (readS l).kind = 0 ∧ (readS l).data = []) := by
  unfold readS
  split
  · rename_i h
    have h2 : 2 ≤ l.length := by
      rcases h with h | h <;> (have := congrArg List.length h; simp at this; omega)
    have h3 := cutS_len (l.drop 2) 64
    refine .inl ⟨rfl, rfl, cutS_64 _, h2, ?_, h3.2.symm⟩
    have h4 := h3.1
    rw [List.length_drop] at h4
    dsimp only
    omega
  · split
    · exact .inr (clip_err _)
    · exact .inr (.inr ⟨by decide, rfl, rfl⟩)
theorem writeA_ok {k : Int} {d : List Int} (h : (writeA k d).2 = 0) : (k = 1 ∧ cutS d 64 = d ∧ (writeA k d).1 = [50, 59] ++ d) ∨ (k = 2 ∧ d.length ≤ 256 ∧ (writeA k d).1 = [53, 50, 59, 99, 59] ++ writeS d) := by
  by_cases h1 : k = 1 ∧ cutS d 64 = d
  · exact .inl ⟨h1.1, h1.2, by unfold writeA; rw [if_pos h1]⟩
  · by_cases h2 : k = 2
    · by_cases h3 : 256 < d.length
      · unfold writeA at h
        rw [if_neg h1, if_pos ⟨h2, h3⟩] at h
        exact absurd h (by decide)
      · exact .inr ⟨h2, by omega, by unfold writeA; rw [if_neg h1, if_neg (fun e => h3 e.2), if_pos h2]⟩
    · unfold writeA at h
      rw [if_neg h1, if_neg (fun e => h2 e.1), if_neg h2] at h
      exact absurd h (by decide)
theorem read_write {k : Int} {d : List Int} (hd : IsBytes d) (h : (writeA k d).2 = 0) : readS (writeA k d).1 = ⟨k, d, 0⟩ := by
  rcases writeA_ok h with ⟨rfl, h2, e⟩ | ⟨rfl, h2, e⟩
  · rw [e]
    show readS (50 :: 59 :: d) = _
    rw [read_2, h2]
  · rw [e]
    obtain ⟨g1, g2⟩ := good_write d hd
    generalize writeS d = S at g1 g2 ⊢
    have hc : clipS (99 :: 59 :: S) = decA S := clip_at (a := [99]) (by simp [whichB])
    have e2 : ([53, 50, 59, 99, 59] : List Int) ++ S = 53 :: 50 :: 59 :: 99 :: 59 :: S := by simp
    rw [e2, read_52, hc]
    unfold decA
    rw [if_pos g1, g2, if_neg (by omega)]
theorem writeA_bytes (k : Int) (d : List Int) : (writeA k d).2 ≠ 0 → (writeA k d).1 = [] := by
  unfold writeA
  repeat' split
  all_goals simp
end Go.Proofs.Ytmpmlmhphnpdlaa
