/-
  Proved here, of lists and numbers alone: styles as the document has them.
-/
import Derived.Test.YtjihcpnaebghnaaDoorProg
set_option linter.unusedSimpArgs false
set_option linter.unusedVariables false
namespace Go.Proofs.YtjihcpnaebghnaaDoor
/-- Is a number a colour? -/
def colB (c : Int) : Bool := c == 0 || (c / 16777216 == 1 && decide (c % 16777216 < 256)) || c / 16777216 == 2
/-- The place of a number's flag; -1: it has none. -/
def placeS (n : Int) : Int := if 1 ≤ n ∧ n ≤ 5 then n - 1 else if 7 ≤ n ∧ n ≤ 9 then n - 2 else -1
/-- Eight flags, and two colours. -/
structure Sty where
  fs : List Bool
  fg : Int
  bg : Int
def zeroF : List Bool := [false, false, false, false, false, false, false, false]
def zeroY : Sty := ⟨zeroF, 0, 0⟩
def oneS (s : Sty) (n : Int) : Sty :=
  if n = 0 then zeroY
  else if 0 ≤ placeS n then ⟨s.fs.set (placeS n).toNat true, s.fg, s.bg⟩
  else if n = 22 then ⟨(s.fs.set 0 false).set 1 false, s.fg, s.bg⟩
  else if (22 < n ∧ n < 30) ∧ 0 ≤ placeS (n - 20) then ⟨s.fs.set (placeS (n - 20)).toNat false, s.fg, s.bg⟩
  else if 30 ≤ n ∧ n ≤ 37 then ⟨s.fs, 16777216 + (n - 30), s.bg⟩
  else if 40 ≤ n ∧ n ≤ 47 then ⟨s.fs, s.fg, 16777216 + (n - 40)⟩
  else if 90 ≤ n ∧ n ≤ 97 then ⟨s.fs, 16777224 + (n - 90), s.bg⟩
  else if 100 ≤ n ∧ n ≤ 107 then ⟨s.fs, s.fg, 16777224 + (n - 100)⟩
  else if n = 39 then ⟨s.fs, 0, s.bg⟩
  else if n = 49 then ⟨s.fs, s.fg, 0⟩
  else s
def smallB (n : Int) : Bool := decide (0 ≤ n) && decide (n ≤ 255)
/-- A colour is set, if it is some. -/
def setS (s : Sty) (x : Int) (ok : Bool) (c : Int) : Sty := if ok = true then (if x = 38 then ⟨s.fs, c, s.bg⟩ else ⟨s.fs, s.fg, c⟩) else s
/-- Numbers, one behind the other. -/
def chF : Nat → Sty → List Int → Sty
  | 0, s, _ => s
  | _ + 1, s, [] => s
  | k + 1, s, x :: r =>
    if x = 38 ∨ x = 48 then
      if 2 ≤ r.length ∧ r.getD 0 0 = 5 then chF k (setS s x (smallB (r.getD 1 0)) (16777216 + r.getD 1 0)) (r.drop 2)
      else if 4 ≤ r.length ∧ r.getD 0 0 = 2 then chF k (setS s x (smallB (r.getD 1 0) && smallB (r.getD 2 0) && smallB (r.getD 3 0)) (33554432 + 65536 * r.getD 1 0 + 256 * r.getD 2 0 + r.getD 3 0)) (r.drop 4)
      else s
    else chF k (oneS s x) r
def changeS (s : Sty) (l : List Int) : Sty := if l = [] then zeroY else chF l.length s l
theorem chF_more : ∀ (k m : Nat) (s : Sty) (l : List Int), l.length ≤ k → l.length ≤ m → chF k s l = chF m s l
  | 0, 0, s, l, _, _ => rfl
  | 0, m + 1, s, [], _, _ => rfl
  | 0, m + 1, s, x :: r, h, _ => by simp at h
  | k + 1, 0, s, [], _, _ => rfl
  | k + 1, 0, s, x :: r, _, h => by simp at h
  | k + 1, m + 1, s, [], _, _ => rfl
  | k + 1, m + 1, s, x :: r, h1, h2 => by
    simp only [List.length_cons] at h1 h2
    rw [chF, chF]
    split
    · split
      · exact chF_more k m _ _ (by simp; omega) (by simp; omega)
      · split
        · exact chF_more k m _ _ (by simp; omega) (by simp; omega)
        · rfl
    · exact chF_more k m _ _ (by omega) (by omega)
theorem oneS_len (s : Sty) (n : Int) (h : s.fs.length = 8) : (oneS s n).fs.length = 8 := by
  unfold oneS
  repeat' split
  all_goals first | exact h | rfl | simpa using h
theorem setS_len (s : Sty) (x : Int) (ok : Bool) (c : Int) (h : s.fs.length = 8) : (setS s x ok c).fs.length = 8 := by
  unfold setS
  repeat' split
  all_goals exact h
/-- A style's cells. -/
def styL (s : Sty) : List Value := s.fs.map Value.bool ++ [.int .u32 s.fg, .int .u32 s.bg]
theorem styL_len (s : Sty) (h : s.fs.length = 8) : (styL s).length = 10 := by simp [styL, h]
theorem styL_f {s : Sty} (h : s.fs.length = 8) {i : Nat} (hi : i < 8) : (styL s)[i]? = some (.bool (s.fs.getD i false)) := by
  unfold styL
  rw [List.getElem?_append_left (by simp; omega)]
  simp [List.getD, show i < s.fs.length by omega]
theorem styL_8 {s : Sty} (h : s.fs.length = 8) : (styL s)[8]? = some (.int .u32 s.fg) := by
  unfold styL; rw [List.getElem?_append_right (by simp; omega)]; simp [h]
theorem styL_9 {s : Sty} (h : s.fs.length = 8) : (styL s)[9]? = some (.int .u32 s.bg) := by
  unfold styL; rw [List.getElem?_append_right (by simp; omega)]; simp [h]
theorem styL_set {s : Sty} (h : s.fs.length = 8) {i : Nat} (hi : i < 8) (b : Bool) : (styL s).set i (.bool b) = styL ⟨s.fs.set i b, s.fg, s.bg⟩ := by
  unfold styL
  rw [List.set_append_left _ _ (by simp; omega)]
  simp [List.map_set]
theorem styL_set8 {s : Sty} (h : s.fs.length = 8) (c : Int) : (styL s).set 8 (.int .u32 c) = styL ⟨s.fs, c, s.bg⟩ := by
  unfold styL; rw [List.set_append_right _ _ (by simp; omega)]; simp [h]
theorem styL_set9 {s : Sty} (h : s.fs.length = 8) (c : Int) : (styL s).set 9 (.int .u32 c) = styL ⟨s.fs, s.fg, c⟩ := by
  unfold styL; rw [List.set_append_right _ _ (by simp; omega)]; simp [h]
def tellS (first c : Int) : List Int := if c / 16777216 = 1 then [first, 5, c % 256] else if c / 16777216 = 2 then [first, 2, c / 65536 % 256, c / 256 % 256, c % 256] else []
def flagNs (fs : List Bool) (k : Nat) : List Int := ((List.range k).map fun i => ((i : Nat) : Int) + 1).filter fun n => decide (0 ≤ placeS n) && fs.getD (placeS n).toNat false
def rightS (s : Sty) : Bool := colB s.fg && colB s.bg
def paramsS (s : Sty) : List Int := if rightS s = true then 0 :: flagNs s.fs 9 ++ tellS 38 s.fg ++ tellS 48 s.bg else []
theorem flagNs_succ (fs : List Bool) (k : Nat) : flagNs fs (k + 1) = flagNs fs k ++ (if (decide (0 ≤ placeS ((k : Int) + 1)) && fs.getD (placeS ((k : Int) + 1)).toNat false) = true then [(k : Int) + 1] else []) := by
  unfold flagNs
  rw [List.range_succ, List.map_append, List.filter_append]
  congr 1
  simp only [List.map_cons, List.map_nil, List.filter]
  split <;> rename_i h
  · rw [if_pos h]
  · rw [if_neg (by rw [h]; decide)]
theorem flagNs_len (fs : List Bool) (k : Nat) : (flagNs fs k).length ≤ k := by
  unfold flagNs
  refine Nat.le_trans (List.length_filter_le _ _) (by simp)
theorem tellS_len (a c : Int) : (tellS a c).length ≤ 5 := by
  by_cases h1 : c / 16777216 = 1
  · rw [tellS, if_pos h1]; simp
  · by_cases h2 : c / 16777216 = 2
    · rw [tellS, if_neg h1, if_pos h2]; simp
    · rw [tellS, if_neg h1, if_neg h2]; simp
/-- The flags of a number, and the number of flags. -/
def ofF : Nat → Int → List Bool
  | 0, _ => []
  | k + 1, n => decide (n % 2 = 1) :: ofF k (n / 2)
def flagsF : List Bool → Int
  | [] => 0
  | b :: r => 2 * flagsF r + (if b = true then 1 else 0)
theorem ofF_len : ∀ (k : Nat) (n : Int), (ofF k n).length = k
  | 0, _ => rfl
  | k + 1, n => by rw [ofF, List.length_cons, ofF_len k]
end Go.Proofs.YtjihcpnaebghnaaDoor
