/-
  Proved here, of lists alone: a style's bytes are read as it, in one way alone.
-/
import Derived.Test.YtjihcpnaebghnaaDoorYi
import Derived.Test.YtjihcpnaebghnaaDoorWM
set_option linter.unusedSimpArgs false
set_option linter.unusedVariables false
namespace Go.Proofs.YtjihcpnaebghnaaDoor
open Go.RowKit
theorem ofF_flagsF : ∀ l : List Bool, ofF l.length (flagsF l) = l
  | [] => rfl
  | b :: r => by
    have h := ofF_flagsF r
    rw [List.length_cons, ofF, flagsF]
    cases b
    · rw [show (2 * flagsF r + (if false = true then 1 else 0)) / 2 = flagsF r by simp, h]
      simp
    · rw [show (2 * flagsF r + (if true = true then 1 else 0)) / 2 = flagsF r by simp; omega, h]
      simp
theorem col_le {c : Int} (h : colB c = true) : c ≤ 50331647 := by unfold colB at h; simp at h; omega
theorem read_write {s : Sty} (hs : Good s) (hr : rightS s = true) : readY (writeY s) 0 = (s, ((writeY s).length : Int), 0) := by
  obtain ⟨fs, fg, bg⟩ := s
  have hl := hs.len
  have hfg := hs.fg
  have hbg := hs.bg
  dsimp only at hl hfg hbg
  have hc : colB fg = true ∧ colB bg = true := by unfold rightS at hr; simpa using hr
  have g1 := getS_num [flagsF fs] (numB bg) hfg.1 (by omega : fg < 4611686018427387904)
  have g2 := getS_num ([flagsF fs] ++ numB fg) [] hbg.1 (by omega : bg < 4611686018427387904)
  have e : writeY ⟨fs, fg, bg⟩ = [flagsF fs] ++ (numB fg ++ numB bg) := by unfold writeY; simp
  have e2 : ([flagsF fs] ++ numB fg) ++ (numB bg ++ []) = [flagsF fs] ++ (numB fg ++ numB bg) := by simp
  rw [e2] at g2
  rw [e]
  have hlen : ([flagsF fs] ++ (numB fg ++ numB bg)).length = 1 + (szN fg + szN bg) := by simp [numB_length]; omega
  have h1 : ([flagsF fs] ++ numB fg).length = 1 + szN fg := by simp [numB_length]; omega
  rw [h1] at g2
  have g1' : getS ([flagsF fs] ++ (numB fg ++ numB bg)) (0 + 1) = (fg, ((1 + szN fg : Nat) : Int), 0) := by
    have : (([flagsF fs] : List Int).length : Int) = 0 + 1 := rfl
    rw [← this, g1]; simp
  have z0 : ([flagsF fs] ++ (numB fg ++ numB bg)).getD (0 : Int).toNat 0 = flagsF fs := rfl
  unfold readY
  rw [g1']
  dsimp only
  rw [g2]
  dsimp only
  rw [z0, show ofF 8 (flagsF fs) = fs from by rw [← hl]; exact ofF_flagsF fs, hlen]
  have := col_le hc.1
  have := col_le hc.2
  rw [if_neg (by omega), if_neg (by omega), if_neg (by simp), if_neg (by simp), if_neg (by omega), if_pos hr]
  congr 2
  omega
theorem write_read {bs : List Int} (hB : Bytes bs) (h : (readY bs 0).2.2 = 0) :
    rightS (readY bs 0).1 = true ∧ ∃ m : Nat, (readY bs 0).2.1 = (m : Int) ∧ m ≤ bs.length ∧ writeY (readY bs 0).1 = bs.take m := by
  unfold readY at h ⊢
  split at h
  · simp at h
  rename_i h1
  rw [if_neg h1]
  split at h
  · simp at h
  rename_i h2
  rw [if_neg h2]
  split at h
  · rename_i h3; exact absurd h h3
  rename_i h3
  rw [if_neg h3]
  split at h
  · rename_i h4; exact absurd h h4
  rename_i h4
  rw [if_neg h4]
  split at h
  · simp at h
  rename_i h5
  rw [if_neg h5]
  split at h
  · rename_i h6
    rw [if_pos h6]
    refine ⟨h6, ?_⟩
    have h3' : (getS bs ((1 : Nat) : Int)).2.2 = 0 := by simpa using h3
    have i1 := getS_inv hB h3'
    have e1 : getS bs (0 + 1) = getS bs ((1 : Nat) : Int) := rfl
    rw [e1] at h4 ⊢
    obtain ⟨⟨f, n1, x1⟩, hr1⟩ : ∃ r, getS bs ((1 : Nat) : Int) = r := ⟨_, rfl⟩
    rw [hr1] at i1 h4 ⊢
    dsimp only at i1 h4 ⊢
    have h4' : (getS bs ((1 + szN f : Nat) : Int)).2.2 = 0 := by
      have : n1 = ((1 + szN f : Nat) : Int) := by rw [i1.1]; simp
      rw [← this]; simpa using h4
    have e2 : getS bs n1 = getS bs ((1 + szN f : Nat) : Int) := by
      have : n1 = ((1 + szN f : Nat) : Int) := by rw [i1.1]; simp
      rw [this]
    rw [e2]
    have i2 := getS_inv hB h4'
    obtain ⟨⟨g, n2, x2⟩, hr2⟩ : ∃ r, getS bs ((1 + szN f : Nat) : Int) = r := ⟨_, rfl⟩
    rw [hr2] at i2 ⊢
    dsimp only at i2 ⊢
    refine ⟨1 + szN f + szN g, by rw [i2.1]; simp, i2.2.1, ?_⟩
    have hpos : 0 < bs.length := by
      have := i1.2.1; omega
    have t1 : bs.take 1 = [bs.getD 0 0] := by
      match bs, hpos with
      | x :: r, _ => rfl
    have hb0 := hB 0
    unfold writeY
    dsimp only
    rw [show ((0 : Int).toNat) = 0 from rfl, flagsF_ofF 8 _ hb0.1 hb0.2, ← i1.2.2, ← i2.2.2, ← t1]
    unfold cut
    rw [← List.take_add, ← List.take_add]
  · simp at h
end Go.Proofs.YtjihcpnaebghnaaDoor
