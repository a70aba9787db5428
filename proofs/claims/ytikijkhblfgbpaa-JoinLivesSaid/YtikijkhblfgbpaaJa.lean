/-
  Kept here, for the fixed calls of join's laws: what a new Table makes of the two parts of a frame of 500 bytes, the second ahead of the first.
-/
import Derived.Test.YtikijkhblfgbpaaJu
import Derived.Test.YtikijkhblfgbpaaFe
namespace Go.Proofs.Ytikijkhblfgbpaa
open Go.RowKit Go.Maps Go.Sort

theorem rgt_31 : rgt 3 1 2 20 = true := rgt_mk (by unfold rgtP; omega)
theorem rgt_30 : rgt 3 0 2 480 = true := rgt_mk (by unfold rgtP; omega)
def oneF (g : Nat) (d : List Int) : FV := laidF (newF 3 g 2) 1 ⟨3, 1, 2, d⟩
theorem one_at (g : Nat) (d : List Int) (i : Nat) : pAt (oneF g d).ps i = if i = 1 then ⟨3, 1, 2, d⟩ else pNil := by
  show pAt ((List.replicate 64 pNil).set 1 ⟨3, 1, 2, d⟩) i = _
  rw [pAt_set (by rw [List.length_replicate]; omega), pAt_zeros]
theorem ref_1 : refS ⟨1, []⟩ 3 ((1 : Nat) : Int) 2 20 = 0 := by
  show refS ⟨1, []⟩ 3 1 2 20 = 0
  unfold refS
  rw [rgt_31]
  simp [getF]
theorem open_1 {f : FV} {T1 : TV} (h : Opened ⟨1, []⟩ 3 2 f T1) : f = newF 3 f.g 2 ∧ T1 = ⟨1, [f]⟩ := by
  rcases h with ⟨h1, _⟩ | ⟨_, _, h1, h2⟩ | ⟨_, h4, _⟩
  · cases h1
  · exact ⟨h1, h2⟩
  · simp at h4
theorem laid_1 {f : FV} {d : List Int} (h : f = newF 3 f.g 2) : laidF f 1 ⟨3, 1, 2, d⟩ = oneF f.g d ∧ laid ⟨1, [f]⟩ f 1 ⟨3, 1, 2, d⟩ = ⟨1, [oneF f.g d]⟩ := by
  have e : laidF f 1 ⟨3, 1, 2, d⟩ = oneF f.g d := by unfold oneF; rw [← h]
  exact ⟨e, by simp [laid, e]⟩
theorem ct_1 (g : Nat) (d : List Int) : (oneF g d).ct = 2 := rfl
theorem id_1 (g : Nat) (d : List Int) : (oneF g d).id = 3 := rfl
theorem miss_1 (g : Nat) (d : List Int) : missS (oneF g d).ps 2 = 1 := by
  have h0 : cameB (oneF g d).ps 0 = false := by unfold cameB; rw [one_at]; rfl
  have h1 : cameB (oneF g d).ps 1 = true := by unfold cameB; rw [one_at]; rfl
  simp [missS, h0, h1]
theorem good_1 (g : Nat) (d : List Int) (hd : d.length = 20) : GoodT ⟨1, [oneF g d]⟩ := fun y hy => by
  obtain rfl : y = oneF g d := by simpa using hy
  refine (good_new 3 g 2).laid (by show (List.replicate 64 pNil).length = 64; rw [List.length_replicate]) (by omega) ⟨?_, rfl, rfl, rfl⟩
  show rgt 3 1 2 d.length = true
  rw [hd]; exact rgt_31
theorem ref_2 (g : Nat) (d : List Int) : refS ⟨1, [oneF g d]⟩ 3 ((0 : Nat) : Int) 2 480 = 0 := by
  have h0 : cameB (oneF g d).ps 0 = false := by unfold cameB; rw [one_at]; rfl
  have hg : getF [oneF g d] 3 = some (oneF g d) := by simp [getF, id_1]
  show refS ⟨1, [oneF g d]⟩ 3 0 2 480 = 0
  unfold refS
  rw [rgt_30]
  simp [hg, ct_1, h0]
theorem open_2 {g : Nat} {d : List Int} {f : FV} {T1 : TV} (h : Opened ⟨1, [oneF g d]⟩ 3 2 f T1) : f = oneF g d ∧ T1 = ⟨1, [oneF g d]⟩ := by
  have hg : getF [oneF g d] 3 = some (oneF g d) := by simp [getF, id_1]
  rcases h with ⟨h1, h2⟩ | ⟨h1, _⟩ | ⟨h1, _⟩
  · rw [hg] at h1; injection h1 with h1; exact ⟨h1.symm, h2⟩
  · rw [hg] at h1; cases h1
  · rw [hg] at h1; cases h1
theorem miss_2 (g : Nat) (d e : List Int) : missS (laidF (oneF g d) 0 ⟨3, 0, 2, e⟩).ps 2 = 0 := by
  have hl : (oneF g d).ps.length = 64 := by show ((List.replicate 64 pNil).set 1 _).length = 64; rw [List.length_set, List.length_replicate]
  have h0 : cameB ((oneF g d).ps.set 0 ⟨3, 0, 2, e⟩) 0 = true := by unfold cameB; rw [pAt_set (by omega)]; rfl
  have h1 : cameB ((oneF g d).ps.set 0 ⟨3, 0, 2, e⟩) 1 = true := by unfold cameB; rw [pAt_set (by omega), one_at]; rfl
  show missS ((oneF g d).ps.set 0 ⟨3, 0, 2, e⟩) 2 = 0
  simp [missS, h0, h1]
theorem done_2 (g : Nat) (d e : List Int) : ((laid ⟨1, [oneF g d]⟩ (oneF g d) 0 ⟨3, 0, 2, e⟩).fs.filter fun y => decide ((3 : Int) + 1 ≤ y.id)) = [] := by
  simp [laid, laidF, id_1]
theorem ref_3 : refS ⟨4, []⟩ 3 ((0 : Nat) : Int) 2 480 = 23 := by
  show refS ⟨4, []⟩ 3 0 2 480 = 23
  unfold refS
  rw [rgt_30]
  simp

end Go.Proofs.Ytikijkhblfgbpaa
