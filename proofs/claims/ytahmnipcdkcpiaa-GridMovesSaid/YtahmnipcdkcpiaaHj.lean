/-
  Proved here: what is done to a grid, of both.
-/
import Derived.Test.YtahmnipcdkcpiaaHi
import Derived.Deep.DeepCutAuto
set_option linter.unusedSimpArgs false
set_option linter.unusedVariables false
namespace Go.Proofs.Ytahmnipcdkcpiaa
open Go.RowKit
/-- A grid of the program's and one of the document's, of the same cells. -/
def Bo (B g : Nat) (x : Value) (R C : Nat) (L : List Ce) (W : World) : Prop :=
  ∃ b cap yb ycap, Gr g b cap R C L W ∧ YR W yb L ∧ x = XV R C yb (R * C) ycap ∧ yb ≠ g ∧ yb ≠ b ∧ OkL L ∧ B ≤ g ∧ B ≤ b
/-- All blocks but g that are no rows of the program's cells stay as they were. -/
def Stay (g : Nat) (w w' : World) : Prop := ∀ (k : Nat) (o : Obj), w.heap[k]? = some o → k ≠ g → (∀ cur fr, o ≠ .cells cur 39 fr) → w'.heap[k]? = some o
def DoPost (B g : Nat) (w : World) (e : Ending) (w' : World) : Prop := ∃ x R C L, e = .returned (.tuple #[x, .bool true]) ∧ Bo B g x R C L w' ∧ Below B w w' ∧ Stay g w w'
/-- What Do has laid. -/
structure Dx (s cb : Nat) (G O : Array Value) (c : Ce) (W : World) : Prop where
  g : W.heap[s]? = some (.cells G 29 (0, 0))
  o : W.heap[s + 1]? = some (.cells O 41 (0, 0))
  z : W.heap[s + 2]? = some (.cells #[.int .i64 0, .int .i64 0, .slice none 0 0] 29 (0, 0))
  c : W.heap[cb]? = some (.cells (yC c).toArray 49 (0, 0))
  lt : s + 3 ≤ cb
section
variable {s cb : Nat} {G O : Array Value} {c : Ce} {W X : World}
theorem Dx.next (H : Dx s cb G O c W) (hb : Below W.heap.size W X) : Dx s cb G O c X :=
  ⟨(hb.block _ (lt_of_block H.g)).trans H.g, (hb.block _ (lt_of_block H.o)).trans H.o, (hb.block _ (lt_of_block H.z)).trans H.z, (hb.block _ (lt_of_block H.c)).trans H.c, H.lt⟩
theorem Dx.grown (H : Dx s cb G O c W) {k : Nat} (hg : W.grownBy X (some k)) (hk : k < s) : Dx s cb G O c X :=
  ⟨(hg.block _ (lt_of_block H.g) (fun e => by injection e; omega)).trans H.g, (hg.block _ (lt_of_block H.o) (fun e => by injection e; omega)).trans H.o, (hg.block _ (lt_of_block H.z) (fun e => by injection e; omega)).trans H.z, (hg.block _ (lt_of_block H.c) (fun e => by have := H.lt; injection e; omega)).trans H.c, H.lt⟩
theorem Dx.set (H : Dx s cb G O c W) (G' : Array Value) : Dx s cb G' O c (W.setRow s G') :=
  ⟨setRow_heap _ _ _ _ _ _ H.g, (setRow_other _ _ _ _ (by omega)).trans H.o, (setRow_other _ _ _ _ (by omega)).trans H.z, (setRow_other _ _ _ _ (by have := H.lt; omega)).trans H.c, H.lt⟩
theorem Dx.three {c0 c1 c2 : Value} (H : Dx s cb #[c0, c1, c2] O c W) : W.cell? ⟨s, 0, none⟩ = some c0 ∧ W.cell? ⟨s, 1, none⟩ = some c1 ∧ W.cell? ⟨s, 2, none⟩ = some c2 := by
  refine ⟨?_, ?_, ?_⟩ <;> (unfold World.cell?; simp only [H.g]; rfl)
end
theorem okL_set {L : List Ce} (h : OkL L) {k : Nat} {c : Ce} (hc : OkC c) : OkL (L.set k c) := by
  intro d hd
  rcases List.mem_or_eq_of_mem_set hd with h1 | rfl
  · exact h d h1
  · exact hc
theorem okL_gen {n : Nat} {f : Nat → Ce} (h : ∀ k, k < n → OkC (f k)) : OkL (genL n f) := by
  intro d hd
  obtain ⟨k, hk, rfl⟩ := List.mem_map.1 hd
  exact h k (List.mem_range.1 hk)
theorem okC_ze : OkC zeC := ⟨by decide, by decide⟩
theorem okC_at {L : List Ce} (h : OkL L) (k : Nat) : OkC (ceAt L k) := by
  by_cases hk : k < L.length
  · exact okL_at h hk
  · rw [show ceAt L k = zeC by simp [ceAt, List.getD, show L.length ≤ k by omega]]; exact okC_ze
theorem ok_fill {C : Nat} {L : List Ce} (h : OkL L) {c : Ce} (hc : OkC c) (n i : Nat) (x y : Int) : OkL (genL n (dfillF C L i x y c)) := okL_gen fun k _ => by
  unfold dfillF; split
  · exact hc
  · exact okC_at h _
theorem ok_move {C : Nat} {L : List Ce} (h : OkL L) {c : Ce} (hc : OkC c) (n : Nat) (t d z : Int) : OkL (genL n (dmoveF C L t d z c)) := okL_gen fun k _ => by
  unfold dmoveF; split
  · split
    · exact okC_at h _
    · exact hc
  · exact okC_at h _
theorem ok_shift {C : Nat} {L : List Ce} (h : OkL L) {c : Ce} (hc : OkC c) (n : Nat) (t d z : Int) : OkL (genL n (dshiftF C L t d z c)) := okL_gen fun k _ => by
  unfold dshiftF; split
  · split
    · exact okC_at h _
    · exact hc
  · exact okC_at h _
theorem ok_res {R C C2 : Nat} {L : List Ce} (h : OkL L) {c : Ce} (hc : OkC c) (n : Nat) : OkL (genL n (dresF R C L C2 c)) := okL_gen fun k _ => by
  unfold dresF; split
  · exact okC_at h _
  · exact hc
theorem right_pos {r d : Int} (h : rightB r d = true) : ∃ R2 C2 : Nat, r = R2 ∧ d = C2 ∧ 1 ≤ R2 ∧ R2 ≤ 12 ∧ 1 ≤ C2 ∧ C2 ≤ 40 := by
  unfold rightB at h
  simp at h
  exact ⟨r.toNat, d.toNat, by omega, by omega, by omega, by omega, by omega, by omega⟩
theorem by60_in (n : Int) : 0 ≤ by60 n ∧ by60 n ≤ 60 := by unfold by60; split <;> (try split) <;> omega
/-- What a call of the program's grid answers and leaves. -/
def PP (B s g yb : Nat) (E : Int) (R C : Nat) (L : List Ce) (w : World) (e : Ending) (w' : World) : Prop :=
  ∃ b cap k, e = .returned (.int .i64 E) ∧ Gr g b cap R C L w' ∧ w.grownBy w' (some k) ∧ B ≤ b ∧ yb ≠ b ∧ b ≠ s ∧ b ≠ s + 2 ∧ k < s ∧ B ≤ k ∧ k ≠ yb ∧ (b < s ∨ b < w'.heap.size ∧ w.heap.size ≤ b) ∧ (k = g ∨ ∃ cur, w.heap[k]? = some (.cells cur 39 (0, 0)))
/-- What a call of the document's grid answers. -/
def RP (yb : Nat) (E : Int) (R C n : Nat) (L : List Ce) (w : World) (e : Ending) (w' : World) : Prop :=
  ∃ y2 yc2, e = .returned (.tuple #[XV R C y2 n yc2, .int .i64 E]) ∧ YR w' y2 L ∧ (y2 = yb ∨ w.heap.size ≤ y2) ∧ Below w.heap.size w w'
theorem rp_of {yb R C n : Nat} {L : List Ce} {w w' : World} {e : Ending} (h : XPost w R C n L (fun x => .tuple #[x, .int .i64 0]) e w') : RP yb 0 R C n L w e w' := by
  obtain ⟨y2, yc2, h1, h2, h3, h4⟩ := h
  exact ⟨y2, yc2, h1, h3.yr, .inr h2, h4⟩
theorem stay_mid {g k s : Nat} {w w1 w2 : World} (hs : w.heap.size = s) (h1 : Below w.heap.size w w1) (hgr : w1.grownBy w2 (some k)) (hk : k = g ∨ ∃ cur, w1.heap[k]? = some (.cells cur 39 (0, 0))) : ∀ (j : Nat) (o : Obj), w.heap[j]? = some o → j ≠ g → (∀ cur fr, o ≠ .cells cur 39 fr) → j < s ∧ j < w2.heap.size ∧ w2.heap[j]? = some o := by
  intro j o ho hj hn
  have hl := lt_of_block ho
  have h2 := (h1.block j hl).trans ho
  refine ⟨by omega, Nat.lt_of_lt_of_le hl (Nat.le_trans h1.size hgr.size), (hgr.block j (lt_of_block h2) (fun e => ?_)).trans h2⟩
  injection e with e
  subst e
  rcases hk with hk | ⟨cur, hk⟩
  · exact hj hk
  · rw [h2] at hk
    injection hk with hk
    exact hn _ _ hk
/-- What is left where a call of the document's grid was made. -/
theorem bo_end {B s g b cap k R C yb2 ycap2 : Nat} {L : List Ce} {w w1 w2 w3 : World} {A A2 : Array Value}
    (hs : w.heap.size = s) (hB : B ≤ s) (hg : g < s) (h1 : Below w.heap.size w w1) (hw1 : s + 3 ≤ w1.heap.size) (hG : Gr g b cap R C L w2) (hgr : w1.grownBy w2 (some k)) (hBb : B ≤ b) (hbs : b ≠ s ∧ b ≠ s + 2) (hBk : B ≤ k) (hkt : k = g ∨ ∃ cur, w1.heap[k]? = some (.cells cur 39 (0, 0))) (h3 : Below w2.heap.size w2 w3)
    (hy : YR w3 yb2 L) (hys : yb2 ≠ s ∧ yb2 ≠ s + 2) (hyg : yb2 ≠ g) (hyb : yb2 ≠ b) (hok : OkL L) (hBg : B ≤ g) : 
    DoPost B g w (.returned (.tuple #[XV R C yb2 (R * C) ycap2, .bool true])) ((w3.setRow s A).setRow (s + 2) A2) := by
  have hst := stay_mid hs h1 hgr hkt
  have h1' := h1.mono (show B ≤ w.heap.size by omega)
  refine ⟨_, R, C, L, rfl, ⟨b, cap, yb2, ycap2, ?_, ?_, rfl, hyg, hyb, hok, hBg, hBb⟩, ?_, ?_⟩
  · exact ((hG.below h3).grown (grown_setRow _ _ _) (fun e => by injection e; omega) (fun e => hbs.1 (by injection e))).grown (grown_setRow _ _ _) (fun e => by injection e; omega) (fun e => hbs.2 (by injection e))
  · exact (hy.grown (grown_setRow _ _ _) (fun e => hys.1 (by injection e))).grown (grown_setRow _ _ _) (fun e => hys.2 (by injection e))
  · exact below_setRow (below_setRow ((h1'.grown hgr (by omega) (fun j e => by injection e; omega)).trans (h3.mono (Nat.le_trans (by omega) hgr.size))) hB _) (by omega) _
  · intro j o ho hj hn
    obtain ⟨q1, q2, q3⟩ := hst j o ho hj hn
    exact (setRow_other _ _ _ _ (by omega)).trans ((setRow_other _ _ _ _ (by omega)).trans ((h3.block j q2).trans q3))
/-- And where none was made. -/
theorem bo_same {B s g yb b cap k R C ycap : Nat} {L : List Ce} {w w1 w2 : World} {A2 : Array Value}
    (hs : w.heap.size = s) (hB : B ≤ s) (hg : g < s) (h1 : Below w.heap.size w w1) (hw1 : s + 3 ≤ w1.heap.size) (hG : Gr g b cap R C L w2) (hgr : w1.grownBy w2 (some k)) (hBb : B ≤ b) (hbs : b ≠ s ∧ b ≠ s + 2) (hBk : B ≤ k) (hkt : k = g ∨ ∃ cur, w1.heap[k]? = some (.cells cur 39 (0, 0)))
    (hy : YR w2 yb L) (hys : yb ≠ s + 2) (hyg : yb ≠ g) (hyb : yb ≠ b) (hok : OkL L) (hBg : B ≤ g) : 
    DoPost B g w (.returned (.tuple #[XV R C yb (R * C) ycap, .bool true])) (w2.setRow (s + 2) A2) := by
  have hst := stay_mid hs h1 hgr hkt
  have h1' := h1.mono (show B ≤ w.heap.size by omega)
  refine ⟨_, R, C, L, rfl, ⟨b, cap, yb, ycap, ?_, ?_, rfl, hyg, hyb, hok, hBg, hBb⟩, ?_, ?_⟩
  · exact hG.grown (grown_setRow _ _ _) (fun e => by injection e; omega) (fun e => hbs.2 (by injection e))
  · exact hy.grown (grown_setRow _ _ _) (fun e => hys (by injection e))
  · exact below_setRow (h1'.grown hgr (by omega) (fun j e => by injection e; omega)) (by omega) _
  · intro j o ho hj hn
    obtain ⟨q1, q2, q3⟩ := hst j o ho hj hn
    exact (setRow_other _ _ _ _ (by omega)).trans q3
end Go.Proofs.Ytahmnipcdkcpiaa
