/-
  Proved here: a grid of the document's, being made.
-/
import Derived.Test.YtahmnipcdkcpiaaGu
set_option linter.unusedSimpArgs false
set_option linter.unusedVariables false
namespace Go.Proofs.Ytahmnipcdkcpiaa
open Go.RowKit
/-- A grid of the document's in block g, made since w0; its answer's place is block h. -/
structure GY (w0 : World) (h g : Nat) (R C : Nat) (v : Value) (L : List Ce) (W : World) : Prop where
  zero : W.heap[h]? = some (.cells #[.int .i64 0, .int .i64 0, .slice none 0 0] 29 (0, 0))
  blk : W.heap[g]? = some (.cells #[.int .i64 R, .int .i64 C, v] 29 (0, 0))
  own : W.ownsRow w0.heap.size 49 11 v L.length (flatY L)
  n1 : v.ownBlock ≠ some g
  n2 : v.ownBlock ≠ some h
  lh : w0.heap.size ≤ h
  lg : w0.heap.size ≤ g
  hg : h ≠ g
  below : Below w0.heap.size w0 W
section
variable {w0 : World} {h g R C : Nat} {v : Value} {L : List Ce} {W : World}
theorem GY.cells (H : GY w0 h g R C v L W) : W.cell? ⟨g, 0, none⟩ = some (.int .i64 R) ∧ W.cell? ⟨g, 1, none⟩ = some (.int .i64 C) ∧ W.cell? ⟨g, 2, none⟩ = some v := by
  refine ⟨?_, ?_, ?_⟩ <;> (unfold World.cell?; simp only [H.blk]; rfl)
theorem GY.next (H : GY w0 h g R C v L W) {W' : World} (hb : Below W.heap.size W W') : GY w0 h g R C v L W' :=
  ⟨(hb.block h (lt_of_block H.zero)).trans H.zero, (hb.block g (lt_of_block H.blk)).trans H.blk, H.own.kept ⟨hb.os, hb.tape, hb.output, hb.size, fun k hk _ => hb.block k hk⟩ (.inr (show v.ownBlock ≠ some W.heap.size from fun e => by have := (H.own.lt _ e).2; omega)), H.n1, H.n2, H.lh, H.lg, H.hg, H.below.trans (hb.mono H.below.size)⟩
/-- A cell is put behind. -/
theorem GY.app (H : GY w0 h g R C v L W) (hL : L.length ≤ 100000) {fb : Nat} {c : Ce} (hblk : W.heap[fb]? = some (.cells (yC c).toArray 49 (0, 0))) :
    ∃ v' W2, (Builtin.append_ #[27, 27] 27 #[v, .slice (some ⟨fb, 0, none⟩) 1 1]).run Try.prog W = .ok v' W2 ∧ W2.cell? ⟨g, 2, none⟩ = some v ∧ W2.frozen? ⟨g, 2, none⟩ = false ∧ GY w0 h g R C v' (L ++ [c]) (W2.setCell ⟨g, 2, none⟩ v') := by
  obtain ⟨v', W2, hr, ho, hgr, hat⟩ := app_y H.own hblk hL H.below.size
  have lh := lt_of_block H.zero
  have lg := lt_of_block H.blk
  have bg : W2.heap[g]? = some (.cells #[.int .i64 R, .int .i64 C, v] 29 (0, 0)) := (hgr.block g lg (fun e => H.n1 e.symm)).trans H.blk
  have bh := (hgr.block h lh (fun e => H.n2 e.symm)).trans H.zero
  have m1 : v'.ownBlock ≠ some g := by
    rcases hat with e | e
    · rw [e]; exact H.n1
    · rw [e]; intro x; injection x with x; omega
  have m2 : v'.ownBlock ≠ some h := by
    rcases hat with e | e
    · rw [e]; exact H.n2
    · rw [e]; intro x; injection x with x; omega
  refine ⟨v', W2, hr, by unfold World.cell?; simp only [bg]; rfl, frozen_of_row W2 _ 2 _ _ bg, ⟨?_, ?_, ?_, m1, m2, H.lh, H.lg, H.hg, ?_⟩⟩
  · rw [heap_setCell_other W2 _ _ v' H.hg]; exact bh
  · rw [heap_setCell_same W2 _ 2 _ _ v' bg]; rfl
  · rw [List.length_append]; exact ownsRow_setCell_other ho m1 v'
  · exact (H.below.grown hgr H.below.size (fun k e => (H.own.lt k e).1)).setCell H.lg v'
end
end Go.Proofs.Ytahmnipcdkcpiaa
