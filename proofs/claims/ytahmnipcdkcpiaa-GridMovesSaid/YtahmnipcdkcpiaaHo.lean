/-
  Proved here: whatever is done to both grids, they stay of the same cells; a law's own place for the document's grid.
-/
import Derived.Test.YtahmnipcdkcpiaaHk
import Derived.Test.YtahmnipcdkcpiaaHl
import Derived.Test.YtahmnipcdkcpiaaHm
import Derived.Test.YtahmnipcdkcpiaaHm3
import Derived.Test.YtahmnipcdkcpiaaHn
import Derived.Test.YtahmnipcdkcpiaaHn5
import Derived.Test.YtahmnipcdkcpiaaPlO
set_option linter.unusedSimpArgs false
set_option linter.unusedVariables false
namespace Go.Proofs.Ytahmnipcdkcpiaa
open Go.RowKit
theorem do_op {B g R C : Nat} {x : Value} {L : List Ce} {w : World} (h : Bo B g x R C L w) (o : Opn) (hf : 0 ≤ o.f ∧ o.f < 256) :
    Calls Try.prog 10 #[.pointer (some ⟨g, 0, none⟩), x, .agg (opL o).toArray] w (DoPost B g w) := by
  obtain ⟨b, cap, yb, ycap, hG, hY, rfl, h1, h2, h3, h4, h5⟩ := h
  obtain ⟨kd, oa, ob, on, p, f, gg, bb⟩ := o
  by_cases k0 : kd = 0
  · subst k0; exact do_0 rfl hG hY rfl h1 h2 h3 h4 h5 oa ob on p f gg bb hf
  by_cases k1 : kd = 1
  · subst k1; exact do_1 rfl hG hY rfl h1 h2 h3 h4 h5 oa ob on p f gg bb hf
  by_cases k2 : kd = 2
  · subst k2; exact do_2 rfl hG hY rfl h1 h2 h3 h4 h5 oa ob on p f gg bb hf
  by_cases k3 : kd = 3
  · subst k3; exact do_3 rfl hG hY rfl h1 h2 h3 h4 h5 oa ob on p f gg bb hf
  by_cases k4 : kd = 4
  · subst k4; exact do_4 rfl hG hY rfl h1 h2 h3 h4 h5 oa ob on p f gg bb hf
  by_cases k5 : kd = 5
  · subst k5; exact do_5 rfl hG hY rfl h1 h2 h3 h4 h5 oa ob on p f gg bb hf
  by_cases k6 : kd = 6
  · subst k6; exact do_6 rfl hG hY rfl h1 h2 h3 h4 h5 oa ob on p f gg bb hf
  exact do_7 rfl hG hY rfl h1 h2 h3 h4 h5 kd oa ob on p f gg bb hf k0 k1 k2 k3 k4 k5 k6
/-- Both grids, and the law's own place tb for the document's. -/
structure LV (B tb g R C yb ycap : Nat) (L : List Ce) (W : World) : Prop where
  bo : Bo B g (XV R C yb (R * C) ycap) R C L W
  t : W.heap[tb]? = some (.cells #[.int .i64 R, .int .i64 C, .slice (some ⟨yb, 0, none⟩) (R * C) ycap] 29 (0, 0))
  lt : B ≤ tb
  ne : tb ≠ g
section
variable {B tb g R C yb ycap : Nat} {x : Value} {L : List Ce} {W X : World}
theorem Bo.next (h : Bo B g x R C L W) (hb : Below W.heap.size W X) : Bo B g x R C L X := by
  obtain ⟨b, cap, yb, ycap, hG, hY, hx, h⟩ := h
  exact ⟨b, cap, yb, ycap, hG.below hb, hY.below hb, hx, h⟩
theorem flatY_zero {L : List Ce} (h : 0 < L.length) : ∃ p, (flatY L)[0]? = some (.int .i32 p) := by
  match L, h with
  | c :: L, _ => exact ⟨c.p, rfl⟩
theorem Bo.place (h : Bo B g x R C L W) {k : Nat} {c0 : Int} {cs : List Value} {t : TypeId} (hk : W.heap[k]? = some (.cells (.int .i64 c0 :: cs).toArray t (0, 0))) (hn : k ≠ g) (ht : t ≠ 39) (A : Array Value) : Bo B g x R C L (W.setRow k A) := by
  obtain ⟨b, cap, yb, ycap, hG, hY, hx, h⟩ := h
  refine ⟨b, cap, yb, ycap, hG.grown (grown_setRow _ _ _) (fun e => hn (by injection e with e; exact e.symm)) (fun e => ?_), hY.grown (grown_setRow _ _ _) (fun e => ?_), hx, h⟩
  · injection e with e
    subst e
    obtain ⟨cur, h1, _⟩ := hG.row
    rw [hk] at h1
    injection h1 with h1
    injection h1 with _ h1 _
    exact ht h1
  · injection e with e
    subst e
    obtain ⟨p, hp⟩ := flatY_zero (L := L) (by rw [hG.len]; exact Nat.mul_pos hG.pos.1 hG.pos.2.2.1)
    have h1 := hY.2 0 _ hp
    unfold World.cell? at h1
    simp only [hk] at h1
    simp at h1
theorem LV.next (h : LV B tb g R C yb ycap L W) (hb : Below W.heap.size W X) : LV B tb g R C yb ycap L X := ⟨h.bo.next hb, (hb.block _ (lt_of_block h.t)).trans h.t, h.lt, h.ne⟩
theorem LV.cells (h : LV B tb g R C yb ycap L W) : W.cell? ⟨tb, 0, none⟩ = some (.int .i64 R) ∧ W.cell? ⟨tb, 1, none⟩ = some (.int .i64 C) ∧ W.cell? ⟨tb, 2, none⟩ = some (.slice (some ⟨yb, 0, none⟩) (R * C) ycap) := by
  refine ⟨?_, ?_, ?_⟩ <;> (unfold World.cell?; simp only [h.t]; rfl)
/-- A law's place behind Do, and behind the store of what it answers. -/
theorem LV.did (h : LV B tb g R C yb ycap L W) {e : Ending} (hd : DoPost B g W e X) : ∃ R2 C2 yb2 ycap2 L2, e = .returned (.tuple #[XV R2 C2 yb2 (R2 * C2) ycap2, .bool true]) ∧ X.heap[tb]? = some (.cells #[.int .i64 R, .int .i64 C, .slice (some ⟨yb, 0, none⟩) (R * C) ycap] 29 (0, 0)) ∧ LV B tb g R2 C2 yb2 ycap2 L2 (X.setRow tb #[.int .i64 R2, .int .i64 C2, .slice (some ⟨yb2, 0, none⟩) (R2 * C2) ycap2]) ∧ Below B W X ∧ Below B W (X.setRow tb #[.int .i64 R2, .int .i64 C2, .slice (some ⟨yb2, 0, none⟩) (R2 * C2) ycap2]) := by
  obtain ⟨x2, R2, C2, L2, rfl, hbo, hbel, hst⟩ := hd
  have ht := hst tb _ h.t h.ne (fun cur fr e => by injection e with _ e _; exact absurd e (by decide))
  obtain ⟨b2, cap2, yb2, ycap2, hG, hY, rfl, hr⟩ := id hbo
  exact ⟨R2, C2, yb2, ycap2, L2, rfl, ht, ⟨hbo.place (cs := [.int .i64 C, .slice (some ⟨yb, 0, none⟩) (R * C) ycap]) ht h.ne (by decide) _, setRow_heap _ _ _ _ _ _ ht, h.lt, h.ne⟩, hbel, below_setRow hbel h.lt _⟩
end
end Go.Proofs.Ytahmnipcdkcpiaa
