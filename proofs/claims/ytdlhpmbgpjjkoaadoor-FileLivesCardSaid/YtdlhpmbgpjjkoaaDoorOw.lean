/-
  Kept here: rows of bytes and of points that a call made: what was there is as it was.
-/
import Derived.Test.YtdlhpmbgpjjkoaaDoorRk13
namespace Go.Proofs.YtdlhpmbgpjjkoaaDoor
open Go.RowKit
theorem ret_int {k : IntKind} {a b : Int} (h : a = b) : Ending.returned (.int k a) = .returned (.int k b) := by rw [h]
theorem ret_bool {a b : Bool} (h : a = b) : Ending.returned (.bool a) = .returned (.bool b) := by rw [h]
theorem RI.lit {k : IntKind} (w : World) (ys : List Int) (e : TypeId) : RI k (w.alloc (.cells (NV k ys).toArray e)) (some ⟨w.heap.size, 0, none⟩) ys := fun _ =>
  ⟨_, _, rfl, by simp, fun i hi => by
    have h4 : (w.alloc (.cells (NV k ys).toArray e)).heap[w.heap.size]? = some (.cells (NV k ys).toArray e (0, 0)) := heap_alloc_new _ _
    unfold World.cell?
    dsimp only
    rw [h4]
    simp [NV, List.getD, hi]⟩
/-- A row of bytes of this call's own, and what was there is as it was. -/
structure Own8 (w : World) (v : Value) (xs : List Int) (W : World) : Prop where
  own : W.ownsRow w.heap.size 5 1 v xs.length (NV .u8 xs)
  below : Below w.heap.size w W
theorem Own8.to {w : World} {v : Value} {xs : List Int} {W W' : World} (h : Own8 w v xs W) (hb : Below W.heap.size W W') : Own8 w v xs W' := ⟨own_below h.own hb, h.below.trans (hb.mono h.below.size)⟩
theorem Own8.new (w : World) : Own8 w (.slice none 0 0) [] w := ⟨World.ownsRow_nil _ _ _ _, Below.refl _ _⟩
theorem Own8.app {w : World} {v : Value} {xs : List Int} {W : World} (h : Own8 w v xs W) (ys : List Int) (m : Nat) (hm : ys.length = m) (hn : xs.length + m ≤ 100000) :
    ∃ A n c w', (Builtin.append_ #[23, 23] 23 #[v, .slice (some ⟨W.heap.size, 0, none⟩) m m]).run Tryd.prog (W.alloc (.cells (NV .u8 ys).toArray 5)) = .ok (.slice A n c) w' ∧ Own8 w (.slice A n c) (xs ++ ys) w' := by
  have h1 := h.to ((Below.refl _ _).alloc (Nat.le_refl _) (.cells (NV .u8 ys).toArray 5))
  obtain ⟨v', w', r, o, g⟩ := app_u8 (ys := ys) hm m (RI.lit W ys 5) (fun e => by cases e) h1.own hn h1.below.size
  obtain ⟨A, c, rfl, _⟩ := own_slice o
  exact ⟨A, _, c, w', r, own_cast o (by simp [hm]) rfl, h1.below.grown g h1.below.size (ownBlock_le h.own)⟩
theorem Own8.ri {w : World} {A : Option Addr} {n c : Nat} {xs : List Int} {W : World} (h : Own8 w (.slice A n c) xs W) : RI .u8 W A xs ∧ n = xs.length := by
  obtain ⟨A', c', e, _⟩ := own_slice h.own
  injection e with e1 e2 e3
  subst e1 e2 e3
  refine ⟨fun hp => ?_, rfl⟩
  obtain ⟨g, e, _, hg, hc⟩ := own_cells h.own rfl hp
  subst e
  exact ⟨g, 0, rfl, hg, fun i hi => by rw [Nat.zero_add]; exact hc i hi⟩
end Go.Proofs.YtdlhpmbgpjjkoaaDoor
