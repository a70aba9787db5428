/-
  Proved here (for the walk of the document's own mark, which is not here yet): two rows of bytes that the call itself owns, apart from each other, are made longer by one byte each, out of blocks that lie elsewhere.
-/
import Derived.Test.YtakfcdemoaogfaaDoorRWith0
import Derived.Deep.AppendLies
namespace Go.Proofs.YtakfcdemoaogfaaDoor
open Go.RowKit
/-- Both rows, and the blocks of the bytes to be put behind, as far as they have been made. -/
structure YK (w : World) (li lo : List Nat) (vi vo : Value) (ni no x y : Nat) (l1 l2 : Option Nat) (W : World) : Prop where
  i : W.ownsRow w.heap.size 5 1 vi ni (V8 li)
  o : W.ownsRow w.heap.size 5 1 vo no (V8 lo)
  apart : ∀ a b, vi.ownBlock = some a → vo.ownBlock = some b → a ≠ b
  b1 : ∀ g, l1 = some g → W.heap[g]? = some (.cells #[.int .u8 (x : Int)] 5 (0, 0)) ∧ vi.ownBlock ≠ some g ∧ vo.ownBlock ≠ some g
  b2 : ∀ g, l2 = some g → W.heap[g]? = some (.cells #[.int .u8 (y : Int)] 5 (0, 0)) ∧ vi.ownBlock ≠ some g ∧ vo.ownBlock ≠ some g
  below : Below w.heap.size w W
theorem YK.swap {w : World} {li lo : List Nat} {vi vo : Value} {ni no x y : Nat} {l1 l2 : Option Nat} {W : World} (h : YK w li lo vi vo ni no x y l1 l2 W) : YK w lo li vo vi no ni y x l2 l1 W :=
  ⟨h.o, h.i, fun a b ha hb => (h.apart b a hb ha).symm, fun g e => ⟨(h.b2 g e).1, (h.b2 g e).2.2, (h.b2 g e).2.1⟩, fun g e => ⟨(h.b1 g e).1, (h.b1 g e).2.2, (h.b1 g e).2.1⟩, h.below⟩
theorem own_keep {w w' : World} {base : Nat} {e : TypeId} {size : Nat} {v : Value} {n : Nat} {xs : List Value} (h : w.ownsRow base e size v n xs) (hb : Below w.heap.size w w') : w'.ownsRow base e size v n xs :=
  h.kept (row := none) ⟨hb.os, hb.tape, hb.output, hb.size, fun k hk _ => hb.block k hk⟩ (by cases v.ownBlock <;> simp)
theorem YK.to {w : World} {li lo : List Nat} {vi vo : Value} {ni no x y : Nat} {l1 l2 : Option Nat} {W W' : World} (h : YK w li lo vi vo ni no x y l1 l2 W) (hb : Below W.heap.size W W') : YK w li lo vi vo ni no x y l1 l2 W' :=
  ⟨own_keep h.i hb, own_keep h.o hb, h.apart, fun g e => ⟨(hb.block _ (Array.getElem?_eq_some_iff.1 (h.b1 g e).1).1).trans (h.b1 g e).1, (h.b1 g e).2⟩, fun g e => ⟨(hb.block _ (Array.getElem?_eq_some_iff.1 (h.b2 g e).1).1).trans (h.b2 g e).1, (h.b2 g e).2⟩, h.below.trans (hb.mono h.below.size)⟩
theorem YK.new1 {w : World} {li lo : List Nat} {vi vo : Value} {ni no x y : Nat} {l2 : Option Nat} {W : World} (h : YK w li lo vi vo ni no x y none l2 W) : YK w li lo vi vo ni no x y (some W.heap.size) l2 (W.alloc (.cells #[.int .u8 (x : Int)] 5)) := by
  have h' := h.to ((Below.refl _ W).alloc (Nat.le_refl _) (.cells #[.int .u8 (x : Int)] 5))
  refine ⟨h'.i, h'.o, h'.apart, fun g e => ?_, h'.b2, h'.below⟩
  obtain rfl := Option.some.inj e
  exact ⟨heap_alloc_new _ _, fun e => by have := (h.i.lt _ e).2; omega, fun e => by have := (h.o.lt _ e).2; omega⟩
/-- The first row is made longer. -/
theorem YK.app {w : World} {li lo : List Nat} {vi vo : Value} {ni no x y : Nat} {g1 : Nat} {l2 : Option Nat} {W : World} (h : YK w li lo vi vo ni no x y (some g1) l2 W) (hn : ni ≤ 100000) :
    ∃ g cap W', (Builtin.append_ #[22, 22] 22 #[vi, .slice (some ⟨g1, 0, none⟩) 1 1]).run Tryd.prog W = .ok (.slice (some ⟨g, 0, none⟩) (ni + 1) cap) W' ∧ YK w (li ++ [x]) lo (.slice (some ⟨g, 0, none⟩) (ni + 1) cap) vo (ni + 1) no x y none l2 W' := by
  obtain ⟨i0, hi, hz0, hz1, hz2⟩ := info_parts infoByte
  obtain ⟨hg1, hn1, hn2⟩ := h.b1 g1 rfl
  obtain ⟨g, cap, W', hr, ho, hgr, hat, hlt⟩ := run_append_lies (P := Tryd.prog) W 22 22 w.heap.size 5 i0 (.int .u8 0) 1 1 Tryd.underlying22 hi hz0 hz1 hz2 rfl (by decide) vi ni (V8 li) h.i ⟨g1, 0, none⟩ 1 1 [.int .u8 (x : Int)] rfl (fun j u hj => by
      match j, hj with
      | 0, hj =>
        simp at hj; subst hj
        rw [show (⟨g1, 0, none⟩ : Addr).add 0 = ⟨g1, 0, none⟩ from rfl, cell_of_row W g1 0 _ _ _ hg1]
        rfl) (by intro u hu; simp at hu; subst hu; rfl) (by decide) (by unfold maxLen; omega) (by omega) h.below.size W.heap.size rfl
  have hneo : vo.ownBlock = none ∨ vo.ownBlock ≠ vi.ownBlock := by
    cases hb : vo.ownBlock with
    | none => exact .inl rfl
    | some b => exact .inr fun e => h.apart b b e.symm hb rfl
  have hnew : ∀ b, b < W.heap.size → vi.ownBlock ≠ some b → g ≠ b := fun b hb hne e => by
    rcases hat with e1 | e1
    · exact hne (by rw [e1, e])
    · omega
  refine ⟨g, cap, W', hr, ⟨by rw [V8_append]; exact ho, h.o.kept hgr hneo, fun a b ha hb => ?_, fun _ e => (by cases e), fun q e => ?_, h.below.grown hgr h.below.size (own_le h.i)⟩⟩
  · obtain rfl : g = a := by simpa [Value.ownBlock] using ha
    exact hnew b (h.o.lt b hb).2 (fun e => h.apart b b e hb rfl)
  · obtain ⟨h1, h2, h3⟩ := h.b2 q e
    have hq : q < W.heap.size := (Array.getElem?_eq_some_iff.1 h1).1
    exact ⟨(hgr.block q hq (fun e => h2 e.symm)).trans h1, fun e => hnew q hq h2 (by simpa [Value.ownBlock] using e), h3⟩
end Go.Proofs.YtakfcdemoaogfaaDoor
