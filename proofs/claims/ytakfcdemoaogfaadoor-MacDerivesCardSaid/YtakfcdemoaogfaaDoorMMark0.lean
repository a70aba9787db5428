/-
  Proved here: what lies in memory while mac's Mark makes both keys, in whatever order their blocks are made (for the walk of Mark, which is not here yet).
-/
import Derived.Test.YtakfcdemoaogfaaDoorMEqual
namespace Go.Proofs.YtakfcdemoaogfaaDoor
open Go.RowKit
def ZK : Array Value := #[.int .u8 0, .int .u8 0, .int .u8 0, .int .u8 0, .int .u8 0, .int .u8 0, .int .u8 0, .int .u8 0, .int .u8 0, .int .u8 0, .int .u8 0, .int .u8 0, .int .u8 0, .int .u8 0, .int .u8 0, .int .u8 0, .int .u8 0, .int .u8 0, .int .u8 0, .int .u8 0, .int .u8 0, .int .u8 0, .int .u8 0, .int .u8 0, .int .u8 0, .int .u8 0, .int .u8 0, .int .u8 0, .int .u8 0, .int .u8 0, .int .u8 0, .int .u8 0, .int .u8 0, .int .u8 0, .int .u8 0, .int .u8 0, .int .u8 0, .int .u8 0, .int .u8 0, .int .u8 0, .int .u8 0, .int .u8 0, .int .u8 0, .int .u8 0, .int .u8 0, .int .u8 0, .int .u8 0, .int .u8 0, .int .u8 0, .int .u8 0, .int .u8 0, .int .u8 0, .int .u8 0, .int .u8 0, .int .u8 0, .int .u8 0, .int .u8 0, .int .u8 0, .int .u8 0, .int .u8 0, .int .u8 0, .int .u8 0, .int .u8 0, .int .u8 0]
/-- What there is while a text's mark is made: the answer's place, and both keys. -/
structure MK (w : World) (K : List Nat) (g6 g7 : Nat) (U : World) : Prop where
  ans : U.heap[w.heap.size]? = some (.cells (V8 Z32).toArray 29 (0, 0))
  inner : U.heap[g6]? = some (.cells (V8 (xorS K 54)).toArray 35 (0, 0))
  outer : U.heap[g7]? = some (.cells (V8 (xorS K 92)).toArray 35 (0, 0))
  below : Below w.heap.size w U
  lo6 : w.heap.size < g6
  lo7 : w.heap.size < g7
/-- Midway: the blocks that have been made so far. -/
structure NK (w : World) (K : List Nat) (gf : Nat) (o6 o7 : Option Nat) (W : World) : Prop where
  ans : W.heap[w.heap.size]? = some (.cells (V8 Z32).toArray 29 (0, 0))
  key : W.heap[gf]? = some (.cells (V8 K).toArray 35 (0, 0))
  below : Below w.heap.size w W
  lo : w.heap.size < gf
  in6 : ∀ g, o6 = some g → W.heap[g]? = some (.cells (V8 Z64).toArray 35 (0, 0)) ∧ gf < g
  in7 : ∀ g, o7 = some g → W.heap[g]? = some (.cells (V8 Z64).toArray 35 (0, 0)) ∧ gf < g ∧ o6 ≠ some g
theorem ZK_eq : ZK = (V8 Z64).toArray := by kernel_rfl
theorem lt_of_blk {W : World} {g : Nat} {o : Obj} (h : W.heap[g]? = some o) : g < W.heap.size := (Array.getElem?_eq_some_iff.1 h).1
theorem NK.to {w : World} {K : List Nat} {gf : Nat} {o6 o7 : Option Nat} {W W' : World} (h : NK w K gf o6 o7 W) (hb : Below W.heap.size W W') : NK w K gf o6 o7 W' := by
  have hk := lt_of_blk h.key
  have hl := h.lo
  exact ⟨(hb.block _ (by omega)).trans h.ans, (hb.block _ hk).trans h.key, h.below.trans (hb.mono (by omega)), hl,
    fun g hg => ⟨(hb.block _ (lt_of_blk (h.in6 g hg).1)).trans (h.in6 g hg).1, (h.in6 g hg).2⟩,
    fun g hg => ⟨(hb.block _ (lt_of_blk (h.in7 g hg).1)).trans (h.in7 g hg).1, (h.in7 g hg).2⟩⟩
theorem NK.new6 {w : World} {K : List Nat} {gf : Nat} {o7 : Option Nat} {W : World} (h : NK w K gf none o7 W) (cs : Array Value) (hc : cs = (V8 Z64).toArray) : NK w K gf (some W.heap.size) o7 (W.alloc (.cells cs 35)) := by
  have hk := lt_of_blk h.key
  have h' := h.to ((Below.refl _ _).alloc (Nat.le_refl _) (.cells cs 35))
  refine ⟨h'.ans, h'.key, h'.below, h.lo, fun g hg => ?_, fun g hg => ⟨(h'.in7 g hg).1, (h'.in7 g hg).2.1, fun e => ?_⟩⟩
  · obtain rfl := Option.some.inj hg
    rw [← hc]
    exact ⟨heap_alloc_new _ _, hk⟩
  · have := lt_of_blk (h.in7 g hg).1
    have := Option.some.inj e
    omega
theorem NK.new7 {w : World} {K : List Nat} {gf : Nat} {o6 : Option Nat} {W : World} (h : NK w K gf o6 none W) (cs : Array Value) (hc : cs = (V8 Z64).toArray) : NK w K gf o6 (some W.heap.size) (W.alloc (.cells cs 35)) := by
  have hk := lt_of_blk h.key
  have h' := h.to ((Below.refl _ _).alloc (Nat.le_refl _) (.cells cs 35))
  refine ⟨h'.ans, h'.key, h'.below, h.lo, h'.in6, fun g hg => ?_⟩
  obtain rfl := Option.some.inj hg
  rw [← hc]
  refine ⟨heap_alloc_new _ _, hk, fun e => ?_⟩
  have := lt_of_blk (h.in6 _ e).1
  omega
theorem xored_n (l : List Nat) (y : Int) (w : World) (hl : l.length = 64) (hy : 0 ≤ y := by decide) : Calls Tryd.prog 31 #[.agg (V8 l).toArray, .int .u8 y] w fun e w' => e = .returned (.agg (V8 (xorS l y.toNat)).toArray) ∧ Below w.heap.size w w' := by
  have := xored_any l y.toNat w hl
  rw [show ((y.toNat : Nat) : Int) = y by omega] at this
  exact this
theorem length_xorS (l : List Nat) (y : Nat) : (xorS l y).length = l.length := length_xo l y 64

end Go.Proofs.YtakfcdemoaogfaaDoor
