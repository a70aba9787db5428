/-
  Proved here: New makes a Sha that holds nothing; Add lets it hold more (at nil, and at one that no call made: ErrNil); Len tells how many bytes it holds.
-/
import Derived.Test.YtdlhpmbgpjjkoaaDoorSTake
namespace Go.Proofs.YtdlhpmbgpjjkoaaDoor
open Go.RowKit
theorem wpList_build_to {P : Program} {w : World} {ops : Array Oper} {rest : List Oper} {o : Oper} {a : Act} {Q : Exit → Act → World → Prop} (hg : o.guard = none) (t : TypeId) (parts : Array (Nat × Operand)) (ho : o.op = .build t parts) (cells : Array Value)
    (hf : P.built t (parts.map fun (i, x) => (i, a.eval x)).toList = some cells) (h : wpList P ops Q rest (a.put o.dst (.agg cells)) w) : wpList P ops Q (o :: rest) a w :=
  wpList_build hg t parts ho (by rw [hf]; rfl) (by rw [hf]; exact h)
set_option maxRecDepth 100000 in
set_option maxHeartbeats 1000000 in
theorem new_any (w : World) : Calls Tryd.prog 41 #[] w fun e w' => e = .returned (.pointer (some ⟨w.heap.size, 0, none⟩)) ∧ IsSha w' w.heap.size [] ∧ w'.heap.size = w.heap.size + 1 ∧ Below w.heap.size w w' := by
  go_enter Tryd.func41, Tryd.ntmps41
  go_wp2_with (refine wpList_build_to rfl 85 _ rfl (shaL true iv (List.replicate 64 0) 0).toArray (by kernel_rfl) ?_)
  go_ret
  refine ⟨rfl, ⟨iv, List.replicate 64 0, 0, ⟨by simp, ?_⟩, Of.new⟩, by simp, (Below.refl _ _).alloc (Nat.le_refl _) _⟩
  exact heap_alloc_new _ _
end Go.Proofs.YtdlhpmbgpjjkoaaDoor
