/-
  Proved here: New makes a Sha that holds nothing; Add lets it hold more (at nil, and at one that no call made: ErrNil); Len tells how many bytes it holds.
-/
import Derived.Test.YtakfcdemoaogfaaDoorSTake
namespace Go.Proofs.YtakfcdemoaogfaaDoor
open Go.RowKit
theorem wpList_build_to {P : Program} {w : World} {ops : Array Oper} {rest : List Oper} {o : Oper} {a : Act} {Q : Exit → Act → World → Prop} (hg : o.guard = none) (t : TypeId) (parts : Array (Nat × Operand)) (ho : o.op = .build t parts) (cells : Array Value)
    (hf : P.built t (parts.map fun (i, x) => (i, a.eval x)).toList = some cells) (h : wpList P ops Q rest (a.put o.dst (.agg cells)) w) : wpList P ops Q (o :: rest) a w :=
  wpList_build hg t parts ho (by rw [hf]; rfl) (by rw [hf]; exact h)
set_option maxRecDepth 100000 in
set_option maxHeartbeats 1000000 in
theorem new_any (w : World) : Calls Tryd.prog 11 #[] w fun e w' => e = .returned (.pointer (some ⟨w.heap.size, 0, none⟩)) ∧ IsSha w' w.heap.size [] ∧ w'.heap.size = w.heap.size + 1 ∧ Below w.heap.size w w' := by
  go_enter Tryd.func11, Tryd.ntmps11
  go_wp2_with (refine wpList_build_to rfl 38 _ rfl (shaL true iv (List.replicate 64 0) 0).toArray (by kernel_rfl) ?_)
  go_ret
  refine ⟨rfl, ⟨iv, List.replicate 64 0, 0, ⟨by simp, ?_⟩, Of.new⟩, by simp, (Below.refl _ _).alloc (Nat.le_refl _) _⟩
  exact heap_alloc_new _ _
theorem add_nil (A : Option Addr) (len cap : Nat) (w : World) : Calls Tryd.prog 12 #[.pointer none, .slice A len cap] w fun e w' => e = .returned (.int .i64 6) ∧ w = w' := by
  go_enter Tryd.func12, Tryd.ntmps12
  go_wp2
  go_ret
  exact ⟨rfl, rfl⟩
theorem add_zero (g : Nat) (A : Option Addr) (len cap : Nat) (w : World) (hc : w.cell? ⟨g, 0, none⟩ = some (.bool false)) : Calls Tryd.prog 12 #[.pointer (some ⟨g, 0, none⟩), .slice A len cap] w fun e w' => e = .returned (.int .i64 6) ∧ w = w' := by
  go_enter Tryd.func12, Tryd.ntmps12
  go_wp2
  go_ret
  exact ⟨rfl, rfl⟩
theorem add_any (bs cs : List Nat) (g : Nat) (A : Option Addr) (cap : Nat) (w : World) (hS : IsSha w g bs) (hR : Rd w g A cs) (hcap : cs.length ≤ cap) (hm : cap ≤ maxLen) (hT : Tab w) (hg : 0 < g) (hn : bs.length + cs.length < 1152921504606846976) :
    Calls Tryd.prog 12 #[.pointer (some ⟨g, 0, none⟩), .slice A cs.length cap] w fun e w' => e = .returned (.int .i64 0) ∧ IsSha w' g (bs ++ cs) ∧ Only g w w' := by
  obtain ⟨s, rest, n, hH, hO⟩ := id hS
  have c0 := hH.made
  have HX := Lib.hid (take_any bs cs g A cap w hS hR hcap hm hT hg hn)
  clear hS hR hH hO hcap
  go_enter Tryd.func12, Tryd.ntmps12
  go_wp2_with fail
  refine HX.out.mono ?_
  rintro e w' ⟨rfl, h1, h2⟩
  go_wp2
  go_ret
  exact ⟨rfl, h1, h2⟩
theorem len_nil (w : World) : Calls Tryd.prog 16 #[.pointer none] w fun e w' => e = .returned (.int .i64 0) ∧ w = w' := by
  go_enter Tryd.func16, Tryd.ntmps16
  go_wp2
  go_ret
  exact ⟨rfl, rfl⟩
theorem len_at (g n : Nat) (w : World) (hc : w.cell? ⟨g, 73, none⟩ = some (.int .u64 (n : Int))) (hn : n < 1152921504606846976) : Calls Tryd.prog 16 #[.pointer (some ⟨g, 0, none⟩)] w fun e w' => e = .returned (.int .i64 (n : Int)) ∧ w = w' := by
  go_enter Tryd.func16, Tryd.ntmps16
  go_wp2
  go_ret
  exact ⟨rfl, rfl⟩
theorem len_any (bs : List Nat) (g : Nat) (w : World) (hS : IsSha w g bs) (hn : bs.length < 1152921504606846976) : Calls Tryd.prog 16 #[.pointer (some ⟨g, 0, none⟩)] w fun e w' => e = .returned (.int .i64 (bs.length : Int)) ∧ w = w' := by
  obtain ⟨s, rest, n, hH, hO⟩ := hS
  have hsz := hO.size
  subst hsz
  exact len_at g _ w hH.size hn
end Go.Proofs.YtakfcdemoaogfaaDoor
