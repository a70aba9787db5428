/-
  Proved here: 'append(l, x)' where l is a row of words that the call itself owns: where the new row lies, and that the old row's elements read as they did.
-/
import Derived.Test.YtakfcdemoaogfaaDoorRWords
namespace Go.Proofs.YtakfcdemoaogfaaDoor
open Go.RowKit
theorem app32 (base : Nat) (v : Value) (xs : List Nat) (n x : Nat) (W : World) (N : Nat) (hN : W.heap.size = N) (hn : xs.length = n) (hown : W.ownsRow base 33 1 v n (V32 xs)) (hb : base ≤ W.heap.size) (hl : n ≤ 100000) :
    ∃ g cap w', (Builtin.append_ #[61, 61] 61 #[v, .slice (some ⟨N, 0, none⟩) 1 1]).run Tryd.prog (W.alloc (.cells #[.int .u32 (x : Int)] 33)) = .ok (.slice (some ⟨g, 0, none⟩) (n + 1) cap) w' ∧
      w'.ownsRow base 33 1 (.slice (some ⟨g, 0, none⟩) (n + 1) cap) (n + 1) (V32 (xs ++ [x])) ∧ (W.alloc (.cells #[.int .u32 (x : Int)] 33)).grownBy w' v.ownBlock ∧ (v.ownBlock = some g ∨ g = N + 1) ∧ g < w'.heap.size ∧
      ∀ g0 k, v.ownBlock = some g0 → k < n → w'.cell? ⟨g0, k, none⟩ = W.cell? ⟨g0, k, none⟩ := by
  subst hN
  obtain ⟨i0, hi, hz0, hz1, hz2⟩ := info_parts infoU32
  have hown2 := hown.alloc (.cells #[.int .u32 (x : Int)] 33)
  have hc : ∀ j u, ([.int .u32 (x : Int)] : List Value)[j]? = some u → (W.alloc (.cells #[.int .u32 (x : Int)] 33)).cell? ((⟨W.heap.size, 0, none⟩ : Addr).add j) = some u := by
    intro j u hj
    match j, hj with
    | 0, hj => simp at hj; subst hj; simp [Addr.add]
  have h1 : ∀ u ∈ ([.int .u32 (x : Int)] : List Value), u.oneCell' = true := by intro u hu; simp at hu; subst hu; rfl
  obtain ⟨g, cap, w', hr, h2, h3, h4, h5⟩ := run_append_lies (P := Tryd.prog) (W.alloc (.cells #[.int .u32 (x : Int)] 33)) 61 61 base 33 i0 (.int .u32 0) 1 4 Tryd.underlying61 hi hz0 hz1 hz2 rfl (by decide) v n (V32 xs) hown2 ⟨W.heap.size, 0, none⟩ 1 1 [.int .u32 (x : Int)] rfl hc h1 (by decide) (by unfold maxLen; omega) (by omega) (by simp; omega) (W.heap.size + 1) (by simp)
  refine ⟨g, cap, w', hr, by rw [V32_append]; exact h2, h3, h4, h5, fun g0 k hg hk => ?_⟩
  rcases hown.2 with ⟨rfl, _⟩ | ⟨g1, cap1, cur, rfl, hbg, hg1, hnc, hcm, hcs, htake⟩
  · simp [Value.ownBlock] at hg
  · obtain rfl : g1 = g0 := by simpa [Value.ownBlock] using hg
    have hlt : g1 < W.heap.size := (Array.getElem?_eq_some_iff.1 hg1).1
    have hg2 : (W.alloc (.cells #[.int .u32 (x : Int)] 33)).heap[g1]? = some (.cells cur 33 (0, 0)) := (old_block _ _ _ hlt).trans hg1
    rw [cell_of_row W g1 k _ _ _ hg1]
    rw [Nat.mul_one] at hcs htake
    by_cases hroom : n + 1 ≤ cap1
    · have hr2 := run_append_room (P := Tryd.prog) (W.alloc (.cells #[.int .u32 (x : Int)] 33)) 61 61 33 i0 Tryd.underlying61 hi g1 n cap1 cur hg2 ⟨W.heap.size, 0, none⟩ 1 1 [.int .u32 (x : Int)] (by rw [hz1]; rfl) hc h1 hroom (by rw [hz1]; simp; omega)
      rw [hr2] at hr
      injection hr with _ hw
      rw [← hw, cell_of_row _ g1 k _ _ _ (setRow_heap _ _ _ _ _ _ hg2), hz1, List.getElem?_toArray, List.append_assoc, List.getElem?_append_left (by simp; omega)]
      simp [hk]
    · have hr2 := run_append_grow (P := Tryd.prog) (W.alloc (.cells #[.int .u32 (x : Int)] 33)) 61 61 33 i0 (.int .u32 0) Tryd.underlying61 hi hz0 ⟨g1, 0, none⟩ n cap1 (V32 xs) (by rw [hz1]; simpa using hn) (hown2.cells (g := g1) rfl) ⟨W.heap.size, 0, none⟩ 1 1 [.int .u32 (x : Int)] (by rw [hz1]; rfl) hc (by omega) (by omega) (growslice_fits (by omega) (by rw [hz2]; omega))
      rw [hr2] at hr
      injection hr with _ hw
      rw [← hw]
      refine (World.cell?_of_block (w := W) (a := ⟨g1, k, none⟩) ?_).trans (cell_of_row W g1 k _ _ _ hg1)
      exact (_root_.Go.heap_alloc_old _ _ (by simp; omega)).trans (old_block _ _ _ hlt)
theorem step_run {P : Program} {ops : Array Oper} {o : Oper} {a : Act} {w : World} {K : Act → World → Prop} {Q : Exit → Act → World → Prop} {E : Prop} (hgd : o.guard = none) (s x : Operand) (t tn : TypeId)
    (ho : o.op = .call { callee := .builtin .append, args := #[s, x], argTypes := #[t, tn] }) (vs vx : Value) (hs : a.eval s = vs) (hx : a.eval x = vx)
    (v' : Value) (w' : World) (hr : (Builtin.append_ #[t, tn] o.type #[vs, vx]).run P w = .ok v' w') (h : K (a.put o.dst v') w') : if Region.wanted o (yielded ops a.tmps) = true then Oper.wp P o a w K Q else E := by
  have hw : Region.wanted o (yielded ops a.tmps) = true := by simp [Region.wanted, hgd]
  rw [if_pos hw]
  unfold Oper.wp execOp
  simp only [ho, resolve, invoke, builtin, Sem.run_bind, Sem.run_pure, Result.andThen_ok, List.map_toArray, List.map_cons, List.map_nil, hs, hx, hr]
  exact h
end Go.Proofs.YtakfcdemoaogfaaDoor
