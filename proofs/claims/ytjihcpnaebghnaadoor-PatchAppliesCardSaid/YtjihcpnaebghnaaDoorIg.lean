/-
  Proved here: of the program's views: rows of cells that grow; readHead.
-/
import Derived.Test.YtjihcpnaebghnaaDoorIe
set_option linter.unusedSimpArgs false
set_option linter.unusedVariables false
namespace Go.Proofs.YtjihcpnaebghnaaDoor
open Go.RowKit
theorem info_view : (Tryd.prog.info? 24).map (·.size) = some 6 := by kernel_rfl
set_option maxRecDepth 100000 in
theorem app_c {W : World} {base fb cap2 n m : Nat} {v : Value} {L M : List Ce} (hown : W.ownsRow base 88 4 v n (flat L)) (hM : RowAt W fb cap2 M) (hm : M.length = m) (hn : n + m ≤ 100000) (hb : base ≤ W.heap.size) :
    ∃ v' w', (Builtin.append_ #[22, 22] 22 #[v, .slice (some ⟨fb, 0, none⟩) m cap2]).run Tryd.prog W = .ok v' w' ∧ w'.ownsRow base 88 4 v' (n + m) (flat (L ++ M)) ∧ W.grownBy w' v.ownBlock ∧ (v'.ownBlock = v.ownBlock ∨ v'.ownBlock = some W.heap.size) := by
  subst hm
  obtain ⟨i0, hi, hz0, hz1, hz2⟩ := info_parts infoCell
  obtain ⟨v', w', hr, ho, hg, _, hat⟩ := run_append_own_at (P := Tryd.prog) W base 22 22 88 i0 _ 4 16 Tryd.underlying22 hi hz0 hz1 hz2 rfl (by decide) v n (flat L) hown ⟨fb, 0, none⟩ M.length cap2 (flat M) (by rw [flat_len])
    (fun j u hu => by
      rw [show (⟨fb, 0, none⟩ : Addr).add j = ⟨fb, j, none⟩ by unfold Addr.add; split <;> simp_all]
      rw [hM.at_ (by have := (List.getElem?_eq_some_iff.1 hu).1; rwa [flat_len] at this)]
      exact hu)
    (flat_cells M) (by unfold maxLen; omega) (by omega) hb
  exact ⟨v', w', hr, by rw [flat_app]; exact ho, hg, hat⟩
/-- A view of this call's own, in block hb: its cells M behind v; its answer's place is the first of the call's. -/
structure VS (w : World) (hb : Nat) (R C row col : Int) (vis : Bool) (M : List Ce) (v : Value) (W : World) : Prop where
  blk : W.heap[hb]? = some (.cells #[.int .i64 R, .int .i64 C, v, .int .i64 row, .int .i64 col, .bool vis] 24 (0, 0))
  own : W.ownsRow (hb + 1) 88 4 v M.length (flat M)
  zero : W.heap[w.heap.size]? = some (.cells #[.int .i64 0, .int .i64 0, .slice none 0 0, .int .i64 0, .int .i64 0, .bool false] 24 (0, 0))
  below : Below w.heap.size w W
  gt : w.heap.size < hb
section
variable {w : World} {hb : Nat} {R C row col : Int} {vis : Bool} {M : List Ce} {v : Value} {W X : World}
theorem VS.next (H : VS w hb R C row col vis M v W) (h : Below W.heap.size W X) : VS w hb R C row col vis M v X :=
  ⟨(h.block _ (lt_of_block H.blk)).trans H.blk, own_below H.own h, (h.block _ (lt_of_block H.zero)).trans H.zero, H.below.trans (h.mono H.below.size), H.gt⟩
theorem VS.form (H : VS w hb R C row col vis M v W) : ∃ A c, v = .slice A M.length c := by
  obtain ⟨A, c, e, _⟩ := own_slice H.own
  exact ⟨A, c, e⟩
theorem VS.cr {A : Option Addr} {n c : Nat} (H : VS w hb R C row col vis M (.slice A n c) W) : CR W A M := fun hp => by
  obtain ⟨A0, c0, e, _⟩ := own_slice H.own
  injection e with e1 e2 e3
  subst e1 e2 e3
  rcases H.own.2 with ⟨h, _⟩ | ⟨g, cap, cur, hv, hB, h1, _⟩
  · injection h with h1 h2 h3
    omega
  · injection hv with a b c'
    subst a c'
    obtain ⟨r, _, _⟩ := RowAt.of_own H.own
    refine ⟨g, 0, rfl, lt_of_block h1, fun i hi j u hu => ?_⟩
    have hj : j < 4 := (List.getElem?_eq_some_iff.1 hu).1
    rw [Nat.zero_add, r.cell hi hj]
    rwa [show ceAt M i = M[i] by simp [ceAt, List.getD, hi]] at hu
theorem VS.put {n : Nat} {M2 : List Ce} {v2 : Value} (H : VS w hb R C row col vis M v W) (hg : W.grownBy X v.ownBlock) (ho : X.ownsRow (hb + 1) 88 4 v2 n (flat M2)) (hn : n = M2.length) : VS w hb R C row col vis M2 v2 (X.setCell ⟨hb, 2, none⟩ v2) := by
  subst hn
  have hne : ∀ k, v.ownBlock = some k → hb + 1 ≤ k := ownBlock_le H.own
  have hlt := lt_of_block H.blk
  have hb1 := (hg.block hb hlt (by intro e; have := hne hb e.symm; omega)).trans H.blk
  have hz1 := (hg.block w.heap.size (lt_of_block H.zero) (by intro e; have := hne _ e.symm; have := H.gt; omega)).trans H.zero
  have hgt := H.gt
  refine ⟨?_, ?_, ?_, (H.below.grown hg H.below.size (fun k hk => by have := hne k hk; omega)).setCell (by show w.heap.size ≤ hb; omega) v2, H.gt⟩
  · rw [heap_setCell_same X _ 2 _ _ v2 hb1]; rfl
  · exact ownsRow_setCell_below ho (a := ⟨hb, 2, none⟩) (by show hb < hb + 1; omega) v2
  · rw [heap_setCell_other X _ _ v2 (by simp; omega)]; exact hz1
end
end Go.Proofs.YtjihcpnaebghnaaDoor
