/-
  Proved here: what two appends, to the document's two rows of nonces and addresses, leave, in whatever order what they add is laid.
-/
import Derived.Test.YtjbnoggmnfannaaPq
namespace Go.Proofs.Ytjbnoggmnfannaa
open Go.RowKit
theorem own_apart {w : World} {b1 b2 : Nat} {e1 e2 : TypeId} {s1 s2 : Nat} {v1 v2 : Value} {n1 n2 : Nat} {xs1 xs2 : List Value} (h1 : w.ownsRow b1 e1 s1 v1 n1 xs1) (h2 : w.ownsRow b2 e2 s2 v2 n2 xs2) (he : e1 ≠ e2) : ∀ g, v1.ownBlock = some g → v2.ownBlock ≠ some g := by
  intro g hg hg2
  rcases h1.2 with ⟨rfl, _⟩ | ⟨g1, cap, cur, rfl, _, hh1, _⟩
  · simp [Value.ownBlock] at hg
  rcases h2.2 with ⟨rfl, _⟩ | ⟨g2, cap2, cur2, rfl, _, hh2, _⟩
  · simp [Value.ownBlock] at hg2
  have e1' : g1 = g := by simpa [Value.ownBlock] using hg
  have e2' : g2 = g := by simpa [Value.ownBlock] using hg2
  subst e1' e2'
  rw [hh1] at hh2
  injection hh2 with hh2
  injection hh2 with _ e _
  exact he e
theorem own_lt {w : World} {b : Nat} {e : TypeId} {s : Nat} {v : Value} {n : Nat} {xs : List Value} (h : w.ownsRow b e s v n xs) : ∀ g, v.ownBlock = some g → g < w.heap.size := by
  intro g hg
  rcases h.2 with ⟨rfl, _⟩ | ⟨g1, cap, cur, rfl, _, hh1, _⟩
  · simp [Value.ownBlock] at hg
  have e1' : g1 = g := by simpa [Value.ownBlock] using hg
  subst e1'
  exact lt_of_block hh1
theorem RI.grown {k : IntKind} {W w' : World} {g : Nat} {ys : List Int} {row : Option Nat} (h : RI k W (some ⟨g, 0, none⟩) ys) (hg : W.grownBy w' row) (hne : some g ≠ row) : RI k w' (some ⟨g, 0, none⟩) ys := fun hl => by
  obtain ⟨b, off, e, hb, hc⟩ := h hl
  injection e with e
  injection e with e1 e2
  subst e1 e2
  exact ⟨_, _, rfl, Nat.lt_of_lt_of_le hb hg.size, fun i hi => hg.cell (hc i hi) hne⟩
/-- The two rows, as they stand now, while the Peer's block still names what stood there. -/
structure Mid (w : World) (x : Nat) (rL rA : Value) (M : Int) (W : World) (vL : Value) (nL : Nat) (xsL : List Int) (vA : Value) (nA : Nat) (xsA : List Int) : Prop where
  row : W.heap[x]? = some (.cells #[rL, rA, .int .i64 M] 30 (0, 0))
  ownL : W.ownsRow (x + 1) 23 1 vL nL (NV .u64 xsL)
  ownA : W.ownsRow (x + 1) 34 1 vA nA (NV .u32 xsA)
  below : Below x w W
section
variable {w : World} {x : Nat} {rL rA : Value} {M : Int} {W : World} {vL : Value} {nL : Nat} {xsL : List Int} {vA : Value} {nA : Nat} {xsA : List Int}
theorem Mid.lt (h : Mid w x rL rA M W vL nL xsL vA nA xsA) : x < W.heap.size := lt_of_block h.row
theorem Mid.alloc (h : Mid w x rL rA M W vL nL xsL vA nA xsA) (o : Obj) : Mid w x rL rA M (W.alloc o) vL nL xsL vA nA xsA := by
  have hb : Below W.heap.size W (W.alloc o) := (Below.refl _ _).alloc (Nat.le_refl _) o
  exact ⟨(hb.block x h.lt).trans h.row, own_below h.ownL hb, own_below h.ownA hb, h.below.trans (hb.mono (Nat.le_of_lt h.lt))⟩
theorem Mid.c0 (h : Mid w x rL rA M W vL nL xsL vA nA xsA) : W.cell? ⟨x, 0, none⟩ = some rL := by have := h.row; simp [World.cell?, this]
theorem Mid.c1 (h : Mid w x rL rA M W vL nL xsL vA nA xsA) : W.cell? ⟨x, 1, none⟩ = some rA := by have := h.row; simp [World.cell?, this]
theorem Mid.free (h : Mid w x rL rA M W vL nL xsL vA nA xsA) (i : Nat) : W.frozen? ⟨x, i, none⟩ = false := frozen_of_row W x i _ _ h.row
theorem Mid.appL (h : Mid w x rL rA M W vL nL xsL vA nA xsA) {g : Nat} {m : Int} (hR : RI .u64 W (some ⟨g, 0, none⟩) [m]) (hn : nL ≤ 1000) :
    ∃ A' c' w', (Builtin.append_ #[27, 27] 27 #[vL, .slice (some ⟨g, 0, none⟩) 1 1]).run Try.prog W = .ok (.slice A' (nL + 1) c') w' ∧ Mid w x rL rA M w' (.slice A' (nL + 1) c') (nL + 1) (xsL ++ [m]) vA nA xsA ∧ W.grownBy w' vL.ownBlock := by
  obtain ⟨v', w', h1, h2, h3⟩ := app_u64 (W := W) (ys := [m]) (m := 1) rfl 1 hR (fun e => by cases e) h.ownL (by omega) h.lt
  obtain ⟨A', c', rfl, _⟩ := own_slice h2
  refine ⟨A', c', w', h1, ⟨(h3.block x h.lt (ownBlock_ge h.ownL (by omega))).trans h.row, h2, h.ownA.kept h3 ?_, h.below.grown h3 (Nat.le_of_lt h.lt) (fun k hk => by have := ownBlock_le h.ownL k hk; omega)⟩, h3⟩
  cases hv : vA.ownBlock with
  | none => exact .inl rfl
  | some k => exact .inr fun e => own_apart h.ownA h.ownL (by decide) k hv e.symm
theorem Mid.appA (h : Mid w x rL rA M W vL nL xsL vA nA xsA) {g : Nat} {m : Int} (hR : RI .u32 W (some ⟨g, 0, none⟩) [m]) (hn : nA ≤ 1000) :
    ∃ A' c' w', (Builtin.append_ #[28, 28] 28 #[vA, .slice (some ⟨g, 0, none⟩) 1 1]).run Try.prog W = .ok (.slice A' (nA + 1) c') w' ∧ Mid w x rL rA M w' vL nL xsL (.slice A' (nA + 1) c') (nA + 1) (xsA ++ [m]) := by
  obtain ⟨v', w', h1, h2, h3⟩ := app_u32 (W := W) (ys := [m]) (m := 1) rfl 1 hR (fun e => by cases e) h.ownA (by omega) h.lt
  obtain ⟨A', c', rfl, _⟩ := own_slice h2
  refine ⟨A', c', w', h1, ⟨(h3.block x h.lt (ownBlock_ge h.ownA (by omega))).trans h.row, h.ownL.kept h3 ?_, h2, h.below.grown h3 (Nat.le_of_lt h.lt) (fun k hk => by have := ownBlock_le h.ownA k hk; omega)⟩⟩
  cases hv : vL.ownBlock with
  | none => exact .inl rfl
  | some k => exact .inr fun e => own_apart h.ownL h.ownA (by decide) k hv e.symm
end
/-- What the walk reads of a world in which the two rows are longer, and what the two stores leave. -/
structure Ends (w : World) (x : Nat) (rL rA : Value) (L : List (Nat × Int)) (M : Int) (W : World) (v1 v2 : Value) : Prop where
  c0 : W.cell? ⟨x, 0, none⟩ = some rL
  c1 : W.cell? ⟨x, 1, none⟩ = some rA
  f0 : W.frozen? ⟨x, 0, none⟩ = false
  f1 : (W.setCell ⟨x, 0, none⟩ v1).frozen? ⟨x, 1, none⟩ = false
  d1 : (W.setCell ⟨x, 0, none⟩ v1).cell? ⟨x, 1, none⟩ = some rA
  lt : x < W.heap.size
  rp : RP ((W.setCell ⟨x, 0, none⟩ v1).setCell ⟨x, 1, none⟩ v2) x v1 v2 L M
  below : Below x w ((W.setCell ⟨x, 0, none⟩ v1).setCell ⟨x, 1, none⟩ v2)
theorem grown_cell (w : World) (x i : Nat) (v : Value) : w.grownBy (w.setCell ⟨x, i, none⟩ v) (some x) := ⟨rfl, rfl, rfl, by simp, fun k _ hk => heap_setCell_other w ⟨x, i, none⟩ k v (fun e => hk (by rw [e]))⟩
theorem Mid.ends {w : World} {x : Nat} {rL rA : Value} {M : Int} {W : World} {vL vA : Value} {n : Nat} {L : List (Nat × Int)} (h : Mid w x rL rA M W vL n (nonces L) vA n (addrs L)) (hn : L.length = n) : Ends w x rL rA L M W vL vA := by
  subst hn
  have r1 : (W.setCell ⟨x, 0, none⟩ vL).heap[x]? = some (.cells #[vL, rA, .int .i64 M] 30 (0, 0)) := by rw [heap_setCell_same W x 0 _ _ _ h.row]; rfl
  have r2 : ((W.setCell ⟨x, 0, none⟩ vL).setCell ⟨x, 1, none⟩ vA).heap[x]? = some (.cells #[vL, vA, .int .i64 M] 30 (0, 0)) := by rw [heap_setCell_same _ x 1 _ _ _ r1]; rfl
  have gL : ∀ g, some x = some g → g < x + 1 := fun g e => by injection e with e; omega
  refine ⟨h.c0, h.c1, h.free 0, frozen_of_row _ x 1 _ _ r1, by simp [World.cell?, r1], h.lt, ⟨r2, own_far (own_far h.ownL (grown_cell _ _ _ _) gL) (grown_cell _ _ _ _) gL, own_far (own_far h.ownA (grown_cell _ _ _ _) gL) (grown_cell _ _ _ _) gL⟩, ?_⟩
  exact (h.below.setCell (by simp) _).setCell (by simp) _
end Go.Proofs.Ytjbnoggmnfannaa
