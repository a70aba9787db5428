/-
  Proved here: rows of ints of this call's own.
-/
import Derived.Test.YtdlhpmbgpjjkoaaDoorOw
import Derived.Laws.OwnMore
set_option linter.unusedSimpArgs false
set_option linter.unusedVariables false
namespace Go.Proofs.YtdlhpmbgpjjkoaaDoor
open Go.RowKit
theorem info_i64 : (Tryd.prog.info? 3).map (fun i => (i.zero, i.size, i.bytes)) = some (some (.int .i64 0), 1, 8) := by kernel_rfl
theorem app_i64 {W : World} {base : Nat} {v : Value} {n : Nat} {xs : List Int} {A : Option Addr} {ys : List Int} {m : Nat} (hm : ys.length = m) (c : Nat) (hR : RI .i64 W A ys) (hA : A = none → c = 0) (hown : W.ownsRow base 3 1 v n (NV .i64 xs)) (hn : n + m ≤ 100000) (hb : base ≤ W.heap.size) :
    ∃ v' w', (Builtin.append_ #[60, 60] 60 #[v, .slice A m c]).run Tryd.prog W = .ok v' w' ∧ w'.ownsRow base 3 1 v' (n + m) (NV .i64 (xs ++ ys)) ∧ W.grownBy w' v.ownBlock := by
  subst hm
  obtain ⟨i0, hi, hz0, hz1, hz2⟩ := info_parts info_i64
  rcases A with _ | ad
  · have h0 : ys.length = 0 := by
      rcases Nat.eq_zero_or_pos ys.length with h | h
      · exact h
      · obtain ⟨_, _, h, _⟩ := hR h
        cases h
    obtain rfl : ys = [] := List.eq_nil_of_length_eq_zero h0
    obtain rfl := hA rfl
    exact ⟨_, W, run_append_owned_none (P := Tryd.prog) (w := W) base 60 60 3 i0 1 Tryd.underlying60 hi _ n _ hown, by simpa using hown, World.grownBy.refl _ _⟩
  · obtain ⟨v', w', hr, ho, hg, _⟩ := run_append_own_at (P := Tryd.prog) W base 60 60 3 i0 _ 1 8 Tryd.underlying60 hi hz0 hz1 hz2 rfl (by decide) v n (NV .i64 xs) hown ad ys.length c (NV .i64 ys) (by simp [NV]) hR.cells
      (fun u hu => by obtain ⟨x, _, rfl⟩ := List.mem_map.1 hu; rfl) (by unfold maxLen; omega) (by omega) hb
    exact ⟨v', w', hr, own_cast ho rfl (by simp [NV]), hg⟩

structure OwnI (w : World) (v : Value) (xs : List Int) (W : World) : Prop where
  own : W.ownsRow w.heap.size 3 1 v xs.length (NV .i64 xs)
  below : Below w.heap.size w W
theorem OwnI.to {w : World} {v : Value} {xs : List Int} {W W' : World} (h : OwnI w v xs W) (hb : Below W.heap.size W W') : OwnI w v xs W' := ⟨own_below h.own hb, h.below.trans (hb.mono h.below.size)⟩
theorem OwnI.new (w : World) : OwnI w (.slice none 0 0) [] w := ⟨World.ownsRow_nil _ _ _ _, Below.refl _ _⟩
theorem OwnI.app {w : World} {v : Value} {xs : List Int} {W : World} (h : OwnI w v xs W) (hn : xs.length < 100000) (p : Int) :
    ∃ A c w', (Builtin.append_ #[60, 60] 60 #[v, .slice (some ⟨W.heap.size, 0, none⟩) 1 1]).run Tryd.prog (W.alloc (.cells #[.int .i64 p] 3)) = .ok (.slice A (xs.length + 1) c) w' ∧ OwnI w (.slice A (xs.length + 1) c) (xs ++ [p]) w' := by
  have h1 := h.to ((Below.refl _ _).alloc (Nat.le_refl _) (.cells #[.int .i64 p] 3))
  obtain ⟨v', w', r, o, g⟩ := app_i64 (ys := [p]) (m := 1) rfl 1 (RI.one .i64 W p 3) (fun e => by cases e) h1.own (by omega) h1.below.size
  obtain ⟨A, c, rfl, _⟩ := own_slice o
  exact ⟨A, c, w', r, own_cast o (by simp) rfl, h1.below.grown g h1.below.size (ownBlock_le h.own)⟩
/-- Behind another row. -/
theorem OwnI.apps {w : World} {v u : Value} {xs ys : List Int} {W W2 : World} (h : OwnI w v xs W) (hu : ∃ A c, u = .slice A ys.length c ∧ (A = none → c = 0) ∧ RI .i64 W2 A ys) (hb : Below W.heap.size W W2) (hn : xs.length + ys.length ≤ 100000) :
    ∃ A c w', (Builtin.append_ #[60, 60] 60 #[v, u]).run Tryd.prog W2 = .ok (.slice A (xs.length + ys.length) c) w' ∧ OwnI w (.slice A (xs.length + ys.length) c) (xs ++ ys) w' := by
  obtain ⟨A0, c0, rfl, hA, hR⟩ := hu
  have h1 := h.to hb
  obtain ⟨v', w', r, o, g⟩ := app_i64 (ys := ys) rfl c0 hR hA h1.own (by omega) h1.below.size
  obtain ⟨A, c, rfl, _⟩ := own_slice o
  exact ⟨A, c, w', r, own_cast o (by simp) rfl, h1.below.grown g h1.below.size (ownBlock_le h.own)⟩
theorem OwnI.ri {w : World} {v : Value} {xs : List Int} {W : World} (h : OwnI w v xs W) : ∃ A c, v = .slice A xs.length c ∧ (A = none → c = 0) ∧ RI .i64 W A xs := by
  obtain ⟨A, c, rfl, _, _, hz⟩ := own_slice h.own
  refine ⟨A, c, rfl, hz, fun hp => ?_⟩
  obtain ⟨g, rfl, _, hlt, hc⟩ := own_cells h.own rfl hp
  exact ⟨g, 0, rfl, hlt, fun i hi => by rw [Nat.zero_add]; exact hc i hi⟩
theorem OwnI.lit (w : World) (ys : List Int) (n : Nat) (hn : ys.length = n) (hm : n ≤ 1000) : OwnI w (.slice (some ⟨w.heap.size, 0, none⟩) n n) ys (w.alloc (.cells (NV .i64 ys).toArray 3)) := by
  subst hn
  refine ⟨?_, (Below.refl _ _).alloc (Nat.le_refl _) _⟩
  have h := World.ownsRow_lit (e := 3) (size := 1) (base := w.heap.size) w (NV .i64 ys).toArray ys.length (Nat.le_refl _) (by unfold maxLen; omega) (by simp)
  simpa using h
end Go.Proofs.YtdlhpmbgpjjkoaaDoor
