/-
  Kept here: append to rows of numbers of these kinds.
-/
import Derived.Test.YtjihcpnaebghnaaDoorRg
import Derived.Laws.OwnMore
namespace Go.Proofs.YtjihcpnaebghnaaDoor
open Go.RowKit
theorem info_u8 : (Tryd.prog.info? 5).map (fun i => (i.zero, i.size, i.bytes)) = some (some (.int .u8 0), 1, 1) := by kernel_rfl
theorem app_u8 {W : World} {base : Nat} {v : Value} {n : Nat} {xs : List Int} {A : Option Addr} {ys : List Int} {m : Nat} (hm : ys.length = m) (c : Nat) (hR : RI .u8 W A ys) (hA : A = none → c = 0) (hown : W.ownsRow base 5 1 v n (NV .u8 xs)) (hn : n + m ≤ 100000) (hb : base ≤ W.heap.size) :
    ∃ v' w', (Builtin.append_ #[25, 25] 25 #[v, .slice A m c]).run Tryd.prog W = .ok v' w' ∧ w'.ownsRow base 5 1 v' (n + m) (NV .u8 (xs ++ ys)) ∧ W.grownBy w' v.ownBlock := by
  subst hm
  obtain ⟨i0, hi, hz0, hz1, hz2⟩ := info_parts info_u8
  rcases A with _ | ad
  · have h0 : ys.length = 0 := by
      rcases Nat.eq_zero_or_pos ys.length with h | h
      · exact h
      · obtain ⟨_, _, h, _⟩ := hR h
        cases h
    obtain rfl : ys = [] := List.eq_nil_of_length_eq_zero h0
    obtain rfl := hA rfl
    exact ⟨_, W, run_append_owned_none (P := Tryd.prog) (w := W) base 25 25 5 i0 1 Tryd.underlying25 hi _ n _ hown, by simpa using hown, World.grownBy.refl _ _⟩
  · obtain ⟨v', w', hr, ho, hg, _⟩ := run_append_own_at (P := Tryd.prog) W base 25 25 5 i0 _ 1 1 Tryd.underlying25 hi hz0 hz1 hz2 rfl (by decide) v n (NV .u8 xs) hown ad ys.length c (NV .u8 ys) (by simp [NV]) hR.cells
      (fun u hu => by obtain ⟨x, _, rfl⟩ := List.mem_map.1 hu; rfl) (by unfold maxLen; omega) (by omega) hb
    exact ⟨v', w', hr, own_cast ho rfl (by simp [NV]), hg⟩

theorem info_i32 : (Tryd.prog.info? 21).map (fun i => (i.zero, i.size, i.bytes)) = some (some (.int .i32 0), 1, 4) := by kernel_rfl
theorem app_i32 {W : World} {base : Nat} {v : Value} {n : Nat} {xs : List Int} {A : Option Addr} {ys : List Int} {m : Nat} (hm : ys.length = m) (c : Nat) (hR : RI .i32 W A ys) (hA : A = none → c = 0) (hown : W.ownsRow base 21 1 v n (NV .i32 xs)) (hn : n + m ≤ 100000) (hb : base ≤ W.heap.size) :
    ∃ v' w', (Builtin.append_ #[200, 200] 200 #[v, .slice A m c]).run Tryd.prog W = .ok v' w' ∧ w'.ownsRow base 21 1 v' (n + m) (NV .i32 (xs ++ ys)) ∧ W.grownBy w' v.ownBlock := by
  subst hm
  obtain ⟨i0, hi, hz0, hz1, hz2⟩ := info_parts info_i32
  rcases A with _ | ad
  · have h0 : ys.length = 0 := by
      rcases Nat.eq_zero_or_pos ys.length with h | h
      · exact h
      · obtain ⟨_, _, h, _⟩ := hR h
        cases h
    obtain rfl : ys = [] := List.eq_nil_of_length_eq_zero h0
    obtain rfl := hA rfl
    exact ⟨_, W, run_append_owned_none (P := Tryd.prog) (w := W) base 200 200 21 i0 1 Tryd.underlying200 hi _ n _ hown, by simpa using hown, World.grownBy.refl _ _⟩
  · obtain ⟨v', w', hr, ho, hg, _⟩ := run_append_own_at (P := Tryd.prog) W base 200 200 21 i0 _ 1 4 Tryd.underlying200 hi hz0 hz1 hz2 rfl (by decide) v n (NV .i32 xs) hown ad ys.length c (NV .i32 ys) (by simp [NV]) hR.cells
      (fun u hu => by obtain ⟨x, _, rfl⟩ := List.mem_map.1 hu; rfl) (by unfold maxLen; omega) (by omega) hb
    exact ⟨v', w', hr, own_cast ho rfl (by simp [NV]), hg⟩

end Go.Proofs.YtjihcpnaebghnaaDoor

/-
  Kept here: rows of bytes and of points that a call made: what was there is as it was.
-/
namespace Go.Proofs.YtjihcpnaebghnaaDoor
open Go.RowKit
theorem ret_int {k : IntKind} {a b : Int} (h : a = b) : Ending.returned (.int k a) = .returned (.int k b) := by rw [h]
theorem ret_bool {a b : Bool} (h : a = b) : Ending.returned (.bool a) = .returned (.bool b) := by rw [h]
theorem RI.lit {k : IntKind} (w : World) (ys : List Int) (e : TypeId) : RI k (w.alloc (.cells (NV k ys).toArray e)) (some ⟨w.heap.size, 0, none⟩) ys := fun _ =>
  ⟨_, _, rfl, by simp, fun i hi => by
    have h4 : (w.alloc (.cells (NV k ys).toArray e)).heap[w.heap.size]? = some (.cells (NV k ys).toArray e (0, 0)) := heap_alloc_new _ _
    unfold World.cell?
    dsimp only
    rw [h4]
    simp [NV, List.getD, hi]⟩
/-- A row of bytes of this call's own, and what was there is as it was. -/
structure Own8 (w : World) (v : Value) (xs : List Int) (W : World) : Prop where
  own : W.ownsRow w.heap.size 5 1 v xs.length (NV .u8 xs)
  below : Below w.heap.size w W
theorem Own8.to {w : World} {v : Value} {xs : List Int} {W W' : World} (h : Own8 w v xs W) (hb : Below W.heap.size W W') : Own8 w v xs W' := ⟨own_below h.own hb, h.below.trans (hb.mono h.below.size)⟩
theorem Own8.new (w : World) : Own8 w (.slice none 0 0) [] w := ⟨World.ownsRow_nil _ _ _ _, Below.refl _ _⟩
theorem Own8.app {w : World} {v : Value} {xs : List Int} {W : World} (h : Own8 w v xs W) (ys : List Int) (m : Nat) (hm : ys.length = m) (hn : xs.length + m ≤ 100000) :
    ∃ A n c w', (Builtin.append_ #[25, 25] 25 #[v, .slice (some ⟨W.heap.size, 0, none⟩) m m]).run Tryd.prog (W.alloc (.cells (NV .u8 ys).toArray 5)) = .ok (.slice A n c) w' ∧ Own8 w (.slice A n c) (xs ++ ys) w' := by
  have h1 := h.to ((Below.refl _ _).alloc (Nat.le_refl _) (.cells (NV .u8 ys).toArray 5))
  obtain ⟨v', w', r, o, g⟩ := app_u8 (ys := ys) hm m (RI.lit W ys 5) (fun e => by cases e) h1.own hn h1.below.size
  obtain ⟨A, c, rfl, _⟩ := own_slice o
  exact ⟨A, _, c, w', r, own_cast o (by simp [hm]) rfl, h1.below.grown g h1.below.size (ownBlock_le h.own)⟩
theorem Own8.ri {w : World} {A : Option Addr} {n c : Nat} {xs : List Int} {W : World} (h : Own8 w (.slice A n c) xs W) : RI .u8 W A xs ∧ n = xs.length := by
  obtain ⟨A', c', e, _⟩ := own_slice h.own
  injection e with e1 e2 e3
  subst e1 e2 e3
  refine ⟨fun hp => ?_, rfl⟩
  obtain ⟨g, e, _, hg, hc⟩ := own_cells h.own rfl hp
  subst e
  exact ⟨g, 0, rfl, hg, fun i hi => by rw [Nat.zero_add]; exact hc i hi⟩
/-- A row of this call's own, and what was there is as it was. -/
structure Own32 (w : World) (v : Value) (xs : List Int) (W : World) : Prop where
  own : W.ownsRow w.heap.size 21 1 v xs.length (NV .i32 xs)
  below : Below w.heap.size w W
theorem Own32.to {w : World} {v : Value} {xs : List Int} {W W' : World} (h : Own32 w v xs W) (hb : Below W.heap.size W W') : Own32 w v xs W' := ⟨own_below h.own hb, h.below.trans (hb.mono h.below.size)⟩
theorem Own32.new (w : World) : Own32 w (.slice none 0 0) [] w := ⟨World.ownsRow_nil _ _ _ _, Below.refl _ _⟩
theorem Own32.app {w : World} {v : Value} {xs : List Int} {W : World} (h : Own32 w v xs W) (hn : xs.length < 100000) (p : Int) :
    ∃ A c w', (Builtin.append_ #[200, 200] 200 #[v, .slice (some ⟨W.heap.size, 0, none⟩) 1 1]).run Tryd.prog (W.alloc (.cells #[.int .i32 p] 21)) = .ok (.slice A (xs.length + 1) c) w' ∧ Own32 w (.slice A (xs.length + 1) c) (xs ++ [p]) w' := by
  have h1 := h.to ((Below.refl _ _).alloc (Nat.le_refl _) (.cells #[.int .i32 p] 21))
  obtain ⟨v', w', r, o, g⟩ := app_i32 (ys := [p]) (m := 1) rfl 1 (RI.one .i32 W p 21) (fun e => by cases e) h1.own (by omega) h1.below.size
  obtain ⟨A, c, rfl, _⟩ := own_slice o
  exact ⟨A, c, w', r, own_cast o (by simp) rfl, h1.below.grown g h1.below.size (ownBlock_le h.own)⟩
end Go.Proofs.YtjihcpnaebghnaaDoor

/-
  Proved here: rows of ints of this call's own.
-/
set_option linter.unusedSimpArgs false
set_option linter.unusedVariables false
namespace Go.Proofs.YtjihcpnaebghnaaDoor
open Go.RowKit
theorem info_i64 : (Tryd.prog.info? 3).map (fun i => (i.zero, i.size, i.bytes)) = some (some (.int .i64 0), 1, 8) := by kernel_rfl
theorem app_i64 {W : World} {base : Nat} {v : Value} {n : Nat} {xs : List Int} {A : Option Addr} {ys : List Int} {m : Nat} (hm : ys.length = m) (c : Nat) (hR : RI .i64 W A ys) (hA : A = none → c = 0) (hown : W.ownsRow base 3 1 v n (NV .i64 xs)) (hn : n + m ≤ 100000) (hb : base ≤ W.heap.size) :
    ∃ v' w', (Builtin.append_ #[199, 199] 199 #[v, .slice A m c]).run Tryd.prog W = .ok v' w' ∧ w'.ownsRow base 3 1 v' (n + m) (NV .i64 (xs ++ ys)) ∧ W.grownBy w' v.ownBlock := by
  subst hm
  obtain ⟨i0, hi, hz0, hz1, hz2⟩ := info_parts info_i64
  rcases A with _ | ad
  · have h0 : ys.length = 0 := by
      rcases Nat.eq_zero_or_pos ys.length with h | h
      · exact h
      · obtain ⟨_, _, h, _⟩ := hR h
        cases h
    obtain rfl : ys = [] := List.eq_nil_of_length_eq_zero h0
    obtain rfl := hA rfl
    exact ⟨_, W, run_append_owned_none (P := Tryd.prog) (w := W) base 199 199 3 i0 1 Tryd.underlying199 hi _ n _ hown, by simpa using hown, World.grownBy.refl _ _⟩
  · obtain ⟨v', w', hr, ho, hg, _⟩ := run_append_own_at (P := Tryd.prog) W base 199 199 3 i0 _ 1 8 Tryd.underlying199 hi hz0 hz1 hz2 rfl (by decide) v n (NV .i64 xs) hown ad ys.length c (NV .i64 ys) (by simp [NV]) hR.cells
      (fun u hu => by obtain ⟨x, _, rfl⟩ := List.mem_map.1 hu; rfl) (by unfold maxLen; omega) (by omega) hb
    exact ⟨v', w', hr, own_cast ho rfl (by simp [NV]), hg⟩

structure OwnI (w : World) (v : Value) (xs : List Int) (W : World) : Prop where
  own : W.ownsRow w.heap.size 3 1 v xs.length (NV .i64 xs)
  below : Below w.heap.size w W
theorem OwnI.to {w : World} {v : Value} {xs : List Int} {W W' : World} (h : OwnI w v xs W) (hb : Below W.heap.size W W') : OwnI w v xs W' := ⟨own_below h.own hb, h.below.trans (hb.mono h.below.size)⟩
theorem OwnI.new (w : World) : OwnI w (.slice none 0 0) [] w := ⟨World.ownsRow_nil _ _ _ _, Below.refl _ _⟩
theorem OwnI.app {w : World} {v : Value} {xs : List Int} {W : World} (h : OwnI w v xs W) (hn : xs.length < 100000) (p : Int) :
    ∃ A c w', (Builtin.append_ #[199, 199] 199 #[v, .slice (some ⟨W.heap.size, 0, none⟩) 1 1]).run Tryd.prog (W.alloc (.cells #[.int .i64 p] 3)) = .ok (.slice A (xs.length + 1) c) w' ∧ OwnI w (.slice A (xs.length + 1) c) (xs ++ [p]) w' := by
  have h1 := h.to ((Below.refl _ _).alloc (Nat.le_refl _) (.cells #[.int .i64 p] 3))
  obtain ⟨v', w', r, o, g⟩ := app_i64 (ys := [p]) (m := 1) rfl 1 (RI.one .i64 W p 3) (fun e => by cases e) h1.own (by omega) h1.below.size
  obtain ⟨A, c, rfl, _⟩ := own_slice o
  exact ⟨A, c, w', r, own_cast o (by simp) rfl, h1.below.grown g h1.below.size (ownBlock_le h.own)⟩
/-- Behind another row. -/
theorem OwnI.apps {w : World} {v u : Value} {xs ys : List Int} {W W2 : World} (h : OwnI w v xs W) (hu : ∃ A c, u = .slice A ys.length c ∧ (A = none → c = 0) ∧ RI .i64 W2 A ys) (hb : Below W.heap.size W W2) (hn : xs.length + ys.length ≤ 100000) :
    ∃ A c w', (Builtin.append_ #[199, 199] 199 #[v, u]).run Tryd.prog W2 = .ok (.slice A (xs.length + ys.length) c) w' ∧ OwnI w (.slice A (xs.length + ys.length) c) (xs ++ ys) w' := by
  obtain ⟨A0, c0, rfl, hA, hR⟩ := hu
  have h1 := h.to hb
  obtain ⟨v', w', r, o, g⟩ := app_i64 (ys := ys) rfl c0 hR hA h1.own (by omega) h1.below.size
  obtain ⟨A, c, rfl, _⟩ := own_slice o
  exact ⟨A, c, w', r, own_cast o (by simp) rfl, h1.below.grown g h1.below.size (ownBlock_le h.own)⟩
theorem OwnI.ri {w : World} {v : Value} {xs : List Int} {W : World} (h : OwnI w v xs W) : ∃ A c, v = .slice A xs.length c ∧ (A = none → c = 0) ∧ RI .i64 W A xs := by
  obtain ⟨A, c, rfl, _, _, hz⟩ := own_slice h.own
  refine ⟨A, c, rfl, hz, fun hp => ?_⟩
  obtain ⟨g, rfl, _, hlt, hc⟩ := own_cells h.own rfl hp
  exact ⟨g, 0, rfl, hlt, fun i hi => by rw [Nat.zero_add]; exact hc i hi⟩
theorem OwnI.lit (w : World) (ys : List Int) (n : Nat) (hn : ys.length = n) (hm : n ≤ 1000) : OwnI w (.slice (some ⟨w.heap.size, 0, none⟩) n n) ys (w.alloc (.cells (NV .i64 ys).toArray 3)) := by
  subst hn
  refine ⟨?_, (Below.refl _ _).alloc (Nat.le_refl _) _⟩
  have h := World.ownsRow_lit (e := 3) (size := 1) (base := w.heap.size) w (NV .i64 ys).toArray ys.length (Nat.le_refl _) (by unfold maxLen; omega) (by simp)
  simpa using h
end Go.Proofs.YtjihcpnaebghnaaDoor
