/-
  Kept here: rows of truths of this call's own; of lists alone: which chunks of a map are there, how many, which are missing; a map's bytes.
-/
import Derived.Test.YtdlhpmbgpjjkoaaDoorMc
set_option linter.unusedSimpArgs false
set_option linter.unusedVariables false
namespace Go.Proofs.YtdlhpmbgpjjkoaaDoor
open Go.RowKit
/-- A row of truths. -/
abbrev TV (l : List Bool) : List Value := l.map Value.bool
/-- A slice of truths reads as these. -/
def TI (w : World) (A : Option Addr) (ys : List Bool) : Prop := 0 < ys.length → ∃ b off, A = some ⟨b, off, none⟩ ∧ b < w.heap.size ∧ ∀ i, i < ys.length → w.cell? ⟨b, off + i, none⟩ = some (.bool (ys.getD i false))
theorem TI.below {w w' : World} {A : Option Addr} {ys : List Bool} (h : TI w A ys) (hb : Below w.heap.size w w') : TI w' A ys := fun hl => by
  obtain ⟨b, off, e, hlt, hc⟩ := h hl
  exact ⟨b, off, e, Nat.lt_of_lt_of_le hlt hb.size, fun i hi => (hb.cell (p := ⟨b, off + i, none⟩) hlt).trans (hc i hi)⟩
theorem TI.one (w : World) (x : Bool) (e : TypeId) : TI (w.alloc (.cells #[.bool x] e)) (some ⟨w.heap.size, 0, none⟩) [x] := fun _ =>
  ⟨_, _, rfl, by simp, fun i hi => by
    obtain rfl : i = 0 := by simpa using hi
    simp⟩
theorem TI.cells {w : World} {ad : Addr} {ys : List Bool} (h : TI w (some ad) ys) : ∀ j u, (TV ys)[j]? = some u → w.cell? (ad.add j) = some u := by
  intro j u hj
  obtain ⟨hjl, rfl⟩ := List.getElem?_eq_some_iff.1 hj
  have hj' : j < ys.length := by simpa [TV] using hjl
  obtain ⟨b, off, e, _, hc⟩ := h (by omega)
  injection e with e
  subst e
  rw [Go.WideShapes.add_plain, hc j hj']
  simp [TV, List.getD, hj']
theorem info_bool : (Tryd.prog.info? 4).map (fun i => (i.zero, i.size, i.bytes)) = some (some (.bool false), 1, 1) := by kernel_rfl
theorem app_bool {W : World} {base : Nat} {v : Value} {n : Nat} {xs : List Bool} {A : Option Addr} {ys : List Bool} {m : Nat} (hm : ys.length = m) (c : Nat) (hR : TI W A ys) (hA : A = none → c = 0) (hown : W.ownsRow base 4 1 v n (TV xs)) (hn : n + m ≤ 100000) (hb : base ≤ W.heap.size) :
    ∃ v' w', (Builtin.append_ #[46, 46] 46 #[v, .slice A m c]).run Tryd.prog W = .ok v' w' ∧ w'.ownsRow base 4 1 v' (n + m) (TV (xs ++ ys)) ∧ W.grownBy w' v.ownBlock := by
  subst hm
  obtain ⟨i0, hi, hz0, hz1, hz2⟩ := info_parts info_bool
  rcases A with _ | ad
  · have h0 : ys.length = 0 := by
      rcases Nat.eq_zero_or_pos ys.length with h | h
      · exact h
      · obtain ⟨_, _, h, _⟩ := hR h
        cases h
    obtain rfl : ys = [] := List.eq_nil_of_length_eq_zero h0
    obtain rfl := hA rfl
    exact ⟨_, W, run_append_owned_none (P := Tryd.prog) (w := W) base 46 46 4 i0 1 Tryd.underlying46 hi _ n _ hown, by simpa using hown, World.grownBy.refl _ _⟩
  · obtain ⟨v', w', hr, ho, hg, _⟩ := run_append_own_at (P := Tryd.prog) W base 46 46 4 i0 _ 1 1 Tryd.underlying46 hi hz0 hz1 hz2 rfl (by decide) v n (TV xs) hown ad ys.length c (TV ys) (by simp [TV]) hR.cells
      (fun u hu => by obtain ⟨x, _, rfl⟩ := List.mem_map.1 hu; rfl) (by unfold maxLen; omega) (by omega) hb
    exact ⟨v', w', hr, own_cast ho rfl (by simp [TV]), hg⟩
/-- A row of truths of this call's own, and what was there is as it was. -/
structure OwnB (w : World) (v : Value) (xs : List Bool) (W : World) : Prop where
  own : W.ownsRow w.heap.size 4 1 v xs.length (TV xs)
  below : Below w.heap.size w W
theorem OwnB.to {w : World} {v : Value} {xs : List Bool} {W W' : World} (h : OwnB w v xs W) (hb : Below W.heap.size W W') : OwnB w v xs W' := ⟨own_below h.own hb, h.below.trans (hb.mono h.below.size)⟩
theorem OwnB.new (w : World) : OwnB w (.slice none 0 0) [] w := ⟨World.ownsRow_nil _ _ _ _, Below.refl _ _⟩
theorem OwnB.app {w : World} {v : Value} {xs : List Bool} {W : World} (h : OwnB w v xs W) (hn : xs.length < 100000) (p : Bool) :
    ∃ A c w', (Builtin.append_ #[46, 46] 46 #[v, .slice (some ⟨W.heap.size, 0, none⟩) 1 1]).run Tryd.prog (W.alloc (.cells #[.bool p] 4)) = .ok (.slice A (xs.length + 1) c) w' ∧ OwnB w (.slice A (xs.length + 1) c) (xs ++ [p]) w' := by
  have h1 := h.to ((Below.refl _ _).alloc (Nat.le_refl _) (.cells #[.bool p] 4))
  obtain ⟨v', w', r, o, g⟩ := app_bool (ys := [p]) (m := 1) rfl 1 (TI.one W p 4) (fun e => by cases e) h1.own (by omega) h1.below.size
  obtain ⟨A, c, rfl, _⟩ := own_slice o
  exact ⟨A, c, w', r, own_cast o (by simp) rfl, h1.below.grown g h1.below.size (ownBlock_le h.own)⟩
theorem TV_getElem {l : List Bool} {i : Nat} (hi : i < l.length) : (TV l)[i]? = some (.bool (l.getD i false)) := by simp [TV, List.getD, hi]
theorem OwnB.ti {w : World} {v : Value} {xs : List Bool} {W : World} (h : OwnB w v xs W) : ∃ A c, v = .slice A xs.length c ∧ (A = none → c = 0) ∧ TI W A xs := by
  obtain ⟨A, c, rfl, _, _, hz⟩ := own_slice h.own
  refine ⟨A, c, rfl, hz, fun hp => ?_⟩
  obtain ⟨g, c', hv, _, hlt⟩ := h.own.form hp
  injection hv with hA _ _
  subst hA
  exact ⟨g, 0, rfl, hlt, fun i hi => by rw [Nat.zero_add, h.own.cellAt i (by omega), TV_getElem hi]⟩

/-- Which chunks are there. -/
def bitsL (n b : Nat) : List Bool := (List.range n).map b.testBit
theorem bitsL_len (n b : Nat) : (bitsL n b).length = n := by simp [bitsL]
theorem bitsL_at {n b i : Nat} (h : i < n) : (bitsL n b).getD i false = b.testBit i := by simp [bitsL, List.getD, h]
theorem bitsL_succ (n b : Nat) : bitsL (n + 1) b = bitsL n b ++ [b.testBit n] := by simp [bitsL, List.range_succ]
/-- How many are there. -/
def cntB : Nat → Nat → Nat
  | 0, _ => 0
  | n + 1, b => cntB n b + (if b.testBit n = true then 1 else 0)
theorem cntB_le : ∀ n b : Nat, cntB n b ≤ n
  | 0, _ => Nat.le_refl _
  | n + 1, b => by
    have := cntB_le n b
    unfold cntB
    split <;> omega
/-- Which are missing. -/
def misL : Nat → Nat → List Int
  | 0, _ => []
  | n + 1, b => misL n b ++ (if b.testBit n = true then [] else [(n : Int)])
theorem misL_len : ∀ n b : Nat, cntB n b + (misL n b).length = n
  | 0, _ => rfl
  | n + 1, b => by
    have := misL_len n b
    unfold cntB misL
    rw [List.length_append]
    split <;> simp <;> omega
theorem misL_le (n b : Nat) : (misL n b).length ≤ n := by have := misL_len n b; omega
/-- A map's bytes. -/
def byR : Nat → Nat → List Int
  | 0, _ => []
  | i + 1, b => byR i b ++ [((b / 2 ^ (8 * i) % 256 : Nat) : Int)]
theorem byR_len : ∀ i b : Nat, (byR i b).length = i
  | 0, _ => rfl
  | i + 1, b => by unfold byR; rw [List.length_append, byR_len i b]; rfl
theorem byR_at : ∀ {i j b : Nat}, j < i → (byR i b).getD j 0 = ((b / 2 ^ (8 * j) % 256 : Nat) : Int)
  | 0, j, b, h => absurd h (by omega)
  | i + 1, j, b, h => by
    unfold byR
    rcases Nat.lt_or_ge j i with h1 | h1
    · have := byR_at (b := b) h1
      rw [← this]
      simp [List.getD, List.getElem?_append_left (show j < (byR i b).length by rw [byR_len]; exact h1)]
    · obtain rfl : j = i := by omega
      simp [List.getD, List.getElem?_append_right (show (byR j b).length ≤ j by rw [byR_len]; exact Nat.le_refl _), byR_len]
def sizeB (n : Nat) : Nat := (n + 7) / 8
def wrB (n b : Nat) : List Int := (n : Int) :: byR (sizeB n) b
theorem wrB_len (n b : Nat) : (wrB n b).length = sizeB n + 1 := by simp [wrB, byR_len]
end Go.Proofs.YtdlhpmbgpjjkoaaDoor
