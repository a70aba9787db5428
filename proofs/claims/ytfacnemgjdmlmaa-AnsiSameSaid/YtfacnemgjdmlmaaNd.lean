/-
  Proved here: of the document's parser: what it has; isOsc, Idle.
-/
import Derived.Test.YtfacnemgjdmlmaaNc
import Derived.Deep.QuietTactic
import Derived.BigQuiet
set_option linter.unusedSimpArgs false
set_option linter.unusedVariables false
namespace Go.Proofs.Ytfacnemgjdmlmaa
open Go.RowKit
/-- A parser: its block g, what came in a row from B on. -/
structure Ps (B g : Nat) (v : Value) (L : List Int) (W : World) : Prop where
  blk : W.heap[g]? = some (.cells #[v] 28 (0, 0))
  own : W.ownsRow B 21 1 v L.length (NV .i32 L)
  low : g < B
  big : B ≤ W.heap.size
theorem Ps.c0 {B g : Nat} {v : Value} {L : List Int} {W : World} (h : Ps B g v L W) : W.cell? ⟨g, 0, none⟩ = some v := by unfold World.cell?; simp only [h.blk]; rfl
theorem Ps.free {B g : Nat} {v : Value} {L : List Int} {W : World} (h : Ps B g v L W) : W.frozen? ⟨g, 0, none⟩ = false := frozen_of_row W _ 0 _ _ h.blk
theorem Ps.drew {B g : Nat} {v : Value} {L : List Int} {W : World} (h : Ps B g v L W) : Ps B g v L W.drew := ⟨h.blk, own_below h.own (Below.refl _ _).drew, h.low, h.big⟩
/-- The row. -/
theorem Ps.row {B g : Nat} {v : Value} {L : List Int} {W : World} (h : Ps B g v L W) : ∃ A c, v = .slice A L.length c ∧ L.length ≤ c ∧ c ≤ maxLen ∧ (A = none → c = 0) ∧ RI .i32 W A L ∧ (∀ b o q, A = some ⟨b, o, q⟩ → B ≤ b) := by
  obtain ⟨A, c, rfl, h1, h2, h3⟩ := own_slice h.own
  refine ⟨A, c, rfl, h1, h2, h3, fun hp => ?_, fun b o q e => ?_⟩
  · obtain ⟨b, rfl, _, hlt, hc⟩ := own_cells h.own rfl hp
    exact ⟨b, 0, rfl, hlt, fun i hi => by rw [Nat.zero_add]; exact hc i hi⟩
  · subst e
    exact ownBlock_le h.own b rfl
/-- What was there is as it was, but for the parser and its row. -/
structure Fr (g : Nat) (v : Value) (w w' : World) : Prop where
  os : w'.os = w.os
  tape : w'.tape = w.tape
  output : w'.output = w.output
  size : w.heap.size ≤ w'.heap.size
  block : ∀ k, k < w.heap.size → k ≠ g → some k ≠ v.ownBlock → w'.heap[k]? = w.heap[k]?
theorem Fr.refl (g : Nat) (v : Value) (w : World) : Fr g v w w := ⟨rfl, rfl, rfl, Nat.le_refl _, fun _ _ _ _ => rfl⟩
theorem Fr.of_below {g : Nat} {v : Value} {w w' : World} (h : Below w.heap.size w w') : Fr g v w w' := ⟨h.os, h.tape, h.output, h.size, fun k hk _ _ => h.block k hk⟩
theorem Fr.setCell {g : Nat} {v : Value} {a w : World} (h : Fr g v a w) (i : Nat) (x : Value) : Fr g v a (w.setCell ⟨g, i, none⟩ x) :=
  ⟨h.os, h.tape, h.output, by simpa using h.size, fun k h1 h2 h3 => (heap_setCell_other w _ k x h2).trans (h.block k h1 h2 h3)⟩
theorem Fr.more {g : Nat} {v : Value} {a w w' : World} (h : Fr g v a w) (hb : Below a.heap.size w w') : Fr g v a w' :=
  ⟨hb.os.trans h.os, hb.tape.trans h.tape, hb.output.trans h.output, Nat.le_trans h.size hb.size, fun k h1 h2 h3 => (hb.block k h1).trans (h.block k h1 h2 h3)⟩
def oscB (L : List Int) : Bool := decide (2 ≤ L.length) && decide (L.getD 1 0 = 93)
theorem rp_osc {B g : Nat} {v : Value} {L : List Int} {w : World} (h : Ps B g v L w) (hn : L.length ≤ 100000) : Calls Try.prog 23 #[.pointer (some ⟨g, 0, none⟩)] w fun e w' => e = .returned (.bool (oscB L)) ∧ w = w' := by
  have c0 := h.c0
  obtain ⟨A, c, rfl, _, _, _, hR, _⟩ := h.row
  obtain ⟨n, hln⟩ : ∃ n, L.length = n := ⟨_, rfl⟩
  rw [hln] at c0 hn
  by_cases h2 : 2 ≤ n
  · obtain ⟨b, off, rfl, _, hc⟩ := hR (by omega)
    have c1 := hc 1 (by omega)
    obtain ⟨x, hx⟩ : ∃ x, L.getD 1 0 = x := ⟨_, rfl⟩
    rw [hx] at c1
    have e : oscB L = (x == 93) := by unfold oscB; rw [hln, hx, decide_eq_true h2]; simp only [Bool.true_and]; exact Bool.eq_iff_iff.2 (by simp)
    rw [e]
    have d1 : decide ((2 : Int) ≤ (n : Int)) = true := by simp; omega
    have d2 : decide (2 ≤ n) = true := by simpa using h2
    have g1 : (1 : Int) < (n : Int) := by omega
    have g2 : 1 < n := by omega
    clear hR hc hx e h2 h hln
    go_enter Try.func23, Try.ntmps23
    go_wp2
    go_ret
    exact ⟨rfl, rfl⟩
  · have e : oscB L = false := by unfold oscB; rw [hln]; simp; omega
    rw [e]
    have d1 : decide ((2 : Int) ≤ (n : Int)) = false := by simp; omega
    have d2 : decide (2 ≤ n) = false := by simpa using h2
    clear hR e h2 h hln
    go_enter Try.func23, Try.ntmps23
    go_wp2
    go_ret
    exact ⟨rfl, rfl⟩
theorem rp_idle {B g : Nat} {v : Value} {L : List Int} {w : World} (h : Ps B g v L w) : Calls Try.prog 13 #[.pointer (some ⟨g, 0, none⟩)] w fun e w' => e = .returned (.bool (decide (L = []))) ∧ w = w' := by
  have c0 := h.c0
  obtain ⟨A, c, rfl, _⟩ := h.row
  obtain ⟨n, hln⟩ : ∃ n, L.length = n := ⟨_, rfl⟩
  have e : decide (L = []) = ((n : Int) == 0) := by rw [← hln]; exact Bool.eq_iff_iff.2 (by simp)
  rw [e]
  rw [hln] at c0
  clear h hln e
  go_enter Try.func13, Try.ntmps13
  go_wp2
  go_ret
  exact ⟨ret_bool (by simp), rfl⟩
end Go.Proofs.Ytfacnemgjdmlmaa
