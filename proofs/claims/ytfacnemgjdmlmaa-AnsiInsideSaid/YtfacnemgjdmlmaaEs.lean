/-
  Proved here: of AnsiFeeds: the program's parser and the document's, side by side.
-/
import Derived.Test.YtfacnemgjdmlmaaEp
set_option linter.unusedSimpArgs false
set_option linter.unusedVariables false
namespace Go.Proofs.Ytfacnemgjdmlmaa
open Go.RowKit
/-- The program's parser, in block g, and the document's, in block g + 1: their rows are apart. -/
structure Two (w0 : World) (vp vt v : Value) (s : PP) (L : List Int) (W : World) : Prop where
  q : Qs (w0.heap.size + 2) w0.heap.size vp vt s W
  x : Ps (w0.heap.size + 2) (w0.heap.size + 1) v L W
  dj : v.ownBlock = none ∨ v.ownBlock ≠ vt.ownBlock
  below : Below w0.heap.size w0 W
theorem Two.to {w0 : World} {vp vt v : Value} {s : PP} {L : List Int} {W W' : World} (h : Two w0 vp vt v s L W) (hb : Below W.heap.size W W') : Two w0 vp vt v s L W' :=
  ⟨h.q.below hb, ⟨(hb.block _ (lt_of_block h.x.blk)).trans h.x.blk, own_below h.x.own hb, h.x.low, Nat.le_trans h.x.big hb.size⟩, h.dj, h.below.trans (hb.mono h.below.size)⟩
/-- The program's parser has been fed. -/
theorem Two.fed {w0 : World} {vp vt v vp' vt' v2 : Value} {s s' : PP} {L : List Int} {W W' : World} {es : List (Ev × Value)} (h : Two w0 vp vt v s L W) (hF : FI (w0.heap.size + 2) w0.heap.size vp vt W vp' vt' s' v2 es W') : Two w0 vp' vt' v s' L W' := by
  have hv : ∀ k, v.ownBlock = some k → W'.heap[k]? = W.heap[k]? := fun k hk => by
    have h1 := own_lt h.x.own hk
    have h2 := ownBlock_le h.x.own k hk
    refine hF.f.block k h1 (by omega) (fun e => ?_) (fun e => ?_)
    · rcases own_ne h.x.own h.q.op (by decide) with y | y
      · rw [y] at hk; cases hk
      · exact y (hk.trans e)
    · rcases h.dj with y | y
      · rw [y] at hk; cases hk
      · exact y (hk.trans e)
  refine ⟨hF.q, ⟨?_, own_keep h.x.own hv, h.x.low, Nat.le_trans h.x.big hF.f.size⟩, ?_, hF.belowW (Nat.le_refl _) ⟨s, h.q⟩ h.below⟩
  · refine (hF.f.block _ (lt_of_block h.x.blk) (by omega) (fun e => ?_) (fun e => ?_)).trans h.x.blk
    · have := ownBlock_le h.q.op _ e.symm; omega
    · have := ownBlock_le h.q.ot _ e.symm; omega
  · cases hk : v.ownBlock with
    | none => exact .inl rfl
    | some k =>
      right
      intro e
      rcases hF.st k e.symm with y | y
      · rcases h.dj with z | z
        · rw [z] at hk; cases hk
        · exact z (hk.trans y.symm)
      · have := own_lt h.x.own hk; omega
/-- What the document's parser leaves as it was. -/
theorem Two.keep {w0 : World} {vp vt v : Value} {s : PP} {L : List Int} {W W' : World} (h : Two w0 vp vt v s L W) (hf : Fr (w0.heap.size + 1) v W W') {B : Nat} {e : TypeId} {size n : Nat} {u : Value} {xs : List Value} (ho : W.ownsRow B e size u n xs) (hB : w0.heap.size + 2 ≤ B) (he : e ≠ 21 ∨ (u.ownBlock = none ∨ u.ownBlock ≠ v.ownBlock)) : W'.ownsRow B e size u n xs :=
  own_keep ho (fun k hk => by
    have h1 := own_lt ho hk
    have h2 := ownBlock_le ho k hk
    refine hf.block k h1 (by omega) (fun e' => ?_)
    rcases he with he | he
    · rcases own_ne ho h.x.own he with y | y
      · rw [y] at hk; cases hk
      · exact y (hk.trans e')
    · rcases he with y | y
      · rw [y] at hk; cases hk
      · exact y (hk.trans e'))
/-- The document's parser has been fed. -/
theorem Two.rfed {w0 : World} {vp vt v v' : Value} {s : PP} {L L' : List Int} {W W' : World} (h : Two w0 vp vt v s L W) (hx : Ps (w0.heap.size + 2) (w0.heap.size + 1) v' L' W') (hf : Fr (w0.heap.size + 1) v W W') (hs : ∀ k, v'.ownBlock = some k → v.ownBlock = some k ∨ W.heap.size ≤ k) : Two w0 vp vt v' s L' W' := by
  have hvt : vt.ownBlock = none ∨ vt.ownBlock ≠ v.ownBlock := by
    cases hk : vt.ownBlock with
    | none => exact .inl rfl
    | some k =>
      right
      intro e
      rcases h.dj with z | z
      · rw [z] at e; cases e
      · exact z (e.symm.trans hk.symm)
  refine ⟨⟨?_, h.keep hf h.q.op (Nat.le_refl _) (.inl (by decide)), h.keep hf h.q.ot (Nat.le_refl _) (.inr hvt), h.q.low, Nat.le_trans h.q.big hf.size⟩, hx, ?_, ?_⟩
  · refine (hf.block _ h.q.lt (by omega) (fun e => ?_)).trans h.q.blk
    have := ownBlock_le h.x.own _ e.symm; omega
  · cases hk : v'.ownBlock with
    | none => exact .inl rfl
    | some k =>
      right
      intro e
      rcases hs k hk with y | y
      · rcases h.dj with z | z
        · rw [z] at y; cases y
        · exact z (y.trans e)
      · have := own_lt h.q.ot e.symm; omega
  · refine ⟨hf.os.trans h.below.os, hf.tape.trans h.below.tape, hf.output.trans h.below.output, Nat.le_trans h.below.size hf.size, fun k hk => ?_⟩
    refine (hf.block k (Nat.lt_of_lt_of_le hk h.below.size) (by omega) (fun e => ?_)).trans (h.below.block k hk)
    have := ownBlock_le h.x.own _ e.symm; omega
/-- Events of the program's stay, too. -/
theorem Two.evo {w0 : World} {vp vt v u : Value} {s : PP} {L : List Int} {W W' : World} {es : List (Ev × Value)} (h : Two w0 vp vt v s L W) (hf : Fr (w0.heap.size + 1) v W W') (he : EvO (w0.heap.size + 2) W u es) : EvO (w0.heap.size + 2) W' u es :=
  ⟨h.keep hf he.own (Nat.le_refl _) (.inl (by decide)), fun p hp => h.keep hf (he.par p hp) (Nat.le_refl _) (.inl (by decide))⟩
/-- The document's event, as a row. -/
theorem Out.evq {B B0 : Nat} {out : Value} {ev : Option Ev} {W : World} (h : Out B0 out ev W) (hB : B ≤ B0) : ∃ A c, out = .slice A ev.toList.length c ∧ EvQ B W A ev.toList := by
  cases ev with
  | none =>
    obtain rfl : out = .slice none 0 0 := h
    exact ⟨none, 0, rfl, fun hp => absurd hp (by simp)⟩
  | some e =>
    obtain ⟨b, pv, rfl, hr, hb, ho, _⟩ := h
    refine ⟨_, 1, rfl, fun _ => ⟨b, 0, rfl, by omega, lt_of_block hr, fun i hi => ?_⟩⟩
    obtain rfl : i = 0 := by simpa using hi
    obtain ⟨A', c, rfl, h1, _, _⟩ := own_slice ho
    have hc : ∀ k, k < 7 → W.cell? ⟨b, k, none⟩ = (evL e (.slice A' e.params.length c))[k]? := fun k hk => by
      unfold World.cell?
      simp only [hr]
      simp
    have hle := ownBlock_le ho
    refine ⟨A', c, hc 0 (by omega), hc 1 (by omega), hc 2 (by omega), hc 3 (by omega), hc 4 (by omega), hc 5 (by omega), hc 6 (by omega), h1, fun hpp => ?_, fun bl o q e' => ?_⟩
    · obtain ⟨g', rfl, _, hlt', hcc⟩ := own_cells ho rfl hpp
      exact ⟨g', 0, rfl, hlt', fun j hj => by rw [Nat.zero_add]; exact hcc j hj⟩
    · subst e'
      exact Nat.le_trans hB (hle bl rfl)
end Go.Proofs.Ytfacnemgjdmlmaa
