/-
  Proved here: which chunks come one behind the other (lists alone); Costs of a sender that New made.
-/
import Derived.Test.YtdlhpmbgpjjkoaaDoorFrd
set_option linter.unusedSimpArgs false
set_option linter.unusedVariables false
namespace Go.Proofs.YtdlhpmbgpjjkoaaDoor
open Go.RowKit
/-- Chunks one behind the other, each told. -/
def Chain (N b : Nat) : Nat → List Nat → Nat → Prop
  | q, [], q' => q = q'
  | q, j :: js, q' => IsNext N b q j ∧ Chain N b (j + 1) js q'
theorem Chain.snoc {N b j : Nat} : ∀ {q q' : Nat} {js : List Nat}, Chain N b q js q' → IsNext N b q' j → Chain N b q (js ++ [j]) (j + 1)
  | q, q', [], h, hj => by
    have e : q = q' := h
    subst e
    exact ⟨hj, rfl⟩
  | q, q', k :: js, h, hj => ⟨h.1, Chain.snoc h.2 hj⟩
/-- What is known to a copy to which all that is told becomes known. -/
def Ph (N b p q B : Nat) : Prop :=
  (p ≤ q ∧ ∀ k, k < N → (B.testBit k = true ↔ (b.testBit k = true ∨ (p ≤ k ∧ k < q)))) ∨ (q ≤ p ∧ ∀ k, k < N → (B.testBit k = true ↔ (b.testBit k = true ∨ p ≤ k ∨ k < q)))
theorem Ph.start (N b p : Nat) : Ph N b p p b := .inl ⟨Nat.le_refl _, fun k _ => ⟨.inl, fun h => h.elim id fun h => by omega⟩⟩
theorem or_bit (B j k : Nat) : (B ||| 2 ^ j).testBit k = true ↔ (B.testBit k = true ∨ j = k) := by
  rw [Nat.testBit_or, Nat.testBit_two_pow]
  simp
theorem Ph.step {N b p q B j : Nat} (h : Ph N b p q B) (hj : IsNext N B p j) : IsNext N b q j ∧ Ph N b p (j + 1) (B ||| 2 ^ j) := by
  obtain ⟨j1, j2, j3⟩ := hj
  have j2' : ¬ B.testBit j = true := by rw [j2]; decide
  rcases h with ⟨hpq, h⟩ | ⟨hpq, h⟩
  · have hb := h j j1
    have nb : ¬ b.testBit j = true := fun e => j2' (hb.2 (.inl e))
    have nb' : b.testBit j = false := by simpa using nb
    have nq : ¬ (p ≤ j ∧ j < q) := fun e => j2' (hb.2 (.inr e))
    rcases j3 with ⟨a1, a2⟩ | ⟨a1, a2⟩
    · refine ⟨⟨j1, nb', .inl ⟨by omega, fun k k1 k2 => ?_⟩⟩, .inl ⟨by omega, fun k hk => ?_⟩⟩
      · have := (h k (by omega)).1 (a2 k (by omega) k2)
        rcases this with e | e
        · exact e
        · omega
      · rw [or_bit, h k hk]
        constructor
        · rintro (e | e)
          · rcases e with e | e
            · exact .inl e
            · exact .inr (by omega)
          · exact .inr (by omega)
        · rintro (e | e)
          · exact .inl (.inl e)
          · by_cases hkj : j = k
            · exact .inr hkj
            · exact .inl ((h k hk).1 (a2 k e.1 (by omega)))
    · have jp : j < p := by
        refine Nat.lt_of_not_le fun hle => j2' (a1 j hle j1)
      refine ⟨⟨j1, nb', .inr ⟨fun k k1 k2 => ?_, fun k k1 => ?_⟩⟩, .inr ⟨by omega, fun k hk => ?_⟩⟩
      · rcases (h k k2).1 (a1 k (by omega) k2) with e | e
        · exact e
        · omega
      · rcases (h k (by omega)).1 (a2 k k1) with e | e
        · exact e
        · omega
      · rw [or_bit]
        constructor
        · rintro (e | e)
          · rcases (h k hk).1 e with e | e
            · exact .inl e
            · exact .inr (.inl e.1)
          · exact .inr (.inr (by omega))
        · rintro (e | e | e)
          · exact .inl ((h k hk).2 (.inl e))
          · exact .inl (a1 k e hk)
          · by_cases hkj : j = k
            · exact .inr hkj
            · exact .inl (a2 k (by omega))
  · have hb := h j j1
    have nb : ¬ b.testBit j = true := fun e => j2' (hb.2 (.inl e))
    have nb' : b.testBit j = false := by simpa using nb
    have np : ¬ p ≤ j := fun e => j2' (hb.2 (.inr (.inl e)))
    have nq : ¬ j < q := fun e => j2' (hb.2 (.inr (.inr e)))
    rcases j3 with ⟨a1, _⟩ | ⟨a1, a2⟩
    · omega
    · refine ⟨⟨j1, nb', .inl ⟨by omega, fun k k1 k2 => ?_⟩⟩, .inr ⟨by omega, fun k hk => ?_⟩⟩
      · rcases (h k (by omega)).1 (a2 k k2) with e | e
        · exact e
        · omega
      · rw [or_bit, h k hk]
        constructor
        · rintro (e | e)
          · rcases e with e | e | e
            · exact .inl e
            · exact .inr (.inl e)
            · exact .inr (.inr (by omega))
          · exact .inr (.inr (by omega))
        · rintro (e | e | e)
          · exact .inl (.inl e)
          · exact .inl (.inr (.inl e))
          · by_cases hkj : j = k
            · exact .inr hkj
            · exact .inl ((h k hk).1 (a2 k (by omega)))
theorem cnt_or {B j : Nat} (hj : B.testBit j = false) : ∀ i : Nat, cntB i (B ||| 2 ^ j) = cntB i B + (if j < i then 1 else 0)
  | 0 => by simp [cntB]
  | i + 1 => by
    unfold cntB
    rw [cnt_or hj i]
    by_cases hij : j = i
    · subst hij
      rw [if_pos ((or_bit B j j).2 (.inr rfl)), if_neg (show ¬ j < j by omega), if_neg (show ¬ B.testBit j = true by rw [hj]; decide), if_pos (show j < j + 1 by omega)]
    · by_cases hb : B.testBit i = true
      · rw [if_pos ((or_bit B j i).2 (.inl hb)), if_pos hb]
        by_cases hlt : j < i
        · rw [if_pos hlt, if_pos (by omega)] <;> omega
        · rw [if_neg hlt, if_neg (by omega)]
      · rw [if_neg (fun e => ((or_bit B j i).1 e).elim hb hij), if_neg hb]
        by_cases hlt : j < i
        · rw [if_pos hlt, if_pos (by omega)]
        · rw [if_neg hlt, if_neg (by omega)]
theorem or_right {N B j : Nat} (h : rB N B = true) (hj : j < N) : rB N (B ||| 2 ^ j) = true := by
  obtain ⟨h1, h2⟩ := rB_parts' h
  rw [rB_in h1]
  exact decide_eq_true (Nat.or_lt_two_pow h2 (Nat.pow_lt_pow_right (by omega) hj))
/-- The lengths of chunks. -/
def lensL (n : Nat) (js : List Nat) : List Int := js.map fun j => ((lenS n j : Nat) : Int)
theorem lensL_len (n : Nat) (js : List Nat) : (lensL n js).length = js.length := by simp [lensL]
theorem lensL_snoc (n : Nat) (js : List Nat) (j : Nat) : lensL n (js ++ [j]) = lensL n js ++ [((lenS n j : Nat) : Int)] := by simp [lensL]
/-- What Costs answers. -/
def CoPost (N b p n most : Nat) (z : Bool) (w : World) (e : Ending) (w' : World) : Prop :=
  ∃ (v : Value) (js : List Nat) (q' : Nat), e = .returned v ∧ Chain N b p js q' ∧ js.length = min most (lfS z N b) ∧ w'.ownsRow w.heap.size 3 1 v js.length (NV .i64 (lensL n js)) ∧ Below w.heap.size w w'
section
variable {w : World} {g : Nat} {id : Nat} {nm : ByteArray} {sum : List Nat} {bs : List Int} {N b p : Nat} {z : Bool}
theorem Sd.belowB {B : Nat} {a w' : World} (h : Sd a g id nm sum bs N b p z) (hb : Below B a w') (hg : g < B) : Sd w' g id nm sum bs N b p z := by
  obtain ⟨A, c, hh, hr, h0, h3⟩ := h.ex
  refine ⟨⟨A, c, (hb.block g hg).trans hh, fun hp => ?_, h0, h3⟩, h.id1, h.sum32, h.right, h.num, h.size, h.at64⟩
  obtain ⟨k, off, e, hlt, hc⟩ := hr hp
  have hk : k < B := by have := h0 _ e; simp at this; omega
  exact ⟨k, off, e, Nat.lt_of_lt_of_le hlt hb.size, fun i hi => (hb.cell (p := ⟨k, off + i, none⟩) hk).trans (hc i hi)⟩
/-- A copy and what it came of, a row of lengths above both. -/
structure CoS (w : World) (k g : Nat) (id : Nat) (nm : ByteArray) (sum : List Nat) (bs : List Int) (N b p B : Nat) (v : Value) (js : List Nat) (q : Nat) (W : World) : Prop where
  sk : Sd W k id nm sum bs N B p false
  sg : Sd W g id nm sum bs N b p false
  gk : g < k
  own : W.ownsRow (k + 1) 3 1 v js.length (NV .i64 (lensL bs.length js))
  chain : Chain N b p js q
  ph : Ph N b p q B
  cnt : cntB N B = cntB N b + js.length
  below : Below w.heap.size w W
  wk : w.heap.size ≤ k
theorem CoS.to {k B q : Nat} {v : Value} {js : List Nat} {W W' : World} (h : CoS w k g id nm sum bs N b p B v js q W) (hb : Below W.heap.size W W') : CoS w k g id nm sum bs N b p B v js q W' :=
  ⟨h.sk.below hb, h.sg.below hb, h.gk, own_below h.own hb, h.chain, h.ph, h.cnt, h.below.trans (hb.mono h.below.size), h.wk⟩
/-- One length more. -/
theorem CoS.app {k B q j : Nat} {v : Value} {js : List Nat} {W : World} (h : CoS w k g id nm sum bs N b p B v js q W) (hn : js.length < 100) :
    ∃ A c w', (Builtin.append_ #[60, 60] 60 #[v, .slice (some ⟨W.heap.size, 0, none⟩) 1 1]).run Tryd.prog (W.alloc (.cells #[.int .i64 ((lenS bs.length j : Nat) : Int)] 3)) = .ok (.slice A (js.length + 1) c) w' ∧
      Sd w' k id nm sum bs N B p false ∧ Sd w' g id nm sum bs N b p false ∧ w'.ownsRow (k + 1) 3 1 (.slice A (js.length + 1) c) (js.length + 1) (NV .i64 (lensL bs.length (js ++ [j]))) ∧ Below w.heap.size w w' := by
  have ha := (Below.refl W.heap.size W).alloc (Nat.le_refl _) (.cells #[.int .i64 ((lenS bs.length j : Nat) : Int)] 3)
  have h1 := h.to ha
  obtain ⟨v', w', r, o, gr⟩ := app_i64 (ys := [((lenS bs.length j : Nat) : Int)]) (m := 1) rfl 1 (RI.one .i64 W _ 3) (fun e => by cases e) h1.own (by omega) h1.sk.lt
  obtain ⟨A, c, rfl, _⟩ := own_slice o
  have hb : Below (k + 1) (W.alloc (.cells #[.int .i64 ((lenS bs.length j : Nat) : Int)] 3)) w' := (Below.refl (k + 1) _).grown gr h1.sk.lt (ownBlock_le h1.own)
  exact ⟨A, c, w', r, h1.sk.belowB hb (Nat.lt_succ_self _), h1.sg.belowB hb (Nat.lt_trans h.gk (Nat.lt_succ_self _)), by rw [lensL_snoc]; exact o, h1.below.trans (hb.mono (Nat.le_succ_of_le h.wk))⟩
theorem ownCell {base g i : Nat} {e : TypeId} {v : Value} {n : Nat} {xs : List Value} (h : w.ownsRow base e 1 v n xs) (hg : g < base) (x : Value) : (w.setCell ⟨g, i, none⟩ x).ownsRow base e 1 v n xs := by
  have hgr : w.grownBy (w.setCell ⟨g, i, none⟩ x) (some g) := ⟨rfl, rfl, rfl, by simp, fun k _ hk => heap_setCell_other w ⟨g, i, none⟩ k x (fun e => hk (by rw [e]))⟩
  exact own_far h hgr fun g' e => by cases e; exact hg
end
end Go.Proofs.YtdlhpmbgpjjkoaaDoor
