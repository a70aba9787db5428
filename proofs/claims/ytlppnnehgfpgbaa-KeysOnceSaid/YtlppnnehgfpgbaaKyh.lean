/-
  Kept here: what KeysOnce holds: six owners of memory that lie apart (stream, sink, what was typed, what was taken, the rows of what was sent), and how one of them grows.
-/
import Derived.Test.YtlppnnehgfpgbaaKye
import Derived.Test.YtlppnnehgfpgbaaKyf
set_option linter.unusedSimpArgs false
set_option linter.unusedVariables false
namespace Go.Proofs.Ytlppnnehgfpgbaa
open Go.RowKit
/-- Owners that lie apart. -/
def Sep (L : List (Option Nat)) : Prop := ∀ i j x, L.getD i none = some x → L.getD j none = some x → i = j
/-- A block that none of the owners has. -/
def Fr (L : List (Option Nat)) (b : Nat) : Prop := ∀ i, L.getD i none ≠ some b
theorem getD_set {L : List (Option Nat)} {p : Nat} {T : Option Nat} (hp : p < L.length) (i : Nat) : (L.set p T).getD i none = if i = p then T else L.getD i none := by
  by_cases h : i = p
  · subst h; simp [List.getD, hp]
  · rw [if_neg h]; simp [List.getD, List.getElem?_set, show ¬ p = i from fun e => h e.symm]
theorem Sep.put {L : List (Option Nat)} {p n : Nat} {T : Option Nat} (h : Sep L) (hp : p < L.length) (hT : T = L.getD p none ∨ T = some n) (hlt : ∀ i x, L.getD i none = some x → x < n) : Sep (L.set p T) := by
  intro i j x hi hj
  rw [getD_set hp] at hi hj
  rcases hT with rfl | rfl
  · have e : ∀ i, (if i = p then L.getD p none else L.getD i none) = L.getD i none := fun i => by
      by_cases h : i = p
      · rw [if_pos h, h]
      · rw [if_neg h]
    rw [e] at hi hj
    exact h i j x hi hj
  · by_cases h1 : i = p <;> by_cases h2 : j = p
    · rw [h1, h2]
    · rw [if_pos h1] at hi; rw [if_neg h2] at hj
      have := hlt j x hj
      injection hi with hi; omega
    · rw [if_neg h1] at hi; rw [if_pos h2] at hj
      have := hlt i x hi
      injection hj with hj; omega
    · rw [if_neg h1] at hi; rw [if_neg h2] at hj
      exact h i j x hi hj
theorem Fr.put {L : List (Option Nat)} {p n b : Nat} {T : Option Nat} (h : Fr L b) (hp : p < L.length) (hT : T = L.getD p none ∨ T = some n) (hb : b < n) : Fr (L.set p T) b := by
  intro i e
  rw [getD_set hp] at e
  by_cases h1 : i = p
  · rw [if_pos h1] at e
    rcases hT with rfl | rfl
    · exact h p e
    · injection e with e; omega
  · rw [if_neg h1] at e
    exact h i e
/-- A row of bytes in a block of no owner. -/
def BR (W : World) (L : List (Option Nat)) (v : Value) (d : List Int) : Prop := DV W v d ∧ (0 < d.length → ∀ a n c, v = .slice (some a) n c → Fr L a.block)
theorem BR.lt {W : World} {L : List (Option Nat)} {v : Value} {d : List Int} (h : BR W L v d) (hd : 0 < d.length) {a : Addr} {n c : Nat} (hv : v = .slice (some a) n c) : a.block < W.heap.size := by
  obtain ⟨⟨A, c', e, hr, _⟩, _⟩ := h
  rw [hv] at e
  injection e with e _ _
  obtain ⟨b, off, e2, hlt, _⟩ := hr hd
  rw [← e] at e2
  injection e2 with e2
  rw [e2]; exact hlt
theorem DV.grown {W W' : World} {T : Option Nat} {v : Value} {d : List Int} (h : DV W v d) (hg : W.grownBy W' T) (hf : 0 < d.length → ∀ a n c, v = .slice (some a) n c → some a.block ≠ T) : DV W' v d := by
  obtain ⟨A, c, e, hr, h3⟩ := h
  refine ⟨A, c, e, fun hp => ?_, h3⟩
  obtain ⟨b, off, e2, hlt, hc⟩ := hr hp
  subst e2
  have := hf hp _ _ _ e
  exact ⟨b, off, rfl, Nat.lt_of_lt_of_le hlt hg.size, fun i hi => (World.cell?_of_block (hg.block b hlt this)).trans (hc i hi)⟩
theorem BR.put {W W' : World} {L : List (Option Nat)} {p : Nat} {T : Option Nat} {v : Value} {d : List Int} (h : BR W L v d) (hp : p < L.length) (hg : W.grownBy W' (L.getD p none)) (hT : T = L.getD p none ∨ T = some W.heap.size) : BR W' (L.set p T) v d :=
  ⟨h.1.grown hg (fun hd a n c e e2 => h.2 hd a n c e p e2.symm), fun hd a n c e => (h.2 hd a n c e).put hp hT (h.lt hd e)⟩
theorem BR.below {W W' : World} {L : List (Option Nat)} {v : Value} {d : List Int} (h : BR W L v d) (hb : Below W.heap.size W W') : BR W' L v d := ⟨h.1.below hb, h.2⟩
def UV (fs : List Nat) : List Value := fs.map fun n : Nat => Value.int .u64 (n : Int)
/-- What KeysOnce holds: its six owners. -/
def ows (g h : Nat) (ut uk vf vs : Value) : List (Option Nat) := [some g, some h, ut.ownBlock, uk.ownBlock, vf.ownBlock, vs.ownBlock]
structure KO (w : World) (g h : Nat) (ut uk vf vs : Value) (base cnt tk : Nat) (all sb : List Int) (fs : List Nat) (ss : List Value) (W : World) : Prop where
  st : St W g base sb
  sk : Sk W h cnt
  ot : W.ownsRow w.heap.size 5 1 ut all.length (NV .u8 all)
  ok : W.ownsRow w.heap.size 5 1 uk tk (NV .u8 (all.take tk))
  of : W.ownsRow w.heap.size 29 1 vf fs.length (UV fs)
  os : W.ownsRow w.heap.size 28 1 vs ss.length ss
  le : ss.length ≤ fs.length
  sent : ∀ j, j < ss.length → ∃ e, e ≤ all.length ∧ fs.getD j 0 ≤ cnt ∧ e - fs.getD j 0 ≤ 512 ∧ BR W (ows g h ut uk vf vs) (ss.getD j (.bool false)) ((all.take e).drop (fs.getD j 0))
  row : 0 < sb.length → Row W g (Fr (ows g h ut uk vf vs))
  sep : Sep (ows g h ut uk vf vs)
  lt : ∀ i x, (ows g h ut uk vf vs).getD i none = some x → x < W.heap.size
  ge : ∀ i x, (ows g h ut uk vf vs).getD i none = some x → w.heap.size ≤ x
  below : Below w.heap.size w W
theorem KO.to {w : World} {g h : Nat} {ut uk vf vs : Value} {base cnt tk : Nat} {all sb : List Int} {fs : List Nat} {ss : List Value} {W W' : World} (k : KO w g h ut uk vf vs base cnt tk all sb fs ss W) (hb : Below W.heap.size W W') : KO w g h ut uk vf vs base cnt tk all sb fs ss W' :=
  ⟨k.st.below hb, k.sk.below hb, own_below k.ot hb, own_below k.ok hb, own_below k.of hb, own_below k.os hb, k.le,
    fun j hj => by
      obtain ⟨e, h1, h2, h3, h4⟩ := k.sent j hj
      exact ⟨e, h1, h2, h3, h4.below hb⟩,
    fun hp => (k.row hp).of (World.cell?_of_block (hb.block g k.st.lt)), k.sep, fun i x e => Nat.lt_of_lt_of_le (k.lt i x e) hb.size, k.ge, Bto k.below hb⟩
/-- A new block is free. -/
theorem KO.new {w : World} {g h : Nat} {ut uk vf vs : Value} {base cnt tk : Nat} {all sb : List Int} {fs : List Nat} {ss : List Value} {W : World} (k : KO w g h ut uk vf vs base cnt tk all sb fs ss W) : ∀ b, W.heap.size ≤ b → Fr (ows g h ut uk vf vs) b := fun b hb i e => by
  have := k.lt i b e
  omega
/-- Two owners are not one. -/
theorem Sep.ne {L : List (Option Nat)} (h : Sep L) {i p : Nat} (hi : i ≠ p) : L.getD i none = none ∨ L.getD i none ≠ L.getD p none := by
  cases e : L.getD i none with
  | none => exact .inl rfl
  | some x => exact .inr fun e2 => hi (h i p x e e2.symm)
/-- What the others hold where owner p grew. -/
theorem KO.others {w : World} {g h : Nat} {ut uk vf vs : Value} {base cnt tk : Nat} {all sb : List Int} {fs : List Nat} {ss : List Value} {W W' : World} (k : KO w g h ut uk vf vs base cnt tk all sb fs ss W) (p : Nat) (hp : p < 6) (T : Option Nat) (hg : W.grownBy W' ((ows g h ut uk vf vs).getD p none)) (hT : T = (ows g h ut uk vf vs).getD p none ∨ T = some W.heap.size) (hTl : ∀ x, T = some x → x < W'.heap.size) :
    (p ≠ 0 → St W' g base sb ∧ (0 < sb.length → Row W' g (Fr ((ows g h ut uk vf vs).set p T)))) ∧ (p ≠ 1 → Sk W' h cnt) ∧
    (p ≠ 2 → W'.ownsRow w.heap.size 5 1 ut all.length (NV .u8 all)) ∧ (p ≠ 3 → W'.ownsRow w.heap.size 5 1 uk tk (NV .u8 (all.take tk))) ∧
    (p ≠ 4 → W'.ownsRow w.heap.size 29 1 vf fs.length (UV fs)) ∧ (p ≠ 5 → W'.ownsRow w.heap.size 28 1 vs ss.length ss) ∧
    (∀ v d, BR W (ows g h ut uk vf vs) v d → BR W' ((ows g h ut uk vf vs).set p T) v d) ∧ Sep ((ows g h ut uk vf vs).set p T) ∧
    (∀ i x, ((ows g h ut uk vf vs).set p T).getD i none = some x → x < W'.heap.size) ∧ (∀ i x, ((ows g h ut uk vf vs).set p T).getD i none = some x → w.heap.size ≤ x) ∧ Below w.heap.size w W' := by
  have hp' : p < (ows g h ut uk vf vs).length := hp
  have hW : w.heap.size ≤ W.heap.size := k.below.size
  refine ⟨fun e => ?_, fun e => ?_, fun e => k.ot.kept hg (k.sep.ne (i := 2) (fun x => e x.symm)), fun e => k.ok.kept hg (k.sep.ne (i := 3) (fun x => e x.symm)), fun e => k.of.kept hg (k.sep.ne (i := 4) (fun x => e x.symm)), fun e => k.os.kept hg (k.sep.ne (i := 5) (fun x => e x.symm)),
    fun v d hv => hv.put hp' hg hT, k.sep.put hp' hT k.lt, fun i x e => ?_, fun i x e => ?_, k.below.grown hg hW (fun x e => k.ge p x e)⟩
  · have h1 : some g ≠ (ows g h ut uk vf vs).getD p none := fun x => e (k.sep p 0 g x.symm rfl)
    obtain ⟨hs, hc⟩ := k.st.grown hg h1 (fun hl a n c e2 e3 => k.row hl a n c e2 p e3.symm)
    refine ⟨hs, fun hl a n c e2 => ?_⟩
    rw [hc] at e2
    refine (k.row hl a n c e2).put hp' hT ?_
    obtain ⟨A, c', hh, hr, _⟩ := k.st.ex
    obtain ⟨b, off, hA, hbt, _⟩ := hr hl
    rw [(three_cells hh).2.2] at e2
    injection e2 with e2
    injection e2 with eA _ _
    rw [hA] at eA
    injection eA with eA
    rw [← eA]; exact hbt
  · have h1 : some h ≠ (ows g h ut uk vf vs).getD p none := fun x => e (k.sep p 1 h x.symm rfl)
    exact (hg.block h k.sk.lt h1).trans k.sk
  · rw [getD_set hp'] at e
    by_cases hi : i = p
    · rw [if_pos hi] at e; exact hTl x e
    · rw [if_neg hi] at e; exact Nat.lt_of_lt_of_le (k.lt i x e) hg.size
  · rw [getD_set hp'] at e
    by_cases hi : i = p
    · rw [if_pos hi] at e
      rcases hT with rfl | rfl
      · exact k.ge p x e
      · injection e with e; omega
    · rw [if_neg hi] at e; exact k.ge i x e
/-- The stream is another one. -/
theorem KO.stream {w : World} {g h : Nat} {ut uk vf vs : Value} {base base' cnt tk : Nat} {all sb sb' : List Int} {fs : List Nat} {ss : List Value} {W W' : World} (k : KO w g h ut uk vf vs base cnt tk all sb fs ss W) (hs : St W' g base' sb') (ho : Only g W W') (hr : 0 < sb'.length → Row W' g (Fr (ows g h ut uk vf vs))) : KO w g h ut uk vf vs base' cnt tk all sb' fs ss W' := by
  obtain ⟨_, o1, o2, o3, o4, o5, ob, os, ol, og, obl⟩ := k.others 0 (by decide) (some g) ho.grown (.inl rfl) (fun x e => by injection e with e; rw [← e]; exact hs.lt)
  exact ⟨hs, o1 (by decide), o2 (by decide), o3 (by decide), o4 (by decide), o5 (by decide), k.le, fun j hj => by
    obtain ⟨e, h1, h2, h3, h4⟩ := k.sent j hj
    exact ⟨e, h1, h2, h3, ob _ _ h4⟩, hr, os, ol, og, obl⟩
/-- What was typed grows. -/
theorem KO.type {w : World} {g h : Nat} {ut ut' uk vf vs : Value} {base cnt tk : Nat} {all sb ys : List Int} {fs : List Nat} {ss : List Value} {W W' : World} (k : KO w g h ut uk vf vs base cnt tk all sb fs ss W) (hc : tk ≤ all.length) (ho : W'.ownsRow w.heap.size 5 1 ut' (all.length + ys.length) (NV .u8 (all ++ ys))) (hg : W.grownBy W' ut.ownBlock) (hl : ut'.ownBlock = ut.ownBlock ∨ ut'.ownBlock = some W.heap.size) : KO w g h ut' uk vf vs base cnt tk (all ++ ys) sb fs ss W' := by
  obtain ⟨o0, o1, _, o3, o4, o5, ob, os, ol, og, obl⟩ := k.others 2 (by decide) ut'.ownBlock hg hl (fun x e => (ho.lt x e).2)
  refine ⟨(o0 (by decide)).1, o1 (by decide), own_cast ho (by simp) rfl, ?_, o4 (by decide), o5 (by decide), k.le, fun j hj => ?_, (o0 (by decide)).2, os, ol, og, obl⟩
  · rw [List.take_append_of_le_length hc]; exact o3 (by decide)
  · obtain ⟨e, h1, h2, h3, h4⟩ := k.sent j hj
    refine ⟨e, by simp; omega, h2, h3, ?_⟩
    rw [List.take_append_of_le_length h1]
    exact ob _ _ h4
/-- The sink takes. -/
theorem KO.sink {w : World} {g h : Nat} {ut uk vf vs : Value} {base cnt cnt' tk : Nat} {all sb : List Int} {fs : List Nat} {ss : List Value} {W W' : World} (k : KO w g h ut uk vf vs base cnt tk all sb fs ss W) (hc : cnt ≤ cnt') (hs : Sk W' h cnt') (ho : Only h W W') : KO w g h ut uk vf vs base cnt' tk all sb fs ss W' := by
  obtain ⟨o0, _, o2, o3, o4, o5, ob, os, ol, og, obl⟩ := k.others 1 (by decide) (some h) ho.grown (.inl rfl) (fun x e => by injection e with e; rw [← e]; exact hs.lt)
  exact ⟨(o0 (by decide)).1, hs, o2 (by decide), o3 (by decide), o4 (by decide), o5 (by decide), k.le, fun j hj => by
    obtain ⟨e, h1, h2, h3, h4⟩ := k.sent j hj
    exact ⟨e, h1, Nat.le_trans h2 hc, h3, ob _ _ h4⟩, (o0 (by decide)).2, os, ol, og, obl⟩
/-- What was taken grows. -/
theorem KO.took {w : World} {g h : Nat} {ut uk uk' vf vs : Value} {base cnt tk tk' : Nat} {all sb ys : List Int} {fs : List Nat} {ss : List Value} {W W' : World} (k : KO w g h ut uk vf vs base cnt tk all sb fs ss W) (ht : tk' = tk + ys.length) (hy : all.take tk ++ ys = all.take tk') (ho : W'.ownsRow w.heap.size 5 1 uk' (tk + ys.length) (NV .u8 (all.take tk ++ ys))) (hg : W.grownBy W' uk.ownBlock) (hl : uk'.ownBlock = uk.ownBlock ∨ uk'.ownBlock = some W.heap.size) : KO w g h ut uk' vf vs base cnt tk' all sb fs ss W' := by
  obtain ⟨o0, o1, o2, _, o4, o5, ob, os, ol, og, obl⟩ := k.others 3 (by decide) uk'.ownBlock hg hl (fun x e => (ho.lt x e).2)
  exact ⟨(o0 (by decide)).1, o1 (by decide), o2 (by decide), own_cast ho ht.symm (by rw [hy]), o4 (by decide), o5 (by decide), k.le, fun j hj => by
    obtain ⟨e, h1, h2, h3, h4⟩ := k.sent j hj
    exact ⟨e, h1, h2, h3, ob _ _ h4⟩, (o0 (by decide)).2, os, ol, og, obl⟩
theorem getD_left {α : Type} {l m : List α} {j : Nat} {d : α} (hj : j < l.length) : (l ++ m).getD j d = l.getD j d := by
  simp [List.getD, List.getElem?_append_left hj]
theorem getD_last {α : Type} {l : List α} {x d : α} : (l ++ [x]).getD l.length d = x := by simp [List.getD]
/-- One more base of what was sent. -/
theorem KO.from {w : World} {g h : Nat} {ut uk vf vf' vs : Value} {base cnt tk f : Nat} {all sb : List Int} {fs : List Nat} {ss : List Value} {W W' : World} (k : KO w g h ut uk vf vs base cnt tk all sb fs ss W) (ho : W'.ownsRow w.heap.size 29 1 vf' (fs.length + 1) (UV fs ++ [.int .u64 (f : Int)])) (hg : W.grownBy W' vf.ownBlock) (hl : vf'.ownBlock = vf.ownBlock ∨ vf'.ownBlock = some W.heap.size) : KO w g h ut uk vf' vs base cnt tk all sb (fs ++ [f]) ss W' := by
  obtain ⟨o0, o1, o2, o3, _, o5, ob, os, ol, og, obl⟩ := k.others 4 (by decide) vf'.ownBlock hg hl (fun x e => (ho.lt x e).2)
  exact ⟨(o0 (by decide)).1, o1 (by decide), o2 (by decide), o3 (by decide), own_cast ho (by simp) (by simp [UV]), o5 (by decide), by have := k.le; simp; omega, fun j hj => by
    obtain ⟨e, h1, h2, h3, h4⟩ := k.sent j hj
    have hj2 : j < fs.length := Nat.lt_of_lt_of_le hj k.le
    refine ⟨e, h1, ?_⟩
    rw [getD_left hj2]
    exact ⟨h2, h3, ob _ _ h4⟩, (o0 (by decide)).2, os, ol, og, obl⟩
/-- One more row of bytes that was sent. -/
theorem KO.send {w : World} {g h : Nat} {ut uk vf vs vs' v : Value} {base cnt tk f : Nat} {all sb : List Int} {fs : List Nat} {ss : List Value} {W W' : World} (k : KO w g h ut uk vf vs base cnt tk all sb (fs ++ [f]) ss W) (hle : ss.length = fs.length) (hf : f ≤ cnt) (hl5 : all.length - f ≤ 512) (hv : BR W (ows g h ut uk vf vs) v (all.drop f)) (ho : W'.ownsRow w.heap.size 28 1 vs' (ss.length + 1) (ss ++ [v])) (hg : W.grownBy W' vs.ownBlock) (hl : vs'.ownBlock = vs.ownBlock ∨ vs'.ownBlock = some W.heap.size) : KO w g h ut uk vf vs' base cnt tk all sb (fs ++ [f]) (ss ++ [v]) W' := by
  obtain ⟨o0, o1, o2, o3, o4, _, ob, os, ol, og, obl⟩ := k.others 5 (by decide) vs'.ownBlock hg hl (fun x e => (ho.lt x e).2)
  refine ⟨(o0 (by decide)).1, o1 (by decide), o2 (by decide), o3 (by decide), o4 (by decide), own_cast ho (by simp) rfl, by simp; omega, fun j hj => ?_, (o0 (by decide)).2, os, ol, og, obl⟩
  by_cases hjl : j < ss.length
  · obtain ⟨e, h1, h2, h3, h4⟩ := k.sent j hjl
    refine ⟨e, h1, h2, h3, ?_⟩
    rw [getD_left hjl]
    exact ob _ _ h4
  · obtain rfl : j = ss.length := by simp at hj; omega
    have e1 : (fs ++ [f]).getD ss.length 0 = f := by rw [hle]; exact getD_last
    refine ⟨all.length, Nat.le_refl _, ?_⟩
    rw [e1, getD_last, List.take_length]
    exact ⟨hf, hl5, ob _ _ hv⟩
end Go.Proofs.Ytlppnnehgfpgbaa
