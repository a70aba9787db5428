/-
  Kept here, for the document's own Split (package longlineref09): what its rows hold as they grow byte by byte and part by part.
-/
import Derived.Test.YtmklcghoeapfbaaDoorFc
namespace Go.Proofs.YtmklcghoeapfbaaDoor
open Go.RowKit

/-- Cells that hold n parts, whose bytes lie in memory that the call made, below block Bd. -/
def PX (w : World) (base Bd : Nat) (cs : List Value) (n : Nat) (f : Nat → Prt) : Prop := ∀ j, j < n →
  cs[j * 4]? = some (.int .u64 (f j).id) ∧ cs[j * 4 + 1]? = some (.int .i64 (f j).ix) ∧ cs[j * 4 + 2]? = some (.int .i64 (f j).ct) ∧
  ∃ v, cs[j * 4 + 3]? = some v ∧ w.ownsRow base 5 1 v (f j).d.length (B8 (f j).d) ∧ ∀ g, v.ownBlock = some g → g < Bd
theorem PX.imp {w w' : World} {base base' Bd Bd' : Nat} {cs : List Value} {n : Nat} {f : Nat → Prt} (h : PX w base Bd cs n f)
    (hk : ∀ v (d : List Int), w.ownsRow base 5 1 v d.length (B8 d) → (∀ g, v.ownBlock = some g → g < Bd) → w'.ownsRow base' 5 1 v d.length (B8 d) ∧ ∀ g, v.ownBlock = some g → g < Bd') : PX w' base' Bd' cs n f := fun j hj => by
  obtain ⟨h1, h2, h3, v, h4, h5, h6⟩ := h j hj
  obtain ⟨h7, h8⟩ := hk v _ h5 h6
  exact ⟨h1, h2, h3, v, h4, h7, h8⟩
theorem PX.snoc {w : World} {base Bd : Nat} {cs : List Value} {n : Nat} {f : Nat → Prt} {v : Value} (h : PX w base Bd cs n f) (hl : cs.length = n * 4) (hv : w.ownsRow base 5 1 v (f n).d.length (B8 (f n).d)) (hb : ∀ g, v.ownBlock = some g → g < Bd) :
    PX w base Bd (cs ++ [.int .u64 (f n).id, .int .i64 (f n).ix, .int .i64 (f n).ct, v]) (n + 1) f := fun j hj => by
  rcases Nat.lt_or_ge j n with h' | h'
  · obtain ⟨h1, h2, h3, u, h4, h5, h6⟩ := h j h'
    rw [List.getElem?_append_left (by omega), List.getElem?_append_left (by omega), List.getElem?_append_left (by omega), List.getElem?_append_left (by omega)]
    exact ⟨h1, h2, h3, u, h4, h5, h6⟩
  · obtain rfl : j = n := by omega
    rw [List.getElem?_append_right (by omega), List.getElem?_append_right (by omega), List.getElem?_append_right (by omega), List.getElem?_append_right (by omega), hl]
    refine ⟨?_, ?_, ?_, v, ?_, hv, hb⟩
    · rw [show j * 4 - j * 4 = 0 by omega]; rfl
    · rw [show j * 4 + 1 - j * 4 = 1 by omega]; rfl
    · rw [show j * 4 + 2 - j * 4 = 2 by omega]; rfl
    · rw [show j * 4 + 3 - j * 4 = 3 by omega]; rfl
theorem PX.congr {w : World} {base Bd : Nat} {cs : List Value} {n : Nat} {f f' : Nat → Prt} (h : PX w base Bd cs n f) (hf : ∀ j, j < n → f j = f' j) : PX w base Bd cs n f' := fun j hj => by
  rw [← hf j hj]; exact h j hj
/-- Rows of unlike types lie in unlike blocks. -/
theorem own_ne {w : World} {b1 b2 : Nat} {e1 e2 : TypeId} {s1 s2 : Nat} {v1 v2 : Value} {n1 n2 : Nat} {x1 x2 : List Value} (h1 : w.ownsRow b1 e1 s1 v1 n1 x1) (h2 : w.ownsRow b2 e2 s2 v2 n2 x2) (he : e1 ≠ e2) : v1.ownBlock = none ∨ v1.ownBlock ≠ v2.ownBlock := by
  rcases h1.2 with ⟨rfl, _⟩ | ⟨g, cap, cur, rfl, _, hh, _⟩
  · exact .inl rfl
  · refine .inr fun e => ?_
    rcases h2.2 with ⟨rfl, _⟩ | ⟨g', cap', cur', rfl, _, hh', _⟩
    · simp [Value.ownBlock] at e
    · obtain rfl : g = g' := by simpa [Value.ownBlock] using e
      rw [hh] at hh'
      injection hh' with hh'
      injection hh' with _ h5
      exact he h5
theorem cut_snoc {bs : List Int} {a m : Nat} (h : a + m < bs.length) : cut bs a (m + 1) = cut bs a m ++ [bs.getD (a + m) 0] := by
  unfold cut
  rw [List.take_succ_eq_append_getElem (by simp; omega)]
  simp [List.getD, h]
theorem cut_len {bs : List Int} {a m : Nat} (h : a + m ≤ bs.length) : (cut bs a m).length = m := cut_length h

/-- A part that is full, its Count not laid yet. -/
def fullP (id : Int) (bs : List Int) (j : Nat) : Prt := ⟨id, j, 0, cut bs (480 * j) 480⟩
/-- Behind 480 n + m bytes: n full parts, and one of m bytes. -/
structure RS0 (w : World) (id : Int) (bs : List Int) (n m go c : Nat) (W : World) : Prop where
  st : ∃ cs vl Bd, cs.length = n * 4 ∧ W.ownsRow w.heap.size 27 4 (.slice (some ⟨go, 0, none⟩) (n + 1) c) (n + 1) (cs ++ [.int .u64 id, .int .i64 n, .int .i64 0, vl]) ∧
    PX W w.heap.size Bd cs n (fullP id bs) ∧ W.ownsRow Bd 5 1 vl m (B8 (cut bs (480 * n) m)) ∧ w.heap.size ≤ Bd ∧ Bd ≤ W.heap.size
  below : Below w.heap.size w W
theorem RS0.drew {w : World} {id : Int} {bs : List Int} {n m go c : Nat} {W : World} (h : RS0 w id bs n m go c W) : RS0 w id bs n m go c W.drew := ⟨h.st, belowN h.below 1⟩
theorem RS0.go_lt {w : World} {id : Int} {bs : List Int} {n m go c : Nat} {W : World} (h : RS0 w id bs n m go c W) : w.heap.size ≤ go ∧ go < W.heap.size := by
  obtain ⟨cs, vl, Bd, _, h1, _⟩ := h.st
  exact h1.lt go rfl
theorem rs_new {w : World} {id : Int} {bs : List Int} {n go c : Nat} {W : World} (h : RS0 w id bs n 480 go c W) (hl : 480 * n + 480 < bs.length) (hn : n ≤ 60) :
    ∃ go' c' w', (Builtin.append_ #[42, 42] 42 #[.slice (some ⟨go, 0, none⟩) (n + 1) c, .slice (some ⟨W.heap.size, 0, none⟩) 1 1]).run Tryd.prog (W.alloc (.cells #[.int .u64 id, .int .i64 ((n : Int) + 1), .int .i64 0, .slice none 0 0] 27)) = .ok (.slice (some ⟨go', 0, none⟩) (n + 1 + 1) c') w' ∧ RS0 w id bs (n + 1) 0 go' c' w' := by
  obtain ⟨cs, vl, Bd, hcl, hout, hPX, hvl, hB1, hB2⟩ := h.st
  have hb0 : Below W.heap.size W (W.alloc (.cells #[.int .u64 id, .int .i64 ((n : Int) + 1), .int .i64 0, .slice none 0 0] 27)) := (Below.refl _ _).alloc (Nat.le_refl _) _
  have hout1 := own_below hout hb0
  have hvl1 := own_below hvl hb0
  have hPX1 : PX _ w.heap.size Bd cs n (fullP id bs) := hPX.imp fun v d h1 h2 => ⟨own_below h1 hb0, h2⟩
  obtain ⟨v', w', hrun, hown', hgr, hat⟩ := app_rpart (fb := W.heap.size) hout1 (heap_alloc_new _ _) (by omega) (by have := h.below.size; simp; omega)
  obtain ⟨go', c', rfl, _, hlt⟩ := hown'.form (by omega)
  have hgo := h.go_lt
  have hoth := own_other hout1 (by decide)
  refine ⟨go', c', w', hrun, ⟨cs ++ [.int .u64 id, .int .i64 n, .int .i64 0, vl], .slice none 0 0, w'.heap.size, by simp [hcl]; omega, ?_, ?_, World.ownsRow_nil _ _ _ _, ?_, Nat.le_refl _⟩, ?_⟩
  · have e : (((n + 1 : Nat) : Int)) = (n : Int) + 1 := by omega
    rw [e]
    exact hown'
  · have hPX2 : PX w' w.heap.size w'.heap.size cs n (fullP id bs) := hPX1.imp fun v d h1 h2 => ⟨own_u8_kept h1 hgr hoth, fun g hg => by
      have := h2 g hg
      have := hgr.size
      simp at this
      omega⟩
    have hd : (fullP id bs n).d.length = 480 := cut_len (by omega)
    refine PX.snoc (f := fullP id bs) hPX2 hcl ?_ (fun g hg => ?_)
    · rw [hd]
      exact own_mono (own_u8_kept hvl1 hgr hoth) hB1
    · have := (hvl1.lt g hg).2
      have := hgr.size
      omega
  · have := h.below.size; have := hgr.size; simp at this; omega
  · exact (h.below.alloc h.below.size _).grown hgr (by have := h.below.size; simp; omega) (fun k hk => ownBlock_le hout1 k hk)
theorem rs_byte {w : World} {id : Int} {bs : List Int} {n m go c : Nat} {W : World} (h : RS0 w id bs n m go c W) (hl : 480 * n + m < bs.length) (hm : m < 480) :
    ∃ vl, W.cell? ⟨go, n * 4 + 3, none⟩ = some vl ∧ (∃ A c, vl = .slice A m c) ∧ ∃ AV cV w', (Builtin.append_ #[23, 23] 23 #[vl, .slice (some ⟨W.heap.size, 0, none⟩) 1 1]).run Tryd.prog (W.drew.alloc (.cells #[.int .u8 (bs.getD (480 * n + m) 0)] 5)) = .ok (.slice AV (m + 1) cV) w' ∧
      w'.cell? ⟨go, n * 4 + 3, none⟩ = some vl ∧ w'.frozen? ⟨go, n * 4 + 3, none⟩ = false ∧ Below w.heap.size w w' ∧ RS0 w id bs n (m + 1) go c (w'.setCell ⟨go, n * 4 + 3, none⟩ (.slice AV (m + 1) cV)) := by
  obtain ⟨cs, vl, Bd, hcl, hout, hPX, hvl, hB1, hB2⟩ := h.st
  have hb0 : Below W.heap.size W (W.drew.alloc (.cells #[.int .u8 (bs.getD (480 * n + m) 0)] 5)) := (belowN (Below.refl _ _) 1).alloc (Nat.le_refl _) _
  have hout1 := own_below hout hb0
  have hvl1 := own_below hvl hb0
  have hPX1 : PX _ w.heap.size Bd cs n (fullP id bs) := hPX.imp fun v d h1 h2 => ⟨own_below h1 hb0, h2⟩
  have hRB : RB (W.drew.alloc (.cells #[.int .u8 (bs.getD (480 * n + m) 0)] 5)) (W.heap.size + 1) (some ⟨W.heap.size, 0, none⟩) [bs.getD (480 * n + m) 0] := RB.of_block (by omega) (heap_alloc_new W.drew _)
  obtain ⟨v', w', hrun, hown', hgr⟩ := app_bytes (xs := cut bs (480 * n) m) 1 hRB (fun h => by cases h) hvl1 (by simp; omega) (by simp; omega)
  have hown' := own_cast (m := m + 1) hown' (by simp) rfl
  obtain ⟨AV, cV, rfl, _⟩ := own_slice hown'
  have hne := own_ne hout1 hvl1 (by decide)
  have hout2 := hout1.kept hgr hne
  have hx : (cs ++ [Value.int .u64 id, .int .i64 n, .int .i64 0, vl])[n * 4 + 3]? = some vl := by
    rw [List.getElem?_append_right (by omega), hcl, show n * 4 + 3 - n * 4 = 3 by omega]; rfl
  obtain ⟨AL, cL, hAL, _⟩ := own_slice hvl
  have hoth2 := own_other hout2 (by decide)
  have hst := hout2.stored (n * 4 + 3) (.slice AV (m + 1) cV)
  have hset : (cs ++ [Value.int .u64 id, .int .i64 n, .int .i64 0, vl]).set (n * 4 + 3) (.slice AV (m + 1) cV) = cs ++ [Value.int .u64 id, .int .i64 n, .int .i64 0, .slice AV (m + 1) cV] := by
    rw [List.set_append_right _ _ (by omega), hcl, show n * 4 + 3 - n * 4 = 3 by omega]; rfl
  rw [hset] at hst
  have hgoth : ∀ g, some go = some g → ∃ cc t f, w'.heap[g]? = some (.cells cc t f) ∧ t ≠ 5 := fun g hg => hoth2 g hg
  have hbw' : Below w.heap.size w w' := ((belowN h.below 1).alloc h.below.size _).grown hgr (by have := h.below.size; simp; omega) (fun k hk => by have := ownBlock_le hvl1 k hk; omega)
  refine ⟨vl, ?_, ⟨AL, cL, hAL⟩, AV, cV, w', hrun, ?_, hout2.frozenAt _, hbw', ⟨cs, .slice AV (m + 1) cV, Bd, hcl, hst.1, ?_, ?_, hB1, ?_⟩, hbw'.setCell (p := ⟨go, n * 4 + 3, none⟩) h.go_lt.1 _⟩
  · rw [hout.cellAt (n * 4 + 3) (by omega), hx]
  · rw [hout2.cellAt (n * 4 + 3) (by omega), hx]
  · refine hPX1.imp fun v d h1 h2 => ⟨own_u8_kept (h1.kept hgr ?_) hst.2 hgoth, h2⟩
    cases hv : v.ownBlock with
    | none => exact .inl rfl
    | some g => exact .inr fun e => by have := h2 g hv; have := ownBlock_le hvl1 g e.symm; omega
  · have e := cut_snoc hl
    rw [e]
    exact own_u8_kept hown' hst.2 hgoth
  · have := hgr.size; simp at this ⊢; omega

/-- A part as it is handed back, its Count laid in the first q of K. -/
def gP (id : Int) (bs : List Int) (K q j : Nat) : Prt := ⟨id, j, if j < q then K else 0, cut bs (480 * j) (lenS bs.length j)⟩
/-- All bytes are in; of K parts q have their Count. -/
structure RS1 (w : World) (id : Int) (bs : List Int) (K q go c : Nat) (W : World) : Prop where
  st : ∃ cs, W.ownsRow w.heap.size 27 4 (.slice (some ⟨go, 0, none⟩) K c) K cs ∧ PX W w.heap.size W.heap.size cs K (gP id bs K q)
  below : Below w.heap.size w W
theorem rs_fin {w : World} {id : Int} {bs : List Int} {n m go c : Nat} {W : World} (h : RS0 w id bs n m go c W) (hl : 480 * n + m = bs.length) (hm : m ≤ 480) (hnm : 0 < n → 0 < m) :
    n + 1 = cntS bs.length ∧ RS1 w id bs (n + 1) 0 go c W := by
  obtain ⟨cs, vl, Bd, hcl, hout, hPX, hvl, hB1, hB2⟩ := h.st
  refine ⟨by unfold cntS; split <;> omega, ⟨_, hout, ?_⟩, h.below⟩
  have e : ∀ j, j < n → fullP id bs j = gP id bs (n + 1) 0 j := fun j hj => by
    rw [fullP, gP, if_neg (by omega), show lenS bs.length j = 480 by unfold lenS; omega]
  have hP : PX W w.heap.size W.heap.size cs n (gP id bs (n + 1) 0) := (hPX.congr e).imp fun v d h1 h2 => ⟨h1, fun g hg => by have := h2 g hg; omega⟩
  have hlen : lenS bs.length n = m := by unfold lenS; omega
  have hd : (gP id bs (n + 1) 0 n).d = cut bs (480 * n) m := by rw [gP, hlen]
  have hs := PX.snoc (f := gP id bs (n + 1) 0) (v := vl) hP hcl (by rw [hd, cut_len (by omega)]; exact own_mono hvl hB1) (fun g hg => (hvl.lt g hg).2)
  simpa [gP] using hs
theorem rs_ct {w : World} {id : Int} {bs : List Int} {K q go c : Nat} {W : World} (h : RS1 w id bs K q go c W) (hq : q < K) :
    (∃ x, W.cell? ⟨go, q * 4 + 2, none⟩ = some x) ∧ W.frozen? ⟨go, q * 4 + 2, none⟩ = false ∧ RS1 w id bs K (q + 1) go c (W.setCell ⟨go, q * 4 + 2, none⟩ (.int .i64 K)) := by
  obtain ⟨cs, hout, hPX⟩ := h.st
  have hc := hout.cellAt (q * 4 + 2) (by omega)
  have hst := hout.stored (q * 4 + 2) (.int .i64 K)
  have hoth := own_other hout (by decide)
  have hcl : cs.length = K * 4 := hout.1
  refine ⟨?_, hout.frozenAt _, ⟨_, hst.1, fun j hj => ?_⟩, h.below.setCell (p := ⟨go, q * 4 + 2, none⟩) (hout.lt go rfl).1 _⟩
  · rw [hc]; exact ⟨_, List.getElem?_eq_getElem (by omega)⟩
  · obtain ⟨h1, h2, h3, v, h4, h5, h6⟩ := hPX j hj
    have hv := own_u8_kept h5 hst.2 (fun g hg => hoth g hg)
    have h6' : ∀ g, v.ownBlock = some g → g < (W.setCell ⟨go, q * 4 + 2, none⟩ (.int .i64 K)).heap.size := fun g hg => by have := h6 g hg; simpa using this
    have s0 : ∀ k, k ≠ q * 4 + 2 → (cs.set (q * 4 + 2) (.int .i64 K))[k]? = cs[k]? := fun k hk => List.getElem?_set_ne (fun e => hk e.symm)
    refine ⟨(s0 _ (by omega)).trans h1, (s0 _ (by omega)).trans h2, ?_, v, (s0 _ (by omega)).trans h4, hv, h6'⟩
    by_cases hjq : j = q
    · subst hjq
      rw [List.getElem?_set_self (by omega), gP, if_pos (by omega)]
    · rw [s0 _ (by omega), h3, gP, gP]
      by_cases h7 : j < q
      · rw [if_pos h7, if_pos (by omega)]
      · rw [if_neg h7, if_neg (by omega)]
theorem rs_end {w : World} {id : Int} {bs : List Int} {K go c : Nat} {W : World} (h : RS1 w id bs K K go c W) (hK : K = cntS bs.length) : PS W W.heap.size (some ⟨go, 0, none⟩) (splitS id bs) := by
  subst hK
  obtain ⟨cs, hout, hPX⟩ := h.st
  intro _
  refine ⟨go, 0, rfl, (hout.lt go rfl).2, fun i hi => ?_⟩
  rw [splitS_length] at hi
  obtain ⟨h1, h2, h3, v, h4, h5, _⟩ := hPX i hi
  have e : gP id bs (cntS bs.length) (cntS bs.length) i = partS id bs (cntS bs.length) i := by rw [gP, if_pos hi]; rfl
  rw [e] at h1 h2 h3 h5
  rw [splitS_at hi, Nat.zero_add]
  obtain ⟨A', c', rfl, h51, h52, h53, h54⟩ := RB.of_own h5
  exact ⟨(hout.cellAt _ (by omega)).trans h1, (hout.cellAt _ (by omega)).trans h2, (hout.cellAt _ (by omega)).trans h3, A', c', (hout.cellAt _ (by omega)).trans h4, h51, h52, h53, h54⟩
end Go.Proofs.YtmklcghoeapfbaaDoor
