/-
  Proved here: of the document's parser: sequence.
-/
import Derived.Test.YtfacnemgjdmlmaaNd
set_option linter.unusedSimpArgs false
set_option linter.unusedVariables false
namespace Go.Proofs.Ytfacnemgjdmlmaa
open Go.RowKit
def lastS (L : List Int) : Int := L.getD (L.length - 1) 0
/-- What comes of all that came: nothing, as long as it did not end. -/
def seqS (L : List Int) : List Int × Option Ev :=
  if L.getD 1 0 = 91 then
    (if L.length = 2 ∨ lastS L < 64 then (L, none)
     else (let r := csiS ((L.drop 2).take (L.length - 3)); if r.2 = true then ([], some { r.1 with fin := lastS L }) else ([], none)))
  else
    (if (L.length = 2 ∧ L.getD 1 0 = 93) ∨ lastS L < 48 then (L, none)
     else if 3 < L.length then ([], none)
     else ([], some ⟨3, 0, 0, if L.length = 3 then L.getD 1 0 else 0, lastS L, [], []⟩))
/-- One event, or none, of this call's own. -/
def Out (B0 : Nat) (out : Value) (ev : Option Ev) (W : World) : Prop := match ev with
  | none => out = .slice none 0 0
  | some e => ∃ (b : Nat) (pv : Value), out = .slice (some ⟨b, 0, none⟩) 1 1 ∧ W.heap[b]? = some (.cells (evL e pv).toArray 38 (0, 0)) ∧ B0 ≤ b ∧ W.ownsRow B0 3 1 pv e.params.length (NV .i64 e.params) ∧ NumOk e.params
/-- What a parser's call leaves. -/
def After (B g : Nat) (v : Value) (w : World) (R : List Int × Option Ev) (x : Ending) (w' : World) : Prop :=
  ∃ v' out, x = .returned out ∧ Ps B g v' R.1 w' ∧ Fr g v w w' ∧ (∀ k, v'.ownBlock = some k → v.ownBlock = some k ∨ w.heap.size ≤ k) ∧ Out w.heap.size out R.2 w'
theorem after_same {B g : Nat} {v : Value} {L : List Int} {w w' : World} (h : Ps B g v L w) (hb : Below w.heap.size w w') : After B g v w (L, none) (.returned (.slice none 0 0)) w' :=
  ⟨v, _, rfl, ⟨(hb.block g (lt_of_block h.blk)).trans h.blk, own_below h.own hb, h.low, Nat.le_trans h.big hb.size⟩, Fr.of_below hb, fun k hk => .inl hk, rfl⟩
/-- The parser is in Ground. -/
theorem ps_none {B g : Nat} {v : Value} {L : List Int} {w w' : World} (h : Ps B g v L w) (hb : Below w.heap.size (w.setCell ⟨g, 0, none⟩ (.slice none 0 0)) w') : Ps B g (.slice none 0 0) [] w' ∧ Fr g v w w' := by
  have hg : g < w.heap.size := lt_of_block h.blk
  have h1 : (w.setCell ⟨g, 0, none⟩ (.slice none 0 0)).heap[g]? = some (.cells #[.slice none 0 0] 28 (0, 0)) := by
    rw [heap_setCell_same w g 0 _ _ _ h.blk]; rfl
  exact ⟨⟨(hb.block g hg).trans h1, World.ownsRow_nil _ _ _ _, h.low, Nat.le_trans h.big (by have := hb.size; simpa using this)⟩, Fr.more (Fr.setCell (Fr.refl g v w) 0 _) hb⟩
theorem after_none {B g : Nat} {v : Value} {L : List Int} {w w' : World} (h : Ps B g v L w) (hb : Below w.heap.size (w.setCell ⟨g, 0, none⟩ (.slice none 0 0)) w') : After B g v w ([], none) (.returned (.slice none 0 0)) w' :=
  ⟨.slice none 0 0, _, rfl, (ps_none h hb).1, (ps_none h hb).2, fun k hk => by simp [Value.ownBlock] at hk, rfl⟩
theorem after_some {B g : Nat} {v : Value} {L : List Int} {w w' : World} (h : Ps B g v L w) (hb : Below w.heap.size (w.setCell ⟨g, 0, none⟩ (.slice none 0 0)) w') {e : Ev} {pv : Value} {b : Nat} (hr : w'.heap[b]? = some (.cells (evL e pv).toArray 38 (0, 0))) (hB : w.heap.size ≤ b) (ho : w'.ownsRow w.heap.size 3 1 pv e.params.length (NV .i64 e.params)) (hn : NumOk e.params) :
    After B g v w ([], some e) (.returned (.slice (some ⟨b, 0, none⟩) 1 1)) w' :=
  ⟨.slice none 0 0, _, rfl, (ps_none h hb).1, (ps_none h hb).2, fun k hk => by simp [Value.ownBlock] at hk, b, pv, rfl, hr, hB, ho, hn⟩
set_option maxRecDepth 100000 in
set_option maxHeartbeats 1000000 in
theorem rs_csi_on {B g : Nat} {v : Value} {L : List Int} {w : World} (h : Ps B g v L w) (hlen : 2 ≤ L.length) (hn : L.length ≤ 5000) (hcs : L.getD 1 0 = 91) (hlt : L.length = 2 ∨ lastS L < 64) :
    Calls Try.prog 25 #[.pointer (some ⟨g, 0, none⟩)] w (After B g v w (L, none)) := by
  have c0 := h.c0
  obtain ⟨A, c, hv, hnc, hcm, _, hR, hge⟩ := h.row
  obtain ⟨b, off, rfl, hbl, hc⟩ := hR (by omega)
  subst hv
  have hbB := hge _ _ _ rfl
  clear hge
  obtain ⟨n, hln⟩ : ∃ n, L.length = n := ⟨_, rfl⟩
  rw [hln] at c0 hnc hlen hn
  obtain ⟨m, hm⟩ : ∃ m, n - 1 = m := ⟨_, rfl⟩
  have cm := hc m (by rw [hln]; omega)
  have c1 := hc 1 (by rw [hln]; omega)
  obtain ⟨z, hz⟩ : ∃ z, L.getD m 0 = z := ⟨_, rfl⟩
  obtain ⟨y, hy⟩ : ∃ y, L.getD 1 0 = y := ⟨_, rfl⟩
  have hlast : lastS L = z := by unfold lastS; rw [hln, hm, hz]
  rw [hz] at cm
  rw [hy] at c1
  have e1 : (n : Int) - 1 = (m : Int) := by omega
  have m0 : (0 : Int) ≤ (m : Int) := by omega
  have m1 : (m : Int) < (n : Int) := by omega
  have n1 : (1 : Int) < (n : Int) := by omega
  have wm : IntKind.i64.wrap (m : Int) = (m : Int) := IntWalk.i64_in _ (by omega)
  have mm : ((m : Int)).toNat = m := rfl
  have HPS := Lib.hid h
  have HLN := Lib.hid hln
  rw [hy] at hcs
  rw [hlast, hln] at hlt
  have y91 : (y == 91) = true := by simpa using hcs
  have e1' : n = 2 ∨ (n ≠ 2 ∧ z < 64) := by omega
  rcases e1' with hn2 | ⟨hn2, hz64⟩
  · have z2 : ((n : Int) == 2) = true := by simp; omega
    clear hlt hn2 hcs
    clear h hR hc hz hy hlast hln hm hbl hbB
    go_enter Try.func25, Try.ntmps25
    go_wp2
    refine wp_region_held_drew (S := fun W => W.cell? ⟨g, 0, none⟩ = some (.slice (some ⟨b, off, none⟩) n c) ∧ W.cell? ⟨b, off + m, none⟩ = some (.int .i32 z)) (by kernel_rfl) ⟨c0, cm⟩ (fun hHeld => ?_)
    refine wpAnyH_take (i := 0) (v := ?_) (by simp; rfl) (by kernel_rfl) (by kernel_rfl) (by kernel_rfl) (by exact fun _ _ _ h => h) (Or.inl ⟨by rfl, fun wx hSx => ?_⟩) hHeld ?_
    rotate_left
    · clear hSx; go_simp; (try with_reducible rfl)
    simp only [Act.put, List.setIfInBounds_toArray, List.set_cons_zero, List.set_cons_succ]
    refine wpAnyH_take (i := 1) (v := ?_) (by simp; rfl) (by kernel_rfl) (by kernel_rfl) (by kernel_rfl) (by exact fun _ _ _ h => h) (Or.inl ⟨by rfl, fun wx hSx => ?_⟩) hHeld ?_
    rotate_left
    · clear hSx; go_simp; (try with_reducible rfl)
    simp only [Act.put, List.setIfInBounds_toArray, List.set_cons_zero, List.set_cons_succ]
    refine wpAnyH_take (i := 2) (v := ?_) (by simp; rfl) (by kernel_rfl) (by kernel_rfl) (by kernel_rfl) (by exact fun _ _ _ h => h) (Or.inl ⟨by rfl, fun wx hSx => ?_⟩) hHeld ?_
    rotate_left
    · clear hSx; go_simp; (try with_reducible rfl)
    simp only [Act.put, List.setIfInBounds_toArray, List.set_cons_zero, List.set_cons_succ]
    refine wpAnyH_take (i := 3) (v := ?_) (by simp; rfl) (by kernel_rfl) (by kernel_rfl) (by kernel_rfl) (by exact fun _ _ _ h => h) (Or.inl ⟨by rfl, fun wx hSx => ?_⟩) hHeld ?_
    rotate_left
    · obtain ⟨s1, s2⟩ := hSx; clear s2; go_simp; (try with_reducible rfl)
    simp only [Act.put, List.setIfInBounds_toArray, List.set_cons_zero, List.set_cons_succ]
    refine wpAnyH_take (i := 4) (v := ?_) (by simp; rfl) (by kernel_rfl) (by kernel_rfl) (by kernel_rfl) (by exact fun _ _ _ h => h) (Or.inl ⟨by rfl, fun wx hSx => ?_⟩) hHeld ?_
    rotate_left
    · clear hSx; go_simp; (try with_reducible rfl)
    simp only [Act.put, List.setIfInBounds_toArray, List.set_cons_zero, List.set_cons_succ]
    refine wpAnyH_take (i := 5) (v := ?_) (by simp; rfl) (by kernel_rfl) (by kernel_rfl) (by kernel_rfl) (by exact fun _ _ _ h => h) (Or.inl ⟨by rfl, fun wx hSx => ?_⟩) hHeld ?_
    rotate_left
    · clear hSx; go_simp; (try with_reducible rfl)
    simp only [Act.put, List.setIfInBounds_toArray, List.set_cons_zero, List.set_cons_succ]
    refine wpAnyH_take (i := 6) (v := ?_) (by simp; rfl) (by kernel_rfl) (by kernel_rfl) (by kernel_rfl) (by exact fun _ _ _ h => h) (Or.inl ⟨by rfl, fun wx hSx => ?_⟩) hHeld ?_
    rotate_left
    · clear hSx; go_simp; (try with_reducible rfl)
    simp only [Act.put, List.setIfInBounds_toArray, List.set_cons_zero, List.set_cons_succ]
    refine wpAnyH_take (i := 7) (v := ?_) (by simp; rfl) (by kernel_rfl) (by kernel_rfl) (by kernel_rfl) (by exact fun _ _ _ h => h) (Or.inl ⟨by rfl, fun wx hSx => ?_⟩) hHeld ?_
    rotate_left
    · obtain ⟨s1, s2⟩ := hSx; clear s2; go_simp; (try with_reducible rfl)
    simp only [Act.put, List.setIfInBounds_toArray, List.set_cons_zero, List.set_cons_succ]
    refine wpAnyH_take (i := 8) (v := ?_) (by simp; rfl) (by kernel_rfl) (by kernel_rfl) (by kernel_rfl) (by exact fun _ _ _ h => h) (Or.inl ⟨by rfl, fun wx hSx => ?_⟩) hHeld ?_
    rotate_left
    · clear hSx; go_simp; (try with_reducible rfl)
    simp only [Act.put, List.setIfInBounds_toArray, List.set_cons_zero, List.set_cons_succ]
    refine wpAnyH_take (i := 9) (v := ?_) (by simp; rfl) (by kernel_rfl) (by kernel_rfl) (by kernel_rfl) (by exact fun _ _ _ h => h) (Or.inl ⟨by rfl, fun wx hSx => ?_⟩) hHeld ?_
    rotate_left
    · clear hSx; go_simp; (try with_reducible rfl)
    simp only [Act.put, List.setIfInBounds_toArray, List.set_cons_zero, List.set_cons_succ]
    refine wpAnyH_take (i := 10) (v := ?_) (by simp; rfl) (by kernel_rfl) (by kernel_rfl) (by kernel_rfl) (by exact fun _ _ _ h => h) (Or.inl ⟨by rfl, fun wx hSx => ?_⟩) hHeld ?_
    rotate_left
    · clear hSx; go_simp; (try with_reducible rfl)
    simp only [Act.put, List.setIfInBounds_toArray, List.set_cons_zero, List.set_cons_succ]
    refine wpAnyH_take (i := 11) (v := ?_) (by simp; rfl) (by kernel_rfl) (by kernel_rfl) (by kernel_rfl) (by exact fun _ _ _ h => h) (Or.inl ⟨by rfl, fun wx hSx => ?_⟩) hHeld ?_
    rotate_left
    · obtain ⟨s1, s2⟩ := hSx; clear s1; go_simp; (try with_reducible rfl)
    simp only [Act.put, List.setIfInBounds_toArray, List.set_cons_zero, List.set_cons_succ]
    refine wpAnyH_take (i := 12) (v := ?_) (by simp; rfl) (by kernel_rfl) (by kernel_rfl) (by kernel_rfl) (by exact fun _ _ _ h => h) (Or.inl ⟨by rfl, fun wx hSx => ?_⟩) hHeld ?_
    rotate_left
    · clear hSx; go_simp; (try with_reducible rfl)
    simp only [Act.put, List.setIfInBounds_toArray, List.set_cons_zero, List.set_cons_succ]
    refine wpAnyH_done (by kernel_rfl) ?_ _
    clear hHeld
    go_wp2
    go_ret
    exact after_same HPS.out (Below.refl _ _).drew
  have z2 : ((n : Int) == 2) = false := by simp; omega
  have z64 : decide (z < 64) = true := by simpa using hz64
  clear hlt hn2 hcs hz64
  clear h hR hc hz hy hlast hln hm hbl hbB
  go_enter Try.func25, Try.ntmps25
  go_wp2
  refine wp_region_held_drew (S := fun W => W.cell? ⟨g, 0, none⟩ = some (.slice (some ⟨b, off, none⟩) n c) ∧ W.cell? ⟨b, off + m, none⟩ = some (.int .i32 z)) (by kernel_rfl) ⟨c0, cm⟩ (fun hHeld => ?_)
  refine wpAnyH_take (i := 0) (v := ?_) (by simp; rfl) (by kernel_rfl) (by kernel_rfl) (by kernel_rfl) (by exact fun _ _ _ h => h) (Or.inl ⟨by rfl, fun wx hSx => ?_⟩) hHeld ?_
  rotate_left
  · clear hSx; go_simp; (try with_reducible rfl)
  simp only [Act.put, List.setIfInBounds_toArray, List.set_cons_zero, List.set_cons_succ]
  refine wpAnyH_take (i := 1) (v := ?_) (by simp; rfl) (by kernel_rfl) (by kernel_rfl) (by kernel_rfl) (by exact fun _ _ _ h => h) (Or.inl ⟨by rfl, fun wx hSx => ?_⟩) hHeld ?_
  rotate_left
  · clear hSx; go_simp; (try with_reducible rfl)
  simp only [Act.put, List.setIfInBounds_toArray, List.set_cons_zero, List.set_cons_succ]
  refine wpAnyH_take (i := 2) (v := ?_) (by simp; rfl) (by kernel_rfl) (by kernel_rfl) (by kernel_rfl) (by exact fun _ _ _ h => h) (Or.inl ⟨by rfl, fun wx hSx => ?_⟩) hHeld ?_
  rotate_left
  · clear hSx; go_simp; (try with_reducible rfl)
  simp only [Act.put, List.setIfInBounds_toArray, List.set_cons_zero, List.set_cons_succ]
  refine wpAnyH_take (i := 3) (v := ?_) (by simp; rfl) (by kernel_rfl) (by kernel_rfl) (by kernel_rfl) (by exact fun _ _ _ h => h) (Or.inl ⟨by rfl, fun wx hSx => ?_⟩) hHeld ?_
  rotate_left
  · obtain ⟨s1, s2⟩ := hSx; clear s2; go_simp; (try with_reducible rfl)
  simp only [Act.put, List.setIfInBounds_toArray, List.set_cons_zero, List.set_cons_succ]
  refine wpAnyH_take (i := 4) (v := ?_) (by simp; rfl) (by kernel_rfl) (by kernel_rfl) (by kernel_rfl) (by exact fun _ _ _ h => h) (Or.inl ⟨by rfl, fun wx hSx => ?_⟩) hHeld ?_
  rotate_left
  · clear hSx; go_simp; (try with_reducible rfl)
  simp only [Act.put, List.setIfInBounds_toArray, List.set_cons_zero, List.set_cons_succ]
  refine wpAnyH_take (i := 5) (v := ?_) (by simp; rfl) (by kernel_rfl) (by kernel_rfl) (by kernel_rfl) (by exact fun _ _ _ h => h) (Or.inl ⟨by rfl, fun wx hSx => ?_⟩) hHeld ?_
  rotate_left
  · clear hSx; go_simp; (try with_reducible rfl)
  simp only [Act.put, List.setIfInBounds_toArray, List.set_cons_zero, List.set_cons_succ]
  refine wpAnyH_take (i := 6) (v := ?_) (by simp; rfl) (by kernel_rfl) (by kernel_rfl) (by kernel_rfl) (by exact fun _ _ _ h => h) (Or.inl ⟨by rfl, fun wx hSx => ?_⟩) hHeld ?_
  rotate_left
  · clear hSx; go_simp; (try with_reducible rfl)
  simp only [Act.put, List.setIfInBounds_toArray, List.set_cons_zero, List.set_cons_succ]
  refine wpAnyH_take (i := 7) (v := ?_) (by simp; rfl) (by kernel_rfl) (by kernel_rfl) (by kernel_rfl) (by exact fun _ _ _ h => h) (Or.inl ⟨by rfl, fun wx hSx => ?_⟩) hHeld ?_
  rotate_left
  · obtain ⟨s1, s2⟩ := hSx; clear s2; go_simp; (try with_reducible rfl)
  simp only [Act.put, List.setIfInBounds_toArray, List.set_cons_zero, List.set_cons_succ]
  refine wpAnyH_take (i := 8) (v := ?_) (by simp; rfl) (by kernel_rfl) (by kernel_rfl) (by kernel_rfl) (by exact fun _ _ _ h => h) (Or.inl ⟨by rfl, fun wx hSx => ?_⟩) hHeld ?_
  rotate_left
  · clear hSx; go_simp; (try with_reducible rfl)
  simp only [Act.put, List.setIfInBounds_toArray, List.set_cons_zero, List.set_cons_succ]
  refine wpAnyH_take (i := 9) (v := ?_) (by simp; rfl) (by kernel_rfl) (by kernel_rfl) (by kernel_rfl) (by exact fun _ _ _ h => h) (Or.inl ⟨by rfl, fun wx hSx => ?_⟩) hHeld ?_
  rotate_left
  · clear hSx; go_simp; (try with_reducible rfl)
  simp only [Act.put, List.setIfInBounds_toArray, List.set_cons_zero, List.set_cons_succ]
  refine wpAnyH_take (i := 10) (v := ?_) (by simp; rfl) (by kernel_rfl) (by kernel_rfl) (by kernel_rfl) (by exact fun _ _ _ h => h) (Or.inl ⟨by rfl, fun wx hSx => ?_⟩) hHeld ?_
  rotate_left
  · clear hSx; go_simp; (try with_reducible rfl)
  simp only [Act.put, List.setIfInBounds_toArray, List.set_cons_zero, List.set_cons_succ]
  refine wpAnyH_take (i := 11) (v := ?_) (by simp; rfl) (by kernel_rfl) (by kernel_rfl) (by kernel_rfl) (by exact fun _ _ _ h => h) (Or.inl ⟨by rfl, fun wx hSx => ?_⟩) hHeld ?_
  rotate_left
  · obtain ⟨s1, s2⟩ := hSx; clear s1; go_simp; (try with_reducible rfl)
  simp only [Act.put, List.setIfInBounds_toArray, List.set_cons_zero, List.set_cons_succ]
  refine wpAnyH_take (i := 12) (v := ?_) (by simp; rfl) (by kernel_rfl) (by kernel_rfl) (by kernel_rfl) (by exact fun _ _ _ h => h) (Or.inl ⟨by rfl, fun wx hSx => ?_⟩) hHeld ?_
  rotate_left
  · clear hSx; go_simp; (try with_reducible rfl)
  simp only [Act.put, List.setIfInBounds_toArray, List.set_cons_zero, List.set_cons_succ]
  refine wpAnyH_done (by kernel_rfl) ?_ _
  clear hHeld
  go_wp2
  go_ret
  exact after_same HPS.out (Below.refl _ _).drew
set_option maxRecDepth 100000 in
set_option maxHeartbeats 1000000 in
theorem rs_esc_on {B g : Nat} {v : Value} {L : List Int} {w : World} (h : Ps B g v L w) (hlen : 2 ≤ L.length) (hn : L.length ≤ 5000) (hcs : L.getD 1 0 ≠ 91) (hlt : (L.length = 2 ∧ L.getD 1 0 = 93) ∨ lastS L < 48) :
    Calls Try.prog 25 #[.pointer (some ⟨g, 0, none⟩)] w (After B g v w (L, none)) := by
  have c0 := h.c0
  obtain ⟨A, c, hv, hnc, hcm, _, hR, hge⟩ := h.row
  obtain ⟨b, off, rfl, hbl, hc⟩ := hR (by omega)
  subst hv
  have hbB := hge _ _ _ rfl
  clear hge
  obtain ⟨n, hln⟩ : ∃ n, L.length = n := ⟨_, rfl⟩
  rw [hln] at c0 hnc hlen hn
  obtain ⟨m, hm⟩ : ∃ m, n - 1 = m := ⟨_, rfl⟩
  have cm := hc m (by rw [hln]; omega)
  have c1 := hc 1 (by rw [hln]; omega)
  obtain ⟨z, hz⟩ : ∃ z, L.getD m 0 = z := ⟨_, rfl⟩
  obtain ⟨y, hy⟩ : ∃ y, L.getD 1 0 = y := ⟨_, rfl⟩
  have hlast : lastS L = z := by unfold lastS; rw [hln, hm, hz]
  rw [hz] at cm
  rw [hy] at c1
  have e1 : (n : Int) - 1 = (m : Int) := by omega
  have m0 : (0 : Int) ≤ (m : Int) := by omega
  have m1 : (m : Int) < (n : Int) := by omega
  have n1 : (1 : Int) < (n : Int) := by omega
  have wm : IntKind.i64.wrap (m : Int) = (m : Int) := IntWalk.i64_in _ (by omega)
  have mm : ((m : Int)).toNat = m := rfl
  have HPS := Lib.hid h
  have HLN := Lib.hid hln
  rw [hy] at hcs hlt
  rw [hlast, hln] at hlt
  have y91 : (y == 91) = false := by simpa using hcs
  have e1' : (n = 2 ∧ y = 93) ∨ (n = 2 ∧ y ≠ 93 ∧ z < 48) ∨ (n ≠ 2 ∧ z < 48) := by omega
  rcases e1' with ⟨hn2, hy3⟩ | ⟨hn2, hy3, hz4⟩ | ⟨hn2, hz4⟩
  · have z2 : ((n : Int) == 2) = true := by simp; omega
    have y93 : (y == 93) = true := by simpa using hy3
    clear hlt hn2 hcs hy3
    clear h hR hc hz hy hlast hln hm hbl hbB
    go_enter Try.func25, Try.ntmps25
    go_wp2
    refine wp_region_held_drew (S := fun W => W.cell? ⟨g, 0, none⟩ = some (.slice (some ⟨b, off, none⟩) n c) ∧ W.cell? ⟨b, off + m, none⟩ = some (.int .i32 z)) (by kernel_rfl) ⟨c0, cm⟩ (fun hHeld => ?_)
    refine wpAnyH_take (i := 0) (v := ?_) (by simp; rfl) (by kernel_rfl) (by kernel_rfl) (by kernel_rfl) (by exact fun _ _ _ h => h) (Or.inl ⟨by rfl, fun wx hSx => ?_⟩) hHeld ?_
    rotate_left
    · clear hSx; go_simp; (try with_reducible rfl)
    simp only [Act.put, List.setIfInBounds_toArray, List.set_cons_zero, List.set_cons_succ]
    refine wpAnyH_take (i := 1) (v := ?_) (by simp; rfl) (by kernel_rfl) (by kernel_rfl) (by kernel_rfl) (by exact fun _ _ _ h => h) (Or.inl ⟨by rfl, fun wx hSx => ?_⟩) hHeld ?_
    rotate_left
    · clear hSx; go_simp; (try with_reducible rfl)
    simp only [Act.put, List.setIfInBounds_toArray, List.set_cons_zero, List.set_cons_succ]
    refine wpAnyH_take (i := 2) (v := ?_) (by simp; rfl) (by kernel_rfl) (by kernel_rfl) (by kernel_rfl) (by exact fun _ _ _ h => h) (Or.inl ⟨by rfl, fun wx hSx => ?_⟩) hHeld ?_
    rotate_left
    · clear hSx; go_simp; (try with_reducible rfl)
    simp only [Act.put, List.setIfInBounds_toArray, List.set_cons_zero, List.set_cons_succ]
    refine wpAnyH_take (i := 3) (v := ?_) (by simp; rfl) (by kernel_rfl) (by kernel_rfl) (by kernel_rfl) (by exact fun _ _ _ h => h) (Or.inl ⟨by rfl, fun wx hSx => ?_⟩) hHeld ?_
    rotate_left
    · obtain ⟨s1, s2⟩ := hSx; clear s2; go_simp; (try with_reducible rfl)
    simp only [Act.put, List.setIfInBounds_toArray, List.set_cons_zero, List.set_cons_succ]
    refine wpAnyH_take (i := 4) (v := ?_) (by simp; rfl) (by kernel_rfl) (by kernel_rfl) (by kernel_rfl) (by exact fun _ _ _ h => h) (Or.inl ⟨by rfl, fun wx hSx => ?_⟩) hHeld ?_
    rotate_left
    · clear hSx; go_simp; (try with_reducible rfl)
    simp only [Act.put, List.setIfInBounds_toArray, List.set_cons_zero, List.set_cons_succ]
    refine wpAnyH_take (i := 5) (v := ?_) (by simp; rfl) (by kernel_rfl) (by kernel_rfl) (by kernel_rfl) (by exact fun _ _ _ h => h) (Or.inl ⟨by rfl, fun wx hSx => ?_⟩) hHeld ?_
    rotate_left
    · clear hSx; go_simp; (try with_reducible rfl)
    simp only [Act.put, List.setIfInBounds_toArray, List.set_cons_zero, List.set_cons_succ]
    refine wpAnyH_take (i := 6) (v := ?_) (by simp; rfl) (by kernel_rfl) (by kernel_rfl) (by kernel_rfl) (by exact fun _ _ _ h => h) (Or.inl ⟨by rfl, fun wx hSx => ?_⟩) hHeld ?_
    rotate_left
    · clear hSx; go_simp; (try with_reducible rfl)
    simp only [Act.put, List.setIfInBounds_toArray, List.set_cons_zero, List.set_cons_succ]
    refine wpAnyH_take (i := 7) (v := ?_) (by simp; rfl) (by kernel_rfl) (by kernel_rfl) (by kernel_rfl) (by exact fun _ _ _ h => h) (Or.inl ⟨by rfl, fun wx hSx => ?_⟩) hHeld ?_
    rotate_left
    · obtain ⟨s1, s2⟩ := hSx; clear s2; go_simp; (try with_reducible rfl)
    simp only [Act.put, List.setIfInBounds_toArray, List.set_cons_zero, List.set_cons_succ]
    refine wpAnyH_take (i := 8) (v := ?_) (by simp; rfl) (by kernel_rfl) (by kernel_rfl) (by kernel_rfl) (by exact fun _ _ _ h => h) (Or.inl ⟨by rfl, fun wx hSx => ?_⟩) hHeld ?_
    rotate_left
    · clear hSx; go_simp; (try with_reducible rfl)
    simp only [Act.put, List.setIfInBounds_toArray, List.set_cons_zero, List.set_cons_succ]
    refine wpAnyH_take (i := 9) (v := ?_) (by simp; rfl) (by kernel_rfl) (by kernel_rfl) (by kernel_rfl) (by exact fun _ _ _ h => h) (Or.inl ⟨by rfl, fun wx hSx => ?_⟩) hHeld ?_
    rotate_left
    · clear hSx; go_simp; (try with_reducible rfl)
    simp only [Act.put, List.setIfInBounds_toArray, List.set_cons_zero, List.set_cons_succ]
    refine wpAnyH_take (i := 10) (v := ?_) (by simp; rfl) (by kernel_rfl) (by kernel_rfl) (by kernel_rfl) (by exact fun _ _ _ h => h) (Or.inl ⟨by rfl, fun wx hSx => ?_⟩) hHeld ?_
    rotate_left
    · clear hSx; go_simp; (try with_reducible rfl)
    simp only [Act.put, List.setIfInBounds_toArray, List.set_cons_zero, List.set_cons_succ]
    refine wpAnyH_take (i := 11) (v := ?_) (by simp; rfl) (by kernel_rfl) (by kernel_rfl) (by kernel_rfl) (by exact fun _ _ _ h => h) (Or.inl ⟨by rfl, fun wx hSx => ?_⟩) hHeld ?_
    rotate_left
    · obtain ⟨s1, s2⟩ := hSx; clear s1; go_simp; (try with_reducible rfl)
    simp only [Act.put, List.setIfInBounds_toArray, List.set_cons_zero, List.set_cons_succ]
    refine wpAnyH_take (i := 12) (v := ?_) (by simp; rfl) (by kernel_rfl) (by kernel_rfl) (by kernel_rfl) (by exact fun _ _ _ h => h) (Or.inl ⟨by rfl, fun wx hSx => ?_⟩) hHeld ?_
    rotate_left
    · clear hSx; go_simp; (try with_reducible rfl)
    simp only [Act.put, List.setIfInBounds_toArray, List.set_cons_zero, List.set_cons_succ]
    refine wpAnyH_done (by kernel_rfl) ?_ _
    clear hHeld
    go_wp2
    go_ret
    exact after_same HPS.out (Below.refl _ _).drew
  · have z2 : ((n : Int) == 2) = true := by simp; omega
    have y93 : (y == 93) = false := by simpa using hy3
    have z48 : decide (z < 48) = true := by simpa using hz4
    clear hlt hn2 hcs hy3 hz4
    clear h hR hc hz hy hlast hln hm hbl hbB
    go_enter Try.func25, Try.ntmps25
    go_wp2
    refine wp_region_held_drew (S := fun W => W.cell? ⟨g, 0, none⟩ = some (.slice (some ⟨b, off, none⟩) n c) ∧ W.cell? ⟨b, off + m, none⟩ = some (.int .i32 z)) (by kernel_rfl) ⟨c0, cm⟩ (fun hHeld => ?_)
    refine wpAnyH_take (i := 0) (v := ?_) (by simp; rfl) (by kernel_rfl) (by kernel_rfl) (by kernel_rfl) (by exact fun _ _ _ h => h) (Or.inl ⟨by rfl, fun wx hSx => ?_⟩) hHeld ?_
    rotate_left
    · clear hSx; go_simp; (try with_reducible rfl)
    simp only [Act.put, List.setIfInBounds_toArray, List.set_cons_zero, List.set_cons_succ]
    refine wpAnyH_take (i := 1) (v := ?_) (by simp; rfl) (by kernel_rfl) (by kernel_rfl) (by kernel_rfl) (by exact fun _ _ _ h => h) (Or.inl ⟨by rfl, fun wx hSx => ?_⟩) hHeld ?_
    rotate_left
    · clear hSx; go_simp; (try with_reducible rfl)
    simp only [Act.put, List.setIfInBounds_toArray, List.set_cons_zero, List.set_cons_succ]
    refine wpAnyH_take (i := 2) (v := ?_) (by simp; rfl) (by kernel_rfl) (by kernel_rfl) (by kernel_rfl) (by exact fun _ _ _ h => h) (Or.inl ⟨by rfl, fun wx hSx => ?_⟩) hHeld ?_
    rotate_left
    · clear hSx; go_simp; (try with_reducible rfl)
    simp only [Act.put, List.setIfInBounds_toArray, List.set_cons_zero, List.set_cons_succ]
    refine wpAnyH_take (i := 3) (v := ?_) (by simp; rfl) (by kernel_rfl) (by kernel_rfl) (by kernel_rfl) (by exact fun _ _ _ h => h) (Or.inl ⟨by rfl, fun wx hSx => ?_⟩) hHeld ?_
    rotate_left
    · obtain ⟨s1, s2⟩ := hSx; clear s2; go_simp; (try with_reducible rfl)
    simp only [Act.put, List.setIfInBounds_toArray, List.set_cons_zero, List.set_cons_succ]
    refine wpAnyH_take (i := 4) (v := ?_) (by simp; rfl) (by kernel_rfl) (by kernel_rfl) (by kernel_rfl) (by exact fun _ _ _ h => h) (Or.inl ⟨by rfl, fun wx hSx => ?_⟩) hHeld ?_
    rotate_left
    · clear hSx; go_simp; (try with_reducible rfl)
    simp only [Act.put, List.setIfInBounds_toArray, List.set_cons_zero, List.set_cons_succ]
    refine wpAnyH_take (i := 5) (v := ?_) (by simp; rfl) (by kernel_rfl) (by kernel_rfl) (by kernel_rfl) (by exact fun _ _ _ h => h) (Or.inl ⟨by rfl, fun wx hSx => ?_⟩) hHeld ?_
    rotate_left
    · clear hSx; go_simp; (try with_reducible rfl)
    simp only [Act.put, List.setIfInBounds_toArray, List.set_cons_zero, List.set_cons_succ]
    refine wpAnyH_take (i := 6) (v := ?_) (by simp; rfl) (by kernel_rfl) (by kernel_rfl) (by kernel_rfl) (by exact fun _ _ _ h => h) (Or.inl ⟨by rfl, fun wx hSx => ?_⟩) hHeld ?_
    rotate_left
    · clear hSx; go_simp; (try with_reducible rfl)
    simp only [Act.put, List.setIfInBounds_toArray, List.set_cons_zero, List.set_cons_succ]
    refine wpAnyH_take (i := 7) (v := ?_) (by simp; rfl) (by kernel_rfl) (by kernel_rfl) (by kernel_rfl) (by exact fun _ _ _ h => h) (Or.inl ⟨by rfl, fun wx hSx => ?_⟩) hHeld ?_
    rotate_left
    · obtain ⟨s1, s2⟩ := hSx; clear s2; go_simp; (try with_reducible rfl)
    simp only [Act.put, List.setIfInBounds_toArray, List.set_cons_zero, List.set_cons_succ]
    refine wpAnyH_take (i := 8) (v := ?_) (by simp; rfl) (by kernel_rfl) (by kernel_rfl) (by kernel_rfl) (by exact fun _ _ _ h => h) (Or.inl ⟨by rfl, fun wx hSx => ?_⟩) hHeld ?_
    rotate_left
    · clear hSx; go_simp; (try with_reducible rfl)
    simp only [Act.put, List.setIfInBounds_toArray, List.set_cons_zero, List.set_cons_succ]
    refine wpAnyH_take (i := 9) (v := ?_) (by simp; rfl) (by kernel_rfl) (by kernel_rfl) (by kernel_rfl) (by exact fun _ _ _ h => h) (Or.inl ⟨by rfl, fun wx hSx => ?_⟩) hHeld ?_
    rotate_left
    · clear hSx; go_simp; (try with_reducible rfl)
    simp only [Act.put, List.setIfInBounds_toArray, List.set_cons_zero, List.set_cons_succ]
    refine wpAnyH_take (i := 10) (v := ?_) (by simp; rfl) (by kernel_rfl) (by kernel_rfl) (by kernel_rfl) (by exact fun _ _ _ h => h) (Or.inl ⟨by rfl, fun wx hSx => ?_⟩) hHeld ?_
    rotate_left
    · clear hSx; go_simp; (try with_reducible rfl)
    simp only [Act.put, List.setIfInBounds_toArray, List.set_cons_zero, List.set_cons_succ]
    refine wpAnyH_take (i := 11) (v := ?_) (by simp; rfl) (by kernel_rfl) (by kernel_rfl) (by kernel_rfl) (by exact fun _ _ _ h => h) (Or.inl ⟨by rfl, fun wx hSx => ?_⟩) hHeld ?_
    rotate_left
    · obtain ⟨s1, s2⟩ := hSx; clear s1; go_simp; (try with_reducible rfl)
    simp only [Act.put, List.setIfInBounds_toArray, List.set_cons_zero, List.set_cons_succ]
    refine wpAnyH_take (i := 12) (v := ?_) (by simp; rfl) (by kernel_rfl) (by kernel_rfl) (by kernel_rfl) (by exact fun _ _ _ h => h) (Or.inl ⟨by rfl, fun wx hSx => ?_⟩) hHeld ?_
    rotate_left
    · clear hSx; go_simp; (try with_reducible rfl)
    simp only [Act.put, List.setIfInBounds_toArray, List.set_cons_zero, List.set_cons_succ]
    refine wpAnyH_done (by kernel_rfl) ?_ _
    clear hHeld
    go_wp2
    go_ret
    exact after_same HPS.out (Below.refl _ _).drew
  have z2 : ((n : Int) == 2) = false := by simp; omega
  have z48 : decide (z < 48) = true := by simpa using hz4
  clear hlt hn2 hcs hz4
  clear h hR hc hz hy hlast hln hm hbl hbB
  go_enter Try.func25, Try.ntmps25
  go_wp2
  refine wp_region_held_drew (S := fun W => W.cell? ⟨g, 0, none⟩ = some (.slice (some ⟨b, off, none⟩) n c) ∧ W.cell? ⟨b, off + m, none⟩ = some (.int .i32 z)) (by kernel_rfl) ⟨c0, cm⟩ (fun hHeld => ?_)
  refine wpAnyH_take (i := 0) (v := ?_) (by simp; rfl) (by kernel_rfl) (by kernel_rfl) (by kernel_rfl) (by exact fun _ _ _ h => h) (Or.inl ⟨by rfl, fun wx hSx => ?_⟩) hHeld ?_
  rotate_left
  · clear hSx; go_simp; (try with_reducible rfl)
  simp only [Act.put, List.setIfInBounds_toArray, List.set_cons_zero, List.set_cons_succ]
  refine wpAnyH_take (i := 1) (v := ?_) (by simp; rfl) (by kernel_rfl) (by kernel_rfl) (by kernel_rfl) (by exact fun _ _ _ h => h) (Or.inl ⟨by rfl, fun wx hSx => ?_⟩) hHeld ?_
  rotate_left
  · clear hSx; go_simp; (try with_reducible rfl)
  simp only [Act.put, List.setIfInBounds_toArray, List.set_cons_zero, List.set_cons_succ]
  refine wpAnyH_take (i := 2) (v := ?_) (by simp; rfl) (by kernel_rfl) (by kernel_rfl) (by kernel_rfl) (by exact fun _ _ _ h => h) (Or.inl ⟨by rfl, fun wx hSx => ?_⟩) hHeld ?_
  rotate_left
  · clear hSx; go_simp; (try with_reducible rfl)
  simp only [Act.put, List.setIfInBounds_toArray, List.set_cons_zero, List.set_cons_succ]
  refine wpAnyH_take (i := 3) (v := ?_) (by simp; rfl) (by kernel_rfl) (by kernel_rfl) (by kernel_rfl) (by exact fun _ _ _ h => h) (Or.inl ⟨by rfl, fun wx hSx => ?_⟩) hHeld ?_
  rotate_left
  · obtain ⟨s1, s2⟩ := hSx; clear s2; go_simp; (try with_reducible rfl)
  simp only [Act.put, List.setIfInBounds_toArray, List.set_cons_zero, List.set_cons_succ]
  refine wpAnyH_take (i := 4) (v := ?_) (by simp; rfl) (by kernel_rfl) (by kernel_rfl) (by kernel_rfl) (by exact fun _ _ _ h => h) (Or.inl ⟨by rfl, fun wx hSx => ?_⟩) hHeld ?_
  rotate_left
  · clear hSx; go_simp; (try with_reducible rfl)
  simp only [Act.put, List.setIfInBounds_toArray, List.set_cons_zero, List.set_cons_succ]
  refine wpAnyH_take (i := 5) (v := ?_) (by simp; rfl) (by kernel_rfl) (by kernel_rfl) (by kernel_rfl) (by exact fun _ _ _ h => h) (Or.inl ⟨by rfl, fun wx hSx => ?_⟩) hHeld ?_
  rotate_left
  · clear hSx; go_simp; (try with_reducible rfl)
  simp only [Act.put, List.setIfInBounds_toArray, List.set_cons_zero, List.set_cons_succ]
  refine wpAnyH_take (i := 6) (v := ?_) (by simp; rfl) (by kernel_rfl) (by kernel_rfl) (by kernel_rfl) (by exact fun _ _ _ h => h) (Or.inl ⟨by rfl, fun wx hSx => ?_⟩) hHeld ?_
  rotate_left
  · clear hSx; go_simp; (try with_reducible rfl)
  simp only [Act.put, List.setIfInBounds_toArray, List.set_cons_zero, List.set_cons_succ]
  refine wpAnyH_take (i := 7) (v := ?_) (by simp; rfl) (by kernel_rfl) (by kernel_rfl) (by kernel_rfl) (by exact fun _ _ _ h => h) (Or.inl ⟨by rfl, fun wx hSx => ?_⟩) hHeld ?_
  rotate_left
  · obtain ⟨s1, s2⟩ := hSx; clear s2; go_simp; (try with_reducible rfl)
  simp only [Act.put, List.setIfInBounds_toArray, List.set_cons_zero, List.set_cons_succ]
  refine wpAnyH_take (i := 8) (v := ?_) (by simp; rfl) (by kernel_rfl) (by kernel_rfl) (by kernel_rfl) (by exact fun _ _ _ h => h) (Or.inl ⟨by rfl, fun wx hSx => ?_⟩) hHeld ?_
  rotate_left
  · clear hSx; go_simp; (try with_reducible rfl)
  simp only [Act.put, List.setIfInBounds_toArray, List.set_cons_zero, List.set_cons_succ]
  refine wpAnyH_take (i := 9) (v := ?_) (by simp; rfl) (by kernel_rfl) (by kernel_rfl) (by kernel_rfl) (by exact fun _ _ _ h => h) (Or.inl ⟨by rfl, fun wx hSx => ?_⟩) hHeld ?_
  rotate_left
  · clear hSx; go_simp; (try with_reducible rfl)
  simp only [Act.put, List.setIfInBounds_toArray, List.set_cons_zero, List.set_cons_succ]
  refine wpAnyH_take (i := 10) (v := ?_) (by simp; rfl) (by kernel_rfl) (by kernel_rfl) (by kernel_rfl) (by exact fun _ _ _ h => h) (Or.inl ⟨by rfl, fun wx hSx => ?_⟩) hHeld ?_
  rotate_left
  · clear hSx; go_simp; (try with_reducible rfl)
  simp only [Act.put, List.setIfInBounds_toArray, List.set_cons_zero, List.set_cons_succ]
  refine wpAnyH_take (i := 11) (v := ?_) (by simp; rfl) (by kernel_rfl) (by kernel_rfl) (by kernel_rfl) (by exact fun _ _ _ h => h) (Or.inl ⟨by rfl, fun wx hSx => ?_⟩) hHeld ?_
  rotate_left
  · obtain ⟨s1, s2⟩ := hSx; clear s1; go_simp; (try with_reducible rfl)
  simp only [Act.put, List.setIfInBounds_toArray, List.set_cons_zero, List.set_cons_succ]
  refine wpAnyH_take (i := 12) (v := ?_) (by simp; rfl) (by kernel_rfl) (by kernel_rfl) (by kernel_rfl) (by exact fun _ _ _ h => h) (Or.inl ⟨by rfl, fun wx hSx => ?_⟩) hHeld ?_
  rotate_left
  · clear hSx; go_simp; (try with_reducible rfl)
  simp only [Act.put, List.setIfInBounds_toArray, List.set_cons_zero, List.set_cons_succ]
  refine wpAnyH_done (by kernel_rfl) ?_ _
  clear hHeld
  go_wp2
  go_ret
  exact after_same HPS.out (Below.refl _ _).drew
set_option maxRecDepth 100000 in
set_option maxHeartbeats 1000000 in
theorem rs_esc_long {B g : Nat} {v : Value} {L : List Int} {w : World} (h : Ps B g v L w) (hlen : 2 ≤ L.length) (hn : L.length ≤ 5000) (hcs : L.getD 1 0 ≠ 91) (hlt : ¬ ((L.length = 2 ∧ L.getD 1 0 = 93) ∨ lastS L < 48)) (h3 : 3 < L.length) (hz8 : 0 ≤ lastS L ∧ lastS L < 128) (hy8 : 0 ≤ L.getD 1 0 ∧ L.getD 1 0 < 128) :
    Calls Try.prog 25 #[.pointer (some ⟨g, 0, none⟩)] w (After B g v w ([], none)) := by
  have c0 := h.c0
  obtain ⟨A, c, hv, hnc, hcm, _, hR, hge⟩ := h.row
  obtain ⟨b, off, rfl, hbl, hc⟩ := hR (by omega)
  subst hv
  have hbB := hge _ _ _ rfl
  clear hge
  obtain ⟨n, hln⟩ : ∃ n, L.length = n := ⟨_, rfl⟩
  rw [hln] at c0 hnc hlen hn
  obtain ⟨m, hm⟩ : ∃ m, n - 1 = m := ⟨_, rfl⟩
  have cm := hc m (by rw [hln]; omega)
  have c1 := hc 1 (by rw [hln]; omega)
  obtain ⟨z, hz⟩ : ∃ z, L.getD m 0 = z := ⟨_, rfl⟩
  obtain ⟨y, hy⟩ : ∃ y, L.getD 1 0 = y := ⟨_, rfl⟩
  have hlast : lastS L = z := by unfold lastS; rw [hln, hm, hz]
  rw [hz] at cm
  rw [hy] at c1
  have e1 : (n : Int) - 1 = (m : Int) := by omega
  have m0 : (0 : Int) ≤ (m : Int) := by omega
  have m1 : (m : Int) < (n : Int) := by omega
  have n1 : (1 : Int) < (n : Int) := by omega
  have wm : IntKind.i64.wrap (m : Int) = (m : Int) := IntWalk.i64_in _ (by omega)
  have mm : ((m : Int)).toNat = m := rfl
  have HPS := Lib.hid h
  have HLN := Lib.hid hln
  rw [hy] at hlt hcs
  rw [hlast, hln] at hlt
  have y91 : (y == 91) = false := by simpa using hcs
  have z48 : decide (z < 48) = false := by simp; omega
  rw [hy] at hy8
  rw [hlast] at hz8
  obtain ⟨z0, z1⟩ := hz8
  obtain ⟨y0, y1⟩ := hy8
  have zw : IntKind.u8.wrap z = z := by rw [IntKind.wrap_u8]; omega
  have yw : IntKind.u8.wrap y = y := by rw [IntKind.wrap_u8]; omega
  have hgb : g ≠ b := by have := h.low; omega
  have c1w : ∀ o, ((w.setCell ⟨g, 0, none⟩ (.slice none 0 0)).alloc o).cell? ⟨b, off + 1, none⟩ = some (.int .i32 y) := fun o => by
    have hb1 : b < w.heap.size := World.block_lt_of_cell? w ⟨b, off + 1, none⟩ c1
    refine (World.cell?_of_block (Below.heap_alloc _ o b (by simpa using hb1))).trans ?_
    exact (World.cell?_setCell_far w ⟨g, 0, none⟩ ⟨b, off + 1, none⟩ _ hgb).trans c1
  have ff := h.free
  rw [hln] at h3
  have z2 : ((n : Int) == 2) = false := by simp; omega
  have z3 : ((n : Int) == 3) = false := by simp; omega
  have z3' : decide ((3 : Int) < (n : Int)) = true := by simp; omega
  have z3'' : decide (3 < n) = true := by simpa using h3
  clear hlt hcs h3 hgb
  clear h hR hc hz hy hlast hln hm hbl hbB
  go_enter Try.func25, Try.ntmps25
  go_wp2
  refine wp_region_held_drew (S := fun W => W.cell? ⟨g, 0, none⟩ = some (.slice (some ⟨b, off, none⟩) n c) ∧ W.cell? ⟨b, off + m, none⟩ = some (.int .i32 z)) (by kernel_rfl) ⟨c0, cm⟩ (fun hHeld => ?_)
  refine wpAnyH_take (i := 0) (v := ?_) (by simp; rfl) (by kernel_rfl) (by kernel_rfl) (by kernel_rfl) (by exact fun _ _ _ h => h) (Or.inl ⟨by rfl, fun wx hSx => ?_⟩) hHeld ?_
  rotate_left
  · clear hSx; go_simp; (try with_reducible rfl)
  simp only [Act.put, List.setIfInBounds_toArray, List.set_cons_zero, List.set_cons_succ]
  refine wpAnyH_take (i := 1) (v := ?_) (by simp; rfl) (by kernel_rfl) (by kernel_rfl) (by kernel_rfl) (by exact fun _ _ _ h => h) (Or.inl ⟨by rfl, fun wx hSx => ?_⟩) hHeld ?_
  rotate_left
  · clear hSx; go_simp; (try with_reducible rfl)
  simp only [Act.put, List.setIfInBounds_toArray, List.set_cons_zero, List.set_cons_succ]
  refine wpAnyH_take (i := 2) (v := ?_) (by simp; rfl) (by kernel_rfl) (by kernel_rfl) (by kernel_rfl) (by exact fun _ _ _ h => h) (Or.inl ⟨by rfl, fun wx hSx => ?_⟩) hHeld ?_
  rotate_left
  · clear hSx; go_simp; (try with_reducible rfl)
  simp only [Act.put, List.setIfInBounds_toArray, List.set_cons_zero, List.set_cons_succ]
  refine wpAnyH_take (i := 3) (v := ?_) (by simp; rfl) (by kernel_rfl) (by kernel_rfl) (by kernel_rfl) (by exact fun _ _ _ h => h) (Or.inl ⟨by rfl, fun wx hSx => ?_⟩) hHeld ?_
  rotate_left
  · obtain ⟨s1, s2⟩ := hSx; clear s2; go_simp; (try with_reducible rfl)
  simp only [Act.put, List.setIfInBounds_toArray, List.set_cons_zero, List.set_cons_succ]
  refine wpAnyH_take (i := 4) (v := ?_) (by simp; rfl) (by kernel_rfl) (by kernel_rfl) (by kernel_rfl) (by exact fun _ _ _ h => h) (Or.inl ⟨by rfl, fun wx hSx => ?_⟩) hHeld ?_
  rotate_left
  · clear hSx; go_simp; (try with_reducible rfl)
  simp only [Act.put, List.setIfInBounds_toArray, List.set_cons_zero, List.set_cons_succ]
  refine wpAnyH_take (i := 5) (v := ?_) (by simp; rfl) (by kernel_rfl) (by kernel_rfl) (by kernel_rfl) (by exact fun _ _ _ h => h) (Or.inl ⟨by rfl, fun wx hSx => ?_⟩) hHeld ?_
  rotate_left
  · clear hSx; go_simp; (try with_reducible rfl)
  simp only [Act.put, List.setIfInBounds_toArray, List.set_cons_zero, List.set_cons_succ]
  refine wpAnyH_take (i := 6) (v := ?_) (by simp; rfl) (by kernel_rfl) (by kernel_rfl) (by kernel_rfl) (by exact fun _ _ _ h => h) (Or.inl ⟨by rfl, fun wx hSx => ?_⟩) hHeld ?_
  rotate_left
  · clear hSx; go_simp; (try with_reducible rfl)
  simp only [Act.put, List.setIfInBounds_toArray, List.set_cons_zero, List.set_cons_succ]
  refine wpAnyH_take (i := 7) (v := ?_) (by simp; rfl) (by kernel_rfl) (by kernel_rfl) (by kernel_rfl) (by exact fun _ _ _ h => h) (Or.inl ⟨by rfl, fun wx hSx => ?_⟩) hHeld ?_
  rotate_left
  · obtain ⟨s1, s2⟩ := hSx; clear s2; go_simp; (try with_reducible rfl)
  simp only [Act.put, List.setIfInBounds_toArray, List.set_cons_zero, List.set_cons_succ]
  refine wpAnyH_take (i := 8) (v := ?_) (by simp; rfl) (by kernel_rfl) (by kernel_rfl) (by kernel_rfl) (by exact fun _ _ _ h => h) (Or.inl ⟨by rfl, fun wx hSx => ?_⟩) hHeld ?_
  rotate_left
  · clear hSx; go_simp; (try with_reducible rfl)
  simp only [Act.put, List.setIfInBounds_toArray, List.set_cons_zero, List.set_cons_succ]
  refine wpAnyH_take (i := 9) (v := ?_) (by simp; rfl) (by kernel_rfl) (by kernel_rfl) (by kernel_rfl) (by exact fun _ _ _ h => h) (Or.inl ⟨by rfl, fun wx hSx => ?_⟩) hHeld ?_
  rotate_left
  · clear hSx; go_simp; (try with_reducible rfl)
  simp only [Act.put, List.setIfInBounds_toArray, List.set_cons_zero, List.set_cons_succ]
  refine wpAnyH_take (i := 10) (v := ?_) (by simp; rfl) (by kernel_rfl) (by kernel_rfl) (by kernel_rfl) (by exact fun _ _ _ h => h) (Or.inl ⟨by rfl, fun wx hSx => ?_⟩) hHeld ?_
  rotate_left
  · clear hSx; go_simp; (try with_reducible rfl)
  simp only [Act.put, List.setIfInBounds_toArray, List.set_cons_zero, List.set_cons_succ]
  refine wpAnyH_take (i := 11) (v := ?_) (by simp; rfl) (by kernel_rfl) (by kernel_rfl) (by kernel_rfl) (by exact fun _ _ _ h => h) (Or.inl ⟨by rfl, fun wx hSx => ?_⟩) hHeld ?_
  rotate_left
  · obtain ⟨s1, s2⟩ := hSx; clear s1; go_simp; (try with_reducible rfl)
  simp only [Act.put, List.setIfInBounds_toArray, List.set_cons_zero, List.set_cons_succ]
  refine wpAnyH_take (i := 12) (v := ?_) (by simp; rfl) (by kernel_rfl) (by kernel_rfl) (by kernel_rfl) (by exact fun _ _ _ h => h) (Or.inl ⟨by rfl, fun wx hSx => ?_⟩) hHeld ?_
  rotate_left
  · clear hSx; go_simp; (try with_reducible rfl)
  simp only [Act.put, List.setIfInBounds_toArray, List.set_cons_zero, List.set_cons_succ]
  refine wpAnyH_done (by kernel_rfl) ?_ _
  clear hHeld
  go_wp2
  go_ret
  refine after_none HPS.out ?_
  exact (Below.refl _ _).drew.alloc (by simp) _
set_option maxRecDepth 100000 in
set_option maxHeartbeats 1000000 in
theorem rs_esc_2 {B g : Nat} {v : Value} {L : List Int} {w : World} (h : Ps B g v L w) (hlen : 2 ≤ L.length) (hn : L.length ≤ 5000) (hcs : L.getD 1 0 ≠ 91) (hlt : ¬ ((L.length = 2 ∧ L.getD 1 0 = 93) ∨ lastS L < 48)) (h3 : L.length = 2) (hz8 : 0 ≤ lastS L ∧ lastS L < 128) (hy8 : 0 ≤ L.getD 1 0 ∧ L.getD 1 0 < 128) :
    Calls Try.prog 25 #[.pointer (some ⟨g, 0, none⟩)] w (After B g v w ([], some ⟨3, 0, 0, 0, lastS L, [], []⟩)) := by
  have c0 := h.c0
  obtain ⟨A, c, hv, hnc, hcm, _, hR, hge⟩ := h.row
  obtain ⟨b, off, rfl, hbl, hc⟩ := hR (by omega)
  subst hv
  have hbB := hge _ _ _ rfl
  clear hge
  obtain ⟨n, hln⟩ : ∃ n, L.length = n := ⟨_, rfl⟩
  rw [hln] at c0 hnc hlen hn
  obtain ⟨m, hm⟩ : ∃ m, n - 1 = m := ⟨_, rfl⟩
  have cm := hc m (by rw [hln]; omega)
  have c1 := hc 1 (by rw [hln]; omega)
  obtain ⟨z, hz⟩ : ∃ z, L.getD m 0 = z := ⟨_, rfl⟩
  obtain ⟨y, hy⟩ : ∃ y, L.getD 1 0 = y := ⟨_, rfl⟩
  have hlast : lastS L = z := by unfold lastS; rw [hln, hm, hz]
  rw [hz] at cm
  rw [hy] at c1
  have e1 : (n : Int) - 1 = (m : Int) := by omega
  have m0 : (0 : Int) ≤ (m : Int) := by omega
  have m1 : (m : Int) < (n : Int) := by omega
  have n1 : (1 : Int) < (n : Int) := by omega
  have wm : IntKind.i64.wrap (m : Int) = (m : Int) := IntWalk.i64_in _ (by omega)
  have mm : ((m : Int)).toNat = m := rfl
  have HPS := Lib.hid h
  have HLN := Lib.hid hln
  rw [hy] at hlt hcs
  rw [hlast, hln] at hlt
  have y91 : (y == 91) = false := by simpa using hcs
  have z48 : decide (z < 48) = false := by simp; omega
  rw [hy] at hy8
  rw [hlast] at hz8
  obtain ⟨z0, z1⟩ := hz8
  obtain ⟨y0, y1⟩ := hy8
  have zw : IntKind.u8.wrap z = z := by rw [IntKind.wrap_u8]; omega
  have yw : IntKind.u8.wrap y = y := by rw [IntKind.wrap_u8]; omega
  have hgb : g ≠ b := by have := h.low; omega
  have c1w : ∀ o, ((w.setCell ⟨g, 0, none⟩ (.slice none 0 0)).alloc o).cell? ⟨b, off + 1, none⟩ = some (.int .i32 y) := fun o => by
    have hb1 : b < w.heap.size := World.block_lt_of_cell? w ⟨b, off + 1, none⟩ c1
    refine (World.cell?_of_block (Below.heap_alloc _ o b (by simpa using hb1))).trans ?_
    exact (World.cell?_setCell_far w ⟨g, 0, none⟩ ⟨b, off + 1, none⟩ _ hgb).trans c1
  have ff := h.free
  rw [hln] at h3
  have z2 : ((n : Int) == 2) = true := by simp; omega
  have z3 : ((n : Int) == 3) = false := by simp; omega
  have z3' : decide ((3 : Int) < (n : Int)) = false := by simp; omega
  have z3'' : decide (3 < n) = false := by simp; omega
  have y93 : (y == 93) = false := by simp; omega
  skip
  rw [hlast]
  clear hlt hcs h3 hgb
  clear h hR hc hz hy hlast hln hm hbl hbB
  go_enter Try.func25, Try.ntmps25
  go_wp2
  refine wp_region_held_drew (S := fun W => W.cell? ⟨g, 0, none⟩ = some (.slice (some ⟨b, off, none⟩) n c) ∧ W.cell? ⟨b, off + m, none⟩ = some (.int .i32 z)) (by kernel_rfl) ⟨c0, cm⟩ (fun hHeld => ?_)
  refine wpAnyH_take (i := 0) (v := ?_) (by simp; rfl) (by kernel_rfl) (by kernel_rfl) (by kernel_rfl) (by exact fun _ _ _ h => h) (Or.inl ⟨by rfl, fun wx hSx => ?_⟩) hHeld ?_
  rotate_left
  · clear hSx; go_simp; (try with_reducible rfl)
  simp only [Act.put, List.setIfInBounds_toArray, List.set_cons_zero, List.set_cons_succ]
  refine wpAnyH_take (i := 1) (v := ?_) (by simp; rfl) (by kernel_rfl) (by kernel_rfl) (by kernel_rfl) (by exact fun _ _ _ h => h) (Or.inl ⟨by rfl, fun wx hSx => ?_⟩) hHeld ?_
  rotate_left
  · clear hSx; go_simp; (try with_reducible rfl)
  simp only [Act.put, List.setIfInBounds_toArray, List.set_cons_zero, List.set_cons_succ]
  refine wpAnyH_take (i := 2) (v := ?_) (by simp; rfl) (by kernel_rfl) (by kernel_rfl) (by kernel_rfl) (by exact fun _ _ _ h => h) (Or.inl ⟨by rfl, fun wx hSx => ?_⟩) hHeld ?_
  rotate_left
  · clear hSx; go_simp; (try with_reducible rfl)
  simp only [Act.put, List.setIfInBounds_toArray, List.set_cons_zero, List.set_cons_succ]
  refine wpAnyH_take (i := 3) (v := ?_) (by simp; rfl) (by kernel_rfl) (by kernel_rfl) (by kernel_rfl) (by exact fun _ _ _ h => h) (Or.inl ⟨by rfl, fun wx hSx => ?_⟩) hHeld ?_
  rotate_left
  · obtain ⟨s1, s2⟩ := hSx; clear s2; go_simp; (try with_reducible rfl)
  simp only [Act.put, List.setIfInBounds_toArray, List.set_cons_zero, List.set_cons_succ]
  refine wpAnyH_take (i := 4) (v := ?_) (by simp; rfl) (by kernel_rfl) (by kernel_rfl) (by kernel_rfl) (by exact fun _ _ _ h => h) (Or.inl ⟨by rfl, fun wx hSx => ?_⟩) hHeld ?_
  rotate_left
  · clear hSx; go_simp; (try with_reducible rfl)
  simp only [Act.put, List.setIfInBounds_toArray, List.set_cons_zero, List.set_cons_succ]
  refine wpAnyH_take (i := 5) (v := ?_) (by simp; rfl) (by kernel_rfl) (by kernel_rfl) (by kernel_rfl) (by exact fun _ _ _ h => h) (Or.inl ⟨by rfl, fun wx hSx => ?_⟩) hHeld ?_
  rotate_left
  · clear hSx; go_simp; (try with_reducible rfl)
  simp only [Act.put, List.setIfInBounds_toArray, List.set_cons_zero, List.set_cons_succ]
  refine wpAnyH_take (i := 6) (v := ?_) (by simp; rfl) (by kernel_rfl) (by kernel_rfl) (by kernel_rfl) (by exact fun _ _ _ h => h) (Or.inl ⟨by rfl, fun wx hSx => ?_⟩) hHeld ?_
  rotate_left
  · clear hSx; go_simp; (try with_reducible rfl)
  simp only [Act.put, List.setIfInBounds_toArray, List.set_cons_zero, List.set_cons_succ]
  refine wpAnyH_take (i := 7) (v := ?_) (by simp; rfl) (by kernel_rfl) (by kernel_rfl) (by kernel_rfl) (by exact fun _ _ _ h => h) (Or.inl ⟨by rfl, fun wx hSx => ?_⟩) hHeld ?_
  rotate_left
  · obtain ⟨s1, s2⟩ := hSx; clear s2; go_simp; (try with_reducible rfl)
  simp only [Act.put, List.setIfInBounds_toArray, List.set_cons_zero, List.set_cons_succ]
  refine wpAnyH_take (i := 8) (v := ?_) (by simp; rfl) (by kernel_rfl) (by kernel_rfl) (by kernel_rfl) (by exact fun _ _ _ h => h) (Or.inl ⟨by rfl, fun wx hSx => ?_⟩) hHeld ?_
  rotate_left
  · clear hSx; go_simp; (try with_reducible rfl)
  simp only [Act.put, List.setIfInBounds_toArray, List.set_cons_zero, List.set_cons_succ]
  refine wpAnyH_take (i := 9) (v := ?_) (by simp; rfl) (by kernel_rfl) (by kernel_rfl) (by kernel_rfl) (by exact fun _ _ _ h => h) (Or.inl ⟨by rfl, fun wx hSx => ?_⟩) hHeld ?_
  rotate_left
  · clear hSx; go_simp; (try with_reducible rfl)
  simp only [Act.put, List.setIfInBounds_toArray, List.set_cons_zero, List.set_cons_succ]
  refine wpAnyH_take (i := 10) (v := ?_) (by simp; rfl) (by kernel_rfl) (by kernel_rfl) (by kernel_rfl) (by exact fun _ _ _ h => h) (Or.inl ⟨by rfl, fun wx hSx => ?_⟩) hHeld ?_
  rotate_left
  · clear hSx; go_simp; (try with_reducible rfl)
  simp only [Act.put, List.setIfInBounds_toArray, List.set_cons_zero, List.set_cons_succ]
  refine wpAnyH_take (i := 11) (v := ?_) (by simp; rfl) (by kernel_rfl) (by kernel_rfl) (by kernel_rfl) (by exact fun _ _ _ h => h) (Or.inl ⟨by rfl, fun wx hSx => ?_⟩) hHeld ?_
  rotate_left
  · obtain ⟨s1, s2⟩ := hSx; clear s1; go_simp; (try with_reducible rfl)
  simp only [Act.put, List.setIfInBounds_toArray, List.set_cons_zero, List.set_cons_succ]
  refine wpAnyH_take (i := 12) (v := ?_) (by simp; rfl) (by kernel_rfl) (by kernel_rfl) (by kernel_rfl) (by exact fun _ _ _ h => h) (Or.inl ⟨by rfl, fun wx hSx => ?_⟩) hHeld ?_
  rotate_left
  · clear hSx; go_simp; (try with_reducible rfl)
  simp only [Act.put, List.setIfInBounds_toArray, List.set_cons_zero, List.set_cons_succ]
  refine wpAnyH_done (by kernel_rfl) ?_ _
  clear hHeld
  go_wp2
  go_ret
  have hb2 := ((Below.refl w.heap.size (w.setCell ⟨g, 0, none⟩ (.slice none 0 0))).drew.alloc (by simp) (.cells #[.int .i64 3, .int .i32 0, .int .u8 0, .int .u8 0, .int .u8 z, .slice none 0 0, .string ⟨#[]⟩] 38)).alloc (by simp) (.cells #[.int .i64 3, .int .i32 0, .int .u8 0, .int .u8 0, .int .u8 z, .slice none 0 0, .string ⟨#[]⟩] 38)
  refine after_some (pv := .slice none 0 0) HPS.out hb2 ?_ (Nat.le_succ _) (World.ownsRow_nil _ _ _ _) (fun x hx => by cases hx)
  have h4 := heap_alloc_new ((w.setCell ⟨g, 0, none⟩ (.slice none 0 0)).drew.alloc (.cells #[.int .i64 3, .int .i32 0, .int .u8 0, .int .u8 0, .int .u8 z, .slice none 0 0, .string ⟨#[]⟩] 38)) (.cells #[.int .i64 3, .int .i32 0, .int .u8 0, .int .u8 0, .int .u8 z, .slice none 0 0, .string ⟨#[]⟩] 38)
  rw [show ((w.setCell ⟨g, 0, none⟩ (.slice none 0 0)).drew.alloc (.cells #[.int .i64 3, .int .i32 0, .int .u8 0, .int .u8 0, .int .u8 z, .slice none 0 0, .string ⟨#[]⟩] 38)).heap.size = w.heap.size + 1 by simp] at h4
  exact h4
set_option maxRecDepth 100000 in
set_option maxHeartbeats 1000000 in
theorem rs_esc_3 {B g : Nat} {v : Value} {L : List Int} {w : World} (h : Ps B g v L w) (hlen : 2 ≤ L.length) (hn : L.length ≤ 5000) (hcs : L.getD 1 0 ≠ 91) (hlt : ¬ ((L.length = 2 ∧ L.getD 1 0 = 93) ∨ lastS L < 48)) (h3 : L.length = 3) (hz8 : 0 ≤ lastS L ∧ lastS L < 128) (hy8 : 0 ≤ L.getD 1 0 ∧ L.getD 1 0 < 128) :
    Calls Try.prog 25 #[.pointer (some ⟨g, 0, none⟩)] w (After B g v w ([], some ⟨3, 0, 0, L.getD 1 0, lastS L, [], []⟩)) := by
  have c0 := h.c0
  obtain ⟨A, c, hv, hnc, hcm, _, hR, hge⟩ := h.row
  obtain ⟨b, off, rfl, hbl, hc⟩ := hR (by omega)
  subst hv
  have hbB := hge _ _ _ rfl
  clear hge
  obtain ⟨n, hln⟩ : ∃ n, L.length = n := ⟨_, rfl⟩
  rw [hln] at c0 hnc hlen hn
  obtain ⟨m, hm⟩ : ∃ m, n - 1 = m := ⟨_, rfl⟩
  have cm := hc m (by rw [hln]; omega)
  have c1 := hc 1 (by rw [hln]; omega)
  obtain ⟨z, hz⟩ : ∃ z, L.getD m 0 = z := ⟨_, rfl⟩
  obtain ⟨y, hy⟩ : ∃ y, L.getD 1 0 = y := ⟨_, rfl⟩
  have hlast : lastS L = z := by unfold lastS; rw [hln, hm, hz]
  rw [hz] at cm
  rw [hy] at c1
  have e1 : (n : Int) - 1 = (m : Int) := by omega
  have m0 : (0 : Int) ≤ (m : Int) := by omega
  have m1 : (m : Int) < (n : Int) := by omega
  have n1 : (1 : Int) < (n : Int) := by omega
  have wm : IntKind.i64.wrap (m : Int) = (m : Int) := IntWalk.i64_in _ (by omega)
  have mm : ((m : Int)).toNat = m := rfl
  have HPS := Lib.hid h
  have HLN := Lib.hid hln
  rw [hy] at hlt hcs
  rw [hlast, hln] at hlt
  have y91 : (y == 91) = false := by simpa using hcs
  have z48 : decide (z < 48) = false := by simp; omega
  rw [hy] at hy8
  rw [hlast] at hz8
  obtain ⟨z0, z1⟩ := hz8
  obtain ⟨y0, y1⟩ := hy8
  have zw : IntKind.u8.wrap z = z := by rw [IntKind.wrap_u8]; omega
  have yw : IntKind.u8.wrap y = y := by rw [IntKind.wrap_u8]; omega
  have hgb : g ≠ b := by have := h.low; omega
  have c1w : ∀ o, ((w.setCell ⟨g, 0, none⟩ (.slice none 0 0)).alloc o).cell? ⟨b, off + 1, none⟩ = some (.int .i32 y) := fun o => by
    have hb1 : b < w.heap.size := World.block_lt_of_cell? w ⟨b, off + 1, none⟩ c1
    refine (World.cell?_of_block (Below.heap_alloc _ o b (by simpa using hb1))).trans ?_
    exact (World.cell?_setCell_far w ⟨g, 0, none⟩ ⟨b, off + 1, none⟩ _ hgb).trans c1
  have ff := h.free
  rw [hln] at h3
  have z2 : ((n : Int) == 2) = false := by simp; omega
  have z3 : ((n : Int) == 3) = true := by simp; omega
  have z3' : decide ((3 : Int) < (n : Int)) = false := by simp; omega
  have z3'' : decide (3 < n) = false := by simp; omega
  have y93 : (y == 93) = (y == 93) := by rfl
  clear y93
  rw [hlast, hy]
  clear hlt hcs h3 hgb
  clear h hR hc hz hy hlast hln hm hbl hbB
  go_enter Try.func25, Try.ntmps25
  go_wp2
  refine wp_region_held_drew (S := fun W => W.cell? ⟨g, 0, none⟩ = some (.slice (some ⟨b, off, none⟩) n c) ∧ W.cell? ⟨b, off + m, none⟩ = some (.int .i32 z)) (by kernel_rfl) ⟨c0, cm⟩ (fun hHeld => ?_)
  refine wpAnyH_take (i := 0) (v := ?_) (by simp; rfl) (by kernel_rfl) (by kernel_rfl) (by kernel_rfl) (by exact fun _ _ _ h => h) (Or.inl ⟨by rfl, fun wx hSx => ?_⟩) hHeld ?_
  rotate_left
  · clear hSx; go_simp; (try with_reducible rfl)
  simp only [Act.put, List.setIfInBounds_toArray, List.set_cons_zero, List.set_cons_succ]
  refine wpAnyH_take (i := 1) (v := ?_) (by simp; rfl) (by kernel_rfl) (by kernel_rfl) (by kernel_rfl) (by exact fun _ _ _ h => h) (Or.inl ⟨by rfl, fun wx hSx => ?_⟩) hHeld ?_
  rotate_left
  · clear hSx; go_simp; (try with_reducible rfl)
  simp only [Act.put, List.setIfInBounds_toArray, List.set_cons_zero, List.set_cons_succ]
  refine wpAnyH_take (i := 2) (v := ?_) (by simp; rfl) (by kernel_rfl) (by kernel_rfl) (by kernel_rfl) (by exact fun _ _ _ h => h) (Or.inl ⟨by rfl, fun wx hSx => ?_⟩) hHeld ?_
  rotate_left
  · clear hSx; go_simp; (try with_reducible rfl)
  simp only [Act.put, List.setIfInBounds_toArray, List.set_cons_zero, List.set_cons_succ]
  refine wpAnyH_take (i := 3) (v := ?_) (by simp; rfl) (by kernel_rfl) (by kernel_rfl) (by kernel_rfl) (by exact fun _ _ _ h => h) (Or.inl ⟨by rfl, fun wx hSx => ?_⟩) hHeld ?_
  rotate_left
  · obtain ⟨s1, s2⟩ := hSx; clear s2; go_simp; (try with_reducible rfl)
  simp only [Act.put, List.setIfInBounds_toArray, List.set_cons_zero, List.set_cons_succ]
  refine wpAnyH_take (i := 4) (v := ?_) (by simp; rfl) (by kernel_rfl) (by kernel_rfl) (by kernel_rfl) (by exact fun _ _ _ h => h) (Or.inl ⟨by rfl, fun wx hSx => ?_⟩) hHeld ?_
  rotate_left
  · clear hSx; go_simp; (try with_reducible rfl)
  simp only [Act.put, List.setIfInBounds_toArray, List.set_cons_zero, List.set_cons_succ]
  refine wpAnyH_take (i := 5) (v := ?_) (by simp; rfl) (by kernel_rfl) (by kernel_rfl) (by kernel_rfl) (by exact fun _ _ _ h => h) (Or.inl ⟨by rfl, fun wx hSx => ?_⟩) hHeld ?_
  rotate_left
  · clear hSx; go_simp; (try with_reducible rfl)
  simp only [Act.put, List.setIfInBounds_toArray, List.set_cons_zero, List.set_cons_succ]
  refine wpAnyH_take (i := 6) (v := ?_) (by simp; rfl) (by kernel_rfl) (by kernel_rfl) (by kernel_rfl) (by exact fun _ _ _ h => h) (Or.inl ⟨by rfl, fun wx hSx => ?_⟩) hHeld ?_
  rotate_left
  · clear hSx; go_simp; (try with_reducible rfl)
  simp only [Act.put, List.setIfInBounds_toArray, List.set_cons_zero, List.set_cons_succ]
  refine wpAnyH_take (i := 7) (v := ?_) (by simp; rfl) (by kernel_rfl) (by kernel_rfl) (by kernel_rfl) (by exact fun _ _ _ h => h) (Or.inl ⟨by rfl, fun wx hSx => ?_⟩) hHeld ?_
  rotate_left
  · obtain ⟨s1, s2⟩ := hSx; clear s2; go_simp; (try with_reducible rfl)
  simp only [Act.put, List.setIfInBounds_toArray, List.set_cons_zero, List.set_cons_succ]
  refine wpAnyH_take (i := 8) (v := ?_) (by simp; rfl) (by kernel_rfl) (by kernel_rfl) (by kernel_rfl) (by exact fun _ _ _ h => h) (Or.inl ⟨by rfl, fun wx hSx => ?_⟩) hHeld ?_
  rotate_left
  · clear hSx; go_simp; (try with_reducible rfl)
  simp only [Act.put, List.setIfInBounds_toArray, List.set_cons_zero, List.set_cons_succ]
  refine wpAnyH_take (i := 9) (v := ?_) (by simp; rfl) (by kernel_rfl) (by kernel_rfl) (by kernel_rfl) (by exact fun _ _ _ h => h) (Or.inl ⟨by rfl, fun wx hSx => ?_⟩) hHeld ?_
  rotate_left
  · clear hSx; go_simp; (try with_reducible rfl)
  simp only [Act.put, List.setIfInBounds_toArray, List.set_cons_zero, List.set_cons_succ]
  refine wpAnyH_take (i := 10) (v := ?_) (by simp; rfl) (by kernel_rfl) (by kernel_rfl) (by kernel_rfl) (by exact fun _ _ _ h => h) (Or.inl ⟨by rfl, fun wx hSx => ?_⟩) hHeld ?_
  rotate_left
  · clear hSx; go_simp; (try with_reducible rfl)
  simp only [Act.put, List.setIfInBounds_toArray, List.set_cons_zero, List.set_cons_succ]
  refine wpAnyH_take (i := 11) (v := ?_) (by simp; rfl) (by kernel_rfl) (by kernel_rfl) (by kernel_rfl) (by exact fun _ _ _ h => h) (Or.inl ⟨by rfl, fun wx hSx => ?_⟩) hHeld ?_
  rotate_left
  · obtain ⟨s1, s2⟩ := hSx; clear s1; go_simp; (try with_reducible rfl)
  simp only [Act.put, List.setIfInBounds_toArray, List.set_cons_zero, List.set_cons_succ]
  refine wpAnyH_take (i := 12) (v := ?_) (by simp; rfl) (by kernel_rfl) (by kernel_rfl) (by kernel_rfl) (by exact fun _ _ _ h => h) (Or.inl ⟨by rfl, fun wx hSx => ?_⟩) hHeld ?_
  rotate_left
  · clear hSx; go_simp; (try with_reducible rfl)
  simp only [Act.put, List.setIfInBounds_toArray, List.set_cons_zero, List.set_cons_succ]
  refine wpAnyH_done (by kernel_rfl) ?_ _
  clear hHeld
  go_wp2
  go_ret
  have hb2 := ((Below.refl w.heap.size (w.setCell ⟨g, 0, none⟩ (.slice none 0 0))).drew.alloc (by simp) (.cells #[.int .i64 3, .int .i32 0, .int .u8 0, .int .u8 y, .int .u8 z, .slice none 0 0, .string ⟨#[]⟩] 38)).alloc (by simp) (.cells #[.int .i64 3, .int .i32 0, .int .u8 0, .int .u8 y, .int .u8 z, .slice none 0 0, .string ⟨#[]⟩] 38)
  refine after_some (pv := .slice none 0 0) HPS.out hb2 ?_ (Nat.le_succ _) (World.ownsRow_nil _ _ _ _) (fun x hx => by cases hx)
  have h4 := heap_alloc_new ((w.setCell ⟨g, 0, none⟩ (.slice none 0 0)).drew.alloc (.cells #[.int .i64 3, .int .i32 0, .int .u8 0, .int .u8 y, .int .u8 z, .slice none 0 0, .string ⟨#[]⟩] 38)) (.cells #[.int .i64 3, .int .i32 0, .int .u8 0, .int .u8 y, .int .u8 z, .slice none 0 0, .string ⟨#[]⟩] 38)
  rw [show ((w.setCell ⟨g, 0, none⟩ (.slice none 0 0)).drew.alloc (.cells #[.int .i64 3, .int .i32 0, .int .u8 0, .int .u8 y, .int .u8 z, .slice none 0 0, .string ⟨#[]⟩] 38)).heap.size = w.heap.size + 1 by simp] at h4
  exact h4
def csiR (M : List Int) (z : Int) : List Int × Option Ev := if (csiS M).2 = true then ([], some { (csiS M).1 with fin := z }) else ([], none)
theorem RI.drop {k : IntKind} {w : World} {b off : Nat} {L : List Int} (h : RI k w (some ⟨b, off, none⟩) L) (n : Nat) : RI k w (some ⟨b, off + n, none⟩) (L.drop n) := fun hp => by
  rw [List.length_drop] at hp
  obtain ⟨b', off', e, hb, hc⟩ := h (by omega)
  injection e with e
  injection e with e1 e2 _
  subst e1 e2
  refine ⟨b, off + n, rfl, hb, fun i hi => ?_⟩
  rw [List.length_drop] at hi
  have := hc (n + i) (by omega)
  rw [Nat.add_assoc, this]
  simp [List.getD]
theorem RI.take {k : IntKind} {w : World} {A : Option Addr} {L : List Int} (h : RI k w A L) (n : Nat) : RI k w A (L.take n) := fun hp => by
  have hl : (L.take n).length ≤ L.length := by simp; omega
  obtain ⟨b, off, rfl, hb, hc⟩ := h (by omega)
  refine ⟨b, off, rfl, hb, fun i hi => ?_⟩
  rw [List.length_take] at hi
  rw [hc i (by omega)]
  simp [List.getD, show i < n by omega]
theorem RI.off {k : IntKind} {w : World} {b off g i : Nat} {L : List Int} (h : RI k w (some ⟨b, off, none⟩) L) (hg : g ≠ b) (x : Value) : RI k (w.setCell ⟨g, i, none⟩ x) (some ⟨b, off, none⟩) L := fun hp => by
  obtain ⟨b', off', e, hb, hc⟩ := h hp
  injection e with e
  injection e with e1 e2 _
  subst e1 e2
  exact ⟨b, off, rfl, by simpa using hb, fun j hj => (World.cell?_setCell_far w ⟨g, i, none⟩ ⟨b, off + j, none⟩ _ hg).trans (hc j hj)⟩
set_option maxRecDepth 100000 in
set_option maxHeartbeats 1000000 in
theorem rs_csi_end {B g : Nat} {v : Value} {L : List Int} {w : World} (h : Ps B g v L w) (hlen : 2 ≤ L.length) (hn : L.length ≤ 5000) (hcs : L.getD 1 0 = 91) (hlt : ¬ (L.length = 2 ∨ lastS L < 64)) (hz8 : 0 ≤ lastS L ∧ lastS L < 128) (hrg : ∀ x ∈ (L.drop 2).take (L.length - 3), 32 ≤ x ∧ x < 128) :
    Calls Try.prog 25 #[.pointer (some ⟨g, 0, none⟩)] w (After B g v w (csiR ((L.drop 2).take (L.length - 3)) (lastS L))) := by
  have c0 := h.c0
  obtain ⟨A, c, hv, hnc, hcm, _, hR, hge⟩ := h.row
  obtain ⟨b, off, rfl, hbl, hc⟩ := hR (by omega)
  subst hv
  have hbB := hge _ _ _ rfl
  clear hge
  obtain ⟨n, hln⟩ : ∃ n, L.length = n := ⟨_, rfl⟩
  rw [hln] at c0 hnc hlen hn
  obtain ⟨m, hm⟩ : ∃ m, n - 1 = m := ⟨_, rfl⟩
  have cm := hc m (by rw [hln]; omega)
  have c1 := hc 1 (by rw [hln]; omega)
  obtain ⟨z, hz⟩ : ∃ z, L.getD m 0 = z := ⟨_, rfl⟩
  obtain ⟨y, hy⟩ : ∃ y, L.getD 1 0 = y := ⟨_, rfl⟩
  have hlast : lastS L = z := by unfold lastS; rw [hln, hm, hz]
  rw [hz] at cm
  rw [hy] at c1
  have e1 : (n : Int) - 1 = (m : Int) := by omega
  have m0 : (0 : Int) ≤ (m : Int) := by omega
  have m1 : (m : Int) < (n : Int) := by omega
  have n1 : (1 : Int) < (n : Int) := by omega
  have wm : IntKind.i64.wrap (m : Int) = (m : Int) := IntWalk.i64_in _ (by omega)
  have mm : ((m : Int)).toNat = m := rfl
  have HPS := Lib.hid h
  have HLN := Lib.hid hln
  rw [hy] at hcs
  rw [hlast, hln] at hlt
  rw [hlast] at hz8 ⊢
  obtain ⟨z0, z1⟩ := hz8
  have y91 : (y == 91) = true := by simpa using hcs
  have z2 : ((n : Int) == 2) = false := by simp; omega
  have z64 : decide (z < 64) = false := by simp; omega
  have zw : IntKind.u8.wrap z = z := by rw [IntKind.wrap_u8]; omega
  have hgb : g ≠ b := by have := h.low; omega
  obtain ⟨M, hM⟩ : ∃ M, (L.drop 2).take (L.length - 3) = M := ⟨_, rfl⟩
  have hMl : M.length = m - 2 := by rw [← hM, List.length_take, List.length_drop, hln]; omega
  have hMR : RI .i32 (w.setCell ⟨g, 0, none⟩ (.slice none 0 0)).drew (some ⟨b, off + 2, none⟩) M := by
    rw [← hM]
    exact RI.off (i := 0) ((RI.drop hR 2).take _) hgb (.slice none 0 0)
  rw [hM] at hrg ⊢
  have ff := h.free
  have HCSI := Lib.hid (rcsi_any (cp := c - 2) hMR hMl (by omega) hrg)
  have k1 : 2 ≤ m := by omega
  have k2 : (2 : Int) ≤ (m : Int) := by omega
  have k3 : m ≤ c := by omega
  have k4 : (m : Int) ≤ (c : Int) := by omega
  have k5 : (c == 2) = false := by simp; omega
  have k6 : (2 == c) = false := by simp; omega
  have k7 : 2 < c := by omega
  have k8 : (m : Int) - 2 = ((m - 2 : Nat) : Int) := by omega
  clear hlt hcs hgb hM hMl hMR hrg
  clear h hR hc hz hy hlast hln hm hbl hbB
  go_enter Try.func25, Try.ntmps25
  go_wp2
  refine wp_region_held_drew (S := fun W => W.cell? ⟨g, 0, none⟩ = some (.slice (some ⟨b, off, none⟩) n c) ∧ W.cell? ⟨b, off + m, none⟩ = some (.int .i32 z)) (by kernel_rfl) ⟨c0, cm⟩ (fun hHeld => ?_)
  refine wpAnyH_take (i := 0) (v := ?_) (by simp; rfl) (by kernel_rfl) (by kernel_rfl) (by kernel_rfl) (by exact fun _ _ _ h => h) (Or.inl ⟨by rfl, fun wx hSx => ?_⟩) hHeld ?_
  rotate_left
  · clear hSx; go_simp; (try with_reducible rfl)
  simp only [Act.put, List.setIfInBounds_toArray, List.set_cons_zero, List.set_cons_succ]
  refine wpAnyH_take (i := 1) (v := ?_) (by simp; rfl) (by kernel_rfl) (by kernel_rfl) (by kernel_rfl) (by exact fun _ _ _ h => h) (Or.inl ⟨by rfl, fun wx hSx => ?_⟩) hHeld ?_
  rotate_left
  · clear hSx; go_simp; (try with_reducible rfl)
  simp only [Act.put, List.setIfInBounds_toArray, List.set_cons_zero, List.set_cons_succ]
  refine wpAnyH_take (i := 2) (v := ?_) (by simp; rfl) (by kernel_rfl) (by kernel_rfl) (by kernel_rfl) (by exact fun _ _ _ h => h) (Or.inl ⟨by rfl, fun wx hSx => ?_⟩) hHeld ?_
  rotate_left
  · clear hSx; go_simp; (try with_reducible rfl)
  simp only [Act.put, List.setIfInBounds_toArray, List.set_cons_zero, List.set_cons_succ]
  refine wpAnyH_take (i := 3) (v := ?_) (by simp; rfl) (by kernel_rfl) (by kernel_rfl) (by kernel_rfl) (by exact fun _ _ _ h => h) (Or.inl ⟨by rfl, fun wx hSx => ?_⟩) hHeld ?_
  rotate_left
  · obtain ⟨s1, s2⟩ := hSx; clear s2; go_simp; (try with_reducible rfl)
  simp only [Act.put, List.setIfInBounds_toArray, List.set_cons_zero, List.set_cons_succ]
  refine wpAnyH_take (i := 4) (v := ?_) (by simp; rfl) (by kernel_rfl) (by kernel_rfl) (by kernel_rfl) (by exact fun _ _ _ h => h) (Or.inl ⟨by rfl, fun wx hSx => ?_⟩) hHeld ?_
  rotate_left
  · clear hSx; go_simp; (try with_reducible rfl)
  simp only [Act.put, List.setIfInBounds_toArray, List.set_cons_zero, List.set_cons_succ]
  refine wpAnyH_take (i := 5) (v := ?_) (by simp; rfl) (by kernel_rfl) (by kernel_rfl) (by kernel_rfl) (by exact fun _ _ _ h => h) (Or.inl ⟨by rfl, fun wx hSx => ?_⟩) hHeld ?_
  rotate_left
  · clear hSx; go_simp; (try with_reducible rfl)
  simp only [Act.put, List.setIfInBounds_toArray, List.set_cons_zero, List.set_cons_succ]
  refine wpAnyH_take (i := 6) (v := ?_) (by simp; rfl) (by kernel_rfl) (by kernel_rfl) (by kernel_rfl) (by exact fun _ _ _ h => h) (Or.inl ⟨by rfl, fun wx hSx => ?_⟩) hHeld ?_
  rotate_left
  · clear hSx; go_simp; (try with_reducible rfl)
  simp only [Act.put, List.setIfInBounds_toArray, List.set_cons_zero, List.set_cons_succ]
  refine wpAnyH_take (i := 7) (v := ?_) (by simp; rfl) (by kernel_rfl) (by kernel_rfl) (by kernel_rfl) (by exact fun _ _ _ h => h) (Or.inl ⟨by rfl, fun wx hSx => ?_⟩) hHeld ?_
  rotate_left
  · obtain ⟨s1, s2⟩ := hSx; clear s2; go_simp; (try with_reducible rfl)
  simp only [Act.put, List.setIfInBounds_toArray, List.set_cons_zero, List.set_cons_succ]
  refine wpAnyH_take (i := 8) (v := ?_) (by simp; rfl) (by kernel_rfl) (by kernel_rfl) (by kernel_rfl) (by exact fun _ _ _ h => h) (Or.inl ⟨by rfl, fun wx hSx => ?_⟩) hHeld ?_
  rotate_left
  · clear hSx; go_simp; (try with_reducible rfl)
  simp only [Act.put, List.setIfInBounds_toArray, List.set_cons_zero, List.set_cons_succ]
  refine wpAnyH_take (i := 9) (v := ?_) (by simp; rfl) (by kernel_rfl) (by kernel_rfl) (by kernel_rfl) (by exact fun _ _ _ h => h) (Or.inl ⟨by rfl, fun wx hSx => ?_⟩) hHeld ?_
  rotate_left
  · clear hSx; go_simp; (try with_reducible rfl)
  simp only [Act.put, List.setIfInBounds_toArray, List.set_cons_zero, List.set_cons_succ]
  refine wpAnyH_take (i := 10) (v := ?_) (by simp; rfl) (by kernel_rfl) (by kernel_rfl) (by kernel_rfl) (by exact fun _ _ _ h => h) (Or.inl ⟨by rfl, fun wx hSx => ?_⟩) hHeld ?_
  rotate_left
  · clear hSx; go_simp; (try with_reducible rfl)
  simp only [Act.put, List.setIfInBounds_toArray, List.set_cons_zero, List.set_cons_succ]
  refine wpAnyH_take (i := 11) (v := ?_) (by simp; rfl) (by kernel_rfl) (by kernel_rfl) (by kernel_rfl) (by exact fun _ _ _ h => h) (Or.inl ⟨by rfl, fun wx hSx => ?_⟩) hHeld ?_
  rotate_left
  · obtain ⟨s1, s2⟩ := hSx; clear s1; go_simp; (try with_reducible rfl)
  simp only [Act.put, List.setIfInBounds_toArray, List.set_cons_zero, List.set_cons_succ]
  refine wpAnyH_take (i := 12) (v := ?_) (by simp; rfl) (by kernel_rfl) (by kernel_rfl) (by kernel_rfl) (by exact fun _ _ _ h => h) (Or.inl ⟨by rfl, fun wx hSx => ?_⟩) hHeld ?_
  rotate_left
  · clear hSx; go_simp; (try with_reducible rfl)
  simp only [Act.put, List.setIfInBounds_toArray, List.set_cons_zero, List.set_cons_succ]
  refine wpAnyH_done (by kernel_rfl) ?_ _
  clear hHeld
  go_wp2_with fail
  refine HCSI.out.mono ?_
  rintro x w2 ⟨pv, ev, ok, hcsi, rfl, hown, hb2, hnum⟩
  obtain ⟨Ap, cp, rfl, _⟩ := own_slice hown
  obtain ⟨k, hk⟩ : ∃ k, ev.params.length = k := ⟨_, rfl⟩
  have HC := Lib.hid hcsi
  have HOWN := Lib.hid hown
  have hbw : Below w.heap.size (w.setCell ⟨g, 0, none⟩ (.slice none 0 0)) w2 := (Below.refl w.heap.size (w.setCell ⟨g, 0, none⟩ (.slice none 0 0))).drew.trans (hb2.mono (by simp))
  have HBW := Lib.hid hbw
  have HNUM := Lib.hid hnum
  have hsz : w.heap.size ≤ w2.heap.size := by have := hbw.size; simpa using this
  dsimp only [evL]
  clear hcsi hown hb2 hnum hbw HCSI hk
  cases ok
  · go_wp2
    go_ret
    have e : csiR M z = ([], none) := by unfold csiR; rw [HC.out, if_neg (by simp)]
    rw [e]
    exact after_none HPS.out (HBW.out.alloc hsz _)
  · go_wp2
    go_ret
    have e : csiR M z = ([], some { ev with fin := z }) := by unfold csiR; rw [HC.out, if_pos rfl]
    rw [e]
    have hb3 := HBW.out.alloc hsz (.cells #[.int .i64 ev.kind, .int .i32 ev.point, .int .u8 ev.priv, .int .u8 ev.inter, .int .u8 z, .slice Ap ev.params.length cp, .string (strOfNums ev.text)] 38)
    have hb4 := hb3.alloc (by simp; omega) (.cells #[.int .i64 ev.kind, .int .i32 ev.point, .int .u8 ev.priv, .int .u8 ev.inter, .int .u8 z, .slice Ap ev.params.length cp, .string (strOfNums ev.text)] 38)
    have h4 := heap_alloc_new (w2.alloc (.cells #[.int .i64 ev.kind, .int .i32 ev.point, .int .u8 ev.priv, .int .u8 ev.inter, .int .u8 z, .slice Ap ev.params.length cp, .string (strOfNums ev.text)] 38)) (.cells #[.int .i64 ev.kind, .int .i32 ev.point, .int .u8 ev.priv, .int .u8 ev.inter, .int .u8 z, .slice Ap ev.params.length cp, .string (strOfNums ev.text)] 38)
    rw [show (w2.alloc (.cells #[.int .i64 ev.kind, .int .i32 ev.point, .int .u8 ev.priv, .int .u8 ev.inter, .int .u8 z, .slice Ap ev.params.length cp, .string (strOfNums ev.text)] 38)).heap.size = w2.heap.size + 1 by simp] at h4
    have ho := own_mono HOWN.out (show w.heap.size ≤ (w.setCell ⟨g, 0, none⟩ (.slice none 0 0)).drew.heap.size by simp)
    have ho2 := own_below (own_below ho ((Below.refl _ _).alloc (Nat.le_refl _) (.cells #[.int .i64 ev.kind, .int .i32 ev.point, .int .u8 ev.priv, .int .u8 ev.inter, .int .u8 z, .slice Ap ev.params.length cp, .string (strOfNums ev.text)] 38))) ((Below.refl _ _).alloc (Nat.le_refl _) (.cells #[.int .i64 ev.kind, .int .i32 ev.point, .int .u8 ev.priv, .int .u8 ev.inter, .int .u8 z, .slice Ap ev.params.length cp, .string (strOfNums ev.text)] 38))
    exact after_some (e := { ev with fin := z }) (pv := .slice Ap ev.params.length cp) HPS.out hb4 h4 (by omega) ho2 HNUM.out
/-- The points that may stand in a sequence. -/
def SeqOk (L : List Int) : Prop := ∀ i, 1 ≤ i → i < L.length → 32 ≤ L.getD i 0 ∧ L.getD i 0 < 128
theorem rp_seq {B g : Nat} {v : Value} {L : List Int} {w : World} (h : Ps B g v L w) (hlen : 2 ≤ L.length) (hn : L.length ≤ 5000) (hr : SeqOk L) :
    Calls Try.prog 25 #[.pointer (some ⟨g, 0, none⟩)] w (After B g v w (seqS L)) := by
  have hz := hr (L.length - 1) (by omega) (by omega)
  have hz8 : 0 ≤ lastS L ∧ lastS L < 128 := ⟨by unfold lastS; omega, by unfold lastS; omega⟩
  have hy := hr 1 (by omega) (by omega)
  have hy8 : 0 ≤ L.getD 1 0 ∧ L.getD 1 0 < 128 := ⟨by omega, by omega⟩
  by_cases hcs : L.getD 1 0 = 91
  · by_cases hlt : L.length = 2 ∨ lastS L < 64
    · rw [show seqS L = (L, none) by unfold seqS; rw [if_pos hcs, if_pos hlt]]
      exact rs_csi_on h hlen hn hcs hlt
    · rw [show seqS L = csiR ((L.drop 2).take (L.length - 3)) (lastS L) by unfold seqS csiR; rw [if_pos hcs, if_neg hlt]]
      refine rs_csi_end h hlen hn hcs hlt hz8 (fun x hx => ?_)
      obtain ⟨i, hi, rfl⟩ := List.mem_iff_getElem.1 hx
      rw [List.length_take, List.length_drop] at hi
      have := hr (2 + i) (by omega) (by omega)
      simpa [List.getD, show 2 + i < L.length by omega] using this
  · by_cases hlt : (L.length = 2 ∧ L.getD 1 0 = 93) ∨ lastS L < 48
    · rw [show seqS L = (L, none) by unfold seqS; rw [if_neg hcs, if_pos hlt]]
      exact rs_esc_on h hlen hn hcs hlt
    · by_cases h3 : 3 < L.length
      · rw [show seqS L = ([], none) by unfold seqS; rw [if_neg hcs, if_neg hlt, if_pos h3]]
        exact rs_esc_long h hlen hn hcs hlt h3 hz8 hy8
      · by_cases h4 : L.length = 3
        · rw [show seqS L = ([], some ⟨3, 0, 0, L.getD 1 0, lastS L, [], []⟩) by unfold seqS; rw [if_neg hcs, if_neg hlt, if_neg h3, if_pos h4]]
          exact rs_esc_3 h hlen hn hcs hlt h4 hz8 hy8
        · rw [show seqS L = ([], some ⟨3, 0, 0, 0, lastS L, [], []⟩) by unfold seqS; rw [if_neg hcs, if_neg hlt, if_neg h3, if_neg h4]]
          exact rs_esc_2 h hlen hn hcs hlt (by omega) hz8 hy8
end Go.Proofs.Ytfacnemgjdmlmaa
