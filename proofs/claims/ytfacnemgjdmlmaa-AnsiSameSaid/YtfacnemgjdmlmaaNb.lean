/-
  Proved here: of the document's sequences: number.
-/
import Derived.Test.YtfacnemgjdmlmaaNa
import Derived.Test.YtfacnemgjdmlmaaOwI
import Derived.IntWalk
import Derived.WalkLawsBesides
import Derived.Below
import Derived.OneCell
import Derived.Laws.Rows
import Derived.Laws.Tables
import Derived.Deep.RegionHeld
import Derived.Deep.DeepCutAuto
set_option linter.unusedSimpArgs false
set_option linter.unusedVariables false
namespace Go.Proofs.Ytfacnemgjdmlmaa
open Go.RowKit
/-- An event's cells. -/
def evL (e : Ev) (pv : Value) : List Value := [.int .i64 e.kind, .int .i32 e.point, .int .u8 e.priv, .int .u8 e.inter, .int .u8 e.fin, pv, .string (strOfNums e.text)]
/-- What was there below B is as it was, but for block g. -/
structure OnlyG (B g : Nat) (w w' : World) : Prop where
  os : w'.os = w.os
  tape : w'.tape = w.tape
  output : w'.output = w.output
  size : w.heap.size ≤ w'.heap.size
  block : ∀ k, k < B → k ≠ g → w'.heap[k]? = w.heap[k]?
theorem OnlyG.refl (B g : Nat) (w : World) : OnlyG B g w w := ⟨rfl, rfl, rfl, Nat.le_refl _, fun _ _ _ => rfl⟩
theorem OnlyG.trans {B g : Nat} {a b c : World} (h : OnlyG B g a b) (k : OnlyG B g b c) : OnlyG B g a c :=
  ⟨k.os.trans h.os, k.tape.trans h.tape, k.output.trans h.output, Nat.le_trans h.size k.size, fun i h1 h2 => (k.block i h1 h2).trans (h.block i h1 h2)⟩
theorem OnlyG.setCell {B g : Nat} {a w : World} (h : OnlyG B g a w) (i : Nat) (v : Value) : OnlyG B g a (w.setCell ⟨g, i, none⟩ v) :=
  ⟨h.os, h.tape, h.output, by simpa using h.size, fun k h1 h2 => (heap_setCell_other w _ k v h2).trans (h.block k h1 h2)⟩
theorem OnlyG.far {B g : Nat} {a w : World} (h : OnlyG B g a w) {b : Nat} (hb : B ≤ b) (i : Nat) (v : Value) : OnlyG B g a (w.setCell ⟨b, i, none⟩ v) :=
  ⟨h.os, h.tape, h.output, by simpa using h.size, fun k h1 h2 => (heap_setCell_other w _ k v (by show k ≠ b; omega)).trans (h.block k h1 h2)⟩
theorem OnlyG.of_below {B g : Nat} {w w' : World} (h : Below B w w') : OnlyG B g w w' := ⟨h.os, h.tape, h.output, h.size, fun k h1 _ => h.block k h1⟩
/-- An event of this call's own: its block g, its numbers in a row from B on. -/
structure EvAt (B g : Nat) (e : Ev) (pv : Value) (W : World) : Prop where
  row : W.heap[g]? = some (.cells (evL e pv).toArray 38 (0, 0))
  own : W.ownsRow B 3 1 pv e.params.length (NV .i64 e.params)
  low : g < B
  big : B ≤ W.heap.size
theorem EvAt.cell {B g : Nat} {e : Ev} {pv : Value} {W : World} (h : EvAt B g e pv W) {i : Nat} {v : Value} (hv : (evL e pv)[i]? = some v) : W.cell? ⟨g, i, none⟩ = some v := by
  unfold World.cell?; simp only [h.row]; simpa using hv
theorem EvAt.free {B g : Nat} {e : Ev} {pv : Value} {W : World} (h : EvAt B g e pv W) (i : Nat) : W.frozen? ⟨g, i, none⟩ = false := frozen_of_row W _ i _ _ h.row
theorem EvAt.drew {B g : Nat} {e : Ev} {pv : Value} {W : World} (h : EvAt B g e pv W) : EvAt B g e pv W.drew := ⟨h.row, own_below h.own (Below.refl _ _).drew, h.low, h.big⟩
/-- The row's head. -/
theorem EvAt.slice {B g : Nat} {e : Ev} {pv : Value} {W : World} (h : EvAt B g e pv W) (hp : e.params ≠ []) : ∃ b c, pv = .slice (some ⟨b, 0, none⟩) e.params.length c ∧ B ≤ b ∧ e.params.length ≤ c := by
  obtain ⟨A, c, rfl, hc, _, _⟩ := own_slice h.own
  obtain ⟨b, rfl, hb, _, _⟩ := own_cells h.own rfl (List.length_pos_iff.2 hp)
  exact ⟨b, c, rfl, hb, hc⟩
/-- Another value in a cell of the event's. -/
theorem EvAt.set {B g : Nat} {e e' : Ev} {pv : Value} {W : World} (h : EvAt B g e pv W) (i : Nat) (v : Value) (hs : (evL e pv).set i v = evL e' pv) (hp : e'.params = e.params) : EvAt B g e' pv (W.setCell ⟨g, i, none⟩ v) := by
  refine ⟨?_, ?_, h.low, by simpa using h.big⟩
  · rw [heap_setCell_same W _ i _ _ v h.row, ← hs]; simp
  · rw [hp]; exact ownsRow_setCell_below h.own h.low v
/-- A row in the place of the one that was there. -/
theorem EvAt.setRow {B g : Nat} {e : Ev} {pv pv' : Value} {ps : List Int} {W : World} (hrow : W.heap[g]? = some (.cells (evL e pv).toArray 38 (0, 0))) (hown : W.ownsRow B 3 1 pv' ps.length (NV .i64 ps)) (hl : g < B) (hb : B ≤ W.heap.size) : EvAt B g { e with params := ps } pv' (W.setCell ⟨g, 5, none⟩ pv') := by
  refine ⟨?_, ownsRow_setCell_below hown hl pv', hl, by simpa using hb⟩
  rw [heap_setCell_same W _ 5 _ _ pv' hrow]; rfl
/-- Another value in a cell of the row. -/
theorem EvAt.put {B g : Nat} {e : Ev} {b c : Nat} {W : World} (h : EvAt B g e (.slice (some ⟨b, 0, none⟩) e.params.length c) W) (hb : B ≤ b) (j : Nat) (x : Int) : EvAt B g { e with params := e.params.set j x } (.slice (some ⟨b, 0, none⟩) e.params.length c) (W.setCell ⟨b, j, none⟩ (.int .i64 x)) := by
  refine ⟨(heap_setCell_other W _ g _ (by show g ≠ b; have := h.low; omega)).trans h.row, ?_, h.low, by simpa using h.big⟩
  have := (h.own.stored j (.int .i64 x)).1
  exact own_cast this (by simp) (by simp [NV, List.map_set])
theorem EvAt.at_ {B g : Nat} {e : Ev} {b c : Nat} {W : World} (h : EvAt B g e (.slice (some ⟨b, 0, none⟩) e.params.length c) W) {j : Nat} (hj : j < e.params.length) : W.cell? ⟨b, j, none⟩ = some (.int .i64 (e.params.getD j 0)) ∧ W.frozen? ⟨b, j, none⟩ = false :=
  ⟨(h.own.cellAt j (by omega)).trans (NV_getElem hj), h.own.frozenAt j⟩
set_option maxRecDepth 100000 in
set_option maxHeartbeats 1000000 in
/-- A further number. -/
theorem rn_more {w : World} {B g : Nat} {e : Ev} {pv : Value} (h : EvAt B g e pv w) (hn : e.params.length ≤ 50000) :
    Calls Try.prog 37 #[.pointer (some ⟨g, 0, none⟩), .int .i32 59] w fun x w' => x = .returned (.tuple #[]) ∧ ∃ pv', EvAt B g { e with params := numS e.params 59 } pv' w' ∧ OnlyG B g w w' := by
  have c5 := h.cell (i := 5) (v := pv) rfl
  have f5 := h.free 5
  have hb := (Below.refl B w).alloc h.big (.cells #[.int .i64 0] 3)
  have hbw := (Below.refl w.heap.size w).alloc (Nat.le_refl _) (.cells #[.int .i64 0] 3)
  obtain ⟨v2, w2, hrun, hown, hgr⟩ := app_i64 (ys := [0]) (m := 1) rfl 1 (RI.one .i64 w 0 3) (fun x => by cases x) (own_below h.own hbw) (by omega) (by simp; have := h.big; omega)
  obtain ⟨A2, cc2, rfl, _⟩ := own_slice hown
  have hb2 := hb.grown hgr (by simp; have := h.big; omega) (ownBlock_le h.own)
  have hrow2 : w2.heap[g]? = some (.cells (evL e pv).toArray 38 (0, 0)) := (hb2.block g h.low).trans h.row
  have c52 : w2.cell? ⟨g, 5, none⟩ = some pv := by unfold World.cell?; simp only [hrow2]; rfl
  have f52 : w2.frozen? ⟨g, 5, none⟩ = false := frozen_of_row w2 _ 5 _ _ hrow2
  have he : numS e.params 59 = e.params ++ [0] := by unfold numS; rw [if_pos rfl]
  have HE : Hid (EvAt B g { e with params := numS e.params 59 } (.slice A2 (e.params.length + 1) cc2) (w2.setCell ⟨g, 5, none⟩ (.slice A2 (e.params.length + 1) cc2))) := Lib.hid (by rw [he]; exact EvAt.setRow hrow2 (own_cast hown (by simp) rfl) h.low (Nat.le_trans h.big hb2.size))
  have HB2 := Lib.hid (OnlyG.setCell (OnlyG.of_below (g := g) hb2) 5 (.slice A2 (e.params.length + 1) cc2))
  have HRUN := Lib.hid hrun
  clear hb hbw hrun hown hgr hb2 hrow2 he h
  go_enter Try.func37, Try.ntmps37
  go_wp2_with (at_builtin; refine wpList_app rfl (.tmp 11) (.tmp 12) _ rfl _ _ rfl rfl HRUN.out ?_)
  go_returns
  exact ⟨rfl, _, HE.out, HB2.out⟩
set_option maxRecDepth 100000 in
set_option maxHeartbeats 1000000 in
/-- A digit. -/
theorem rn_digit {w : World} {B g : Nat} {e : Ev} {pv : Value} (h : EvAt B g e pv w) (hn : e.params.length ≤ 50000) (hp : e.params ≠ []) (ho : NumOk e.params) (d : Int) (d0 : 48 ≤ d) (d1 : d ≤ 57) :
    Calls Try.prog 37 #[.pointer (some ⟨g, 0, none⟩), .int .i32 d] w fun x w' => x = .returned (.tuple #[]) ∧ ∃ pv', EvAt B g { e with params := numS e.params d } pv' w' ∧ OnlyG B g w w' := by
  obtain ⟨b, c, rfl, hbB, hnc⟩ := h.slice hp
  obtain ⟨n, hln⟩ : ∃ n, e.params.length = n := ⟨_, rfl⟩
  have hn0 : 0 < n := by rw [← hln]; exact List.length_pos_iff.2 hp
  obtain ⟨j, hj⟩ : ∃ j, n - 1 = j := ⟨_, rfl⟩
  have hjn : j < n := by omega
  have hja : j < e.params.length := by rw [hln]; exact hjn
  obtain ⟨x, hx⟩ : ∃ x, e.params.getD j 0 = x := ⟨_, rfl⟩
  have hxr := ho (e.params.getD j 0) (by simp [List.getD, hja])
  rw [hx] at hxr
  obtain ⟨x0, x1⟩ := hxr
  obtain ⟨y, hy⟩ : ∃ y, 10 * x + d - 48 = y := ⟨_, rfl⟩
  have hns : numS e.params d = e.params.set j (least y 9999) := by unfold numS; rw [if_neg (by omega), hln, hj, hx, hy]
  obtain ⟨q, hq⟩ : ∃ q, least y 9999 = q := ⟨_, rfl⟩
  rw [hq] at hns
  have HQQ := Lib.hid hq
  clear hq
  have HD := Lib.hid h.drew
  have c5 := h.cell (i := 5) (v := .slice (some ⟨b, 0, none⟩) e.params.length c) rfl
  have cj := (h.at_ hja).1
  have fj := (h.at_ hja).2
  have HP := Lib.hid (h.drew.put hbB j y)
  have HO := Lib.hid (OnlyG.far (OnlyG.of_below (B := B) (g := g) (Below.refl B w).drew) hbB j (.int .i64 y))
  rw [hns]
  have hgb : g ≠ b := by have := h.low; omega
  rw [hln] at c5 hn hnc
  rw [hx] at cj
  have HLN := Lib.hid hln
  have e1 : (n : Int) - 1 = (j : Int) := by omega
  have g3 : (0 : Int) ≤ (j : Int) := by omega
  have g4 : (j : Int) < (n : Int) := by omega
  have z59 : (d == 59) = false := by simp; omega
  obtain ⟨p1, hp1⟩ : ∃ p1, 10 * x = p1 := ⟨_, rfl⟩
  have w1 : IntKind.i64.wrap p1 = p1 := IntWalk.i64_in _ (by omega)
  obtain ⟨p2, hp2⟩ : ∃ p2, p1 + d = p2 := ⟨_, rfl⟩
  have w2 : IntKind.i64.wrap p2 = p2 := IntWalk.i64_in _ (by omega)
  have hp3 : p2 - 48 = y := by omega
  have w3 : IntKind.i64.wrap y = y := IntWalk.i64_in _ (by omega)
  have wd : IntKind.i64.wrap d = d := IntWalk.i64_in _ (by omega)
  have y0 : 0 ≤ y := by omega
  have c5d : (w.drew).cell? ⟨g, 5, none⟩ = some (.slice (some ⟨b, 0, none⟩) n c) := c5
  have HCJ := Lib.hid (show (w.drew).cell? ⟨b, j, none⟩ = some (.int .i64 x) from cj)
  have HFJ := Lib.hid (show (w.drew).frozen? ⟨b, j, none⟩ = false from fj)
  have HGB := Lib.hid hgb
  have HBB := Lib.hid hbB
  clear hy hns h cj fj hx hj hja hln hgb hn0 hp ho hbB
  go_enter Try.func37, Try.ntmps37
  go_upto_region 3 with fail
  refine wp_region_held_drew (S := fun W => W.cell? ⟨g, 5, none⟩ = some (.slice (some ⟨b, 0, none⟩) n c)) (by kernel_rfl) c5d (fun hHeld => ?_)
  clear c5 c5d
  refine wpAnyH_take (i := 0) (v := ?_) (by simp; rfl) (by kernel_rfl) (by kernel_rfl) (by kernel_rfl) (by exact fun _ _ _ h => h) (Or.inl ⟨by rfl, fun wx hSx => ?_⟩) hHeld ?_
  rotate_left
  · clear hSx; go_simp; (try with_reducible rfl)
  simp only [Act.put, List.setIfInBounds_toArray, List.set_cons_zero, List.set_cons_succ]
  refine wpAnyH_take (i := 1) (v := ?_) (by simp; rfl) (by kernel_rfl) (by kernel_rfl) (by kernel_rfl) (by exact fun _ _ _ h => h) (Or.inl ⟨by rfl, fun wx hSx => ?_⟩) hHeld ?_
  rotate_left
  · clear hSx; go_simp; (try with_reducible rfl)
  simp only [Act.put, List.setIfInBounds_toArray, List.set_cons_zero, List.set_cons_succ]
  refine wpAnyH_take (i := 2) (v := ?_) (by simp; rfl) (by kernel_rfl) (by kernel_rfl) (by kernel_rfl) (by exact fun _ _ _ h => h) (Or.inl ⟨by rfl, fun wx hSx => ?_⟩) hHeld ?_
  rotate_left
  · clear hSx; go_simp; (try with_reducible rfl)
  simp only [Act.put, List.setIfInBounds_toArray, List.set_cons_zero, List.set_cons_succ]
  refine wpAnyH_take (i := 3) (v := ?_) (by simp; rfl) (by kernel_rfl) (by kernel_rfl) (by kernel_rfl) (by exact fun _ _ _ h => h) (Or.inl ⟨by rfl, fun wx hSx => ?_⟩) hHeld ?_
  rotate_left
  · dsimp only at hSx; go_simp; (try with_reducible rfl)
  simp only [Act.put, List.setIfInBounds_toArray, List.set_cons_zero, List.set_cons_succ]
  refine wpAnyH_take (i := 4) (v := ?_) (by simp; rfl) (by kernel_rfl) (by kernel_rfl) (by kernel_rfl) (by exact fun _ _ _ h => h) (Or.inl ⟨by rfl, fun wx hSx => ?_⟩) hHeld ?_
  rotate_left
  · clear hSx; go_simp; (try with_reducible rfl)
  simp only [Act.put, List.setIfInBounds_toArray, List.set_cons_zero, List.set_cons_succ]
  refine wpAnyH_take (i := 5) (v := ?_) (by simp; rfl) (by kernel_rfl) (by kernel_rfl) (by kernel_rfl) (by exact fun _ _ _ h => h) (Or.inl ⟨by rfl, fun wx hSx => ?_⟩) hHeld ?_
  rotate_left
  · clear hSx; go_simp; (try with_reducible rfl)
  simp only [Act.put, List.setIfInBounds_toArray, List.set_cons_zero, List.set_cons_succ]
  refine wpAnyH_take (i := 6) (v := ?_) (by simp; rfl) (by kernel_rfl) (by kernel_rfl) (by kernel_rfl) (by exact fun _ _ _ h => h) (Or.inl ⟨by rfl, fun wx hSx => ?_⟩) hHeld ?_
  rotate_left
  · clear hSx; go_simp; (try with_reducible rfl)
  simp only [Act.put, List.setIfInBounds_toArray, List.set_cons_zero, List.set_cons_succ]
  refine wpAnyH_take (i := 7) (v := ?_) (by simp; rfl) (by kernel_rfl) (by kernel_rfl) (by kernel_rfl) (by exact fun _ _ _ h => h) (Or.inl ⟨by rfl, fun wx hSx => ?_⟩) hHeld ?_
  rotate_left
  · clear hSx; go_simp; (try with_reducible rfl)
  simp only [Act.put, List.setIfInBounds_toArray, List.set_cons_zero, List.set_cons_succ]
  refine wpAnyH_take (i := 8) (v := ?_) (by simp; rfl) (by kernel_rfl) (by kernel_rfl) (by kernel_rfl) (by exact fun _ _ _ h => h) (Or.inl ⟨by rfl, fun wx hSx => ?_⟩) hHeld ?_
  rotate_left
  · dsimp only at hSx; go_simp; (try with_reducible rfl)
  simp only [Act.put, List.setIfInBounds_toArray, List.set_cons_zero, List.set_cons_succ]
  refine wpAnyH_take (i := 9) (v := ?_) (by simp; rfl) (by kernel_rfl) (by kernel_rfl) (by kernel_rfl) (by exact fun _ _ _ h => h) (Or.inl ⟨by rfl, fun wx hSx => ?_⟩) hHeld ?_
  rotate_left
  · clear hSx; go_simp; (try with_reducible rfl)
  simp only [Act.put, List.setIfInBounds_toArray, List.set_cons_zero, List.set_cons_succ]
  refine wpAnyH_take (i := 10) (v := ?_) (by simp; rfl) (by kernel_rfl) (by kernel_rfl) (by kernel_rfl) (by exact fun _ _ _ h => h) (Or.inl ⟨by rfl, fun wx hSx => ?_⟩) hHeld ?_
  rotate_left
  · clear hSx; go_simp; (try with_reducible rfl)
  simp only [Act.put, List.setIfInBounds_toArray, List.set_cons_zero, List.set_cons_succ]
  refine wpAnyH_take (i := 13) (v := ?_) (by simp; rfl) (by kernel_rfl) (by kernel_rfl) (by kernel_rfl) (by exact fun _ _ _ h => h) (Or.inl ⟨by rfl, fun wx hSx => ?_⟩) hHeld ?_
  rotate_left
  · clear hSx; go_simp; (try with_reducible rfl)
  simp only [Act.put, List.setIfInBounds_toArray, List.set_cons_zero, List.set_cons_succ]
  refine wpAnyH_take (i := 14) (v := ?_) (by simp; rfl) (by kernel_rfl) (by kernel_rfl) (by kernel_rfl) (by exact fun _ _ _ h => h) (Or.inl ⟨by rfl, fun wx hSx => ?_⟩) hHeld ?_
  rotate_left
  · clear hSx; go_simp; (try with_reducible rfl)
  simp only [Act.put, List.setIfInBounds_toArray, List.set_cons_zero, List.set_cons_succ]
  refine wpAnyH_ready (rs := [11]) (by kernel_rfl) (by simp) ?_
  refine AllReadyH.cons (by simp; rfl) (fun K0 hK0 => ?_) AllReadyH.nil
  have cj := HCJ.out
  go_simp
  refine hK0.out _ _ hHeld (fun hHeld => ?_)
  clear hK0 K0 cj
  refine wpAnyH_take (i := 12) (v := ?_) (by simp; rfl) (by kernel_rfl) (by kernel_rfl) (by kernel_rfl) (by exact fun _ _ _ h => h) (Or.inl ⟨by rfl, fun wx hSx => ?_⟩) hHeld ?_
  rotate_left
  · clear hSx; go_simp; (try with_reducible rfl)
  simp only [Act.put, List.setIfInBounds_toArray, List.set_cons_zero, List.set_cons_succ]
  refine wpAnyH_take (i := 15) (v := ?_) (by simp; rfl) (by kernel_rfl) (by kernel_rfl) (by kernel_rfl) (by exact fun _ _ _ h => h) (Or.inl ⟨by rfl, fun wx hSx => ?_⟩) hHeld ?_
  rotate_left
  · clear hSx; go_simp; (try with_reducible rfl)
  simp only [Act.put, List.setIfInBounds_toArray, List.set_cons_zero, List.set_cons_succ]
  refine wpAnyH_take (i := 16) (v := ?_) (by simp; rfl) (by kernel_rfl) (by kernel_rfl) (by kernel_rfl) (by exact fun _ _ _ h => h) (Or.inl ⟨by rfl, fun wx hSx => ?_⟩) hHeld ?_
  rotate_left
  · clear hSx; go_simp; (try with_reducible rfl)
  simp only [Act.put, List.setIfInBounds_toArray, List.set_cons_zero, List.set_cons_succ]
  refine wpAnyH_take (i := 17) (v := ?_) (by simp; rfl) (by kernel_rfl) (by kernel_rfl) (by kernel_rfl) (by exact fun _ _ _ h => h) (Or.inl ⟨by rfl, fun wx hSx => ?_⟩) hHeld ?_
  rotate_left
  · clear hSx; go_simp; (try with_reducible rfl)
  simp only [Act.put, List.setIfInBounds_toArray, List.set_cons_zero, List.set_cons_succ]
  refine wpAnyH_ready (rs := [18]) (by kernel_rfl) (by simp) ?_
  refine AllReadyH.cons (by simp; rfl) (fun K0 hK0 => ?_) AllReadyH.nil
  have cj := HCJ.out
  have fj := HFJ.out
  go_simp
  refine hK0.out _ _ ((World.cell?_setCell_far _ _ _ _ (Ne.symm HGB.out)).trans hHeld) (fun hHeld => ?_)
  clear hK0 K0 cj fj
  refine wpAnyH_done (by kernel_rfl) ?_ _
  clear hHeld HD HCJ HFJ
  rw [show w.drew.setCell ⟨b, j, none⟩ (.int .i64 y) = (w.setCell ⟨b, j, none⟩ (.int .i64 y)).drew from rfl] at HP HO
  generalize ((w.setCell ⟨b, j, none⟩ (.int .i64 y)).drew) = W3 at HP HO ⊢
  have hset : (e.params.set j y).length = e.params.length := by simp
  have HP' : Hid (EvAt B g { e with params := e.params.set j y } (.slice (some ⟨b, 0, none⟩) (e.params.set j y).length c) W3) := Lib.hid (by rw [hset]; exact HP.out)
  have c53 : W3.cell? ⟨g, 5, none⟩ = some (.slice (some ⟨b, 0, none⟩) n c) := by
    have := HP.out.cell (i := 5) (v := .slice (some ⟨b, 0, none⟩) e.params.length c) rfl
    rw [HLN.out] at this; exact this
  have hjs : j < (e.params.set j y).length := by rw [hset, HLN.out]; exact hjn
  have c54 := (HP'.out.at_ hjs).1
  have f54 := (HP'.out.at_ hjs).2
  simp only [List.getD, List.getElem?_set_self (show j < e.params.length by rw [HLN.out]; exact hjn), Option.getD_some] at c54
  by_cases hy9 : 9999 < y
  · have hl : q = 9999 := by rw [← HQQ.out]; unfold least; rw [if_pos hy9]
    have HQ := Lib.hid (HP'.out.put HBB.out j 9999)
    have HQ2 : Hid (EvAt B g { e with params := e.params.set j q } (.slice (some ⟨b, 0, none⟩) (e.params.set j y).length c) (W3.setCell ⟨b, j, none⟩ (.int .i64 9999))) := Lib.hid (by have h := HQ.out; simp only [List.set_set] at h; rw [hl]; exact h)
    have HO2 := Lib.hid (HO.out.far HBB.out j (.int .i64 9999))
    have d9 : decide (9999 < y) = true := by simpa using hy9
    clear hl HQ HP HP' HO hset hjs
    go_wp2
    go_end0
    exact ⟨rfl, _, HQ2.out, HO2.out⟩
  · have hl : q = y := by rw [← HQQ.out]; unfold least; rw [if_neg hy9]
    have HPQ : Hid (EvAt B g { e with params := e.params.set j q } (.slice (some ⟨b, 0, none⟩) e.params.length c) W3) := Lib.hid (by rw [hl]; exact HP.out)
    have d9 : decide (9999 < y) = false := by simpa using hy9
    clear hl HP' hset hjs f54
    go_wp2
    go_end0
    first | exact ⟨rfl, _, HPQ.out, HO.out⟩ | exact ⟨rfl, ⟨_, HPQ.out⟩, HO.out⟩
end Go.Proofs.Ytfacnemgjdmlmaa
