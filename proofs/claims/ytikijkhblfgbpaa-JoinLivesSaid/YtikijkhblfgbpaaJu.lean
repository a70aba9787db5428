/-
  Proved here: Put (join), where it refuses a part and where it does not.
-/
import Derived.Test.YtikijkhblfgbpaaJp
namespace Go.Proofs.Ytikijkhblfgbpaa
open Go.RowKit Go.Maps Go.Sort

set_option maxHeartbeats 1000000 in
theorem put_bad (t : Option Addr) (id ix ct : Int) (A : Option Addr) (n c : Nat) (E : Int) (hE : ¬ E = 0) (w : World) (hR : ∀ W, Below w.heap.size w W → w.heap.size < W.heap.size → Calls Try.prog 18 #[.pointer t, PV id ix ct A n c] W fun e w' => e = .returned (.int .i64 E) ∧ Below W.heap.size W w') :
    Calls Try.prog 9 #[.pointer t, PV id ix ct A n c] w fun e w' => e = .returned (.tuple #[.slice none 0 0, .bool false, .int .i64 E]) ∧ Below w.heap.size w w' := by
  have hb : Below w.heap.size w (w.alloc (.cells #[.int .u64 id, .int .i64 ix, .int .i64 ct, .slice A n c] 30)) := (Below.refl _ w).alloc (Nat.le_refl _) _
  have HR := Lib.hid (hR _ hb (by simp))
  have HB := Lib.hid hb
  clear hR hb
  go_enter Try.func9, Try.ntmps9
  go_wp2_with (go_at_call 18; refine HR.out.mono ?_; rintro e w2 ⟨rfl, hb2⟩; have HB2 := Lib.hid (HB.out.trans (hb2.mono HB.out.size)); clear hb2)
  refine bodyPost_ret (by simp [results, Try.results9, go_sem]; rfl) rfl ?_
  exact ⟨rfl, HB2.out⟩

theorem box4 {W : World} {g : Nat} {a b c v : Value} {ty : TypeId} (h : W.heap[g]? = some (.cells #[a, b, c, v] ty (0, 0))) :
    W.cell? ⟨g, 0, none⟩ = some a ∧ W.cell? ⟨g, 1, none⟩ = some b ∧ W.cell? ⟨g, 2, none⟩ = some c ∧ W.cell? ⟨g, 3, none⟩ = some v ∧ W.frozen? ⟨g, 3, none⟩ = false := by
  refine ⟨?_, ?_, ?_, ?_, ?_⟩ <;> simp [World.cell?, World.frozen?, h]
/-- A step that turns one row of a part's cells. -/
theorem TabAt.part {w w' : World} {base t r : Nat} {T : TV} {C : Array Value} (h : TabAt w base t T) (hg : w.grownBy w' (some r)) (ho : w.heap[r]? = some (.cells C 30 (0, 0))) : TabAt w' base t T := by
  obtain ⟨b, hb, ht, hm⟩ := h.map
  have htl := (Array.getElem?_eq_some_iff.1 ht).1
  have hm0 := hm
  obtain ⟨es, clock, hbo, _⟩ := hm0
  have htg : some t ≠ some r := fun e => by injection e with e; subst e; rw [ht] at ho; injection ho with ho; injection ho with _ e2; exact absurd e2 (by decide)
  have hbg : some b ≠ some r := fun e => by injection e with e; subst e; rw [hbo] at ho; cases ho
  refine ⟨h.le, ⟨b, hb, (hg.block _ htl htg).trans ht, hm.kept hg hbg⟩, fun f hf => ?_, h.apart, h.fl0, h.fl1, h.few⟩
  have hF := h.frames f hf
  obtain ⟨C', hC, _⟩ := hF.row
  exact hF.grown hg (fun e => by subst e; rw [hC] at ho; injection ho with ho; injection ho with _ e2; exact absurd e2 (by decide)) ho (fun cur e => by injection e with _ e2; exact absurd e2 (by decide))
theorem FrameAt.free {w : World} {base : Nat} {f : FV} (h : FrameAt w base f) (k : Nat) (hk : k < 64) : ∃ a b c d, w.cell? ⟨f.g, 1 + k * 4, none⟩ = some a ∧ w.cell? ⟨f.g, 1 + k * 4 + 1, none⟩ = some b ∧ w.cell? ⟨f.g, 1 + k * 4 + 2, none⟩ = some c ∧ w.cell? ⟨f.g, 1 + k * 4 + 3, none⟩ = some d ∧ (∀ o, w.frozen? ⟨f.g, o, none⟩ = false) := by
  obtain ⟨_, _, hP⟩ := h.cells
  have h64 := h.n64
  obtain ⟨b, off, e, _, hc⟩ := hP (by omega)
  injection e with e
  injection e with e1 e2
  subst e1; subst e2
  obtain ⟨c0, c1, c2, _, _, c3, _⟩ := hc k (by omega)
  obtain ⟨C, hC, _⟩ := h.row
  exact ⟨_, _, _, _, c0, c1, c2, c3, fun o => by simp [World.frozen?, hC]⟩
theorem miss_zero {ps : List Prt} : ∀ {k : Nat}, missS ps k = 0 → ∀ i, i < k → cameB ps i = true
  | 0, _, _, hi => absurd hi (by omega)
  | k + 1, h, i, hi => by
    unfold missS at h
    cases hB : cameB ps k with
    | true =>
      rcases Nat.lt_or_ge i k with h' | h'
      · exact miss_zero (by omega) i h'
      · obtain rfl : i = k := by omega
        exact hB
    | false => rw [hB] at h; simp at h
theorem pAt_take {ps : List Prt} {n i : Nat} (h : i < n) : pAt (ps.take n) i = pAt ps i := by simp [pAt, List.getD, List.getElem?_take_of_lt h]
theorem pAt_set {ps : List Prt} {k i : Nat} {p : Prt} (hk : k < ps.length) : pAt (ps.set k p) i = if i = k then p else pAt ps i := by
  unfold pAt
  rw [List.getD_eq_getElem?_getD, List.getD_eq_getElem?_getD, List.getElem?_set]
  by_cases h : k = i
  · subst h; simp [hk]
  · rw [if_neg h, if_neg (fun e => h e.symm)]
theorem Good.came {f : FV} (h : Good f) {i : Nat} (hi : i < 64) (hc : cameB f.ps i = true) : (pAt f.ps i).ok = true ∧ (pAt f.ps i).id = f.id ∧ (pAt f.ps i).ct = f.ct ∧ (pAt f.ps i).ix = i := by
  rcases h i hi with e | e
  · unfold cameB at hc; rw [e] at hc; simp [pNil] at hc
  · exact e
theorem Good.laid {f : FV} (h : Good f) (h64 : f.ps.length = 64) {k : Nat} {p : Prt} (hk : k < 64) (hp : p.ok = true ∧ p.id = f.id ∧ p.ct = f.ct ∧ p.ix = k) : Good (laidF f k p) := fun i hi => by
  show pAt (f.ps.set k p) i = pNil ∨ _
  have e := pAt_set (p := p) (i := i) (show k < f.ps.length by omega)
  by_cases hik : i = k
  · subst hik
    rw [if_pos rfl] at e
    refine .inr ?_
    show (pAt (f.ps.set i p) i).ok = true ∧ (pAt (f.ps.set i p) i).id = f.id ∧ (pAt (f.ps.set i p) i).ct = f.ct ∧ (pAt (f.ps.set i p) i).ix = i
    rw [e]; exact hp
  · rw [if_neg hik] at e
    rcases h i hi with e' | e'
    · exact .inl (e.trans e')
    · refine .inr ?_
      show (pAt (f.ps.set k p) i).ok = true ∧ (pAt (f.ps.set k p) i).id = f.id ∧ (pAt (f.ps.set k p) i).ct = f.ct ∧ (pAt (f.ps.set k p) i).ix = i
      rw [e]; exact e'

/-- Join of a frame that is whole. -/
theorem frame_join {W : World} {base : Nat} {f : FV} (h : FrameAt W base f) (hG : Good f) (hm : missS f.ps f.ct = 0) :
    Calls Try.prog 22 #[.slice (some ⟨f.g, 1, none⟩) f.ct 64] W fun e w' => ∃ v, e = .returned (.tuple #[v, .int .i64 0]) ∧ w'.ownsRow W.heap.size 5 1 v (cat (f.ps.take f.ct)).length (B8 (cat (f.ps.take f.ct))) ∧ Below W.heap.size W w' := by
  obtain ⟨_, _, hP⟩ := h.cells
  have h64 := h.n64
  have hc0 := h.ct0
  have hc1 := h.ct1
  have hl : (f.ps.take f.ct).length = f.ct := by simp; omega
  have hok : ∀ i, i < f.ct → (pAt (f.ps.take f.ct) i).ok = true ∧ (pAt (f.ps.take f.ct) i).id = f.id ∧ (pAt (f.ps.take f.ct) i).ct = f.ct ∧ (pAt (f.ps.take f.ct) i).ix = i := fun i hi => by
    rw [pAt_take hi]; exact hG.came (by omega) (miss_zero hm i hi)
  have hPS : PS W W.heap.size (some ⟨f.g, 1, none⟩) (f.ps.take f.ct) := fun _ => by
    obtain ⟨b, off, e, hlt, hc⟩ := hP (by omega)
    refine ⟨b, off, e, hlt, fun i hi => ?_⟩
    rw [hl] at hi
    rw [pAt_take hi]
    exact hc i (by omega)
  have hPO : POk (f.ps.take f.ct) := fun i hi => by
    rw [hl] at hi
    obtain ⟨h1, _, _, _⟩ := hok i hi
    have a1 := ok_id h1
    have a2 := ok_ct h1
    omega
  have hJ : joinS (f.ps.take f.ct) = (cat (f.ps.take f.ct), 0) := joinS_ok (by omega) (fun i hi => by
    rw [hl] at hi
    obtain ⟨h1, h2, h3, h4⟩ := hok i hi
    obtain ⟨_, g2, _, _⟩ := hok 0 (by omega)
    exact ⟨h1, by rw [h2, g2], by rw [h3, hl], h4⟩)
  have hj := join_some (f.ps.take f.ct) f.ct hl (some ⟨f.g, 1, none⟩) 64 W hPS hPO (by omega) (by unfold maxLen; omega)
  rw [hJ] at hj
  exact hj.mono (by rintro e w' ⟨v, rfl, hr, hb⟩; exact ⟨v, rfl, hr, hb⟩)

theorem TabAt.drews {W : World} {base t : Nat} {T : TV} (h : TabAt W base t T) (m : Nat) : TabAt (W.drewN m) base t T := by
  obtain ⟨a1, a2, a3, a4, a5, a6, a7⟩ := h
  exact ⟨a1, a2, fun f hf => (a3 f hf).drews m, a4, a5, a6, a7⟩
theorem own_kept {w w' : World} {base t : Nat} {T : TV} {b0 n : Nat} {v : Value} {xs : List Value} (hT : TabAt w base t T) (h : w.ownsRow b0 5 1 v n xs) (hk : Kept t w w') : w'.ownsRow b0 5 1 v n xs := by
  refine ⟨h.1, ?_⟩
  rcases h.2 with e | ⟨g, cap, cur, hv, hb, hg, hr⟩
  · exact .inl e
  · refine .inr ⟨g, cap, cur, hv, hb, hk g _ _ _ hg (fun e => ?_), hr⟩
    obtain ⟨b, _, ht, _⟩ := hT.map
    rw [e, ht] at hg
    injection hg with hg
    injection hg with _ e2
    exact absurd e2 (by decide)
/-- A row of bytes stands where all but the Table's rows do. -/
theorem RB.kept {w w' : World} {base t : Nat} {T : TV} {A : Option Addr} {d : List Int} (hT : TabAt w base t T) (h : RB w w.heap.size A d) (hk : Kept t w w') : RB w' w'.heap.size A d := fun hl => by
  obtain ⟨b, off, e, hb, hc⟩ := h hl
  obtain ⟨b0, _, ht, _⟩ := hT.map
  have h0 := hc 0 hl
  have hbt : b ≠ t := fun e => by
    subst e
    simp only [World.cell?, ht] at h0
    rcases off with _ | _ | off
    · simp at h0
    · simp at h0
    · simp at h0
  have hrow : ∃ c ty fr, w.heap[b]? = some (.cells c ty fr) := by
    unfold World.cell? at h0
    simp only at h0
    split at h0
    · rename_i c ty fr hh
      exact ⟨c, ty, fr, hh⟩
    · cases h0
  obtain ⟨c, ty, fr, hh⟩ := hrow
  have hh' := hk b c ty fr hh hbt
  refine ⟨b, off, e, (Array.getElem?_eq_some_iff.1 hh').1, fun i hi => ?_⟩
  rw [← hc i hi]
  exact World.cell?_of_block (hh'.trans hh.symm)
/-- All rows of cells but these two stand as they did. -/
def RowsBut (t g : Nat) (w w' : World) : Prop := ∀ (k : Nat) (c : Array Value) (ty : TypeId) (fr : Nat × Nat), w.heap[k]? = some (.cells c ty fr) → k ≠ t → k ≠ g → w'.heap[k]? = some (.cells c ty fr)
theorem RowsBut.kept {t g : Nat} {a b c : World} (h : RowsBut t g a b) (h' : Kept t b c) : RowsBut t g a c := fun k x ty fr hk h1 h2 => h' k x ty fr (h k x ty fr hk h1 h2) h1
abbrev SJ (U : World) (g ct : Nat) (W : World) : Prop := W.cell? ⟨g, 0, none⟩ = some (.int .i64 ct) ∧ Hid (Below U.heap.size U W)
theorem SJ.of {U : World} {g ct : Nat} {W : World} (hc : Hid (g < U.heap.size ∧ U.cell? ⟨g, 0, none⟩ = some (.int .i64 ct))) (h : Hid (Below U.heap.size U W)) : SJ U g ct W := ⟨(h.out.cell (p := ⟨g, 0, none⟩) hc.out.1).trans hc.out.2, h⟩
theorem SJ.last {U : World} {g ct : Nat} {W : World} (h : SJ U g ct W) : Below U.heap.size U W := h.2.out
theorem SJ.to {U : World} {g ct : Nat} {W W' : World} (hc : Hid (g < U.heap.size ∧ U.cell? ⟨g, 0, none⟩ = some (.int .i64 ct))) (hb : Below W.heap.size W W') (h : SJ U g ct W) : SJ U g ct W' := SJ.of hc (Lib.hid (h.last.trans (hb.mono h.last.size)))

theorem slice_parts (g n : Nat) (hn : n ≤ 64) (W : World) : (Instr.sliceAt 57 (.pointer (some ⟨g, 1, none⟩)) none (some (.int .i64 (n : Int))) none).run Try.prog W = .ok (.slice (some ⟨g, 1, none⟩) n 64) W := by
  have h1 : (n : Int) ≤ 64 := by omega
  have ha : (⟨g, 1, none⟩ : Addr).add 0 = ⟨g, 1, none⟩ := rfl
  simp [Instr.sliceAt, Instr.sureAddr, run_underlying Try.underlying57, Instr.sliceBounds, run_sliceBound, h1, ha]
/-- The part's own box in a later world, and what Put holds. -/
structure PutAt (w : World) (base t : Nat) (T1 : TV) (f : FV) (id ix ct : Int) (v : Value) (W : World) : Prop where
  tab : TabAt W base t T1
  below : Below base w W
  box : W.heap[w.heap.size]? = some (.cells #[.int .u64 id, .int .i64 ix, .int .i64 ct, v] 30 (0, 0))

set_option maxRecDepth 100000 in
set_option maxHeartbeats 2000000 in
theorem put_good {w : World} {base t : Nat} {T : TV} (h : TabAt w base t T) (hG : GoodT T) (p : Prt) (k : Nat) (hk : p.ix = k) (A : Option Addr) (n c : Nat) (hn : p.d.length = n) (hA : A = none → c = 0) (hR : RB w w.heap.size A p.d) (h0 : refS T p.id k p.ct n = 0) (hbw : base ≤ w.heap.size) :
    Calls Try.prog 9 #[.pointer (some ⟨t, 0, none⟩), PV p.id k p.ct A n c] w fun e w' => ∃ f T1, Opened T p.id p.ct f T1 ∧ (T1.fs.map FV.g).Nodup ∧ (f ∈ T.fs ∨ w.heap.size ≤ f.g) ∧ RowsBut t f.g w w' ∧ Below base w w' ∧
      ((0 < missS (laidF f k p).ps f.ct ∧ e = .returned (.tuple #[.slice none 0 0, .bool false, .int .i64 0]) ∧ TabAt w' base t (laid T1 f k p)) ∨
       (missS (laidF f k p).ps f.ct = 0 ∧ ∃ v, e = .returned (.tuple #[v, .bool true, .int .i64 0]) ∧ w'.ownsRow base 5 1 v (cat ((laidF f k p).ps.take f.ct)).length (B8 (cat ((laidF f k p).ps.take f.ct))) ∧
         TabAt w' base t ⟨p.id + 1, (laid T1 f k p).fs.filter fun y => decide (p.id + 1 ≤ y.id)⟩)) := by
  have HTN : Hid (w.heap.size ≠ t) := fun e => by have := h.cells.1; omega
  obtain ⟨hrg, _, _, _⟩ := refS_zero h0
  obtain ⟨i0, i1, c1, c2, k0, k1, hln⟩ := rgt_yes hrg
  have hn480 : n ≤ 480 := by omega
  have hb : Below w.heap.size w (w.alloc (.cells #[.int .u64 p.id, .int .i64 k, .int .i64 p.ct, .slice A n c] 30)) := (Below.refl _ w).alloc (Nat.le_refl _) _
  have hpb := heap_alloc_new w (.cells #[.int .u64 p.id, .int .i64 k, .int .i64 p.ct, .slice A n c] 30)
  obtain ⟨W, hW⟩ : ∃ W, w.alloc (.cells #[.int .u64 p.id, .int .i64 k, .int .i64 p.ct, .slice A n c] 30) = W := ⟨_, rfl⟩
  rw [hW] at hb hpb
  have hTW := h.keep hb
  have hrf := refusal_any hTW p.id k p.ct A n c (by omega) (by omega) (by omega) (by omega) (by unfold maxLen; omega)
  rw [h0] at hrf
  have HRF := Lib.hid hrf
  have HFO := Lib.hid (fun W' (hT : TabAt W' base t T) (hb' : base ≤ W'.heap.size) => frameOf_any hT p.id k p.ct A n c h0 hb')
  have HB := Lib.hid hb
  have HPB := Lib.hid hpb
  have HT := Lib.hid hTW
  have HRB := Lib.hid hR
  have HCL := Lib.hid (fun W' (hr : RB W' W'.heap.size A p.d) => clone_n p.d n hn A c W' hr (by omega) hA)
  obtain ⟨d0, d1, d2, d3, _⟩ := box4 hpb
  have HRG := Lib.hid hrg
  clear h hb hpb hTW hrf hR hrg
  go_enter Try.func9, Try.ntmps9
  go_wp2_with (first
    | (go_at_call 18; refine HRF.out.mono ?_; rintro e w2 ⟨rfl, hb2⟩; have HP2 := Lib.hid ((hb2.block _ (Array.getElem?_eq_some_iff.1 HPB.out).1).trans HPB.out); have HT2 := Lib.hid (HT.out.keep hb2); have HB2 := Lib.hid (HB.out.trans (hb2.mono HB.out.size)); have HRB2 := Lib.hid ((HRB.out.below HB2.out).keep' HB2.out.size); obtain ⟨x0, x1, x2, x3, _⟩ := box4 HP2.out; clear hb2)
    | (go_at_call 19; refine (HFO.out _ HT2.out (Nat.le_trans hbw HB2.out.size)).mono ?_; rintro e w3 ⟨f, T1, rfl, hOp, hfo, hT3, hb3, hk3⟩; have HFO2 := Lib.hid (show f ∈ T.fs ∨ w.heap.size ≤ f.g from hfo.imp id (fun h => Nat.le_trans HB2.out.size h)); have HK3 := Lib.hid ((Kept.below (t := t) HB2.out).trans hk3); have HRB3 := Lib.hid ((HRB2.out).kept HT2.out hk3); have HP3 := Lib.hid (hk3 _ _ _ _ HP2.out HTN.out); have HOp := Lib.hid hOp; have HT3 := Lib.hid hT3; have HB3 := Lib.hid ((HB2.out.mono hbw).trans hb3); obtain ⟨y0, y1, y2, y3, _⟩ := box4 HP3.out; clear hOp hT3 hb3 hk3)
    | (go_at_call 20; refine (HCL.out _ HRB3.out).mono ?_; rintro e w4 ⟨v, rfl, hown, hb4⟩; have HP4 := Lib.hid ((hb4.block _ (Array.getElem?_eq_some_iff.1 HP3.out).1).trans HP3.out); have HT4 := Lib.hid (HT3.out.keep hb4); have HK4 := Lib.hid (HK3.out.trans (Kept.below hb4)); have HB4 := Lib.hid (HB3.out.trans (hb4.mono (Nat.le_trans hbw HB3.out.size))); have HV4 := Lib.hid (own_mono hown (Nat.le_trans hbw HB3.out.size)); obtain ⟨z0, z1, z2, z3, zf⟩ := box4 HP4.out; obtain ⟨Av, cv, rfl, hcv1, hcv2, hAv⟩ := own_slice (own_cast (m := n) hown hn rfl); clear hown hb4))
  have hg5 := cell_grown w4 w.heap.size 3 (.slice Av n cv)
  have hbx4 := HP4.out
  have hT5 := HT4.out.part hg5 hbx4
  have hpb5 := heap_setCell_same w4 w.heap.size 3 _ _ (.slice Av n cv) hbx4
  have hB5 : Below base w (w4.setCell ⟨w.heap.size, 3, none⟩ (.slice Av n cv)) := HB4.out.trans (below_grown hg5 hbw (by have := HB4.out.size; omega))
  have hV5 := HV4.out.kept hg5 (row_other HV4.out hbx4 (fun cur e => by injection e with _ e2; exact absurd e2 (by decide)))
  simp only [List.setIfInBounds_toArray, List.set_cons_zero, List.set_cons_succ] at hpb5
  obtain ⟨w5, hw5⟩ : ∃ w5, w4.setCell ⟨w.heap.size, 3, none⟩ (.slice Av n cv) = w5 := ⟨_, rfl⟩
  have HG5 := Lib.hid hg5
  have HND := Lib.hid hT5.apart
  rw [hw5] at hT5 hpb5 hB5 hV5 HG5 ⊢
  clear hw5 hg5 hbx4 z0 z1 z2 z3 zf d0 d1 d2 d3 x0 x1 x2 x3 y0 y1 y2 y3
  obtain ⟨z0, z1, z2, z3, _⟩ := box4 hpb5
  have hmem := HOp.out.mem.1
  have hF5 := hT5.frames f hmem
  obtain ⟨u0, u1, u2, u3, q0, q1, q2, q3, qf⟩ := hF5.free k (by omega)
  have hk64 : k < 64 := by omega
  have hT6 := (hT5.laid hmem k hk64 p (.slice Av n cv) hV5).drews 1
  have hg6 := lay4_grown w5 f.g k p (.slice Av n cv)
  have hbf : w.heap.size ≠ f.g := fun e => by
    obtain ⟨C, hC, _⟩ := hF5.row
    rw [← e, hpb5] at hC
    injection hC with hC
    injection hC with _ e2
    exact absurd e2 (by decide)
  have hpb6 := (hg6.block _ (Array.getElem?_eq_some_iff.1 hpb5).1 (fun e => by injection e with e; exact hbf e)).trans hpb5
  have hB6 := belowN (hB5.trans (below_grown hg6 hF5.le (Nat.le_trans hbw hB5.size))) 1
  have hrb : RowsBut t f.g w (lay4 w5 f.g k p (.slice Av n cv)).drew := fun j x ty fr hj h1 h2 => by
    have hjw : j < w.heap.size := (Array.getElem?_eq_some_iff.1 hj).1
    have e4 := HK4.out j x ty fr hj h1
    have e5 := (HG5.out.block j (Array.getElem?_eq_some_iff.1 e4).1 (fun e => by injection e with e; omega)).trans e4
    exact (hg6.block j (Array.getElem?_eq_some_iff.1 e5).1 (fun e => by injection e with e; exact h2 e)).trans e5
  obtain ⟨w6, hw6⟩ : ∃ w6, (lay4 w5 f.g k p (.slice Av n cv)).drew = w6 := ⟨_, rfl⟩
  change TabAt (lay4 w5 f.g k p (.slice Av n cv)).drew base t (laid T1 f k p) at hT6
  change (lay4 w5 f.g k p (.slice Av n cv)).drew.heap[w.heap.size]? = _ at hpb6
  change Below base w (lay4 w5 f.g k p (.slice Av n cv)).drew at hB6
  rw [hw6] at hT6 hpb6 hB6 hrb
  have HRB6 := Lib.hid hrb
  clear hrb
  have hw6' := hw6
  unfold lay4 at hw6'
  rw [hk] at hw6'
  go_region
  try rw [hw6']
  clear hw6 hw6' hg6 q0 q1 q2 q3 qf z0 z1 z2 z3 hV5 hB5 hpb5 hT5
  obtain ⟨hfct, _⟩ := HOp.out.frame h0
  have hfid := HOp.out.mem.2
  have hmem6 : laidF f k p ∈ (laid T1 f k p).fs := List.mem_map.2 ⟨f, hmem, by rw [if_pos rfl]⟩
  have hF6 := hT6.frames _ hmem6
  have hGf : Good (laidF f k p) := (HOp.out.good hG f hmem).laid hF5.n64 hk64 ⟨by unfold Prt.ok; rw [hk, hn]; exact HRG.out, hfid.symm, hfct.symm, hk⟩
  have HFID := Lib.hid hfid
  have HFCT := Lib.hid hfct
  clear hfct hfid
  have hct1 := hF5.ct1
  have hct0 := hF5.ct0
  obtain ⟨m, hm⟩ : ∃ m, m = missS (laidF f k p).ps f.ct := ⟨_, rfl⟩
  have hms : Calls Try.prog 21 #[.pointer (some ⟨f.g, 0, none⟩)] w6 fun e w' => e = .returned (.int .i64 (m : Nat)) ∧ w6 = w' := by rw [hm]; exact missing_any hF6
  have HMS := Lib.hid hms
  have HM := Lib.hid hm
  have HT6 := Lib.hid hT6
  have HB6 := Lib.hid hB6
  have HF6 := Lib.hid hF6
  have HGf := Lib.hid hGf
  obtain ⟨z0, _, _, _, _⟩ := box4 hpb6
  have HP6 := Lib.hid hpb6
  clear HG5 HK3 HK4
  clear hms hm hT6 hB6 hF6 hGf hpb6 hF5 hmem6 HRF HFO HPB HP2 HP3 HP4 HT2 HT3 HT4 HV4 HB2 HB3 HB4 HCL
  by_cases hm0 : 0 < m
  · have hmi : (0 : Int) < (m : Int) := by omega
    go_wp2_with (go_at_call 21; refine HMS.out.mono ?_; rintro e w' ⟨rfl, rfl⟩)
    refine bodyPost_ret (by simp [results, Try.results9, go_sem]; rfl) rfl ?_
    exact ⟨f, T1, HOp.out, HND.out, HFO2.out, HRB6.out, HB6.out, .inl ⟨by rw [← HM.out]; exact hm0, rfl, HT6.out⟩⟩
  · obtain rfl : m = 0 := by omega
    go_wp2_with (go_at_call 21; refine HMS.out.mono ?_; rintro e w' ⟨rfl, rfl⟩)
    have HC6 := Lib.hid (show f.g < w6.heap.size ∧ w6.cell? ⟨f.g, 0, none⟩ = some (.int .i64 f.ct) from ⟨HF6.out.cells.1, HF6.out.cells.2.1⟩)
    have HJ := Lib.hid (fun W' (hb : Below w6.heap.size w6 W') => frame_join (HF6.out.keep hb) HGf.out HM.out.symm)
    have HD6 := Lib.hid (belowN (Below.refl w6.heap.size w6) 1)
    have hc64 : (f.ct : Int) ≤ 64 := by omega
    have hsl := slice_parts f.g f.ct (by omega)
    go_region_held3 (SJ w6 f.g f.ct)
      (first | exact SJ.of HC6 HD6 | assumption | exact SJ.to HC6 (by assumption) (by assumption))
      (first | (go_at_call 22; refine (HJ.out _ (SJ.last (by assumption))).mono ?_; rintro e w7 ⟨vv, rfl, hvr, hb7⟩))
    have hb67 : Below w6.heap.size w6 w7 := SJ.last (by assumption)
    have HB67 := Lib.hid hb67
    have HT7 := Lib.hid (HT6.out.keep hb67)
    have HB7 := Lib.hid (HB6.out.trans (hb67.mono (Nat.le_trans hbw HB6.out.size)))
    have HV7 := Lib.hid (own_mono hvr (show base ≤ w6.heap.size from Nat.le_trans hbw HB6.out.size))
    obtain ⟨y0, _, _, _, _⟩ := box4 ((hb67.block _ (Array.getElem?_eq_some_iff.1 HP6.out).1).trans HP6.out)
    have hwr : IntKind.u64.wrap (p.id + 1) = p.id + 1 := by rw [IntKind.wrap_u64]; omega
    clear hb67 hvr hb7 HJ HC6 HD6 hsl
    go_wp2_with (go_at_call 23; refine (rise_any HT7.out (p.id + 1) (by omega) (by omega) (Nat.le_trans hbw HB7.out.size)).mono ?_; rintro e w8 ⟨rfl, hT8, hb8, hk8⟩)
    refine bodyPost_ret (by simp [results, Try.results9, go_sem]; rfl) rfl ?_
    exact ⟨f, T1, HOp.out, HND.out, HFO2.out, (HRB6.out.kept (Kept.below HB67.out)).kept hk8, HB7.out.trans hb8, .inr ⟨HM.out.symm, vv, rfl, own_kept HT7.out HV7.out hk8, hT8⟩⟩

end Go.Proofs.Ytikijkhblfgbpaa
