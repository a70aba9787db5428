/-
  Proved here: Put of the document's own Table does what 'putD' says.
-/
import Derived.Test.YtikijkhblfgbpaaKg
import Derived.Test.YtikijkhblfgbpaaFh
import Derived.Deep.RegionHeld
import Derived.Deep.DeepCutAuto
namespace Go.Proofs.Ytikijkhblfgbpaa
open Go.RowKit Go.Maps Go.Sort

theorem chk_step {p : Prt} {l : List Prt} {i : Nat} (hi : i < l.length) : chkD p (l.drop i) = if ¬ (pAt l i).ct = p.ct then 1 else if (pAt l i).ix = p.ix then 7 else chkD p (l.drop (i + 1)) := by
  have e : l.drop i = pAt l i :: l.drop (i + 1) := by rw [List.drop_eq_getElem_cons hi]; simp [pAt, List.getD, hi]
  rw [e]; rfl
/-- The part's own box. -/
abbrev SBx (b : Nat) (id ix ct : Int) (A : Option Addr) (n c : Nat) (W : World) : Prop := W.cell? ⟨b, 0, none⟩ = some (.int .u64 id) ∧ W.cell? ⟨b, 1, none⟩ = some (.int .i64 ix) ∧ W.cell? ⟨b, 2, none⟩ = some (.int .i64 ct) ∧ W.cell? ⟨b, 3, none⟩ = some (.slice A n c)
theorem putD_bad {fl : Int} {L : List Prt} {p : Prt} (h : ¬ eD fl L p = 0) : putD fl L p = ⟨fl, L, false, eD fl L p, []⟩ := by unfold putD; rw [if_pos h]
def RPost (w : World) (base x : Nat) (R : DR) (e : Ending) (w' : World) : Prop :=
  ∃ v, e = .returned (.tuple #[v, .bool R.b, .int .i64 R.E]) ∧ RT w' base x R.fl R.L ∧ Below base w w' ∧ StaysD w w' ∧ w'.ownsRow base 5 1 v R.d.length (B8 R.d)
theorem rpost_bad {w w' : World} {base x : Nat} {fl : Int} {L : List Prt} {p : Prt} {E : Int} (hE : eD fl L p = E) (h0 : ¬ E = 0) (hT : RT w base x fl L) (hb : Below w.heap.size w w') (hbw : base ≤ w.heap.size) : RPost w base x (putD fl L p) (.returned (.tuple #[.slice none 0 0, .bool false, .int .i64 E])) w' := by
  rw [putD_bad (by rw [hE]; exact h0), hE]
  exact ⟨_, rfl, hT.keep hb, hb.mono hbw, StaysD.below hb, World.ownsRow_nil _ _ _ _⟩
theorem box_rt {w : World} {g : Nat} {a b c v : Value} {ty : TypeId} (h : w.heap[g]? = some (.cells #[a, b, c, v] ty (0, 0))) :
    w.cell? ⟨g, 0, none⟩ = some a ∧ w.cell? ⟨g, 1, none⟩ = some b ∧ w.cell? ⟨g, 2, none⟩ = some c ∧ w.cell? ⟨g, 3, none⟩ = some v ∧ w.frozen? ⟨g, 3, none⟩ = false := by
  refine ⟨?_, ?_, ?_, ?_, ?_⟩ <;> simp [World.cell?, World.frozen?, h]

/-- The part's bytes in a row of the Table's own. -/
theorem own_run {w : World} {base : Nat} (hbw : base ≤ w.heap.size) {A : Option Addr} {d : List Int} {n : Nat} (hn : d.length = n) (c : Nat) (hA : A = none → c = 0) (hR : RB w w.heap.size A d) (hm : n ≤ 600) :
    ∃ vd w', (Builtin.append_ #[28, 28] 28 #[.slice none 0 0, .slice A n c]).run Try.prog w = .ok vd w' ∧ w'.ownsRow base 5 1 vd n (B8 d) ∧ Below w.heap.size w w' := by
  subst hn
  obtain ⟨v', w', h1, h2, h3⟩ := app_bytes (base := base) (v := .slice none 0 0) (n := 0) (xs := []) c hR hA (World.ownsRow_nil _ _ _ _) (by omega) hbw
  exact ⟨v', w', h1, by simpa using h2, (Below.refl _ _).grown h3 (Nat.le_refl _) (fun k e => by simp [Value.ownBlock] at e)⟩
/-- A step that turns a row of parts that is not the Table's own. -/
theorem RTv.part {w w' : World} {base x r : Nat} {fl : Int} {v : Value} {L : List Prt} {c : Array Value} (h : RTv w base x fl v L) (hg : w.grownBy w' (some r)) (ho : w.heap[r]? = some (.cells c 36 (0, 0))) (hv : v.ownBlock ≠ some r) : RTv w' base x fl v L := by
  have hrx : x ≠ r := fun e => by
    subst e
    have := h.row
    rw [ho] at this
    injection this with this
    injection this with _ e2
    exact absurd e2 (by decide)
  obtain ⟨hn, cs, h1, h2⟩ := h.rl
  refine ⟨h.le, (hg.block _ (Array.getElem?_eq_some_iff.1 h.row).1 (fun e => by injection e with e; exact hrx e)).trans h.row, ⟨hn, cs, h1.kept hg ?_, h2.kept hg (fun g hgr => by injection hgr with hgr; subst hgr; exact ⟨_, _, _, ho, by decide⟩)⟩, h.few, h.ok⟩
  exact .inr (fun e => hv e)
/-- t.L = append(t.L, p) -/
theorem put_run {w : World} {base x : Nat} {fl : Int} {v : Value} {L : List Prt} (h : RTv w base x fl v L) (hbw : base ≤ w.heap.size) (p : Prt) (A : Option Addr) (n c : Nat) (hv : w.ownsRow base 5 1 (.slice A n c) p.d.length (B8 p.d)) (hok : p.ok = true) (h200 : L.length < 200) :
    ∃ v' w', (Builtin.append_ #[41, 41] 41 #[v, .slice (some ⟨w.heap.size, 0, none⟩) 1 1]).run Try.prog (w.alloc (.cells #[.int .u64 p.id, .int .i64 p.ix, .int .i64 p.ct, .slice A n c] 36)) = .ok v' w' ∧
      (∃ A' m' c', v' = .slice A' m' c') ∧ w'.cell? ⟨x, 1, none⟩ = some v ∧ w'.frozen? ⟨x, 1, none⟩ = false ∧ x < w'.heap.size ∧
      RT (w'.setCell ⟨x, 1, none⟩ v') base x fl (L ++ [p]) ∧ Below base w (w'.setCell ⟨x, 1, none⟩ v') ∧ StaysD w (w'.setCell ⟨x, 1, none⟩ v') ∧
      (∀ r o, w.heap[r]? = some o → v.ownBlock ≠ some r → w'.heap[r]? = some o) ∧
      ∀ r o, w.heap[r]? = some o → r ≠ x → v.ownBlock ≠ some r → (w'.setCell ⟨x, 1, none⟩ v').heap[r]? = some o := by
  have ha : Below w.heap.size w (w.alloc (.cells #[.int .u64 p.id, .int .i64 p.ix, .int .i64 p.ct, .slice A n c] 36)) := (Below.refl _ _).alloc (Nat.le_refl _) _
  have h1 := h.keep ha
  obtain ⟨hn, cs, hown, hPO⟩ := h1.rl
  obtain ⟨v', w', hrun, hown', hgr, hat⟩ := app_rpart (fb := w.heap.size) hown (heap_alloc_new _ _) (by omega) (by simp; omega)
  have hty : ∀ g, v.ownBlock = some g → ∃ cc t f, (w.alloc (.cells #[.int .u64 p.id, .int .i64 p.ix, .int .i64 p.ct, .slice A n c] 36)).heap[g]? = some (.cells cc t f) ∧ t = 36 := fun g hg => by
    rcases hown.2 with ⟨rfl, _⟩ | ⟨g', cap, cur, rfl, _, hh, _⟩
    · simp [Value.ownBlock] at hg
    · obtain rfl : g' = g := by simpa [Value.ownBlock] using hg
      exact ⟨_, _, _, hh, rfl⟩
  have hty' : ∀ g, v.ownBlock = some g → ∃ cc t f, (w.alloc (.cells #[.int .u64 p.id, .int .i64 p.ix, .int .i64 p.ct, .slice A n c] 36)).heap[g]? = some (.cells cc t f) ∧ t ≠ 5 := fun g hg => by
    obtain ⟨c, t, f, h2, h3⟩ := hty g hg
    exact ⟨c, t, f, h2, by rw [h3]; decide⟩
  have hxv : some x ≠ v.ownBlock := fun e => by
    obtain ⟨c, t, f, h2, h3⟩ := hty x e.symm
    rw [h1.row] at h2
    injection h2 with h2
    injection h2 with _ e2
    rw [h3] at e2
    exact absurd e2 (by decide)
  have hrow' : w'.heap[x]? = some (.cells #[.int .u64 fl, v] 43 (0, 0)) := (hgr.block _ (Array.getElem?_eq_some_iff.1 h1.row).1 hxv).trans h1.row
  have g2 := cell_grown w' x 1 v'
  have r2 := heap_setCell_same w' x 1 _ _ v' hrow'
  have hRL : RL w' base base v' (L ++ [p]).length (L ++ [p]) := ⟨rfl, _, by rw [List.length_append]; exact hown', PO.snoc (p := p) (own_u8_kept (own_below hv ha) hgr hty') (hPO.kept hgr hty')⟩
  refine ⟨v', w', hrun, ?_, by simp [World.cell?, hrow'], by simp [World.frozen?, hrow'], (Array.getElem?_eq_some_iff.1 hrow').1, ?_, ?_, ?_, ?_, ?_⟩
  · obtain ⟨A', c', e, _⟩ := own_slice hown'
    exact ⟨A', _, c', e⟩
  · exact ⟨h.le, ⟨v', by rw [r2]; simp, hRL.grown g2 hrow'⟩, by rw [List.length_append]; simp; omega, fun q hq => by
      rcases List.mem_append.1 hq with hq | hq
      · exact h.ok q hq
      · obtain rfl : q = p := by simpa using hq
        exact hok⟩
  · refine (((ha.mono hbw).grown hgr (by simp; omega) (fun k hk => ownBlock_le hown k hk))).trans (below_grown g2 h.le ?_)
    have := hgr.size
    simp at this
    omega
  · refine fun k o hk hn1 hn2 => ?_
    have hk1 := (ha.block k (Array.getElem?_eq_some_iff.1 hk).1).trans hk
    have hk2 := (hgr.block k (Array.getElem?_eq_some_iff.1 hk1).1 (fun e => by
      obtain ⟨c, t, f, h2, h3⟩ := hty k e.symm
      rw [hk1] at h2
      injection h2 with h2
      rw [h3] at h2
      exact hn2 _ _ h2)).trans hk1
    exact (g2.block k (Array.getElem?_eq_some_iff.1 hk2).1 (fun e => by
      injection e with e
      subst e
      rw [hrow'] at hk2
      injection hk2 with hk2
      exact hn1 _ _ hk2.symm)).trans hk2
  · intro r o hr hrv
    have hk1 := (ha.block r (Array.getElem?_eq_some_iff.1 hr).1).trans hr
    exact (hgr.block r (Array.getElem?_eq_some_iff.1 hk1).1 (fun e => hrv e.symm)).trans hk1
  · intro r o hr hrx hrv
    have hk1 := (ha.block r (Array.getElem?_eq_some_iff.1 hr).1).trans hr
    have hk2 := (hgr.block r (Array.getElem?_eq_some_iff.1 hk1).1 (fun e => hrv e.symm)).trans hk1
    exact (g2.block r (Array.getElem?_eq_some_iff.1 hk2).1 (fun e => by injection e with e; exact hrx e)).trans hk2

theorem putD_good {fl fl1 : Int} {L L1 : List Prt} {p : Prt} (hE : eD fl L p = 0) (hr : roomD fl L p = (fl1, L1)) {l2 : List Prt} (hl : partsD (L1 ++ [p]) p.id = l2) :
    putD fl L p = if (l2.length : Int) < p.ct then ⟨fl1, L1 ++ [p], false, 0, []⟩ else ⟨p.id + 1, raiseD (p.id + 1) (L1 ++ [p]), true, (joinS l2).2, (joinS l2).1⟩ := by
  unfold putD laterD
  rw [if_neg (fun e => e hE), hr, hl]
theorem own_only {w w' : World} {x base : Nat} {v : Value} {n : Nat} {xs : List Value} {c : Array Value} {fr : Nat × Nat} (h : w.ownsRow base 5 1 v n xs) (hs : OnlyX x w w') (hx : w.heap[x]? = some (.cells c 43 fr)) : w'.ownsRow base 5 1 v n xs := by
  refine ⟨h.1, ?_⟩
  rcases h.2 with e | ⟨g, cap, cur, e, hb, hg, hr⟩
  · exact .inl e
  · refine .inr ⟨g, cap, cur, e, hb, hs g _ hg (fun e => ?_), hr⟩
    subst e
    rw [hx] at hg
    injection hg with hg
    injection hg with _ e2
    exact absurd e2 (by decide)
theorem rb_only {w w' : World} {x : Nat} {A : Option Addr} {d : List Int} {fl : Int} {v : Value} (h : RB w w.heap.size A d) (hs : OnlyX x w w') (hx : w.heap[x]? = some (.cells #[.int .u64 fl, v] 43 (0, 0))) (hv : ∀ k, v ≠ .int .u8 k) : RB w' w'.heap.size A d := fun hl => by
  obtain ⟨b, off, e, hb, hc⟩ := h hl
  have hbx : b ≠ x := fun e => by
    subst e
    have h0 := hc 0 hl
    simp only [World.cell?, hx] at h0
    rcases off with _ | _ | off
    · simp at h0
    · simp at h0
      exact hv _ h0
    · simp at h0
  have key : ∀ i, i < d.length → w'.cell? ⟨b, off + i, none⟩ = w.cell? ⟨b, off + i, none⟩ := fun i hi => by
    obtain ⟨c, ty, fr, hh⟩ := cell_row (hc i hi)
    exact World.cell?_of_block ((hs b _ hh hbx).trans hh.symm)
  obtain ⟨c, ty, fr, hh⟩ := cell_row (hc 0 hl)
  exact ⟨b, off, e, (Array.getElem?_eq_some_iff.1 (hs b _ hh hbx)).1, fun i hi => (key i hi).trans (hc i hi)⟩
theorem pok_of {l : List Prt} (h : ∀ q ∈ l, q.ok = true) : POk l := fun i hi => by
  have hm : pAt l i ∈ l := by
    have : pAt l i = l[i] := by simp [pAt, List.getD, hi]
    rw [this]; exact List.getElem_mem hi
  have h1 := ok_id (h _ hm)
  have h2 := ok_ct (h _ hm)
  omega

set_option maxRecDepth 100000 in
set_option maxHeartbeats 6000000 in
theorem rput_any {w : World} {base x : Nat} {fl : Int} {L : List Prt} (h : RT w base x fl L) (hbw : base ≤ w.heap.size) (p : Prt) (hO : POk1 p) (A : Option Addr) (n c : Nat) (hn : p.d.length = n) (hm : n ≤ 600) (hA : A = none → c = 0) (hR : RB w w.heap.size A p.d) (h200 : L.length < 200) :
    Calls Try.prog 10 #[.pointer (some ⟨x, 0, none⟩), PV p.id p.ix p.ct A n c] w (RPost w base x (putD fl L p)) := by
  obtain ⟨⟨i0, i1⟩, ⟨c0, c1⟩, _⟩ := hO
  have hb0 : Below w.heap.size w (w.alloc (.cells #[.int .u64 p.id, .int .i64 p.ix, .int .i64 p.ct, .slice A n c] 36)) := (Below.refl _ w).alloc (Nat.le_refl _) _
  have hbx := heap_alloc_new w (.cells #[.int .u64 p.id, .int .i64 p.ix, .int .i64 p.ct, .slice A n c] 36)
  obtain ⟨W0, hW0⟩ : ∃ W0, w.alloc (.cells #[.int .u64 p.id, .int .i64 p.ix, .int .i64 p.ct, .slice A n c] 36) = W0 := ⟨_, rfl⟩
  rw [hW0] at hb0 hbx
  have HB0 := Lib.hid hb0
  have HBX := Lib.hid hbx
  have HT := Lib.hid h
  have HR := Lib.hid hR
  have HN := Lib.hid hn
  have HA := Lib.hid hA
  have HRG := Lib.hid (fun W => rright_any p.id p.ix p.ct A n c W i0 i1 c0 c1 (by unfold maxLen; omega))
  have HED : Hid (eD fl L p = if rgt p.id p.ix p.ct n = false then 3 else if p.id < fl then 23 else if ¬ chkD p (partsD L p.id) = 0 then chkD p (partsD L p.id) else if ((partsD L p.id).length = 0 ∧ (waitsD L).length = 4) ∧ p.id < (waitsD L).headD 0 then 5 else 0) := Lib.hid (by unfold eD; rw [hn])
  obtain ⟨d0, d1, d2, d3, _⟩ := box_rt hbx
  clear hb0 hbx h hR hn hA
  go_enter Try.func10, Try.ntmps10
  go_wp2_with fail
  refine (HRG.out _).mono ?_
  rintro e w1 ⟨rfl, hb1⟩
  have HB1 := Lib.hid (HB0.out.trans (hb1.mono HB0.out.size))
  have HBX1 := Lib.hid ((hb1.block _ (Array.getElem?_eq_some_iff.1 HBX.out).1).trans HBX.out)
  obtain ⟨b0, b1, b2, b3, _⟩ := box_rt HBX1.out
  clear hb1 d0 d1 d2 d3 HRG
  cases hr : rgt p.id p.ix p.ct n with
  | false =>
    have HP := Lib.hid (rpost_bad (w' := w1) (E := 3) (by rw [HED.out, if_pos hr]) (by decide) HT.out HB1.out hbw)
    go_wp2
    refine bodyPost_ret (by simp [results, Try.results10, go_sem]; rfl) rfl ?_
    exact HP.out
  | true =>
    have HRT1 := Lib.hid (HT.out.keep HB1.out)
    obtain ⟨hx1, hxf, _⟩ := HRT1.out.cells
    rw [hr, if_neg (by simp)] at HED
    obtain ⟨hid1, hid2, hct1, hct2, _⟩ := rgt_yes hr
    have HOK := Lib.hid (show p.ok = true by unfold Prt.ok; rw [HN.out]; exact hr)
    clear hr
    by_cases hlt : p.id < fl
    · have HP := Lib.hid (rpost_bad (w' := w1.drew) (E := 23) (by rw [HED.out, if_pos hlt]) (by decide) HT.out (belowN HB1.out 1) hbw)
      go_wp2
      go_region
      all_goals go_wp2
      refine bodyPost_ret (by simp [results, Try.results10, go_sem]; rfl) rfl ?_
      exact HP.out
    · rw [if_neg hlt] at HED
      have HP := Lib.hid (rparts_any (show RT w1.drew base x fl L from HRT1.out.drews 1) p.id)
      have HBD := Lib.hid (show Below w.heap.size w w1.drew from belowN HB1.out 1)
      have HBXD := Lib.hid (show w1.drew.heap[w.heap.size]? = _ from HBX1.out)
      have hmem : ∀ q ∈ partsD L p.id, q.ok = true := fun q hq => HT.out.ok q (partsN_mem hq)
      have hll : (partsD L p.id).length ≤ 12800 := by
        have h1 := partsN_le L p.id 64
        have h2 := HT.out.few
        unfold partsD
        omega
      obtain ⟨l, hl⟩ : ∃ l, partsD L p.id = l := ⟨_, rfl⟩
      rw [hl] at HP HED hmem hll
      have HLE := Lib.hid (fun (_ : Unit) => hl)
      have HMEM := Lib.hid hmem
      clear hl hmem
      go_wp2
      go_region
      all_goals go_wp2_with fail
      refine HP.out.mono ?_
      rintro e w2 ⟨v2, rfl, hPA⟩
      obtain ⟨A2, c2, rfl, hPS, _⟩ := hPA.reads
      have HB2 := Lib.hid (HBD.out.trans (hPA.below.mono HBD.out.size))
      have HBX2 := Lib.hid ((hPA.below.block _ (Array.getElem?_eq_some_iff.1 HBXD.out).1).trans HBXD.out)
      obtain ⟨nl, hnl⟩ : ∃ nl, l.length = nl := ⟨_, rfl⟩
      have HNL := Lib.hid hnl
      have HPS := Lib.hid hPS
      rw [hnl] at hll ⊢
      clear hPA hPS hnl b0 b1 b2 b3 hx1 hxf HP
      go_wp2
      go_loopw [8] (fun iv wr => ∃ i : Nat, i ≤ nl ∧ iv = .int .i64 i ∧ chkD p l = chkD p (l.drop i) ∧ Below w2.heap.size w2 wr) (fun iv _ => nl - (intOf iv).toNat)
      case atStart => exact ⟨0, by omega, rfl, by simp, Below.refl _ _⟩
      case round =>
        obtain ⟨i, hi, rfl, hchk, hbr⟩ := hrel
        have HCH := Lib.hid hchk
        have HBR := Lib.hid hbr
        have HBX3 := Lib.hid ((hbr.block _ (Array.getElem?_eq_some_iff.1 HBX2.out).1).trans HBX2.out)
        have HB3 := Lib.hid (HB2.out.trans (hbr.mono HB2.out.size))
        obtain ⟨b0, b1, b2, b3, _⟩ := box_rt HBX3.out
        clear hchk hbr
        by_cases hin : i < nl
        · obtain ⟨g, off, rfl, hg, hc⟩ := HPS.out (by rw [HNL.out]; omega)
          obtain ⟨_, q1, q2, _⟩ := hc i (by rw [HNL.out]; exact hin)
          have e1 := (HBR.out.cell (p := ⟨g, off + i * 4 + 1, none⟩) hg).trans q1
          have e2 := (HBR.out.cell (p := ⟨g, off + i * 4 + 2, none⟩) hg).trans q2
          have hst := chk_step (p := p) (l := l) (i := i) (by rw [HNL.out]; exact hin)
          obtain ⟨q, hq⟩ : ∃ q, pAt l i = q := ⟨_, rfl⟩
          rw [hq] at e1 e2 hst
          have HST := Lib.hid hst
          have hi' : (i : Int) < (nl : Int) := by omega
          have hi0 : (0 : Int) ≤ (i : Int) := by omega
          have hgw : g < wr.heap.size := Nat.lt_of_lt_of_le hg HBR.out.size
          clear hc q1 q2 hst hq
          by_cases z1 : q.ct = p.ct
          · have y1 : (q.ct != p.ct) = false := by simpa using z1
            by_cases z2 : q.ix = p.ix
            · have y2 : (q.ix == p.ix) = true := by simpa using z2
              have h7 : chkD p l = 7 := by rw [HCH.out, HST.out, if_neg (fun e => e z1), if_pos z2]
              have HP := Lib.hid (fun m k => rpost_bad (w' := (wr.drewN m).drewN k) (E := 7) (by rw [HED.out, h7]; rfl) (by decide) HT.out (belowN (belowN HB3.out m) k) hbw)
              clear z1 z2 h7
              go_wp2
              go_quiet (fail)
              go_wp2
              obtain ⟨n1, rfl⟩ : ∃ n1, n1 = nq := ⟨_, rfl⟩
              go_quiet (fail)
              go_wp2
              refine bodyPost_ret (by simp [results, Try.results10, go_sem]; rfl) rfl ?_
              exact HP.out _ _
            · have y2 : (q.ix == p.ix) = false := by simpa using z2
              have HN1 := Lib.hid (show chkD p l = chkD p (l.drop (i + 1)) by rw [HCH.out, HST.out, if_neg (fun e => e z1), if_neg z2])
              clear z1 z2
              go_wp2
              go_quiet (fail)
              go_wp2
              obtain ⟨n1, rfl⟩ : ∃ n1, n1 = nq := ⟨_, rfl⟩
              go_quiet (fail)
              go_wp2
              go_roundw
              case rel => exact ⟨i + 1, by omega, by go_num, HN1.out, belowN HBR.out _⟩
              case measure => simp [intOf]; omega
          · have y1 : (q.ct != p.ct) = true := by simpa using z1
            have h7 : chkD p l = 1 := by rw [HCH.out, HST.out, if_pos z1]
            have HP := Lib.hid (fun m => rpost_bad (w' := wr.drewN m) (E := 1) (by rw [HED.out, h7]; rfl) (by decide) HT.out (belowN HB3.out m) hbw)
            clear z1 h7
            go_wp2
            go_quiet (fail)
            go_wp2
            refine bodyPost_ret (by simp [results, Try.results10, go_sem]; rfl) rfl ?_
            exact HP.out _
        · obtain rfl : i = nl := by omega
          have h0 : chkD p l = 0 := by rw [HCH.out, List.drop_of_length_le (by rw [HNL.out]; exact Nat.le_refl _)]; rfl
          rw [h0, if_neg (by simp), HNL.out] at HED
          have HRT3 := Lib.hid (HT.out.keep HB3.out)
          have HW := Lib.hid (rwaits_any HRT3.out)
          have hwl : (waitsD L).length ≤ 200 := Nat.le_trans (waitsN_len L _) HT.out.few
          have hhd : 4 ≤ (waitsD L).length → 1 ≤ (waitsD L).headD 0 ∧ (waitsD L).headD 0 ≤ 4611686018427387903 := fun h4 => by
            have hm : (waitsD L).headD 0 ∈ waitsD L := by
              cases hh : waitsD L with
              | nil => rw [hh] at h4; simp at h4
              | cons a r => simp
            obtain ⟨q, hq, he⟩ := (waitsD_mem L _).1 hm
            have := ok_id (HT.out.ok q hq)
            omega
          have hrm : roomD fl L p = if i = 0 ∧ (waitsD L).length = 4 then ((waitsD L).headD 0 + 1, raiseD ((waitsD L).headD 0 + 1) L) else (fl, L) := by
            unfold roomD
            rw [HLE.out (), HNL.out]
          have hgd : (waitsD L).headD 0 = (waitsD L).getD 0 0 := by cases waitsD L <;> rfl
          obtain ⟨ws, hws⟩ : ∃ ws, waitsD L = ws := ⟨_, rfl⟩
          rw [hws] at HED HW hwl hhd hrm hgd
          have HWS := Lib.hid (fun (_ : Unit) => hws)
          have HRM := Lib.hid hrm
          have HHD := Lib.hid hhd
          have HGD := Lib.hid hgd
          obtain ⟨mw, hmw⟩ : ∃ mw, ws.length = mw := ⟨_, rfl⟩
          rw [hmw] at hwl
          have HMW := Lib.hid hmw
          clear h0 hws hrm hhd hgd hmw b0 b1 b2 b3
          go_wp2_with fail
          refine HW.out.mono ?_
          rintro e w3 ⟨v3, rfl, hWA⟩
          have HWA := Lib.hid hWA
          have how := own_cast hWA.own HMW.out rfl
          obtain ⟨A3, c3, rfl, _⟩ := own_slice how
          have HB4 := Lib.hid (HB3.out.trans (hWA.below.mono HB3.out.size))
          have HBX4 := Lib.hid ((hWA.below.block _ (Array.getElem?_eq_some_iff.1 HBX3.out).1).trans HBX3.out)
          clear how hWA
          have HXN : Hid (w.heap.size ≠ x) := Lib.hid (fun e => by have := HT.out.cells.1; omega)
          by_cases hi0 : i = 0
          · have y0 : ((i : Int) == 0) = true := by simp [hi0]
            by_cases hm4 : mw = 4
            · have y4 : ((mw : Int) == 4) = true := by simp; omega
              obtain ⟨g3, rfl, hg3, hc3⟩ := HWA.out.cell HMW.out (by omega)
              have e3 := hc3 0 (by omega)
              obtain ⟨x0, hx0⟩ : ∃ x0, ws.getD 0 0 = x0 := ⟨_, rfl⟩
              rw [hx0] at e3
              have hx0b := HHD.out (by rw [HMW.out]; omega)
              rw [HGD.out, hx0] at hx0b HED HRM
              obtain ⟨x1, x2⟩ := hx0b
              obtain ⟨b0, b1, b2, b3, _⟩ := box_rt HBX4.out
              have hm0 : (0 : Int) < (mw : Int) := by omega
              have hbl : w.heap.size < w3.heap.size := (Array.getElem?_eq_some_iff.1 HBX4.out).1
              have HI0 := Lib.hid hi0
              have HM4 := Lib.hid hm4
              clear hc3 hx0 hi0 hm4
              by_cases hlt2 : p.id < x0
              · have z1 : decide (p.id < x0) = true := by simpa using hlt2
                have HP := Lib.hid (fun m => rpost_bad (w' := w3.drewN m) (E := 5) (by rw [HED.out, if_pos ⟨⟨HI0.out, by rw [HMW.out]; exact HM4.out⟩, hlt2⟩]) (by decide) HT.out (belowN HB4.out m) hbw)
                clear hlt2
                go_wp2
                go_quiet (fail)
                go_wp2
                refine bodyPost_ret (by simp [results, Try.results10, go_sem]; rfl) rfl ?_
                exact HP.out _
              · have z1 : decide (p.id < x0) = false := by simpa using hlt2
                have HRO : Hid (Unit → roomD fl L p = (x0 + 1, raiseD (x0 + 1) L)) := Lib.hid (fun _ => by rw [HRM.out, if_pos ⟨HI0.out, by rw [HMW.out]; exact HM4.out⟩])
                have HE0 : Hid (Unit → eD fl L p = 0) := Lib.hid (fun _ => by rw [HED.out, if_neg (fun e => hlt2 e.2)])
                have hwr : IntKind.u64.wrap (x0 + 1) = x0 + 1 := by rw [IntKind.wrap_u64]; omega
                clear hlt2
                go_wp2
                go_quiet (fail)
                have HRT3' := Lib.hid (show RT (w3.drewN nq) base x fl L from (HT.out.keep HB4.out).drews nq)
                have e3' : (w3.drewN nq).cell? ⟨g3, 0, none⟩ = some (.int .u64 x0) := e3
                have hg3' : g3 < (w3.drewN nq).heap.size := hg3
                have HRA := Lib.hid (rraise_any HRT3'.out (show base ≤ (w3.drewN nq).heap.size from Nat.le_trans hbw HB4.out.size) (x0 + 1))
                go_wp2_with fail
                refine HRA.out.mono ?_
                rintro e w4 ⟨rfl, ⟨v, hv4, hvf⟩, hb4, ho4⟩
                have HV := Lib.hid hv4
                have HF : Hid (∀ g, v.ownBlock = some g → g ≠ w.heap.size) := Lib.hid (fun g hg e => by have h1 := hvf g hg; have h2 : w.heap.size < (w3.drewN nq).heap.size := hbl; omega)
                have HBW := Lib.hid ((belowN (HB4.out.mono hbw) nq).trans hb4)
                obtain ⟨vo, hvo, _⟩ := HRT3'.out.open
                have HSD := Lib.hid ((StaysD.below (w' := w3.drewN nq) (belowN HB4.out nq)).trans (ho4.stays hvo.row))
                have HBX5 := Lib.hid (ho4 _ _ (show (w3.drewN nq).heap[w.heap.size]? = _ from HBX4.out) HXN.out)
                have HRB := Lib.hid (rb_only (w := w3.drewN nq) ((HR.out.below HB4.out).keep' HB4.out.size) ho4 hvo.row (fun k e => by
                  obtain ⟨_, cs, ho, _⟩ := hvo.rl
                  obtain ⟨A, c, e2, _⟩ := own_slice ho
                  rw [e2] at e; cases e))
                have HL1 : Hid ((raiseD (x0 + 1) L).length < 200) := Lib.hid (by
                  have h2 := List.length_filter_le (fun q : Prt => decide (x0 + 1 ≤ q.id)) L
                  unfold raiseD
                  omega)
                clear hv4 hvf hb4 ho4 hvo e3 e3' hg3 hg3' hbl hwr z1 b0 b1 b2 b3
                have hsz4 := HBW.out.size
                obtain ⟨vd, w5, hrun5, hown5, hb5⟩ := own_run (w := w4) (base := base) (Nat.le_trans hbw hsz4) HN.out c HA.out HRB.out hm
                obtain ⟨Ad, cd, rfl, _⟩ := own_slice hown5
                have HBX6 := Lib.hid ((hb5.block _ (Array.getElem?_eq_some_iff.1 HBX5.out).1).trans HBX5.out)
                obtain ⟨k0, k1, k2, k3, k4⟩ := box_rt HBX6.out
                obtain ⟨j0, j1, j2, j3, _⟩ := box_rt HBX5.out
                have hg6 := cell_grown w5 w.heap.size 3 (.slice Ad n cd)
                have HBW6 := Lib.hid ((HBW.out.trans (hb5.mono (Nat.le_trans hbw hsz4))).trans (below_grown hg6 hbw (Nat.le_trans hbw (Nat.le_trans hsz4 hb5.size))))
                have HSD6 := Lib.hid ((HSD.out.trans (StaysD.below hb5)).trans (StaysD.grown hg6 HBX6.out (.inr rfl)))
                have hV6 := (HV.out.keep hb5).part hg6 HBX6.out (fun e => HF.out _ e rfl)
                have hown6 := hown5.kept hg6 (row_other hown5 HBX6.out (fun cur e => by injection e with _ e2; exact absurd e2 (by decide)))
                have hbx6 := heap_setCell_same w5 w.heap.size 3 _ _ (.slice Ad n cd) HBX6.out
                simp only [List.setIfInBounds_toArray, List.set_cons_zero, List.set_cons_succ] at hbx6
                have hsz6 := Nat.le_trans hbw (Nat.le_trans hsz4 (Nat.le_trans hb5.size hg6.size))
                have HR5 := Lib.hid hrun5
                obtain ⟨w6, hw6⟩ : ∃ w6, w5.setCell ⟨w.heap.size, 3, none⟩ (.slice Ad n cd) = w6 := ⟨_, rfl⟩
                rw [hw6] at HBW6 HSD6 hV6 hown6 hbx6 hsz6
                obtain ⟨v7, w7, hrun7, ⟨A7, m7, c7, rfl⟩, hx7, hf7, hl7, hRT8, hb8, hs8, hq8, hp8⟩ := put_run (hV6.drews 1) (w := w6.drewN 1) hsz6 p Ad n cd (by rw [HN.out]; exact hown6) HOK.out HL1.out
                change (Builtin.append_ #[41, 41] 41 #[v, .slice (some ⟨w6.heap.size, 0, none⟩) 1 1]).run Try.prog (w6.drew.alloc (.cells #[.int .u64 p.id, .int .i64 p.ix, .int .i64 p.ct, .slice Ad n cd] 36)) = .ok _ w7 at hrun7
                have hvx : w6.cell? ⟨x, 1, none⟩ = some v := by
                  have := hV6.row
                  simp [World.cell?, this]
                have hxl6 : x < w6.heap.size := (Array.getElem?_eq_some_iff.1 hV6.row).1
                have hbx8 := hp8 w.heap.size _ hbx6 HXN.out (fun e => HF.out _ e rfl)
                have hbx7 := hq8 w.heap.size _ hbx6 (fun e => HF.out _ e rfl)
                obtain ⟨a0, a1, a2, a3, _⟩ := box_rt hbx6
                obtain ⟨f0, f1, f2, f3, _⟩ := box_rt hbx7
                obtain ⟨g0, g1, g2, g3, _⟩ := box_rt hbx8
                have hS0 : SBx w.heap.size p.id p.ix p.ct Ad n cd w6.drew := ⟨a0, a1, a2, a3⟩
                have HSA : Hid (SBx w.heap.size p.id p.ix p.ct Ad n cd (w6.drew.alloc (.cells #[.int .u64 p.id, .int .i64 p.ix, .int .i64 p.ct, .slice Ad n cd] 36))) := Lib.hid (by
                  have := box_rt (((Below.refl w6.drew.heap.size w6.drew).alloc (Nat.le_refl _) (.cells #[.int .u64 p.id, .int .i64 p.ix, .int .i64 p.ct, .slice Ad n cd] 36)).block w.heap.size (Array.getElem?_eq_some_iff.1 hbx6).1 |>.trans hbx6)
                  exact ⟨this.1, this.2.1, this.2.2.1, this.2.2.2.1⟩)
                have HSB : Hid (SBx w.heap.size p.id p.ix p.ct Ad n cd w7) := Lib.hid ⟨f0, f1, f2, f3⟩
                have HSC : Hid (SBx w.heap.size p.id p.ix p.ct Ad n cd (w7.setCell ⟨x, 1, none⟩ (.slice A7 m7 c7))) := Lib.hid ⟨g0, g1, g2, g3⟩
                have HBX8 := Lib.hid hbx8
                have HRT8 := Lib.hid hRT8
                have HBW8 := Lib.hid ((belowN HBW6.out 1).trans hb8)
                have HSD8 := Lib.hid ((show StaysD w (w6.drewN 1) from HSD6.out).trans hs8)
                have HRUN := Lib.hid hrun7
                have HCB := Lib.hid hx7
                have HFB := Lib.hid hf7
                obtain ⟨Av, nv, cv, rfl⟩ : ∃ A n c, v = .slice A n c := by
                  obtain ⟨_, cs, ho, _⟩ := hV6.rl
                  obtain ⟨A, c, e, _⟩ := own_slice ho
                  exact ⟨A, _, c, e⟩
                clear hV6 hown5 hown6 hb5 hg6 hbx6 hb8 hs8 hp8 hq8 hRT8 hbx8 hbx7 hrun5 hrun7 hx7 hf7 a0 a1 a2 a3 f0 f1 f2 f3 g0 g1 g2 g3
                go_wp2_with (first | (at_builtin; refine wpList_app rfl (.tmp 71) (.tmp 73) _ rfl _ _ rfl rfl HR5.out ?_))
                try rw [hw6]
                clear hw6 k0 k1 k2 k3 k4 j0 j1 j2 j3
                go_cut [83] (fun _ wx => wx = w7.setCell ⟨x, 1, none⟩ (.slice A7 m7 c7))
                case first =>
                  refine wp_region_held_drew (S := SBx w.heap.size p.id p.ix p.ct Ad n cd) (by kernel_rfl) hS0 (fun hHeld => ?_)
                  refine wpAnyH_take (i := 0) (v := ?_) (by simp; rfl) (by kernel_rfl) (by kernel_rfl) (by kernel_rfl) (by exact fun _ _ _ h => h) (Or.inl ⟨by rfl, fun wx hSx => ?_⟩) hHeld ?_
                  rotate_left
                  · obtain ⟨c0, c1, c2, c3⟩ := hSx; go_simp; (try with_reducible rfl)
                  simp only [Act.put, List.setIfInBounds_toArray, List.set_cons_zero, List.set_cons_succ]
                  refine wpAnyH_take (i := 1) (v := ?_) (by simp; rfl) (by kernel_rfl) (by kernel_rfl) (by kernel_rfl) (by exact fun _ _ _ h => h) (Or.inl ⟨by rfl, fun wx hSx => ?_⟩) hHeld ?_
                  rotate_left
                  · obtain ⟨c0, c1, c2, c3⟩ := hSx; go_simp; (try with_reducible rfl)
                  simp only [Act.put, List.setIfInBounds_toArray, List.set_cons_zero, List.set_cons_succ]
                  refine wpAnyH_take (i := 2) (v := ?_) (by simp; rfl) (by kernel_rfl) (by kernel_rfl) (by kernel_rfl) (by exact fun _ _ _ h => h) (Or.inl ⟨by rfl, fun wx hSx => ?_⟩) hHeld ?_
                  rotate_left
                  · obtain ⟨c0, c1, c2, c3⟩ := hSx; go_simp; (try with_reducible rfl)
                  simp only [Act.put, List.setIfInBounds_toArray, List.set_cons_zero, List.set_cons_succ]
                  refine wpAnyH_take (i := 3) (v := ?_) (by simp; rfl) (by kernel_rfl) (by kernel_rfl) (by kernel_rfl) (by exact fun _ _ _ h => h) (Or.inl ⟨by rfl, fun wx hSx => ?_⟩) hHeld ?_
                  rotate_left
                  · obtain ⟨c0, c1, c2, c3⟩ := hSx; go_simp; (try with_reducible rfl)
                  simp only [Act.put, List.setIfInBounds_toArray, List.set_cons_zero, List.set_cons_succ]
                  refine wpAnyH_take (i := 5) (v := ?_) (by simp; rfl) (by kernel_rfl) (by kernel_rfl) (by kernel_rfl) (by exact fun _ _ _ h => h) (Or.inl ⟨by rfl, fun wx hSx => ?_⟩) hHeld ?_
                  rotate_left
                  · obtain ⟨c0, c1, c2, c3⟩ := hSx; go_simp; (try with_reducible rfl)
                  simp only [Act.put, List.setIfInBounds_toArray, List.set_cons_zero, List.set_cons_succ]
                  refine wpAnyH_ready (rs := [4, 6]) (by kernel_rfl) (by simp) ?_
                  refine AllReadyH.cons (by simp; rfl) (fun K0 hK0 => ?_) (AllReadyH.cons (by simp; rfl) (fun K0 hK0 => ?_) AllReadyH.nil)
                  · go_simp
                    refine hK0.out _ _ hHeld (fun hHeld => ?_)
                    clear hK0 K0
                    refine wpAnyH_ready (rs := [6]) (by kernel_rfl) (by simp) ?_
                    refine AllReadyH.cons (by simp; rfl) (fun K0 hK0 => ?_) AllReadyH.nil
                    go_simp
                    refine hK0.out _ _ HSA.out (fun hHeld => ?_)
                    clear hK0 K0
                    refine wpAnyH_ready (rs := [7]) (by kernel_rfl) (by simp) ?_
                    refine AllReadyH.cons (by simp; rfl) (fun K0 hK0 => ?_) AllReadyH.nil
                    refine step_app rfl (.tmp 80) (.tmp 82) _ rfl _ _ rfl rfl HRUN.out ?_
                    simp only [Act.put, List.setIfInBounds_toArray, List.set_cons_zero, List.set_cons_succ]
                    refine hK0.out _ _ HSB.out (fun hHeld => ?_)
                    clear hK0 K0
                    refine wpAnyH_take (i := 8) (v := ?_) (by simp; rfl) (by kernel_rfl) (by kernel_rfl) (by kernel_rfl) (by exact fun _ _ _ h => h) (Or.inl ⟨by rfl, fun wx hSx => ?_⟩) hHeld ?_
                    rotate_left
                    · obtain ⟨c0, c1, c2, c3⟩ := hSx; go_simp; (try with_reducible rfl)
                    simp only [Act.put, List.setIfInBounds_toArray, List.set_cons_zero, List.set_cons_succ]
                    refine wpAnyH_take (i := 9) (v := ?_) (by simp; rfl) (by kernel_rfl) (by kernel_rfl) (by kernel_rfl) (by exact fun _ _ _ h => h) (Or.inl ⟨by rfl, fun wx hSx => ?_⟩) hHeld ?_
                    rotate_left
                    · obtain ⟨c0, c1, c2, c3⟩ := hSx; go_simp; (try with_reducible rfl)
                    simp only [Act.put, List.setIfInBounds_toArray, List.set_cons_zero, List.set_cons_succ]
                    refine wpAnyH_ready (rs := [10]) (by kernel_rfl) (by simp) ?_
                    refine AllReadyH.cons (by simp; rfl) (fun K0 hK0 => ?_) AllReadyH.nil
                    have hcB := HCB.out
                    have hfB := HFB.out
                    go_simp
                    refine hK0.out _ _ HSC.out (fun hHeld => ?_)
                    clear hK0 K0 hcB hfB
                    refine wpAnyH_done (by kernel_rfl) ?_ _
                    go_wp2_with fail
                    go_meet
                    rfl
                  · go_simp
                    refine hK0.out _ _ HSA.out (fun hHeld => ?_)
                    clear hK0 K0
                    refine wpAnyH_ready (rs := [4]) (by kernel_rfl) (by simp) ?_
                    refine AllReadyH.cons (by simp; rfl) (fun K0 hK0 => ?_) AllReadyH.nil
                    go_simp
                    refine hK0.out _ _ hHeld (fun hHeld => ?_)
                    clear hK0 K0
                    refine wpAnyH_ready (rs := [7]) (by kernel_rfl) (by simp) ?_
                    refine AllReadyH.cons (by simp; rfl) (fun K0 hK0 => ?_) AllReadyH.nil
                    refine step_app rfl (.tmp 80) (.tmp 82) _ rfl _ _ rfl rfl HRUN.out ?_
                    simp only [Act.put, List.setIfInBounds_toArray, List.set_cons_zero, List.set_cons_succ]
                    refine hK0.out _ _ HSB.out (fun hHeld => ?_)
                    clear hK0 K0
                    refine wpAnyH_take (i := 8) (v := ?_) (by simp; rfl) (by kernel_rfl) (by kernel_rfl) (by kernel_rfl) (by exact fun _ _ _ h => h) (Or.inl ⟨by rfl, fun wx hSx => ?_⟩) hHeld ?_
                    rotate_left
                    · obtain ⟨c0, c1, c2, c3⟩ := hSx; go_simp; (try with_reducible rfl)
                    simp only [Act.put, List.setIfInBounds_toArray, List.set_cons_zero, List.set_cons_succ]
                    refine wpAnyH_take (i := 9) (v := ?_) (by simp; rfl) (by kernel_rfl) (by kernel_rfl) (by kernel_rfl) (by exact fun _ _ _ h => h) (Or.inl ⟨by rfl, fun wx hSx => ?_⟩) hHeld ?_
                    rotate_left
                    · obtain ⟨c0, c1, c2, c3⟩ := hSx; go_simp; (try with_reducible rfl)
                    simp only [Act.put, List.setIfInBounds_toArray, List.set_cons_zero, List.set_cons_succ]
                    refine wpAnyH_ready (rs := [10]) (by kernel_rfl) (by simp) ?_
                    refine AllReadyH.cons (by simp; rfl) (fun K0 hK0 => ?_) AllReadyH.nil
                    have hcB := HCB.out
                    have hfB := HFB.out
                    go_simp
                    refine hK0.out _ _ HSC.out (fun hHeld => ?_)
                    clear hK0 K0 hcB hfB
                    refine wpAnyH_done (by kernel_rfl) ?_ _
                    go_wp2_with fail
                    go_meet
                    rfl
                case rest =>
                  obtain rfl := hcut
                  have hRTl := HRT8.out
                  obtain ⟨w8, hw8⟩ : ∃ w8, w7.setCell ⟨x, 1, none⟩ (.slice A7 m7 c7) = w8 := ⟨_, rfl⟩
                  rw [hw8] at HBX8 HRT8 HBW8 HSD8 hRTl ⊢
                  obtain ⟨g0, g1, g2, g3, _⟩ := box_rt HBX8.out
                  have HP2 := Lib.hid (rparts_any hRTl p.id)
                  have hmem2 : ∀ q ∈ partsD ((raiseD (x0 + 1) L) ++ [p]) p.id, q.ok = true := fun q hq => hRTl.ok q (partsN_mem hq)
                  have hll2 : (partsD ((raiseD (x0 + 1) L) ++ [p]) p.id).length ≤ 12800 := by
                    have h1 := partsN_le ((raiseD (x0 + 1) L) ++ [p]) p.id 64
                    have h2 := hRTl.few
                    unfold partsD
                    omega
                  have HPD := Lib.hid (fun l2 (h : partsD ((raiseD (x0 + 1) L) ++ [p]) p.id = l2) => putD_good (HE0.out ()) (HRO.out ()) h)
                  obtain ⟨l2, hl2⟩ : ∃ l2, partsD ((raiseD (x0 + 1) L) ++ [p]) p.id = l2 := ⟨_, rfl⟩
                  have hpd := HPD.out l2 hl2
                  rw [hl2] at HP2 hmem2 hll2
                  clear hl2 HPD HE0 HRO HED HRM HCH HWS HLE hw8 hRTl HSA HSB HSC HCB HFB HRUN hvx hxl6 hl7 hS0
                  have HMEM2 := Lib.hid hmem2
                  obtain ⟨n9, hn9⟩ : ∃ n9, l2.length = n9 := ⟨_, rfl⟩
                  rw [hn9] at hll2 hpd
                  have HN9 := Lib.hid hn9
                  have HPD := Lib.hid (fun (_ : Unit) => hpd)
                  clear hmem2 hn9 hpd
                  go_wp2_with fail
                  refine HP2.out.mono ?_
                  rintro e w9 ⟨v9, rfl, hPA⟩
                  obtain ⟨A9, c9, rfl, hPS9, _⟩ := hPA.reads
                  rw [HN9.out]
                  have HPS9 := Lib.hid hPS9
                  have HB9 := Lib.hid hPA.below
                  have HBX9 := Lib.hid ((hPA.below.block _ (Array.getElem?_eq_some_iff.1 HBX8.out).1).trans HBX8.out)
                  have HRT9 := Lib.hid (HRT8.out.keep hPA.below)
                  have HBW9 := Lib.hid (HBW8.out.trans (hPA.below.mono (Nat.le_trans hbw HBW8.out.size)))
                  have HSD9 := Lib.hid (HSD8.out.trans (StaysD.below hPA.below))
                  clear hPA hPS9 g0 g1 g2 g3
                  obtain ⟨g0, g1, g2, g3, _⟩ := box_rt HBX9.out
                  by_cases hct : (n9 : Int) < p.ct
                  · have HPO : Hid (RPost w base x (putD fl L p) (.returned (.tuple #[.slice none 0 0, .bool false, .int .i64 0])) w9) := Lib.hid (by
                      rw [HPD.out (), if_pos hct]
                      exact ⟨_, rfl, HRT9.out, HBW9.out, HSD9.out, World.ownsRow_nil _ _ _ _⟩)
                    clear HPD
                    go_wp2
                    refine bodyPost_ret (by simp [results, Try.results10, go_sem]; rfl) rfl ?_
                    exact HPO.out
                  · have HSZ9 := Lib.hid HBW9.out.size
                    have hlt9 : w.heap.size < w9.heap.size := (Array.getElem?_eq_some_iff.1 HBX9.out).1
                    have HJ := Lib.hid (rjoin_any l2 n9 HN9.out A9 c9 w9 HPS9.out (pok_of HMEM2.out) (by unfold maxLen; omega))
                    have hpd := HPD.out ()
                    rw [if_neg hct] at hpd
                    clear HPD
                    obtain ⟨J, hJ⟩ : ∃ J, joinS l2 = J := ⟨_, rfl⟩
                    rw [hJ] at HJ hpd
                    clear hJ
                    obtain ⟨jb, jE⟩ := J
                    unfold BytPost at HJ
                    simp only at HJ hpd
                    have HPF := Lib.hid (show ∀ v w', RT w' base x (p.id + 1) (raiseD (p.id + 1) ((raiseD (x0 + 1) L) ++ [p])) → Below base w w' → StaysD w w' → w'.ownsRow base 5 1 v jb.length (B8 jb) → RPost w base x (putD fl L p) (.returned (.tuple #[v, .bool true, .int .i64 jE])) w' from fun v w' a b c d => by
                      rw [hpd]
                      exact ⟨v, rfl, a, b, c, d⟩)
                    clear hpd
                    go_wp2_with fail
                    refine HJ.out.mono ?_
                    rintro e w10 ⟨v10, rfl, hown10, hb10⟩
                    have HO10 := Lib.hid (own_mono hown10 (Nat.le_trans hbw HSZ9.out))
                    obtain ⟨A10, c10, rfl, _⟩ := own_slice hown10
                    have HRT10 := Lib.hid (HRT9.out.keep hb10)
                    have HBW10 := Lib.hid (HBW9.out.trans (hb10.mono (Nat.le_trans hbw HSZ9.out)))
                    have HSD10 := Lib.hid (HSD9.out.trans (StaysD.below hb10))
                    obtain ⟨h0, _, _, _, _⟩ := box_rt ((hb10.block _ (Array.getElem?_eq_some_iff.1 HBX9.out).1).trans HBX9.out)
                    have hlt10 : w.heap.size < w10.heap.size := Nat.lt_of_lt_of_le hlt9 hb10.size
                    have HRA := Lib.hid (rraise_any HRT10.out (Nat.le_trans hbw HBW10.out.size) (p.id + 1))
                    have hwr : IntKind.u64.wrap (p.id + 1) = p.id + 1 := by rw [IntKind.wrap_u64]; omega
                    clear hown10 hb10 g0 g1 g2 g3
                    go_wp2_with fail
                    refine HRA.out.mono ?_
                    rintro e w11 ⟨rfl, ⟨v11, hv11, _⟩, hb11, ho11⟩
                    have HPO : Hid (RPost w base x (putD fl L p) (.returned (.tuple #[.slice A10 jb.length c10, .bool true, .int .i64 jE])) w11) := Lib.hid (by
                      obtain ⟨v, hv, _⟩ := HRT10.out.open
                      exact HPF.out _ _ hv11.rt (HBW10.out.trans hb11) (HSD10.out.trans (ho11.stays hv.row)) (own_only HO10.out ho11 hv.row))
                    clear hv11 hb11 ho11
                    go_wp2
                    refine bodyPost_ret (by simp [results, Try.results10, go_sem]; rfl) rfl ?_
                    exact HPO.out
            · have y4 : ((mw : Int) == 4) = false := by simp; omega
              have HRO : Hid (Unit → roomD fl L p = (fl, L)) := Lib.hid (fun _ => by rw [HRM.out, if_neg (fun e => hm4 (by rw [← HMW.out]; exact e.2))])
              have HE0 : Hid (Unit → eD fl L p = 0) := Lib.hid (fun _ => by rw [HED.out, if_neg (fun e => hm4 (by rw [← HMW.out]; exact e.1.2))])
              obtain ⟨v, hv, hvl⟩ := HT.out.open
              have HV := Lib.hid (hv.keep HB4.out)
              have HF : Hid (∀ g, v.ownBlock = some g → g ≠ w.heap.size) := Lib.hid (fun g hg e => by have := hvl g hg; omega)
              have HBW := Lib.hid (HB4.out.mono hbw)
              have HSD := Lib.hid (StaysD.below HB4.out)
              have HBX5 := Lib.hid HBX4.out
              have HRB := Lib.hid ((HR.out.below HB4.out).keep' HB4.out.size)
              have HL1 := Lib.hid h200
              clear hv hvl
              have hsz4 := HBW.out.size
              obtain ⟨vd, w5, hrun5, hown5, hb5⟩ := own_run (w := w3) (base := base) (Nat.le_trans hbw hsz4) HN.out c HA.out HRB.out hm
              obtain ⟨Ad, cd, rfl, _⟩ := own_slice hown5
              have HBX6 := Lib.hid ((hb5.block _ (Array.getElem?_eq_some_iff.1 HBX5.out).1).trans HBX5.out)
              obtain ⟨k0, k1, k2, k3, k4⟩ := box_rt HBX6.out
              obtain ⟨j0, j1, j2, j3, _⟩ := box_rt HBX5.out
              have hg6 := cell_grown w5 w.heap.size 3 (.slice Ad n cd)
              have HBW6 := Lib.hid ((HBW.out.trans (hb5.mono (Nat.le_trans hbw hsz4))).trans (below_grown hg6 hbw (Nat.le_trans hbw (Nat.le_trans hsz4 hb5.size))))
              have HSD6 := Lib.hid ((HSD.out.trans (StaysD.below hb5)).trans (StaysD.grown hg6 HBX6.out (.inr rfl)))
              have hV6 := (HV.out.keep hb5).part hg6 HBX6.out (fun e => HF.out _ e rfl)
              have hown6 := hown5.kept hg6 (row_other hown5 HBX6.out (fun cur e => by injection e with _ e2; exact absurd e2 (by decide)))
              have hbx6 := heap_setCell_same w5 w.heap.size 3 _ _ (.slice Ad n cd) HBX6.out
              simp only [List.setIfInBounds_toArray, List.set_cons_zero, List.set_cons_succ] at hbx6
              have hsz6 := Nat.le_trans hbw (Nat.le_trans hsz4 (Nat.le_trans hb5.size hg6.size))
              have HR5 := Lib.hid hrun5
              obtain ⟨w6, hw6⟩ : ∃ w6, w5.setCell ⟨w.heap.size, 3, none⟩ (.slice Ad n cd) = w6 := ⟨_, rfl⟩
              rw [hw6] at HBW6 HSD6 hV6 hown6 hbx6 hsz6
              obtain ⟨v7, w7, hrun7, ⟨A7, m7, c7, rfl⟩, hx7, hf7, hl7, hRT8, hb8, hs8, hq8, hp8⟩ := put_run (hV6.drews 1) (w := w6.drewN 1) hsz6 p Ad n cd (by rw [HN.out]; exact hown6) HOK.out HL1.out
              change (Builtin.append_ #[41, 41] 41 #[v, .slice (some ⟨w6.heap.size, 0, none⟩) 1 1]).run Try.prog (w6.drew.alloc (.cells #[.int .u64 p.id, .int .i64 p.ix, .int .i64 p.ct, .slice Ad n cd] 36)) = .ok _ w7 at hrun7
              have hvx : w6.cell? ⟨x, 1, none⟩ = some v := by
                have := hV6.row
                simp [World.cell?, this]
              have hxl6 : x < w6.heap.size := (Array.getElem?_eq_some_iff.1 hV6.row).1
              have hbx8 := hp8 w.heap.size _ hbx6 HXN.out (fun e => HF.out _ e rfl)
              have hbx7 := hq8 w.heap.size _ hbx6 (fun e => HF.out _ e rfl)
              obtain ⟨a0, a1, a2, a3, _⟩ := box_rt hbx6
              obtain ⟨f0, f1, f2, f3, _⟩ := box_rt hbx7
              obtain ⟨g0, g1, g2, g3, _⟩ := box_rt hbx8
              have hS0 : SBx w.heap.size p.id p.ix p.ct Ad n cd w6.drew := ⟨a0, a1, a2, a3⟩
              have HSA : Hid (SBx w.heap.size p.id p.ix p.ct Ad n cd (w6.drew.alloc (.cells #[.int .u64 p.id, .int .i64 p.ix, .int .i64 p.ct, .slice Ad n cd] 36))) := Lib.hid (by
                have := box_rt (((Below.refl w6.drew.heap.size w6.drew).alloc (Nat.le_refl _) (.cells #[.int .u64 p.id, .int .i64 p.ix, .int .i64 p.ct, .slice Ad n cd] 36)).block w.heap.size (Array.getElem?_eq_some_iff.1 hbx6).1 |>.trans hbx6)
                exact ⟨this.1, this.2.1, this.2.2.1, this.2.2.2.1⟩)
              have HSB : Hid (SBx w.heap.size p.id p.ix p.ct Ad n cd w7) := Lib.hid ⟨f0, f1, f2, f3⟩
              have HSC : Hid (SBx w.heap.size p.id p.ix p.ct Ad n cd (w7.setCell ⟨x, 1, none⟩ (.slice A7 m7 c7))) := Lib.hid ⟨g0, g1, g2, g3⟩
              have HBX8 := Lib.hid hbx8
              have HRT8 := Lib.hid hRT8
              have HBW8 := Lib.hid ((belowN HBW6.out 1).trans hb8)
              have HSD8 := Lib.hid ((show StaysD w (w6.drewN 1) from HSD6.out).trans hs8)
              have HRUN := Lib.hid hrun7
              have HCB := Lib.hid hx7
              have HFB := Lib.hid hf7
              obtain ⟨Av, nv, cv, rfl⟩ : ∃ A n c, v = .slice A n c := by
                obtain ⟨_, cs, ho, _⟩ := hV6.rl
                obtain ⟨A, c, e, _⟩ := own_slice ho
                exact ⟨A, _, c, e⟩
              clear hV6 hown5 hown6 hb5 hg6 hbx6 hb8 hs8 hp8 hq8 hRT8 hbx8 hbx7 hrun5 hrun7 hx7 hf7 a0 a1 a2 a3 f0 f1 f2 f3 g0 g1 g2 g3
              go_wp2_with (first | (at_builtin; refine wpList_app rfl (.tmp 71) (.tmp 73) _ rfl _ _ rfl rfl HR5.out ?_))
              try rw [hw6]
              clear hw6 k0 k1 k2 k3 k4 j0 j1 j2 j3
              go_cut [83] (fun _ wx => wx = w7.setCell ⟨x, 1, none⟩ (.slice A7 m7 c7))
              case first =>
                refine wp_region_held_drew (S := SBx w.heap.size p.id p.ix p.ct Ad n cd) (by kernel_rfl) hS0 (fun hHeld => ?_)
                refine wpAnyH_take (i := 0) (v := ?_) (by simp; rfl) (by kernel_rfl) (by kernel_rfl) (by kernel_rfl) (by exact fun _ _ _ h => h) (Or.inl ⟨by rfl, fun wx hSx => ?_⟩) hHeld ?_
                rotate_left
                · obtain ⟨c0, c1, c2, c3⟩ := hSx; go_simp; (try with_reducible rfl)
                simp only [Act.put, List.setIfInBounds_toArray, List.set_cons_zero, List.set_cons_succ]
                refine wpAnyH_take (i := 1) (v := ?_) (by simp; rfl) (by kernel_rfl) (by kernel_rfl) (by kernel_rfl) (by exact fun _ _ _ h => h) (Or.inl ⟨by rfl, fun wx hSx => ?_⟩) hHeld ?_
                rotate_left
                · obtain ⟨c0, c1, c2, c3⟩ := hSx; go_simp; (try with_reducible rfl)
                simp only [Act.put, List.setIfInBounds_toArray, List.set_cons_zero, List.set_cons_succ]
                refine wpAnyH_take (i := 2) (v := ?_) (by simp; rfl) (by kernel_rfl) (by kernel_rfl) (by kernel_rfl) (by exact fun _ _ _ h => h) (Or.inl ⟨by rfl, fun wx hSx => ?_⟩) hHeld ?_
                rotate_left
                · obtain ⟨c0, c1, c2, c3⟩ := hSx; go_simp; (try with_reducible rfl)
                simp only [Act.put, List.setIfInBounds_toArray, List.set_cons_zero, List.set_cons_succ]
                refine wpAnyH_take (i := 3) (v := ?_) (by simp; rfl) (by kernel_rfl) (by kernel_rfl) (by kernel_rfl) (by exact fun _ _ _ h => h) (Or.inl ⟨by rfl, fun wx hSx => ?_⟩) hHeld ?_
                rotate_left
                · obtain ⟨c0, c1, c2, c3⟩ := hSx; go_simp; (try with_reducible rfl)
                simp only [Act.put, List.setIfInBounds_toArray, List.set_cons_zero, List.set_cons_succ]
                refine wpAnyH_take (i := 5) (v := ?_) (by simp; rfl) (by kernel_rfl) (by kernel_rfl) (by kernel_rfl) (by exact fun _ _ _ h => h) (Or.inl ⟨by rfl, fun wx hSx => ?_⟩) hHeld ?_
                rotate_left
                · obtain ⟨c0, c1, c2, c3⟩ := hSx; go_simp; (try with_reducible rfl)
                simp only [Act.put, List.setIfInBounds_toArray, List.set_cons_zero, List.set_cons_succ]
                refine wpAnyH_ready (rs := [4, 6]) (by kernel_rfl) (by simp) ?_
                refine AllReadyH.cons (by simp; rfl) (fun K0 hK0 => ?_) (AllReadyH.cons (by simp; rfl) (fun K0 hK0 => ?_) AllReadyH.nil)
                · go_simp
                  refine hK0.out _ _ hHeld (fun hHeld => ?_)
                  clear hK0 K0
                  refine wpAnyH_ready (rs := [6]) (by kernel_rfl) (by simp) ?_
                  refine AllReadyH.cons (by simp; rfl) (fun K0 hK0 => ?_) AllReadyH.nil
                  go_simp
                  refine hK0.out _ _ HSA.out (fun hHeld => ?_)
                  clear hK0 K0
                  refine wpAnyH_ready (rs := [7]) (by kernel_rfl) (by simp) ?_
                  refine AllReadyH.cons (by simp; rfl) (fun K0 hK0 => ?_) AllReadyH.nil
                  refine step_app rfl (.tmp 80) (.tmp 82) _ rfl _ _ rfl rfl HRUN.out ?_
                  simp only [Act.put, List.setIfInBounds_toArray, List.set_cons_zero, List.set_cons_succ]
                  refine hK0.out _ _ HSB.out (fun hHeld => ?_)
                  clear hK0 K0
                  refine wpAnyH_take (i := 8) (v := ?_) (by simp; rfl) (by kernel_rfl) (by kernel_rfl) (by kernel_rfl) (by exact fun _ _ _ h => h) (Or.inl ⟨by rfl, fun wx hSx => ?_⟩) hHeld ?_
                  rotate_left
                  · obtain ⟨c0, c1, c2, c3⟩ := hSx; go_simp; (try with_reducible rfl)
                  simp only [Act.put, List.setIfInBounds_toArray, List.set_cons_zero, List.set_cons_succ]
                  refine wpAnyH_take (i := 9) (v := ?_) (by simp; rfl) (by kernel_rfl) (by kernel_rfl) (by kernel_rfl) (by exact fun _ _ _ h => h) (Or.inl ⟨by rfl, fun wx hSx => ?_⟩) hHeld ?_
                  rotate_left
                  · obtain ⟨c0, c1, c2, c3⟩ := hSx; go_simp; (try with_reducible rfl)
                  simp only [Act.put, List.setIfInBounds_toArray, List.set_cons_zero, List.set_cons_succ]
                  refine wpAnyH_ready (rs := [10]) (by kernel_rfl) (by simp) ?_
                  refine AllReadyH.cons (by simp; rfl) (fun K0 hK0 => ?_) AllReadyH.nil
                  have hcB := HCB.out
                  have hfB := HFB.out
                  go_simp
                  refine hK0.out _ _ HSC.out (fun hHeld => ?_)
                  clear hK0 K0 hcB hfB
                  refine wpAnyH_done (by kernel_rfl) ?_ _
                  go_wp2_with fail
                  go_meet
                  rfl
                · go_simp
                  refine hK0.out _ _ HSA.out (fun hHeld => ?_)
                  clear hK0 K0
                  refine wpAnyH_ready (rs := [4]) (by kernel_rfl) (by simp) ?_
                  refine AllReadyH.cons (by simp; rfl) (fun K0 hK0 => ?_) AllReadyH.nil
                  go_simp
                  refine hK0.out _ _ hHeld (fun hHeld => ?_)
                  clear hK0 K0
                  refine wpAnyH_ready (rs := [7]) (by kernel_rfl) (by simp) ?_
                  refine AllReadyH.cons (by simp; rfl) (fun K0 hK0 => ?_) AllReadyH.nil
                  refine step_app rfl (.tmp 80) (.tmp 82) _ rfl _ _ rfl rfl HRUN.out ?_
                  simp only [Act.put, List.setIfInBounds_toArray, List.set_cons_zero, List.set_cons_succ]
                  refine hK0.out _ _ HSB.out (fun hHeld => ?_)
                  clear hK0 K0
                  refine wpAnyH_take (i := 8) (v := ?_) (by simp; rfl) (by kernel_rfl) (by kernel_rfl) (by kernel_rfl) (by exact fun _ _ _ h => h) (Or.inl ⟨by rfl, fun wx hSx => ?_⟩) hHeld ?_
                  rotate_left
                  · obtain ⟨c0, c1, c2, c3⟩ := hSx; go_simp; (try with_reducible rfl)
                  simp only [Act.put, List.setIfInBounds_toArray, List.set_cons_zero, List.set_cons_succ]
                  refine wpAnyH_take (i := 9) (v := ?_) (by simp; rfl) (by kernel_rfl) (by kernel_rfl) (by kernel_rfl) (by exact fun _ _ _ h => h) (Or.inl ⟨by rfl, fun wx hSx => ?_⟩) hHeld ?_
                  rotate_left
                  · obtain ⟨c0, c1, c2, c3⟩ := hSx; go_simp; (try with_reducible rfl)
                  simp only [Act.put, List.setIfInBounds_toArray, List.set_cons_zero, List.set_cons_succ]
                  refine wpAnyH_ready (rs := [10]) (by kernel_rfl) (by simp) ?_
                  refine AllReadyH.cons (by simp; rfl) (fun K0 hK0 => ?_) AllReadyH.nil
                  have hcB := HCB.out
                  have hfB := HFB.out
                  go_simp
                  refine hK0.out _ _ HSC.out (fun hHeld => ?_)
                  clear hK0 K0 hcB hfB
                  refine wpAnyH_done (by kernel_rfl) ?_ _
                  go_wp2_with fail
                  go_meet
                  rfl
              case rest =>
                obtain rfl := hcut
                have hRTl := HRT8.out
                obtain ⟨w8, hw8⟩ : ∃ w8, w7.setCell ⟨x, 1, none⟩ (.slice A7 m7 c7) = w8 := ⟨_, rfl⟩
                rw [hw8] at HBX8 HRT8 HBW8 HSD8 hRTl ⊢
                obtain ⟨g0, g1, g2, g3, _⟩ := box_rt HBX8.out
                have HP2 := Lib.hid (rparts_any hRTl p.id)
                have hmem2 : ∀ q ∈ partsD (L ++ [p]) p.id, q.ok = true := fun q hq => hRTl.ok q (partsN_mem hq)
                have hll2 : (partsD (L ++ [p]) p.id).length ≤ 12800 := by
                  have h1 := partsN_le (L ++ [p]) p.id 64
                  have h2 := hRTl.few
                  unfold partsD
                  omega
                have HPD := Lib.hid (fun l2 (h : partsD (L ++ [p]) p.id = l2) => putD_good (HE0.out ()) (HRO.out ()) h)
                obtain ⟨l2, hl2⟩ : ∃ l2, partsD (L ++ [p]) p.id = l2 := ⟨_, rfl⟩
                have hpd := HPD.out l2 hl2
                rw [hl2] at HP2 hmem2 hll2
                clear hl2 HPD HE0 HRO HED HRM HCH HWS HLE hw8 hRTl HSA HSB HSC HCB HFB HRUN hvx hxl6 hl7 hS0
                have HMEM2 := Lib.hid hmem2
                obtain ⟨n9, hn9⟩ : ∃ n9, l2.length = n9 := ⟨_, rfl⟩
                rw [hn9] at hll2 hpd
                have HN9 := Lib.hid hn9
                have HPD := Lib.hid (fun (_ : Unit) => hpd)
                clear hmem2 hn9 hpd
                go_wp2_with fail
                refine HP2.out.mono ?_
                rintro e w9 ⟨v9, rfl, hPA⟩
                obtain ⟨A9, c9, rfl, hPS9, _⟩ := hPA.reads
                rw [HN9.out]
                have HPS9 := Lib.hid hPS9
                have HB9 := Lib.hid hPA.below
                have HBX9 := Lib.hid ((hPA.below.block _ (Array.getElem?_eq_some_iff.1 HBX8.out).1).trans HBX8.out)
                have HRT9 := Lib.hid (HRT8.out.keep hPA.below)
                have HBW9 := Lib.hid (HBW8.out.trans (hPA.below.mono (Nat.le_trans hbw HBW8.out.size)))
                have HSD9 := Lib.hid (HSD8.out.trans (StaysD.below hPA.below))
                clear hPA hPS9 g0 g1 g2 g3
                obtain ⟨g0, g1, g2, g3, _⟩ := box_rt HBX9.out
                by_cases hct : (n9 : Int) < p.ct
                · have HPO : Hid (RPost w base x (putD fl L p) (.returned (.tuple #[.slice none 0 0, .bool false, .int .i64 0])) w9) := Lib.hid (by
                    rw [HPD.out (), if_pos hct]
                    exact ⟨_, rfl, HRT9.out, HBW9.out, HSD9.out, World.ownsRow_nil _ _ _ _⟩)
                  clear HPD
                  go_wp2
                  refine bodyPost_ret (by simp [results, Try.results10, go_sem]; rfl) rfl ?_
                  exact HPO.out
                · have HSZ9 := Lib.hid HBW9.out.size
                  have hlt9 : w.heap.size < w9.heap.size := (Array.getElem?_eq_some_iff.1 HBX9.out).1
                  have HJ := Lib.hid (rjoin_any l2 n9 HN9.out A9 c9 w9 HPS9.out (pok_of HMEM2.out) (by unfold maxLen; omega))
                  have hpd := HPD.out ()
                  rw [if_neg hct] at hpd
                  clear HPD
                  obtain ⟨J, hJ⟩ : ∃ J, joinS l2 = J := ⟨_, rfl⟩
                  rw [hJ] at HJ hpd
                  clear hJ
                  obtain ⟨jb, jE⟩ := J
                  unfold BytPost at HJ
                  simp only at HJ hpd
                  have HPF := Lib.hid (show ∀ v w', RT w' base x (p.id + 1) (raiseD (p.id + 1) (L ++ [p])) → Below base w w' → StaysD w w' → w'.ownsRow base 5 1 v jb.length (B8 jb) → RPost w base x (putD fl L p) (.returned (.tuple #[v, .bool true, .int .i64 jE])) w' from fun v w' a b c d => by
                    rw [hpd]
                    exact ⟨v, rfl, a, b, c, d⟩)
                  clear hpd
                  go_wp2_with fail
                  refine HJ.out.mono ?_
                  rintro e w10 ⟨v10, rfl, hown10, hb10⟩
                  have HO10 := Lib.hid (own_mono hown10 (Nat.le_trans hbw HSZ9.out))
                  obtain ⟨A10, c10, rfl, _⟩ := own_slice hown10
                  have HRT10 := Lib.hid (HRT9.out.keep hb10)
                  have HBW10 := Lib.hid (HBW9.out.trans (hb10.mono (Nat.le_trans hbw HSZ9.out)))
                  have HSD10 := Lib.hid (HSD9.out.trans (StaysD.below hb10))
                  obtain ⟨h0, _, _, _, _⟩ := box_rt ((hb10.block _ (Array.getElem?_eq_some_iff.1 HBX9.out).1).trans HBX9.out)
                  have hlt10 : w.heap.size < w10.heap.size := Nat.lt_of_lt_of_le hlt9 hb10.size
                  have HRA := Lib.hid (rraise_any HRT10.out (Nat.le_trans hbw HBW10.out.size) (p.id + 1))
                  have hwr : IntKind.u64.wrap (p.id + 1) = p.id + 1 := by rw [IntKind.wrap_u64]; omega
                  clear hown10 hb10 g0 g1 g2 g3
                  go_wp2_with fail
                  refine HRA.out.mono ?_
                  rintro e w11 ⟨rfl, ⟨v11, hv11, _⟩, hb11, ho11⟩
                  have HPO : Hid (RPost w base x (putD fl L p) (.returned (.tuple #[.slice A10 jb.length c10, .bool true, .int .i64 jE])) w11) := Lib.hid (by
                    obtain ⟨v, hv, _⟩ := HRT10.out.open
                    exact HPF.out _ _ hv11.rt (HBW10.out.trans hb11) (HSD10.out.trans (ho11.stays hv.row)) (own_only HO10.out ho11 hv.row))
                  clear hv11 hb11 ho11
                  go_wp2
                  refine bodyPost_ret (by simp [results, Try.results10, go_sem]; rfl) rfl ?_
                  exact HPO.out
          · have y0 : ((i : Int) == 0) = false := by simp; omega
            have HRO : Hid (Unit → roomD fl L p = (fl, L)) := Lib.hid (fun _ => by rw [HRM.out, if_neg (fun e => hi0 e.1)])
            have HE0 : Hid (Unit → eD fl L p = 0) := Lib.hid (fun _ => by rw [HED.out, if_neg (fun e => hi0 e.1.1)])
            obtain ⟨v, hv, hvl⟩ := HT.out.open
            have HV := Lib.hid (hv.keep HB4.out)
            have HF : Hid (∀ g, v.ownBlock = some g → g ≠ w.heap.size) := Lib.hid (fun g hg e => by have := hvl g hg; omega)
            have HBW := Lib.hid (HB4.out.mono hbw)
            have HSD := Lib.hid (StaysD.below HB4.out)
            have HBX5 := Lib.hid HBX4.out
            have HRB := Lib.hid ((HR.out.below HB4.out).keep' HB4.out.size)
            have HL1 := Lib.hid h200
            clear hv hvl
            have hsz4 := HBW.out.size
            obtain ⟨vd, w5, hrun5, hown5, hb5⟩ := own_run (w := w3) (base := base) (Nat.le_trans hbw hsz4) HN.out c HA.out HRB.out hm
            obtain ⟨Ad, cd, rfl, _⟩ := own_slice hown5
            have HBX6 := Lib.hid ((hb5.block _ (Array.getElem?_eq_some_iff.1 HBX5.out).1).trans HBX5.out)
            obtain ⟨k0, k1, k2, k3, k4⟩ := box_rt HBX6.out
            obtain ⟨j0, j1, j2, j3, _⟩ := box_rt HBX5.out
            have hg6 := cell_grown w5 w.heap.size 3 (.slice Ad n cd)
            have HBW6 := Lib.hid ((HBW.out.trans (hb5.mono (Nat.le_trans hbw hsz4))).trans (below_grown hg6 hbw (Nat.le_trans hbw (Nat.le_trans hsz4 hb5.size))))
            have HSD6 := Lib.hid ((HSD.out.trans (StaysD.below hb5)).trans (StaysD.grown hg6 HBX6.out (.inr rfl)))
            have hV6 := (HV.out.keep hb5).part hg6 HBX6.out (fun e => HF.out _ e rfl)
            have hown6 := hown5.kept hg6 (row_other hown5 HBX6.out (fun cur e => by injection e with _ e2; exact absurd e2 (by decide)))
            have hbx6 := heap_setCell_same w5 w.heap.size 3 _ _ (.slice Ad n cd) HBX6.out
            simp only [List.setIfInBounds_toArray, List.set_cons_zero, List.set_cons_succ] at hbx6
            have hsz6 := Nat.le_trans hbw (Nat.le_trans hsz4 (Nat.le_trans hb5.size hg6.size))
            have HR5 := Lib.hid hrun5
            obtain ⟨w6, hw6⟩ : ∃ w6, w5.setCell ⟨w.heap.size, 3, none⟩ (.slice Ad n cd) = w6 := ⟨_, rfl⟩
            rw [hw6] at HBW6 HSD6 hV6 hown6 hbx6 hsz6
            obtain ⟨v7, w7, hrun7, ⟨A7, m7, c7, rfl⟩, hx7, hf7, hl7, hRT8, hb8, hs8, hq8, hp8⟩ := put_run (hV6.drews 1) (w := w6.drewN 1) hsz6 p Ad n cd (by rw [HN.out]; exact hown6) HOK.out HL1.out
            change (Builtin.append_ #[41, 41] 41 #[v, .slice (some ⟨w6.heap.size, 0, none⟩) 1 1]).run Try.prog (w6.drew.alloc (.cells #[.int .u64 p.id, .int .i64 p.ix, .int .i64 p.ct, .slice Ad n cd] 36)) = .ok _ w7 at hrun7
            have hvx : w6.cell? ⟨x, 1, none⟩ = some v := by
              have := hV6.row
              simp [World.cell?, this]
            have hxl6 : x < w6.heap.size := (Array.getElem?_eq_some_iff.1 hV6.row).1
            have hbx8 := hp8 w.heap.size _ hbx6 HXN.out (fun e => HF.out _ e rfl)
            have hbx7 := hq8 w.heap.size _ hbx6 (fun e => HF.out _ e rfl)
            obtain ⟨a0, a1, a2, a3, _⟩ := box_rt hbx6
            obtain ⟨f0, f1, f2, f3, _⟩ := box_rt hbx7
            obtain ⟨g0, g1, g2, g3, _⟩ := box_rt hbx8
            have hS0 : SBx w.heap.size p.id p.ix p.ct Ad n cd w6.drew := ⟨a0, a1, a2, a3⟩
            have HSA : Hid (SBx w.heap.size p.id p.ix p.ct Ad n cd (w6.drew.alloc (.cells #[.int .u64 p.id, .int .i64 p.ix, .int .i64 p.ct, .slice Ad n cd] 36))) := Lib.hid (by
              have := box_rt (((Below.refl w6.drew.heap.size w6.drew).alloc (Nat.le_refl _) (.cells #[.int .u64 p.id, .int .i64 p.ix, .int .i64 p.ct, .slice Ad n cd] 36)).block w.heap.size (Array.getElem?_eq_some_iff.1 hbx6).1 |>.trans hbx6)
              exact ⟨this.1, this.2.1, this.2.2.1, this.2.2.2.1⟩)
            have HSB : Hid (SBx w.heap.size p.id p.ix p.ct Ad n cd w7) := Lib.hid ⟨f0, f1, f2, f3⟩
            have HSC : Hid (SBx w.heap.size p.id p.ix p.ct Ad n cd (w7.setCell ⟨x, 1, none⟩ (.slice A7 m7 c7))) := Lib.hid ⟨g0, g1, g2, g3⟩
            have HBX8 := Lib.hid hbx8
            have HRT8 := Lib.hid hRT8
            have HBW8 := Lib.hid ((belowN HBW6.out 1).trans hb8)
            have HSD8 := Lib.hid ((show StaysD w (w6.drewN 1) from HSD6.out).trans hs8)
            have HRUN := Lib.hid hrun7
            have HCB := Lib.hid hx7
            have HFB := Lib.hid hf7
            obtain ⟨Av, nv, cv, rfl⟩ : ∃ A n c, v = .slice A n c := by
              obtain ⟨_, cs, ho, _⟩ := hV6.rl
              obtain ⟨A, c, e, _⟩ := own_slice ho
              exact ⟨A, _, c, e⟩
            clear hV6 hown5 hown6 hb5 hg6 hbx6 hb8 hs8 hp8 hq8 hRT8 hbx8 hbx7 hrun5 hrun7 hx7 hf7 a0 a1 a2 a3 f0 f1 f2 f3 g0 g1 g2 g3
            go_wp2_with (first | (at_builtin; refine wpList_app rfl (.tmp 71) (.tmp 73) _ rfl _ _ rfl rfl HR5.out ?_))
            try rw [hw6]
            clear hw6 k0 k1 k2 k3 k4 j0 j1 j2 j3
            go_cut [83] (fun _ wx => wx = w7.setCell ⟨x, 1, none⟩ (.slice A7 m7 c7))
            case first =>
              refine wp_region_held_drew (S := SBx w.heap.size p.id p.ix p.ct Ad n cd) (by kernel_rfl) hS0 (fun hHeld => ?_)
              refine wpAnyH_take (i := 0) (v := ?_) (by simp; rfl) (by kernel_rfl) (by kernel_rfl) (by kernel_rfl) (by exact fun _ _ _ h => h) (Or.inl ⟨by rfl, fun wx hSx => ?_⟩) hHeld ?_
              rotate_left
              · obtain ⟨c0, c1, c2, c3⟩ := hSx; go_simp; (try with_reducible rfl)
              simp only [Act.put, List.setIfInBounds_toArray, List.set_cons_zero, List.set_cons_succ]
              refine wpAnyH_take (i := 1) (v := ?_) (by simp; rfl) (by kernel_rfl) (by kernel_rfl) (by kernel_rfl) (by exact fun _ _ _ h => h) (Or.inl ⟨by rfl, fun wx hSx => ?_⟩) hHeld ?_
              rotate_left
              · obtain ⟨c0, c1, c2, c3⟩ := hSx; go_simp; (try with_reducible rfl)
              simp only [Act.put, List.setIfInBounds_toArray, List.set_cons_zero, List.set_cons_succ]
              refine wpAnyH_take (i := 2) (v := ?_) (by simp; rfl) (by kernel_rfl) (by kernel_rfl) (by kernel_rfl) (by exact fun _ _ _ h => h) (Or.inl ⟨by rfl, fun wx hSx => ?_⟩) hHeld ?_
              rotate_left
              · obtain ⟨c0, c1, c2, c3⟩ := hSx; go_simp; (try with_reducible rfl)
              simp only [Act.put, List.setIfInBounds_toArray, List.set_cons_zero, List.set_cons_succ]
              refine wpAnyH_take (i := 3) (v := ?_) (by simp; rfl) (by kernel_rfl) (by kernel_rfl) (by kernel_rfl) (by exact fun _ _ _ h => h) (Or.inl ⟨by rfl, fun wx hSx => ?_⟩) hHeld ?_
              rotate_left
              · obtain ⟨c0, c1, c2, c3⟩ := hSx; go_simp; (try with_reducible rfl)
              simp only [Act.put, List.setIfInBounds_toArray, List.set_cons_zero, List.set_cons_succ]
              refine wpAnyH_take (i := 5) (v := ?_) (by simp; rfl) (by kernel_rfl) (by kernel_rfl) (by kernel_rfl) (by exact fun _ _ _ h => h) (Or.inl ⟨by rfl, fun wx hSx => ?_⟩) hHeld ?_
              rotate_left
              · obtain ⟨c0, c1, c2, c3⟩ := hSx; go_simp; (try with_reducible rfl)
              simp only [Act.put, List.setIfInBounds_toArray, List.set_cons_zero, List.set_cons_succ]
              refine wpAnyH_ready (rs := [4, 6]) (by kernel_rfl) (by simp) ?_
              refine AllReadyH.cons (by simp; rfl) (fun K0 hK0 => ?_) (AllReadyH.cons (by simp; rfl) (fun K0 hK0 => ?_) AllReadyH.nil)
              · go_simp
                refine hK0.out _ _ hHeld (fun hHeld => ?_)
                clear hK0 K0
                refine wpAnyH_ready (rs := [6]) (by kernel_rfl) (by simp) ?_
                refine AllReadyH.cons (by simp; rfl) (fun K0 hK0 => ?_) AllReadyH.nil
                go_simp
                refine hK0.out _ _ HSA.out (fun hHeld => ?_)
                clear hK0 K0
                refine wpAnyH_ready (rs := [7]) (by kernel_rfl) (by simp) ?_
                refine AllReadyH.cons (by simp; rfl) (fun K0 hK0 => ?_) AllReadyH.nil
                refine step_app rfl (.tmp 80) (.tmp 82) _ rfl _ _ rfl rfl HRUN.out ?_
                simp only [Act.put, List.setIfInBounds_toArray, List.set_cons_zero, List.set_cons_succ]
                refine hK0.out _ _ HSB.out (fun hHeld => ?_)
                clear hK0 K0
                refine wpAnyH_take (i := 8) (v := ?_) (by simp; rfl) (by kernel_rfl) (by kernel_rfl) (by kernel_rfl) (by exact fun _ _ _ h => h) (Or.inl ⟨by rfl, fun wx hSx => ?_⟩) hHeld ?_
                rotate_left
                · obtain ⟨c0, c1, c2, c3⟩ := hSx; go_simp; (try with_reducible rfl)
                simp only [Act.put, List.setIfInBounds_toArray, List.set_cons_zero, List.set_cons_succ]
                refine wpAnyH_take (i := 9) (v := ?_) (by simp; rfl) (by kernel_rfl) (by kernel_rfl) (by kernel_rfl) (by exact fun _ _ _ h => h) (Or.inl ⟨by rfl, fun wx hSx => ?_⟩) hHeld ?_
                rotate_left
                · obtain ⟨c0, c1, c2, c3⟩ := hSx; go_simp; (try with_reducible rfl)
                simp only [Act.put, List.setIfInBounds_toArray, List.set_cons_zero, List.set_cons_succ]
                refine wpAnyH_ready (rs := [10]) (by kernel_rfl) (by simp) ?_
                refine AllReadyH.cons (by simp; rfl) (fun K0 hK0 => ?_) AllReadyH.nil
                have hcB := HCB.out
                have hfB := HFB.out
                go_simp
                refine hK0.out _ _ HSC.out (fun hHeld => ?_)
                clear hK0 K0 hcB hfB
                refine wpAnyH_done (by kernel_rfl) ?_ _
                go_wp2_with fail
                go_meet
                rfl
              · go_simp
                refine hK0.out _ _ HSA.out (fun hHeld => ?_)
                clear hK0 K0
                refine wpAnyH_ready (rs := [4]) (by kernel_rfl) (by simp) ?_
                refine AllReadyH.cons (by simp; rfl) (fun K0 hK0 => ?_) AllReadyH.nil
                go_simp
                refine hK0.out _ _ hHeld (fun hHeld => ?_)
                clear hK0 K0
                refine wpAnyH_ready (rs := [7]) (by kernel_rfl) (by simp) ?_
                refine AllReadyH.cons (by simp; rfl) (fun K0 hK0 => ?_) AllReadyH.nil
                refine step_app rfl (.tmp 80) (.tmp 82) _ rfl _ _ rfl rfl HRUN.out ?_
                simp only [Act.put, List.setIfInBounds_toArray, List.set_cons_zero, List.set_cons_succ]
                refine hK0.out _ _ HSB.out (fun hHeld => ?_)
                clear hK0 K0
                refine wpAnyH_take (i := 8) (v := ?_) (by simp; rfl) (by kernel_rfl) (by kernel_rfl) (by kernel_rfl) (by exact fun _ _ _ h => h) (Or.inl ⟨by rfl, fun wx hSx => ?_⟩) hHeld ?_
                rotate_left
                · obtain ⟨c0, c1, c2, c3⟩ := hSx; go_simp; (try with_reducible rfl)
                simp only [Act.put, List.setIfInBounds_toArray, List.set_cons_zero, List.set_cons_succ]
                refine wpAnyH_take (i := 9) (v := ?_) (by simp; rfl) (by kernel_rfl) (by kernel_rfl) (by kernel_rfl) (by exact fun _ _ _ h => h) (Or.inl ⟨by rfl, fun wx hSx => ?_⟩) hHeld ?_
                rotate_left
                · obtain ⟨c0, c1, c2, c3⟩ := hSx; go_simp; (try with_reducible rfl)
                simp only [Act.put, List.setIfInBounds_toArray, List.set_cons_zero, List.set_cons_succ]
                refine wpAnyH_ready (rs := [10]) (by kernel_rfl) (by simp) ?_
                refine AllReadyH.cons (by simp; rfl) (fun K0 hK0 => ?_) AllReadyH.nil
                have hcB := HCB.out
                have hfB := HFB.out
                go_simp
                refine hK0.out _ _ HSC.out (fun hHeld => ?_)
                clear hK0 K0 hcB hfB
                refine wpAnyH_done (by kernel_rfl) ?_ _
                go_wp2_with fail
                go_meet
                rfl
            case rest =>
              obtain rfl := hcut
              have hRTl := HRT8.out
              obtain ⟨w8, hw8⟩ : ∃ w8, w7.setCell ⟨x, 1, none⟩ (.slice A7 m7 c7) = w8 := ⟨_, rfl⟩
              rw [hw8] at HBX8 HRT8 HBW8 HSD8 hRTl ⊢
              obtain ⟨g0, g1, g2, g3, _⟩ := box_rt HBX8.out
              have HP2 := Lib.hid (rparts_any hRTl p.id)
              have hmem2 : ∀ q ∈ partsD (L ++ [p]) p.id, q.ok = true := fun q hq => hRTl.ok q (partsN_mem hq)
              have hll2 : (partsD (L ++ [p]) p.id).length ≤ 12800 := by
                have h1 := partsN_le (L ++ [p]) p.id 64
                have h2 := hRTl.few
                unfold partsD
                omega
              have HPD := Lib.hid (fun l2 (h : partsD (L ++ [p]) p.id = l2) => putD_good (HE0.out ()) (HRO.out ()) h)
              obtain ⟨l2, hl2⟩ : ∃ l2, partsD (L ++ [p]) p.id = l2 := ⟨_, rfl⟩
              have hpd := HPD.out l2 hl2
              rw [hl2] at HP2 hmem2 hll2
              clear hl2 HPD HE0 HRO HED HRM HCH HWS HLE hw8 hRTl HSA HSB HSC HCB HFB HRUN hvx hxl6 hl7 hS0
              have HMEM2 := Lib.hid hmem2
              obtain ⟨n9, hn9⟩ : ∃ n9, l2.length = n9 := ⟨_, rfl⟩
              rw [hn9] at hll2 hpd
              have HN9 := Lib.hid hn9
              have HPD := Lib.hid (fun (_ : Unit) => hpd)
              clear hmem2 hn9 hpd
              go_wp2_with fail
              refine HP2.out.mono ?_
              rintro e w9 ⟨v9, rfl, hPA⟩
              obtain ⟨A9, c9, rfl, hPS9, _⟩ := hPA.reads
              rw [HN9.out]
              have HPS9 := Lib.hid hPS9
              have HB9 := Lib.hid hPA.below
              have HBX9 := Lib.hid ((hPA.below.block _ (Array.getElem?_eq_some_iff.1 HBX8.out).1).trans HBX8.out)
              have HRT9 := Lib.hid (HRT8.out.keep hPA.below)
              have HBW9 := Lib.hid (HBW8.out.trans (hPA.below.mono (Nat.le_trans hbw HBW8.out.size)))
              have HSD9 := Lib.hid (HSD8.out.trans (StaysD.below hPA.below))
              clear hPA hPS9 g0 g1 g2 g3
              obtain ⟨g0, g1, g2, g3, _⟩ := box_rt HBX9.out
              by_cases hct : (n9 : Int) < p.ct
              · have HPO : Hid (RPost w base x (putD fl L p) (.returned (.tuple #[.slice none 0 0, .bool false, .int .i64 0])) w9) := Lib.hid (by
                  rw [HPD.out (), if_pos hct]
                  exact ⟨_, rfl, HRT9.out, HBW9.out, HSD9.out, World.ownsRow_nil _ _ _ _⟩)
                clear HPD
                go_wp2
                refine bodyPost_ret (by simp [results, Try.results10, go_sem]; rfl) rfl ?_
                exact HPO.out
              · have HSZ9 := Lib.hid HBW9.out.size
                have hlt9 : w.heap.size < w9.heap.size := (Array.getElem?_eq_some_iff.1 HBX9.out).1
                have HJ := Lib.hid (rjoin_any l2 n9 HN9.out A9 c9 w9 HPS9.out (pok_of HMEM2.out) (by unfold maxLen; omega))
                have hpd := HPD.out ()
                rw [if_neg hct] at hpd
                clear HPD
                obtain ⟨J, hJ⟩ : ∃ J, joinS l2 = J := ⟨_, rfl⟩
                rw [hJ] at HJ hpd
                clear hJ
                obtain ⟨jb, jE⟩ := J
                unfold BytPost at HJ
                simp only at HJ hpd
                have HPF := Lib.hid (show ∀ v w', RT w' base x (p.id + 1) (raiseD (p.id + 1) (L ++ [p])) → Below base w w' → StaysD w w' → w'.ownsRow base 5 1 v jb.length (B8 jb) → RPost w base x (putD fl L p) (.returned (.tuple #[v, .bool true, .int .i64 jE])) w' from fun v w' a b c d => by
                  rw [hpd]
                  exact ⟨v, rfl, a, b, c, d⟩)
                clear hpd
                go_wp2_with fail
                refine HJ.out.mono ?_
                rintro e w10 ⟨v10, rfl, hown10, hb10⟩
                have HO10 := Lib.hid (own_mono hown10 (Nat.le_trans hbw HSZ9.out))
                obtain ⟨A10, c10, rfl, _⟩ := own_slice hown10
                have HRT10 := Lib.hid (HRT9.out.keep hb10)
                have HBW10 := Lib.hid (HBW9.out.trans (hb10.mono (Nat.le_trans hbw HSZ9.out)))
                have HSD10 := Lib.hid (HSD9.out.trans (StaysD.below hb10))
                obtain ⟨h0, _, _, _, _⟩ := box_rt ((hb10.block _ (Array.getElem?_eq_some_iff.1 HBX9.out).1).trans HBX9.out)
                have hlt10 : w.heap.size < w10.heap.size := Nat.lt_of_lt_of_le hlt9 hb10.size
                have HRA := Lib.hid (rraise_any HRT10.out (Nat.le_trans hbw HBW10.out.size) (p.id + 1))
                have hwr : IntKind.u64.wrap (p.id + 1) = p.id + 1 := by rw [IntKind.wrap_u64]; omega
                clear hown10 hb10 g0 g1 g2 g3
                go_wp2_with fail
                refine HRA.out.mono ?_
                rintro e w11 ⟨rfl, ⟨v11, hv11, _⟩, hb11, ho11⟩
                have HPO : Hid (RPost w base x (putD fl L p) (.returned (.tuple #[.slice A10 jb.length c10, .bool true, .int .i64 jE])) w11) := Lib.hid (by
                  obtain ⟨v, hv, _⟩ := HRT10.out.open
                  exact HPF.out _ _ hv11.rt (HBW10.out.trans hb11) (HSD10.out.trans (ho11.stays hv.row)) (own_only HO10.out ho11 hv.row))
                clear hv11 hb11 ho11
                go_wp2
                refine bodyPost_ret (by simp [results, Try.results10, go_sem]; rfl) rfl ?_
                exact HPO.out
end Go.Proofs.Ytikijkhblfgbpaa
