/-
  Proved here: AnsiPieces.
-/
import Derived.Test.YtfacnemgjdmlmaaEo
set_option linter.unusedSimpArgs false
set_option linter.unusedVariables false
namespace Go.Proofs.Ytfacnemgjdmlmaa
open Go.RowKit
/-- Two new parsers. -/
theorem new_two {w : World} : Qs (w.heap.size + 2) w.heap.size (.slice none 0 0) (.slice none 0 0) (beginP 0) ((w.alloc (.cells (qC (beginP 0) (.slice none 0 0) (.slice none 0 0)) 42)).alloc (.cells (qC (beginP 0) (.slice none 0 0) (.slice none 0 0)) 42)) ∧ Qs (w.heap.size + 2) (w.heap.size + 1) (.slice none 0 0) (.slice none 0 0) (beginP 0) ((w.alloc (.cells (qC (beginP 0) (.slice none 0 0) (.slice none 0 0)) 42)).alloc (.cells (qC (beginP 0) (.slice none 0 0) (.slice none 0 0)) 42)) ∧
    Below w.heap.size w ((w.alloc (.cells (qC (beginP 0) (.slice none 0 0) (.slice none 0 0)) 42)).alloc (.cells (qC (beginP 0) (.slice none 0 0) (.slice none 0 0)) 42)) :=
  ⟨⟨(Below.heap_alloc _ _ w.heap.size (by simp)).trans (heap_alloc_new _ _), World.ownsRow_nil _ _ _ _, World.ownsRow_nil _ _ _ _, by omega, by simp⟩,
   ⟨heap_alloc2_new _ _ _, World.ownsRow_nil _ _ _ _, World.ownsRow_nil _ _ _ _, by omega, by simp⟩, ((Below.refl _ _).alloc (Nat.le_refl _) _).alloc (by simp) _⟩
theorem rel_idle {s : PP} {L : List Int} (h : Rel s L) : (s.pl == 0) = decide (L = []) := by
  rcases h with ⟨rfl, rfl⟩ | ⟨M, rfl, h⟩ | ⟨M, rfl, h⟩ | ⟨M, rfl, h⟩
  · rfl
  · rw [h.1]; rfl
  · rw [h.1]; rfl
  · rw [h.1]; rfl
/-- Numbers of an event are at most 16. -/
theorem ok_esc {s : PP} {c : Int} {e : Ev} (h : (escP s c).2 = some e) : e.params.length ≤ 16 := by
  unfold escP at h
  split at h
  · cases h
  split at h
  · cases h
  split at h
  · cases h
  dsimp only at h
  split at h
  · cases h
  injection h with h
  subst h
  simp
theorem ok_csi {s : PP} (hs : s.ps.length ≤ 16) {c : Int} {e : Ev} (h : (csiP s c).2 = some e) : e.params.length ≤ 16 := by
  unfold csiP at h
  split at h
  · dsimp only at h
    split at h
    · cases h
    injection h with h
    subst h
    exact hs
  split at h
  · cases h
  split at h
  · cases h
  split at h
  · cases h
  split at h
  · cases h
  cases h
theorem ok_plain {s : PP} (hs : s.ps.length ≤ 16) {c : Int} {e : Ev} (h : (plainP s c).2 = some e) : e.params.length ≤ 16 := by
  unfold plainP at h
  split at h
  · cases h
  split at h
  · injection h with h
    subst h
    simp
  split at h
  · injection h with h
    subst h
    simp
  split at h
  · exact ok_esc h
  · exact ok_csi hs h
theorem ok_feed {s : PP} (hs : s.ps.length ≤ 16) {r : Int} {e : Ev} (h : (feedP s r).2 = some e) : e.params.length ≤ 16 := by
  unfold feedP at h
  split at h
  · cases h
  split at h
  · cases h
  unfold takeP at h
  split at h
  · unfold oscP at h
    split at h
    · dsimp only at h
      split at h
      · cases h
      injection h with h
      subst h
      simp
    split at h
    · cases h
    split at h
    · cases h
    split at h
    · exact ok_plain (by simp [beginP]) h
    split at h
    · cases h
    cases h
  · exact ok_plain hs h
theorem ok_feeds : ∀ (l : List Int) {s : PP}, PGood s → ∀ e ∈ (feedsP s l).2, e.params.length ≤ 16
  | [], s, _, e, he => by simp [feedsP] at he
  | r :: l, s, hG, e, he => by
    rw [feedsP] at he
    rcases List.mem_append.1 he with x | x
    · exact ok_feed hG.len (Option.mem_toList.1 x)
    · exact ok_feeds l (good_feed hG r) e x
theorem ok_get {M : List Ev} (h : ∀ e ∈ M, e.params.length ≤ 16) (i : Nat) : (M.getD i evZ).params.length ≤ 100000 := by
  by_cases hi : i < M.length
  · have := h (M[i]) (List.getElem_mem hi)
    simp only [List.getD, List.getElem?_eq_getElem hi, Option.getD_some]
    omega
  · simp [List.getD, List.getElem?_eq_none (Nat.le_of_not_lt hi), evZ]
/-- A row of events of this call's own. -/
structure EvO (B : Nat) (W : World) (v : Value) (es : List (Ev × Value)) : Prop where
  own : W.ownsRow B 40 7 v es.length (evsL es)
  par : ∀ p ∈ es, W.ownsRow B 3 1 p.2 p.1.params.length (NV .i64 p.1.params)
theorem EvO.keep {B : Nat} {W W' : World} {v : Value} {es : List (Ev × Value)} (h : EvO B W v es) (hk : KeepB B W W') : EvO B W' v es :=
  ⟨own_keep h.own (fun k e => hk.2 k (ownBlock_le h.own k e) (own_lt h.own e)), fun p hp => own_keep (h.par p hp) (fun k e => hk.2 k (ownBlock_le (h.par p hp) k e) (own_lt (h.par p hp) e))⟩
theorem EvO.evq {B : Nat} {W : World} {v : Value} {es : List (Ev × Value)} (h : EvO B W v es) :
    ∃ A c, v = .slice A es.length c ∧ es.length ≤ c ∧ c ≤ maxLen ∧ (A = none → c = 0) ∧ EvQ B W A (es.map Prod.fst) ∧ (∀ b o q, A = some ⟨b, o, q⟩ → o = 0) := by
  obtain ⟨A, c, rfl, h1, h2, h3⟩ := own_slice h.own
  refine ⟨A, c, rfl, h1, h2, h3, fun hp => ?_, fun b o q e => ?_⟩
  · rw [List.length_map] at hp
    obtain ⟨b, c', hv, _, hlt⟩ := h.own.form hp
    injection hv with hA _ _
    subst hA
    refine ⟨b, 0, rfl, ownBlock_le h.own b rfl, hlt, fun i hi => ?_⟩
    rw [List.length_map] at hi
    have hc : ∀ k, k < 7 → W.cell? ⟨b, i * 7 + k, none⟩ = (evL (es[i]).1 (es[i]).2)[k]? := fun k hk => by
      rw [h.own.cellAt (i * 7 + k) (by omega), evsL_get es i k hi hk]
    have hg : (es.map Prod.fst).getD i evZ = (es[i]).1 := by simp [List.getD, hi]
    have ho := h.par (es[i]) (List.getElem_mem hi)
    obtain ⟨A', c'', hpv, q1, _, _⟩ := own_slice ho
    rw [hg, Nat.zero_add]
    have hle := ownBlock_le ho
    rw [hpv] at hc ho hle
    refine ⟨A', c'', hc 0 (by omega), hc 1 (by omega), hc 2 (by omega), hc 3 (by omega), hc 4 (by omega), hc 5 (by omega), hc 6 (by omega), q1, fun hpp => ?_, fun bl o q e => ?_⟩
    · obtain ⟨g', rfl, _, hlt', hcc⟩ := own_cells ho rfl hpp
      exact ⟨g', 0, rfl, hlt', fun j hj => by rw [Nat.zero_add]; exact hcc j hj⟩
    · subst e
      exact hle bl rfl
  · subst e
    rcases h.own.2 with ⟨e, _⟩ | ⟨g', cap, cur, e, _⟩
    · cases e
    · injection e with e1 _ _
      injection e1 with e1
      injection e1
theorem FI.evo {B g : Nat} {vp vt vp' vt' v : Value} {w W : World} {s' : PP} {es : List (Ev × Value)} (h : FI B g vp vt w vp' vt' s' v es W) (hB : B ≤ w.heap.size) : EvO B W v es :=
  ⟨own_mono h.own hB, fun p hp => (h.par p hp).1⟩
theorem evsL_cells {B : Nat} {W : World} {v : Value} {es : List (Ev × Value)} (h : EvO B W v es) : ∀ u ∈ evsL es, u.oneCell' = true := by
  intro u hu
  obtain ⟨p, hp, hu⟩ := List.mem_flatMap.1 hu
  exact evL_cells (h.par p hp) u hu
/-- A row of events is laid behind another. -/
theorem EvO.add {B B0 : Nat} {w0 W : World} {v1 v2 : Value} {xs : List Value} {n : Nat} {es : List (Ev × Value)} (h1 : W.ownsRow B0 40 7 v1 n xs) (h2 : EvO B W v2 es) (hB : B0 ≤ W.heap.size) (hn : n + es.length ≤ 100000) (hb : Below B0 w0 W) :
    ∃ A c W', (Builtin.append_ #[29, 29] 29 #[v1, v2]).run Try.prog W = .ok (.slice A (n + es.length) c) W' ∧ W'.ownsRow B0 40 7 (.slice A (n + es.length) c) (n + es.length) (xs ++ evsL es) ∧ Below B0 w0 W' := by
  obtain ⟨A2, c2, rfl, _, _, hz⟩ := own_slice h2.own
  obtain ⟨v', W', hr, ho, hg, hsub⟩ := app_evs (W := W) (base := B0) (v := v1) (n := n) (xs := xs) (news := evsL es) (A := A2) (m := es.length) c2 (evsL_len es) (fun hp => by
    obtain ⟨b, c', hv, _, hlt⟩ := h2.own.form hp
    injection hv with hA _ _
    subst hA
    refine ⟨_, rfl, fun j u hu => ?_⟩
    have hj : j < es.length * 7 := by
      have := (List.getElem?_eq_some_iff.1 hu).1
      rw [evsL_len] at this
      exact this
    rw [show (⟨b, 0, none⟩ : Addr).add j = ⟨b, j, none⟩ by rw [Go.WideShapes.add_plain]; simp]
    rw [h2.own.cellAt j hj]
    exact hu) hz (evsL_cells h2) h1 hn hB
  obtain ⟨A, c, rfl, _⟩ := own_slice ho
  exact ⟨A, c, W', hr, ho, hb.grown hg hB (ownBlock_le h1)⟩
theorem wpList_app_if {P : Program} {ops : Array Oper} {rest : List Oper} {o : Oper} {a : Act} {W w' : World} {Q : Exit → Act → World → Prop} {v' : Value} (hgd : Region.wanted o (yielded ops a.tmps) = true) (s x : Operand) (t : TypeId)
    (ho : o.op = .call { callee := .builtin .append, args := #[s, x], argTypes := #[t, t] }) (v sx : Value) (hs : a.eval s = v) (hx : a.eval x = sx) (hrun : (Builtin.append_ #[t, t] o.type #[v, sx]).run P W = .ok v' w') (h : wpList P ops Q rest (a.put o.dst v') w') :
    wpList P ops Q (o :: rest) a W := by
  refine wpList_step fun K hK => ?_
  rw [if_pos hgd]
  unfold Oper.wp execOp
  simp only [ho, resolve, invoke, builtin, Sem.run_bind, Sem.run_pure, Result.andThen_ok, List.map_toArray, List.map_cons, List.map_nil, hs, hx, hrun]
  exact hK _ _ h
/-- A slice's beginning, and its rest. -/
theorem slice_to32 {A : Option Addr} {n cap k : Nat} (hk : k ≤ n) (hc : n ≤ cap) (hz : A = none → cap = 0) (W : World) :
    (Instr.slice 22 (.slice A n cap) none (some (.int .i64 (k : Int))) none).run Try.prog W = .ok (.slice A k cap) W := by
  have h1 : (k : Int) ≤ (cap : Int) := by omega
  cases A with
  | none =>
    obtain rfl := hz rfl
    obtain rfl : k = 0 := by omega
    obtain rfl : n = 0 := by omega
    simp [Instr.slice, run_underlying Try.underlying22, Instr.sliceBounds, run_sliceBound, h1]
  | some ad =>
    simp [Instr.slice, run_underlying Try.underlying22, Instr.sliceBounds, run_sliceBound, h1]
    intro _
    rfl
theorem slice_from32 {A : Option Addr} {n cap k : Nat} (hk : k ≤ n) (hc : n ≤ cap) (hz : A = none → cap = 0) :
    ∃ A2 : Option Addr, (∀ W bs, RI .i32 W A bs → bs.length = n → RI .i32 W A2 (bs.drop k)) ∧ (k < n → ∀ b o q, A2 = some ⟨b, o, q⟩ → ∃ o' q', A = some ⟨b, o', q'⟩) ∧ ∀ W : World, (Instr.slice 22 (.slice A n cap) (some (.int .i64 (k : Int))) none none).run Try.prog W = .ok (.slice A2 (n - k) (cap - k)) W := by
  have h1 : (k : Int) ≤ (n : Int) := by omega
  cases A with
  | none =>
    obtain rfl := hz rfl
    obtain rfl : k = 0 := by omega
    obtain rfl : n = 0 := by omega
    refine ⟨none, fun W bs h hl => ?_, fun h => absurd h (by omega), fun W => ?_⟩
    · obtain rfl : bs = [] := List.eq_nil_of_length_eq_zero hl
      exact RI.nothing _ _ _
    · simp [Instr.slice, run_underlying Try.underlying22, Instr.sliceBounds, run_sliceBound]
  | some ad =>
    refine ⟨some (if cap = k then ad else ad.add k), fun W bs h hl hp => ?_, fun hlt b o q e => ?_, fun W => ?_⟩
    · obtain ⟨b, off, e, hb, hcl⟩ := h (by simp at hp; omega)
      injection e with e
      subst e
      have ha : (⟨b, off, none⟩ : Addr).add k = ⟨b, off + k, none⟩ := by unfold Addr.add; split <;> simp_all
      rw [if_neg (by simp at hp; omega), ha]
      refine ⟨b, off + k, rfl, hb, fun i hi => ?_⟩
      rw [Nat.add_assoc, hcl (k + i) (by simp at hi; omega)]
      simp [List.getD]
    · rw [if_neg (by omega)] at e
      injection e with e
      have h9 : (ad.add k).block = ad.block := by unfold Addr.add; split <;> rfl
      rw [e] at h9
      refine ⟨ad.off, ad.spot, ?_⟩
      cases ad
      dsimp only at h9
      subst h9
      rfl
    · simp [Instr.slice, run_underlying Try.underlying22, Instr.sliceBounds, run_sliceBound, h1]
      split <;> rfl
set_option maxRecDepth 100000 in
set_option maxHeartbeats 8000000 in
theorem pieces_any {w : World} {A : Option Addr} {n cp : Nat} {l : List Int} (hR : RI .i32 w A l) (hl : l.length = n) (hcp : n ≤ cp) (hcm : cp ≤ maxLen) (hz : A = none → cp = 0) (a0 : Int) (ha : -9223372036854775808 ≤ a0 ∧ a0 < 9223372036854775808) :
    Calls Try.prog 5 #[.slice A n cp, .int .i64 a0] w fun e w' => e = .returned (.bool true) ∧ Below w.heap.size w w' := by
  have HAL := Lib.hid (fun U => alive_any U)
  unfold maxLen at hcm
  have HBAD : (1500 < n ∨ a0 < 0 ∨ (n : Int) < a0) → Calls Try.prog 5 #[.slice A n cp, .int .i64 a0] w fun e w' => e = .returned (.bool true) ∧ Below w.heap.size w w' := by
    intro hbad
    have d : (decide (1500 < (n : Int)) || (decide (a0 < 0) || decide ((n : Int) < a0))) = true := by
      rcases hbad with h | h | h <;> simp <;> omega
    clear hR hl hz
    by_cases h1 : 1500 < n
    · have e1 : decide (1500 < (n : Int)) = true := by simp; omega
      clear d hbad
      go_enter Try.func5, Try.ntmps5
      go_wp2_with fail
      refine (HAL.out _).mono ?_
      rintro e wx ⟨rfl, hx⟩
      have HX := Lib.hid hx
      clear hx
      go_wp2
      go_ret
      exact ⟨rfl, HX.out⟩
    have e1 : decide (1500 < (n : Int)) = false := by simp; omega
    by_cases h2 : a0 < 0
    · have e2 : decide (a0 < 0) = true := by simpa using h2
      clear d hbad
      go_enter Try.func5, Try.ntmps5
      go_wp2_with fail
      refine (HAL.out _).mono ?_
      rintro e wx ⟨rfl, hx⟩
      have HX := Lib.hid hx
      clear hx
      go_wp2
      go_ret
      exact ⟨rfl, HX.out⟩
    have e2 : decide (a0 < 0) = false := by simpa using h2
    have e3 : decide ((n : Int) < a0) = true := by
      rcases hbad with h | h | h
      · exact absurd h h1
      · exact absurd h h2
      · simpa using h
    clear d hbad
    go_enter Try.func5, Try.ntmps5
    go_wp2_with fail
    refine (HAL.out _).mono ?_
    rintro e wx ⟨rfl, hx⟩
    have HX := Lib.hid hx
    clear hx
    go_wp2
    go_ret
    exact ⟨rfl, HX.out⟩
  by_cases h1 : 1500 < n
  · exact HBAD (.inl h1)
  by_cases h2 : a0 < 0
  · exact HBAD (.inr (.inl h2))
  by_cases h3 : (n : Int) < a0
  · exact HBAD (.inr (.inr h3))
  clear HBAD
  obtain ⟨k, rfl⟩ : ∃ k : Nat, a0 = k := ⟨a0.toNat, by omega⟩
  have e1 : decide (1500 < (n : Int)) = false := decide_eq_false (by omega)
  have e2 : decide ((k : Int) < 0) = false := decide_eq_false (by omega)
  have e3 : decide ((n : Int) < (k : Int)) = false := decide_eq_false (by omega)
  have hkn : k ≤ n := by omega
  have HR := Lib.hid hR
  have HLL := Lib.hid (fun (_ : Unit) => hl)
  clear hR hl
  have HB32 := Lib.hid (fun (h0 : 0 < n) (b o : Nat) (q : Option Nat) (e : A = some ⟨b, o, q⟩) => show b < w.heap.size from by
    obtain ⟨b', off, e', hlt, _⟩ := HR.out (by rw [HLL.out ()]; exact h0)
    rw [e] at e'
    injection e' with e'
    injection e' with e1 _ _
    rw [e1]; exact hlt)
  have hto := fun W => slice_to32 (A := A) (n := n) (cap := cp) (k := k) hkn hcp hz W
  obtain ⟨A2, hA2, hA2b, hfrom⟩ := slice_from32 (A := A) (n := n) (cap := cp) (k := k) hkn hcp hz
  have HA2 := Lib.hid hA2
  have HA2B := Lib.hid hA2b
  obtain ⟨m, hm⟩ : ∃ m, n - k = m := ⟨_, rfl⟩
  obtain ⟨cq, hcq⟩ : ∃ m, cp - k = m := ⟨_, rfl⟩
  rw [hm, hcq] at hfrom
  have HMK := Lib.hid (show m = n - k ∧ cq = cp - k from ⟨hm.symm, hcq.symm⟩)
  have HNM := Lib.hid (show k ≤ n ∧ n ≤ cp ∧ n ≤ 1500 from ⟨hkn, hcp, by omega⟩)
  clear hz hm hcq hA2 hA2b
  go_enter Try.func5, Try.ntmps5
  go_wp2_with fail
  refine (new_calls w).mono ?_
  rintro e wx ⟨rfl, rfl⟩
  go_wp2_with fail
  refine (new_calls _).mono ?_
  rintro e wx ⟨rfl, rfl⟩
  have hnew := new_two (w := w)
  rw [show (w.alloc (.cells (qC (beginP 0) (.slice none 0 0) (.slice none 0 0)) 42)).heap.size = w.heap.size + 1 by simp]
  generalize ((w.alloc (.cells (qC (beginP 0) (.slice none 0 0) (.slice none 0 0)) 42)).alloc (.cells (qC (beginP 0) (.slice none 0 0) (.slice none 0 0)) 42)) = w2 at hnew ⊢
  obtain ⟨hp, hq, hb⟩ := hnew
  have HP2 := Lib.hid hp
  have HQ2 := Lib.hid hq
  have HB2 := Lib.hid hb
  have HF := Lib.hid (p_feed hp (good_begin 0 (by omega)) (A := A) (n := k) (cp := cp) (l := l.take k) ((RI.below HR.out hb).take k) (by rw [List.length_take, HLL.out ()]; omega) (by omega) (by omega) (fun h0 b o q e => ⟨by have := HB32.out (by omega) b o q e; omega, by simp [Value.ownBlock], by simp [Value.ownBlock]⟩))
  clear hp hq hb
  go_wp2_with fail
  refine HF.out.mono ?_
  rintro e w3 ⟨vp, vt, v, es, rfl, hF, hM⟩
  have hb3 := hF.belowW (w0 := w) (Nat.le_refl _) ⟨_, HP2.out⟩ HB2.out
  have HG := Lib.hid (p_feed hF.q (good_feeds _ (good_begin 0 (by omega))) (A := A2) (n := m) (cp := cq) (l := l.drop k) (HA2.out w3 l (RI.below HR.out hb3) (HLL.out ())) (by rw [List.length_drop, HLL.out (), HMK.out.1]) (by have := HMK.out; omega) (by have := HMK.out; omega) (fun h0 b o q e => by
    obtain ⟨o', q', e'⟩ := HA2B.out (by have := HMK.out; omega) b o q e
    have hlt := HB32.out (by have := HMK.out; omega) b o' q' e'
    refine ⟨by omega, fun e => ?_, fun e => ?_⟩
    · have := ownBlock_le hF.q.op b e.symm; omega
    · have := ownBlock_le hF.q.ot b e.symm; omega))
  have HFF := Lib.hid hF
  have HM := Lib.hid (fun (_ : Unit) => hM)
  have HB3 := Lib.hid hb3
  obtain ⟨va, hva⟩ : ∃ x, v = x := ⟨_, rfl⟩
  clear hF hM hb3 HF
  subst hva
  go_wp2_with fail
  refine HG.out.mono ?_
  rintro e w4 ⟨vp2, vt2, v2, es2, rfl, hG, hM2⟩
  have hgw : w.heap.size < w2.heap.size := HP2.out.lt
  have hF4 := HFF.out.step hgw hG.q hG.f hG.sp hG.st
  have hq4 := HQ2.out.other (vp2 := vp2) (vt2 := vt2) (s2 := beginP 0) hF4.f (by omega) (by omega)
  have hb4 := hF4.belowW (w0 := w) (Nat.le_refl _) ⟨_, HP2.out⟩ HB2.out
  have HH := Lib.hid (p_feed hq4 (good_begin 0 (by omega)) (A := A) (n := n) (cp := cp) (l := l) (RI.below HR.out hb4) (HLL.out ()) (by have := HNM.out; omega) (by have := HNM.out; omega) (fun h0 b o q e => ⟨by have := HB32.out (by omega) b o q e; omega, by simp [Value.ownBlock], by simp [Value.ownBlock]⟩))
  have HEA := Lib.hid (hF4.evo (B := w.heap.size + 2) (by have := HP2.out.big; omega))
  have HEB := Lib.hid (hG.evo (B := w.heap.size + 2) (Nat.le_trans HP2.out.big HFF.out.f.size))
  have HGQ := Lib.hid hG.q
  have HQ4 := Lib.hid hq4
  have HB4 := Lib.hid hb4
  have HM2 := Lib.hid (fun (_ : Unit) => hM2)
  clear hG hM2 hF4 hq4 hb4 hgw HG HFF HB3
  go_wp2_with fail
  refine HH.out.mono ?_
  rintro e w5 ⟨vp3, vt3, v3, es3, rfl, hH, hM3⟩
  have hkb := hH.f.keepB (B := w.heap.size + 2) (by omega)
  have hb5 := hH.belowW (w0 := w) (by omega) ⟨_, HQ4.out⟩ HB4.out
  have hsz4 : w.heap.size + 2 ≤ w4.heap.size := HGQ.out.big
  have HEA5 := Lib.hid (HEA.out.keep hkb)
  have HEB5 := Lib.hid (HEB.out.keep hkb)
  have HEC5 := Lib.hid (hH.evo (B := w.heap.size + 2) hsz4)
  have HP5 := Lib.hid (HGQ.out.other (vp2 := vp2) (vt2 := vt2) (s2 := beginP 0) hH.f (by omega) (by omega))
  have HQ5 := Lib.hid hH.q
  have HB5 := Lib.hid hb5
  have HLS := Lib.hid (show es3.map Prod.fst = (es ++ es2).map Prod.fst ∧ ((feedsP (feedsP (beginP 0) (l.take k)).1 (l.drop k)).1.pl == 0) = ((feedsP (beginP 0) l).1.pl == 0) ∧ es.length ≤ 1500 ∧ es2.length ≤ 1500 from by
    obtain ⟨r1, r2⟩ := rel_feeds (l.take k) rel_zero (good_begin 0 (by omega))
    obtain ⟨r3, r4⟩ := rel_feeds (l.drop k) r1 (good_feeds _ (good_begin 0 (by omega)))
    obtain ⟨r5, r6⟩ := rel_feeds l rel_zero (good_begin 0 (by omega))
    have ha := feeds_app (l.take k) (l.drop k) []
    rw [List.take_append_drop] at ha
    refine ⟨?_, ?_, ?_, ?_⟩
    · rw [List.map_append, HM.out (), HM2.out (), hM3, r2, r4, r6, ha]
    · rw [rel_idle r3, rel_idle r5, ha]
    · have h1 := congrArg List.length (HM.out ())
      have h2 := feedsP_len (l.take k) (beginP 0)
      rw [List.length_map] at h1
      rw [List.length_take] at h2
      have := HNM.out
      omega
    · have h1 := congrArg List.length (HM2.out ())
      have h2 := feedsP_len (l.drop k) (feedsP (beginP 0) (l.take k)).1
      rw [List.length_map] at h1
      rw [List.length_drop, HLL.out ()] at h2
      have := HNM.out
      omega)
  have HNC := Lib.hid (fun i => (show ((es3.map Prod.fst).getD i evZ).params.length ≤ 100000 from by rw [hM3]; exact ok_get (ok_feeds l (good_begin 0 (by omega))) i))
  clear hH hM3 hkb hb5 hsz4 HH HEA HEB HGQ HQ4 HB4 HM HM2 HP2 HQ2 HB2 HR HLL HB32 HA2 HA2B hto hfrom HMK
  obtain ⟨sp, hsp⟩ : ∃ x, (feedsP (feedsP (beginP 0) (l.take k)).1 (l.drop k)).1 = x := ⟨_, rfl⟩
  obtain ⟨sq, hsq⟩ : ∃ x, (feedsP (beginP 0) l).1 = x := ⟨_, rfl⟩
  rw [hsp] at HP5 HLS
  rw [hsq] at HQ5 HLS
  clear hsp hsq
  go_wp2_with fail
  refine (HAL.out _).mono ?_
  rintro e w6 ⟨rfl, hx6⟩
  have hk6 := KeepB.below (B := w.heap.size + 2) hx6
  have HEA6 := Lib.hid (HEA5.out.keep hk6)
  have HEB6 := Lib.hid (HEB5.out.keep hk6)
  have HEC6 := Lib.hid (HEC5.out.keep hk6)
  have HP6 := Lib.hid (HP5.out.below hx6)
  have HQ6 := Lib.hid (HQ5.out.below hx6)
  have HB6 := Lib.hid (HB5.out.trans (hx6.mono HB5.out.size))
  clear hx6 hk6 HEA5 HEB5 HEC5 HP5 HQ5 HB5 HAL
  have hlit := World.ownsRow_lit (base := w6.heap.size) (e := 40) (size := 7) w6 #[] 0 (Nat.le_refl _) (by omega) (by simp)
  have hbl := (Below.refl w6.heap.size w6).alloc (Nat.le_refl _) (.cells #[] 40)
  obtain ⟨A7, c7, w7, hr7, ho7, hb7⟩ := EvO.add hlit (HEA6.out.keep (KeepB.below hbl)) hbl.size (by have := HLS.out; omega) hbl
  obtain ⟨A8, c8, w8, hr8, ho8, hb8⟩ := EvO.add ho7 (HEB6.out.keep (KeepB.below hb7)) hb7.size (by have := HLS.out; omega) hb7
  have hev := (⟨own_mono (by rw [show 0 + es.length + es2.length = (es ++ es2).length by simp] at ho8; rw [show (#[] : Array Value).toList ++ evsL es ++ evsL es2 = evsL (es ++ es2) by simp [evsL]] at ho8; exact ho8) (Nat.le_trans HP6.out.big (Nat.le_refl _)), fun p hp => by
    rcases List.mem_append.1 hp with x | x
    · exact own_below (HEA6.out.par p x) hb8
    · exact own_below (HEB6.out.par p x) hb8⟩ : EvO (w.heap.size + 2) w8 (.slice A8 (es ++ es2).length c8) (es ++ es2))
  obtain ⟨A9, c9, hv9, _, _, _, hq9, _⟩ := hev.evq
  injection hv9 with q1 _ q2
  subst q1 q2
  obtain ⟨A10, c10, rfl, _, _, _, hq10, _⟩ := (HEC6.out.keep (KeepB.below hb8)).evq
  rw [← HLS.out.1] at hq9
  have hlen : es3.length = (es ++ es2).length := by simpa using congrArg List.length HLS.out.1
  have HALL := Lib.hid (all_true (n := es3.length) (ca := c8) (cb := c10) hq9.evr hq10.evr (by simp) (by rw [hlen]; simp; have := HLS.out; omega) (fun i _ => HNC.out i))
  have HR7 := Lib.hid hr7
  have HR8 := Lib.hid hr8
  have HP8 := Lib.hid (HP6.out.below hb8)
  have HQ8 := Lib.hid (HQ6.out.below hb8)
  have HB8 := Lib.hid (HB6.out.trans (hb8.mono HB6.out.size))
  have HID := Lib.hid HLS.out.2.1
  have hl0 : 0 + es.length + es2.length = es3.length := by rw [hlen]; simp
  rw [hl0] at HR8
  simp only [Nat.zero_add] at HR7 HR8
  clear hlit hbl hr7 ho7 hb7 hr8 ho8 hb8 hev hq9 hq10 hlen HEA6 HEB6 HEC6 HP6 HQ6 HB6 HLS HNC hl0
  go_wp2_with (first | (at_builtin; refine wpList_app_if (by rfl) (.tmp 65) (.tmp 66) _ rfl _ _ rfl rfl HR7.out ?_) | (at_builtin; refine wpList_app_if (by rfl) (.tmp 67) (.tmp 68) _ rfl _ _ rfl rfl HR8.out ?_))
  refine HALL.out.mono ?_
  rintro e w9 ⟨rfl, hx⟩
  have HP9 := Lib.hid (HP8.out.below hx)
  have HQ9 := Lib.hid (HQ8.out.below hx)
  have HB9 := Lib.hid (HB8.out.trans (hx.mono HB8.out.size))
  clear hx HP8 HQ8 HB8 HR7 HR8 HALL
  go_wp2_with fail
  refine (p_idle HP9.out).mono ?_
  rintro e wx ⟨rfl, rfl⟩
  rw [HID.out]
  go_wp2_with fail
  refine (p_idle HQ9.out).mono ?_
  rintro e wx ⟨rfl, rfl⟩
  obtain ⟨bb, hbb⟩ : ∃ b, (sq.pl == 0) = b := ⟨_, rfl⟩
  rw [hbb]
  have e9 : (bb == bb) = true := by simp
  clear hbb HID
  go_wp2
  go_ret
  exact ⟨rfl, HB9.out⟩
end Go.Proofs.Ytfacnemgjdmlmaa
