/-
  Proved here: of ansi: what Feed tells, as rows of events from a place on; nil and zero parsers.
-/
import Derived.Test.YtfacnemgjdmlmaaEm
set_option linter.unusedSimpArgs false
set_option linter.unusedVariables false
namespace Go.Proofs.Ytfacnemgjdmlmaa
open Go.RowKit
/-- What is from B on is as it was. -/
def KeepB (B : Nat) (W W' : World) : Prop := W.heap.size ≤ W'.heap.size ∧ ∀ k, B ≤ k → k < W.heap.size → W'.heap[k]? = W.heap[k]?
theorem KeepB.below {B : Nat} {W W' : World} (h : Below W.heap.size W W') : KeepB B W W' := ⟨h.size, fun k _ hk => h.block k hk⟩
theorem KeepB.trans {B : Nat} {a b c : World} (h : KeepB B a b) (k : KeepB B b c) : KeepB B a c := ⟨Nat.le_trans h.1 k.1, fun i h1 h2 => (k.2 i h1 (Nat.lt_of_lt_of_le h2 h.1)).trans (h.2 i h1 h2)⟩
theorem Fr2.keepB {B g : Nat} {W W' : World} (h : Fr2 g (.slice none 0 0) (.slice none 0 0) W W') (hg : g < B) : KeepB B W W' :=
  ⟨h.size, fun k h1 h2 => h.block k h2 (by omega) (by simp [Value.ownBlock]) (by simp [Value.ownBlock])⟩
theorem RI.keepB {k : IntKind} {B : Nat} {W W' : World} {A : Option Addr} {L : List Int} (h : RI k W A L) (hA : ∀ bl o q, A = some ⟨bl, o, q⟩ → B ≤ bl) (hk : KeepB B W W') : RI k W' A L := fun hp => by
  obtain ⟨b, off, rfl, hl, hc⟩ := h hp
  exact ⟨b, off, rfl, Nat.lt_of_lt_of_le hl hk.1, fun i hi => (World.cell?_of_block (hk.2 b (hA _ _ _ rfl) hl)).trans (hc i hi)⟩
/-- An event's cells, its numbers' row from B on. -/
def EvB (B : Nat) (W : World) (b off : Nat) (e : Ev) : Prop := ∃ A c, W.cell? ⟨b, off, none⟩ = some (.int .i64 e.kind) ∧ W.cell? ⟨b, off + 1, none⟩ = some (.int .i32 e.point) ∧ W.cell? ⟨b, off + 2, none⟩ = some (.int .u8 e.priv) ∧ W.cell? ⟨b, off + 3, none⟩ = some (.int .u8 e.inter) ∧ W.cell? ⟨b, off + 4, none⟩ = some (.int .u8 e.fin) ∧
  W.cell? ⟨b, off + 5, none⟩ = some (.slice A e.params.length c) ∧ W.cell? ⟨b, off + 6, none⟩ = some (.string (strOfNums e.text)) ∧ e.params.length ≤ c ∧ RI .i64 W A e.params ∧ ∀ bl o q, A = some ⟨bl, o, q⟩ → B ≤ bl
/-- A row of events, from B on. -/
def EvQ (B : Nat) (W : World) (A : Option Addr) (es : List Ev) : Prop := 0 < es.length → ∃ b off, A = some ⟨b, off, none⟩ ∧ B ≤ b ∧ b < W.heap.size ∧ ∀ i, i < es.length → EvB B W b (off + i * 7) (es.getD i evZ)
theorem EvQ.evr {B : Nat} {W : World} {A : Option Addr} {es : List Ev} (h : EvQ B W A es) : EvR W A es := fun hp => by
  obtain ⟨b, off, e, _, hl, hc⟩ := h hp
  refine ⟨b, off, e, hl, fun i hi => ?_⟩
  obtain ⟨A', c, k0, k1, k2, k3, k4, k5, k6, hc', hr, _⟩ := hc i hi
  exact ⟨A', c, k0, k1, k2, k3, k4, k5, k6, hc', hr⟩
theorem EvQ.keep {B : Nat} {W W' : World} {A : Option Addr} {es : List Ev} (h : EvQ B W A es) (hk : KeepB B W W') : EvQ B W' A es := fun hp => by
  obtain ⟨b, off, e, hB, hl, hc⟩ := h hp
  refine ⟨b, off, e, hB, Nat.lt_of_lt_of_le hl hk.1, fun i hi => ?_⟩
  obtain ⟨A', c, k0, k1, k2, k3, k4, k5, k6, hc', hr, hA⟩ := hc i hi
  have hb : ∀ j, W'.cell? ⟨b, j, none⟩ = W.cell? ⟨b, j, none⟩ := fun j => World.cell?_of_block (hk.2 b hB hl)
  exact ⟨A', c, (hb _).trans k0, (hb _).trans k1, (hb _).trans k2, (hb _).trans k3, (hb _).trans k4, (hb _).trans k5, (hb _).trans k6, hc', hr.keepB hA hk, hA⟩
theorem EvQ.below {B : Nat} {W W' : World} {A : Option Addr} {es : List Ev} (h : EvQ B W A es) (hb : Below W.heap.size W W') : EvQ B W' A es := h.keep (KeepB.below hb)
/-- All but the first. -/
theorem EvQ.tail {B : Nat} {W : World} {b off : Nat} {e : Ev} {es : List Ev} (h : EvQ B W (some ⟨b, off, none⟩) (e :: es)) : EvQ B W (some ⟨b, off + 7, none⟩) es := fun hp => by
  obtain ⟨b', off', e', hB, hl, hc⟩ := h (by simp)
  injection e' with e'
  injection e' with e1 e2
  subst e1 e2
  refine ⟨b, off + 7, rfl, hB, hl, fun i hi => ?_⟩
  have := hc (i + 1) (by simp; omega)
  rw [show off + (i + 1) * 7 = off + 7 + i * 7 by omega] at this
  exact this
theorem evsL_len : ∀ es : List (Ev × Value), (evsL es).length = es.length * 7
  | [] => rfl
  | p :: t => by
    have := evsL_len t
    unfold evsL at this ⊢
    rw [List.flatMap_cons, List.length_append, this, show (evL p.1 p.2).length = 7 from rfl, List.length_cons]
    omega
theorem evsL_get : ∀ (es : List (Ev × Value)) (i k : Nat) (hi : i < es.length), k < 7 → (evsL es)[i * 7 + k]? = (evL (es[i]).1 (es[i]).2)[k]?
  | [], i, k, hi, hk => by simp at hi
  | p :: t, 0, k, hi, hk => by
    unfold evsL
    rw [List.flatMap_cons, List.getElem?_append_left (by rw [show (evL p.1 p.2).length = 7 from rfl]; omega)]
    simp
  | p :: t, i + 1, k, hi, hk => by
    have := evsL_get t i k (by simpa using hi) hk
    unfold evsL at this ⊢
    rw [List.flatMap_cons, List.getElem?_append_right (by rw [show (evL p.1 p.2).length = 7 from rfl]; omega), show (evL p.1 p.2).length = 7 from rfl, show (i + 1) * 7 + k - 7 = i * 7 + k by omega, this]
    simp
/-- What Feed told. -/
theorem FI.evq {B g : Nat} {vp vt vp' vt' v : Value} {w W : World} {s' : PP} {es : List (Ev × Value)} (h : FI B g vp vt w vp' vt' s' v es W) (hB : B ≤ w.heap.size) :
    ∃ A c, v = .slice A es.length c ∧ es.length ≤ c ∧ c ≤ maxLen ∧ (A = none → c = 0) ∧ EvQ B W A (es.map Prod.fst) ∧ (∀ b o q, A = some ⟨b, o, q⟩ → o = 0) := by
  obtain ⟨A, c, rfl, h1, h2, h3⟩ := own_slice h.own
  refine ⟨A, c, rfl, h1, h2, h3, fun hp => ?_, fun b o q e => ?_⟩
  · rw [List.length_map] at hp
    obtain ⟨b, c', hv, _, hlt⟩ := h.own.form hp
    injection hv with hA _ _
    subst hA
    refine ⟨b, 0, rfl, Nat.le_trans hB (ownBlock_le h.own b rfl), hlt, fun i hi => ?_⟩
    rw [List.length_map] at hi
    have hc : ∀ k, k < 7 → W.cell? ⟨b, i * 7 + k, none⟩ = (evL (es[i]).1 (es[i]).2)[k]? := fun k hk => by
      rw [h.own.cellAt (i * 7 + k) (by omega), evsL_get es i k hi hk]
    have hg : (es.map Prod.fst).getD i evZ = (es[i]).1 := by simp [List.getD, hi]
    obtain ⟨ho, _, _⟩ := h.par (es[i]) (List.getElem_mem hi)
    obtain ⟨A', c'', hpv, q1, _, _⟩ := own_slice ho
    rw [hg, Nat.zero_add]
    have hle := ownBlock_le ho
    rw [hpv] at hc ho hle
    refine ⟨A', c'', hc 0 (by omega), hc 1 (by omega), hc 2 (by omega), hc 3 (by omega), hc 4 (by omega), hc 5 (by omega), hc 6 (by omega), q1, fun hpp => ?_, fun bl o q e => ?_⟩
    · obtain ⟨g', rfl, _, hlt', hcc⟩ := own_cells ho rfl hpp
      exact ⟨g', 0, rfl, hlt', fun j hj => by rw [Nat.zero_add]; exact hcc j hj⟩
    · subst e
      exact hle bl rfl
  · subst e
    rcases h.own.2 with ⟨e, _⟩ | ⟨g', cap, cur, e, _⟩
    · cases e
    · injection e with e1 _ _
      injection e1 with e1
      injection e1
theorem Fr2.belowW {g : Nat} {w0 W W' : World} {vp vt : Value} (h : Fr2 g vp vt W W') (hg : w0.heap.size ≤ g) (hp : ∀ k, vp.ownBlock = some k → w0.heap.size ≤ k) (ht : ∀ k, vt.ownBlock = some k → w0.heap.size ≤ k) (hb : Below w0.heap.size w0 W) : Below w0.heap.size w0 W' :=
  ⟨h.os.trans hb.os, h.tape.trans hb.tape, h.output.trans hb.output, Nat.le_trans hb.size h.size, fun k hk => by
    refine (h.block k (Nat.lt_of_lt_of_le hk hb.size) (by omega) (fun e => ?_) (fun e => ?_)).trans (hb.block k hk)
    · have := hp k e.symm; omega
    · have := ht k e.symm; omega⟩
theorem FI.belowW {B g : Nat} {w0 w W : World} {vp vt vp' vt' v : Value} {s' : PP} {es : List (Ev × Value)} (h : FI B g vp vt w vp' vt' s' v es W) (hg : w0.heap.size ≤ g) (hq : ∃ s, Qs B g vp vt s w) (hb : Below w0.heap.size w0 w) : Below w0.heap.size w0 W := by
  obtain ⟨s, hq⟩ := hq
  have := hq.low
  exact h.f.belowW hg (fun k hk => by have := ownBlock_le hq.op k hk; omega) (fun k hk => by have := ownBlock_le hq.ot k hk; omega) hb
/-- A parser that another's call left. -/
theorem Qs.other {B g g2 : Nat} {vp vt vp2 vt2 : Value} {s s2 : PP} {W W' : World} (h : Qs B g vp vt s W) (hf : Fr2 g2 (.slice none 0 0) (.slice none 0 0) W W') (hne : g ≠ g2) (hlow : g2 < B) : Qs B g vp vt s W' := by
  have hk := hf.keepB hlow
  exact ⟨(hf.block g h.lt hne (by simp [Value.ownBlock]) (by simp [Value.ownBlock])).trans h.blk, own_keep h.op (fun k e => hk.2 k (ownBlock_le h.op k e) (own_lt h.op e)), own_keep h.ot (fun k e => hk.2 k (ownBlock_le h.ot k e) (own_lt h.ot e)), h.low, Nat.le_trans h.big hf.size⟩
/-- Nil, and what no call made. -/
theorem nil_none (w : World) : Calls Try.prog 18 #[.pointer none] w fun e w' => e = .returned (.bool true) ∧ w = w' := by
  go_enter Try.func18, Try.ntmps18
  go_wp2
  go_ret
  exact ⟨rfl, rfl⟩
theorem nil_idle (w : World) : Calls Try.prog 12 #[.pointer none] w fun e w' => e = .returned (.bool false) ∧ w = w' := by
  have HN := Lib.hid (nil_none w)
  go_enter Try.func12, Try.ntmps12
  go_wp2_with fail
  refine HN.out.mono ?_
  rintro e wx ⟨rfl, rfl⟩
  go_wp2
  go_ret
  exact ⟨rfl, rfl⟩
theorem nil_feed (w : World) (A : Option Addr) (n c : Nat) : Calls Try.prog 10 #[.pointer none, .slice A n c] w fun e w' => e = .returned (.tuple #[.slice none 0 0, .int .i64 6]) ∧ w = w' := by
  have HN := Lib.hid (nil_none w)
  go_enter Try.func10, Try.ntmps10
  go_wp2
  go_step3
  go_wp2_with fail
  refine HN.out.mono ?_
  rintro x wx ⟨rfl, rfl⟩
  go_wp2
  first | rw [Exit.noGoto_ret] | skip
  go_ret2
  exact ⟨rfl, rfl⟩
theorem zero_none {w : World} {g : Nat} (h : w.cell? ⟨g, 0, none⟩ = some (.bool false)) : Calls Try.prog 18 #[.pointer (some ⟨g, 0, none⟩)] w fun e w' => e = .returned (.bool true) ∧ w = w' := by
  go_enter Try.func18, Try.ntmps18
  go_wp2
  go_ret
  exact ⟨rfl, rfl⟩
theorem zero_idle {w : World} {g : Nat} (h : w.cell? ⟨g, 0, none⟩ = some (.bool false)) : Calls Try.prog 12 #[.pointer (some ⟨g, 0, none⟩)] w fun e w' => e = .returned (.bool false) ∧ w = w' := by
  have HN := Lib.hid (zero_none h)
  clear h
  go_enter Try.func12, Try.ntmps12
  go_wp2_with fail
  refine HN.out.mono ?_
  rintro e wx ⟨rfl, rfl⟩
  go_wp2
  go_ret
  exact ⟨rfl, rfl⟩
theorem zero_feed {w : World} {g : Nat} (h : w.cell? ⟨g, 0, none⟩ = some (.bool false)) (A : Option Addr) (n c : Nat) : Calls Try.prog 10 #[.pointer (some ⟨g, 0, none⟩), .slice A n c] w fun e w' => e = .returned (.tuple #[.slice none 0 0, .int .i64 6]) ∧ w = w' := by
  have HN := Lib.hid (zero_none h)
  clear h
  go_enter Try.func10, Try.ntmps10
  go_wp2
  go_step3
  go_wp2_with fail
  refine HN.out.mono ?_
  rintro x wx ⟨rfl, rfl⟩
  go_wp2
  first | rw [Exit.noGoto_ret] | skip
  go_ret2
  exact ⟨rfl, rfl⟩
end Go.Proofs.Ytfacnemgjdmlmaa
