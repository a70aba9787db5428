/-
  Kept here: a sender of the program and one of the document side by side, and what a call of each leaves.
-/
import Derived.Test.YtdlhpmbgpjjkoaaDoorFrh
set_option linter.unusedSimpArgs false
set_option linter.unusedVariables false
namespace Go.Proofs.YtdlhpmbgpjjkoaaDoor
open Go.RowKit
theorem conv_text {w : World} {A : Option Addr} {bs : List Int} {n : Nat} (hn : bs.length = n) (c : Nat) (h : RI .u8 w A bs) :
    (convert 23 9 (.slice A n c)).run Tryd.prog w = .ok (.string (strOfNums bs)) w := by
  subst hn
  rcases Nat.eq_zero_or_pos bs.length with h0 | h0
  · obtain rfl : bs = [] := List.eq_nil_of_length_eq_zero h0
    rcases A with _ | ad
    · exact run_convert_bytes_nil (P := Tryd.prog) w 23 5 Tryd.underlying23 Tryd.underlying5 0 c 9 Tryd.underlying9
    · rw [run_convert_bytes_string w 23 9 5 _ _ c Tryd.underlying23 Tryd.underlying5 Tryd.underlying9]
      exact run_bytesToString w ad 0 c [] (run_loadCells_list (P := Tryd.prog) w ad [] (fun j v hj => by simp at hj))
  · obtain ⟨b, off, rfl, _, hc⟩ := h h0
    exact run_convert_bytes_arg (P := Tryd.prog) w 23 5 Tryd.underlying23 Tryd.underlying5 b off _ c bs rfl hc 9 Tryd.underlying9
section
variable {w : World} {gs : Nat} {id : Nat} {nm : ByteArray} {sum : List Nat} {d g l : Nat} {bs : List Int} {N b p : Nat} {z : Bool}
theorem Sd.only2 {w' : World} (h : Sd w gs id nm sum bs N b p z) (h1 : gs < l) (h2 : gs < g) (ho : Only2 g l w w') : Sd w' gs id nm sum bs N b p z := by
  obtain ⟨A, c, hh, hr, h0, h3⟩ := h.ex
  refine ⟨⟨A, c, (ho.block gs h.lt (by omega) (by omega)).trans hh, fun hp => ?_, h0, h3⟩, h.id1, h.sum32, h.right, h.num, h.size, h.at64⟩
  obtain ⟨k, off, e, hlt, hc⟩ := hr hp
  have hk := h0 _ e
  simp at hk
  exact ⟨k, off, e, Nat.lt_of_lt_of_le hlt ho.size, fun i hi => (World.cell?_of_block (ho.block k hlt (by omega) (by omega))).trans (hc i hi)⟩
theorem Rs.only1 {w' : World} (h : Rs w d g l bs N b p z) (h1 : gs < l) (h2 : d ≤ gs) (ho : Only gs w w') : Rs w' d g l bs N b p z := by
  obtain ⟨A, c, hh, hr, h0, h3⟩ := h.ex
  have hne := h.ne
  exact ⟨⟨A, c, (ho.block g h.lt (by omega)).trans hh, hr.away (fun a ha hb => Nat.lt_of_lt_of_le (h0 a ha hb) h2) ho, h0, h3⟩, (ho.block l (Nat.lt_trans h.ne h.lt) (by omega)).trans h.row, h.dl, h.ne, h.right, h.num, h.size, h.at64⟩
/-- What is known behind a map that was handed in. -/
def nbS (alone : Bool) (z : Bool) (N : Nat) (n : Int) (b c : Nat) : Nat := if rfS z N n c = 0 then nwS alone b c else b
def npS (alone : Bool) (z : Bool) (N : Nat) (n : Int) (p c : Nat) : Nat := if rfS z N n c = 0 then (if alone = true then 0 else p) else p
theorem rfS_zero {z : Bool} {N c : Nat} {n : Int} : rfS z N n c = 0 ↔ rB n c = true ∧ n = N ∧ z = false := by
  unfold rfS
  by_cases h : rB n c = true ∧ n = N
  · rw [if_pos h]
    cases z
    · rw [if_neg (by decide)]
      exact ⟨fun _ => ⟨h.1, h.2, rfl⟩, fun _ => rfl⟩
    · rw [if_pos rfl]
      exact ⟨fun e => absurd e (by decide), fun e => absurd e.2.2 (by decide)⟩
  · rw [if_neg h]
    constructor
    · intro e; cases e
    · rintro ⟨h1, h2, _⟩; exact absurd ⟨h1, h2⟩ h
theorem kn_any (h : Sd w gs id nm sum bs N b p z) {n : Int} {c : Nat} (hc : c < 18446744073709551616) : Calls Tryd.prog 15 #[.pointer (some ⟨gs, 0, none⟩), .agg #[.int .i64 n, .int .u64 c]] w fun e w' => e = .returned (.int .i64 (rfS z N n c)) ∧ Sd w' gs id nm sum bs N (nbS false z N n b c) (npS false z N n p c) z ∧ Only gs w w' := by
  by_cases hr : rfS z N n c = 0
  · obtain ⟨h1, rfl, rfl⟩ := rfS_zero.1 hr
    refine (know_yes h h1).mono ?_
    rintro e w' ⟨rfl, hs, ho⟩
    refine ⟨by rw [hr], ?_, ho⟩
    rw [show nbS false false N N b c = b ||| c by unfold nbS; rw [if_pos hr]; rfl, show npS false false N N p c = p by unfold npS; rw [if_pos hr]; rfl]
    exact hs
  · refine (know_no h hc hr).mono ?_
    rintro e w' ⟨rfl, hb⟩
    refine ⟨rfl, ?_, Only.of hb⟩
    rw [show nbS false z N n b c = b by unfold nbS; rw [if_neg hr], show npS false z N n p c = p by unfold npS; rw [if_neg hr]]
    exact h.below hb
theorem an_any (h : Sd w gs id nm sum bs N b p z) {n : Int} {c : Nat} (hc : c < 18446744073709551616) : Calls Tryd.prog 17 #[.pointer (some ⟨gs, 0, none⟩), .agg #[.int .i64 n, .int .u64 c]] w fun e w' => e = .returned (.int .i64 (rfS z N n c)) ∧ Sd w' gs id nm sum bs N (nbS true z N n b c) (npS true z N n p c) z ∧ Only gs w w' := by
  by_cases hr : rfS z N n c = 0
  · obtain ⟨h1, rfl, rfl⟩ := rfS_zero.1 hr
    refine (anew_yes h h1).mono ?_
    rintro e w' ⟨rfl, hs, ho⟩
    refine ⟨by rw [hr], ?_, ho⟩
    rw [show nbS true false N N b c = c by unfold nbS; rw [if_pos hr]; rfl, show npS true false N N p c = 0 by unfold npS; rw [if_pos hr]; rfl]
    exact hs
  · refine (anew_no h hc hr).mono ?_
    rintro e w' ⟨rfl, hb⟩
    refine ⟨rfl, ?_, Only.of hb⟩
    rw [show nbS true z N n b c = b by unfold nbS; rw [if_neg hr], show npS true z N n p c = p by unfold npS; rw [if_neg hr]]
    exact h.below hb
theorem ofL_len {n : Int} {c : Nat} (h : rB n c = true) : ((ofL n c).length : Int) = n := by
  obtain ⟨k, rfl, h1, _⟩ := rB_yes h
  rw [ofL_in h1, bitsL_len]
theorem rkn_any (h : Rs w d g l bs N b p z) {n : Int} {c m : Nat} (alone : Bool) {A' : Option Addr} {k : Nat} (hm : (ofL n c).length = m) (hT : TI w A' (ofL n c)) (hA : ∀ a, A' = some a → a.block ≠ l) : Calls Tryd.prog 16 #[.pointer (some ⟨g, 0, none⟩), .slice A' m k, .bool (rB n c), .bool alone] w fun e w' => e = .returned (.int .i64 (rfS z N n c)) ∧ Rs w' d g l bs N (nbS alone z N n b c) (npS alone z N n p c) z ∧ Only2 g l w w' := by
  by_cases hr : rfS z N n c = 0
  · obtain ⟨h1, rfl, rfl⟩ := rfS_zero.1 hr
    rw [ofL_in h.n64] at hT hm
    rw [bitsL_len] at hm
    subst hm
    rw [h1]
    refine (rknow_yes h h1 (k := k) (alone := alone) hT hA).mono ?_
    rintro e w' ⟨rfl, hs, ho⟩
    refine ⟨by rw [hr], ?_, ho⟩
    rw [show nbS alone false N N b c = nwS alone b c by unfold nbS; rw [if_pos hr], show npS alone false N N p c = (if alone = true then 0 else p) by unfold npS; rw [if_pos hr]]
    exact hs
  · have hs : Rs w d g l bs N (nbS alone z N n b c) (npS alone z N n p c) z := by
      rw [show nbS alone z N n b c = b by unfold nbS; rw [if_neg hr], show npS alone z N n p c = p by unfold npS; rw [if_neg hr]]
      exact h
    by_cases hn : rB n c = true ∧ n = N
    · obtain ⟨h1, rfl⟩ := hn
      have hz : z = true := by
        cases z
        · exact absurd (rfS_zero.2 ⟨h1, rfl, rfl⟩) hr
        · rfl
      subst hz
      rw [ofL_in h.n64, bitsL_len] at hm
      subst hm
      rw [h1]
      refine (rknow_gone h (A' := A') (k := k) (alone := alone)).mono ?_
      rintro e w' ⟨rfl, rfl⟩
      refine ⟨?_, hs, Only2.of (Below.refl _ _)⟩
      unfold rfS
      rw [if_pos ⟨h1, rfl⟩]
      rfl
    · refine (rknow_no h (A' := A') (m := m) (k := k) (rt := rB n c) (alone := alone) ?_).mono ?_
      · cases h1 : rB n c
        · exact .inl rfl
        · refine .inr fun e => hn ⟨h1, ?_⟩
          have := ofL_len h1
          omega
      · rintro e w' ⟨rfl, rfl⟩
        refine ⟨?_, hs, Only2.of (Below.refl _ _)⟩
        unfold rfS
        rw [if_neg hn]
/-- Whether it is cancelled behind Cancel, and what Cancel tells. -/
def czS (z : Bool) (N b : Nat) : Bool := if stS z N b = 0 then true else z
def ceS (z : Bool) (N b : Nat) : Int := if stS z N b = 0 then 0 else 7
theorem ca_any (h : Sd w gs id nm sum bs N b p z) : Calls Tryd.prog 18 #[.pointer (some ⟨gs, 0, none⟩)] w fun e w' => e = .returned (.int .i64 (ceS z N b)) ∧ Sd w' gs id nm sum bs N b p (czS z N b) ∧ Only gs w w' := by
  by_cases hz : stS z N b = 0
  · rw [show ceS z N b = 0 by unfold ceS; rw [if_pos hz], show czS z N b = true by unfold czS; rw [if_pos hz]]
    obtain ⟨rfl, hf⟩ := stS_zero.1 hz
    exact cancel_yes h hf
  · rw [show ceS z N b = 7 by unfold ceS; rw [if_neg hz], show czS z N b = z by unfold czS; rw [if_neg hz]]
    refine (cancel_no h hz).mono ?_
    rintro e w' ⟨rfl, hb⟩
    exact ⟨rfl, h.below hb, Only.of hb⟩
theorem rca_any (h : Rs w d g l bs N b p z) : Calls Tryd.prog 19 #[.pointer (some ⟨g, 0, none⟩)] w fun e w' => e = .returned (.int .i64 (ceS z N b)) ∧ Rs w' d g l bs N b p (czS z N b) ∧ Only2 g l w w' := by
  by_cases hz : stS z N b = 0
  · rw [show ceS z N b = 0 by unfold ceS; rw [if_pos hz], show czS z N b = true by unfold czS; rw [if_pos hz]]
    refine (rcancel_yes h hz).mono ?_
    rintro e w' ⟨rfl, hs, ho⟩
    exact ⟨rfl, hs, Only2.of1 ho⟩
  · rw [show ceS z N b = 7 by unfold ceS; rw [if_neg hz], show czS z N b = z by unfold czS; rw [if_neg hz]]
    refine (rcancel_no h hz).mono ?_
    rintro e w' ⟨rfl, rfl⟩
    exact ⟨rfl, h, Only2.of (Below.refl _ _)⟩
/-- Both side by side; what was there is as it was. -/
structure Fs (W : World) (gs : Nat) (id : Nat) (nm : ByteArray) (sum : List Nat) (g l : Nat) (bs : List Int) (N b p : Nat) (z : Bool) (wr : World) : Prop where
  sd : Sd wr gs id nm sum bs N b p z
  rs : Rs wr W.heap.size g l bs N b p z
  below : Below W.heap.size W wr
  wg : W.heap.size ≤ gs
  gl : gs < l
theorem Fs.to {W w' : World} (h : Fs W gs id nm sum g l bs N b p z w) (hb : Below w.heap.size w w') : Fs W gs id nm sum g l bs N b p z w' :=
  ⟨h.sd.below hb, h.rs.below hb, h.below.trans (hb.mono h.below.size), h.wg, h.gl⟩
/-- A call of the program's leaves another one; then one of the document's leaves the same. -/
theorem Fs.both {W w1 w2 : World} {b' p' : Nat} {z' : Bool} (h : Fs W gs id nm sum g l bs N b p z w) (hs : Sd w1 gs id nm sum bs N b' p' z') (ho : Only gs w w1) (hr : Rs w2 W.heap.size g l bs N b' p' z') (ho2 : Only2 g l w1 w2) : Fs W gs id nm sum g l bs N b' p' z' w2 := by
  have h1 := h.gl
  have h2 := h.rs.ne
  have h3 := h.wg
  have hb := OnlyBelow ho h.below h.wg
  exact ⟨hs.only2 h.gl (by omega) ho2, hr, ho2.below hb (by omega) (by omega), h.wg, h.gl⟩
end
end Go.Proofs.YtdlhpmbgpjjkoaaDoor
