/-
  Proved here: of a document's sender: Next, Know and New.
-/
import Derived.Test.YtdlhpmbgpjjkoaaDoorFrb
set_option linter.unusedSimpArgs false
set_option linter.unusedVariables false
namespace Go.Proofs.YtdlhpmbgpjjkoaaDoor
open Go.RowKit
theorem rB_parts' {n b : Nat} (h : rB n b = true) : n ≤ 64 ∧ b < 2 ^ n := by
  obtain ⟨m, hm, h2, h3⟩ := rB_yes h
  obtain rfl : n = m := by omega
  exact ⟨h2, h3⟩
theorem stS_zero {z : Bool} {N b : Nat} : stS z N b = 0 ↔ z = false ∧ b ≠ 2 ^ N - 1 := by
  unfold stS
  cases z
  · by_cases h : b = 2 ^ N - 1 <;> simp [h]
  · simp
section
variable {w : World} {d g l : Nat} {bs : List Int} {N b p : Nat} {z : Bool}
theorem rnext_stop (h : Rs w d g l bs N b p z) (hz : stS z N b ≠ 0) (told : Bool) : Calls Tryd.prog 10 #[.pointer (some ⟨g, 0, none⟩), .bool told] w fun e w' => e = .returned (.int .i64 (-1)) ∧ w = w' := by
  have HT := Lib.hid (rstate_sd h)
  obtain ⟨s, hs⟩ : ∃ s, stS z N b = s := ⟨_, rfl⟩
  rw [hs] at HT hz
  have e0 : (s != 0) = true := by simp [hz]
  have e1 : (s == 0) = false := by simp [hz]
  clear h hz hs
  go_enter Tryd.func10, Tryd.ntmps10
  go_wp2_with (go_at_call 23; refine HT.out.mono ?_; rintro e wx ⟨rfl, rfl⟩)
  go_ret
  exact ⟨rfl, rfl⟩
/-- What Next of the document's leaves: the place behind the one that was told, if it is told. -/
def NxPost (told : Bool) (d g l : Nat) (bs : List Int) (N b p : Nat) (w : World) (e : Ending) (w' : World) : Prop :=
  ∃ j : Nat, e = .returned (.int .i64 j) ∧ IsNext N b p j ∧ Rs w' d g l bs N b (if told = true then j + 1 else p) false ∧ Only g w w' ∧ (told = false → w = w')
set_option maxHeartbeats 1000000 in
theorem rnext_go (h : Rs w d g l bs N b p z) (hz : stS z N b = 0) (told : Bool) : Calls Tryd.prog 10 #[.pointer (some ⟨g, 0, none⟩), .bool told] w (NxPost told d g l bs N b p w) := by
  obtain ⟨rfl, hf⟩ := stS_zero.1 hz
  have HT := Lib.hid (rstate_sd h)
  rw [hz] at HT
  have c1 := h.c1
  have c2 := h.c2
  have f2 := h.free 2
  have hn := h.n64
  have hp := h.at64
  have hN1 : 1 ≤ N := by
    rcases Nat.eq_zero_or_pos N with h0 | h0
    · exfalso
      refine hf ?_
      obtain ⟨_, hb2⟩ := rB_parts' h.right
      subst h0
      omega
    · exact h0
  have HB := Lib.hid (fun i (hi : i < N) => h.bit hi)
  have HF := Lib.hid (fun hk => hf (all_whole h.right hk))
  have HS := Lib.hid h
  have HPT := Lib.hid (fun (j : Nat) (hj : IsNext N b p j) (ht : told = true) => show NxPost told d g l bs N b p w (.returned (.int .i64 j)) (w.setCell ⟨g, 2, none⟩ (.int .i64 ((j + 1 : Nat) : Int))) from ⟨j, rfl, hj, by rw [if_pos ht]; exact h.s2 (by have := hj.1; omega), OnlyCell w 2 _, fun e => by rw [e] at ht; cases ht⟩)
  have HPF := Lib.hid (fun (j : Nat) (hj : IsNext N b p j) (ht : told = false) => show NxPost told d g l bs N b p w (.returned (.int .i64 j)) w from ⟨j, rfl, hj, by rw [ht]; exact h, Only.refl _ _, fun _ => rfl⟩)
  obtain ⟨R, hR⟩ : ∃ R, NxPost told d g l bs N b p w = R := ⟨_, rfl⟩
  rw [hR] at HPT HPF ⊢
  obtain ⟨M, hM⟩ : ∃ M, 2 * N = M := ⟨_, rfl⟩
  have w0 : IntKind.i64.wrap (2 * (N : Int)) = (M : Int) := by rw [IntWalk.i64_in _ (by omega)]; omega
  have HM := Lib.hid hM
  clear h hz hf hR hM
  go_enter Tryd.func10, Tryd.ntmps10
  go_wp2_with (go_at_call 23; refine HT.out.mono ?_; rintro e wx ⟨rfl, rfl⟩)
  go_loopw [5] (fun kv wr => ∃ k : Nat, kv = .int .i64 k ∧ k ≤ 2 * N ∧ Hid (∀ j, p ≤ j → j < N → j < k → b.testBit j = true) ∧ Hid (∀ j, j + N < k → b.testBit j = true) ∧ w = wr) (fun kv _ => 2 * N - (intOf kv).toNat)
  case atStart => exact ⟨0, rfl, by omega, Lib.hid (fun j _ _ h => absurd h (by omega)), Lib.hid (fun j h => absurd h (by omega)), by first | trivial | rfl⟩
  case round =>
    obtain ⟨k, rfl, hk, H1, H2, rfl⟩ := hrel
    have hM := HM.out
    by_cases hin : k < 2 * N
    · have d1 : decide ((k : Int) < (M : Int)) = true := by simp; omega
      have d2 : decide (k < M) = true := by simp; omega
      obtain ⟨i, hi⟩ : ∃ i, k % N = i := ⟨_, rfl⟩
      have hiN : i < N := by rw [← hi]; exact Nat.mod_lt _ (by omega)
      have w3 : ((k : Int)).tmod (N : Int) = (i : Int) := by rw [Int.tmod_eq_emod_of_nonneg (by omega), ← hi]; exact (Int.natCast_emod k N).symm
      have w4 : IntKind.i64.wrap (i : Int) = (i : Int) := IntWalk.i64_in _ (by omega)
      have n0 : ¬ (N : Int) = 0 := by omega
      have n1 : ((N : Int) == 0) = false := by simp; omega
      have g1 : (0 : Int) ≤ (i : Int) := by omega
      have g2 : (i : Int) < (N : Int) := by omega
      have cb := HB.out i hiN
      have w1 : IntKind.i64.wrap ((k : Int) + 1) = (k : Int) + 1 := IntWalk.i64_in _ (by omega)
      have w5 : IntKind.i64.wrap ((i : Int) + 1) = ((i + 1 : Nat) : Int) := by rw [IntWalk.i64_in _ (by omega)]; omega
      have hik : (k < N → i = k) ∧ (N ≤ k → i + N = k) := by
        constructor
        · intro h; rw [← hi]; exact Nat.mod_eq_of_lt h
        · intro h
          have := Nat.mod_eq_sub_mod h
          have h2 : (k - N) % N = k - N := Nat.mod_eq_of_lt (by omega)
          omega
      have HIK := Lib.hid hik
      obtain ⟨x, hx⟩ : ∃ x, b.testBit i = x := ⟨_, rfl⟩
      rw [hx] at cb
      have HX := Lib.hid (fun (_ : Unit) => hx)
      clear hx hi hik
      cases x
      · by_cases hkN : N ≤ k
        · have e1 : decide ((N : Int) ≤ (k : Int)) = true := by simp; omega
          have e2 : decide (N ≤ k) = true := by simp; omega
          have HJ := Lib.hid (show IsNext N b p i from ⟨hiN, HX.out (), .inr ⟨fun j h1 h2 => H1.out j h1 h2 (by omega), fun j h1 => H2.out j (by have := HIK.out.2 hkN; omega)⟩⟩)
          cases told
          · have HQ := Lib.hid (HPF.out i HJ.out rfl)
            go_wp2
            first
            | exact HQ.out
            | (go_ret; exact HQ.out)
          · have HQ := Lib.hid (HPT.out i HJ.out rfl)
            obtain ⟨i1, hi1⟩ : ∃ i1, i + 1 = i1 := ⟨_, rfl⟩
            rw [hi1] at w5 HQ
            clear hi1
            go_wp2
            first
            | exact HQ.out
            | (go_ret; exact HQ.out)
        · have e1 : decide ((N : Int) ≤ (k : Int)) = false := by simp; omega
          have e2 : decide (N ≤ k) = false := by simp; omega
          by_cases hpk : p ≤ i
          · have e3 : decide ((p : Int) ≤ (i : Int)) = true := by simp; omega
            have e4 : decide (p ≤ i) = true := by simp; omega
            have HJ := Lib.hid (show IsNext N b p i from ⟨hiN, HX.out (), .inl ⟨hpk, fun j h1 h2 => H1.out j h1 (by omega) (by have := HIK.out.1 (by omega); omega)⟩⟩)
            cases told
            · have HQ := Lib.hid (HPF.out i HJ.out rfl)
              go_wp2
              first
              | exact HQ.out
              | (go_ret; exact HQ.out)
            · have HQ := Lib.hid (HPT.out i HJ.out rfl)
              obtain ⟨i1, hi1⟩ : ∃ i1, i + 1 = i1 := ⟨_, rfl⟩
              rw [hi1] at w5 HQ
              clear hi1
              go_wp2
              first
              | exact HQ.out
              | (go_ret; exact HQ.out)
          · have e3 : decide ((p : Int) ≤ (i : Int)) = false := by simp; omega
            have e4 : decide (p ≤ i) = false := by simp; omega
            have H1' := Lib.hid (show ∀ j, p ≤ j → j < N → j < k + 1 → b.testBit j = true from fun j h1 h2 h3 => by
              rcases Nat.lt_or_ge j k with h4 | h4
              · exact H1.out j h1 h2 h4
              · exact absurd h1 (by have := HIK.out.1 (by omega); omega))
            have H2' := Lib.hid (show ∀ j, j + N < k + 1 → b.testBit j = true from fun j h1 => absurd h1 (by omega))
            go_wp2
            go_roundw
            case rel => exact ⟨k + 1, by go_num, by omega, H1', H2', trivial⟩
            case measure => simp [intOf]; omega
      · have H1' := Lib.hid (show ∀ j, p ≤ j → j < N → j < k + 1 → b.testBit j = true from fun j h1 h2 h3 => by
          rcases Nat.lt_or_ge j k with h4 | h4
          · exact H1.out j h1 h2 h4
          · have := HIK.out.1 (by omega)
            rw [show j = i by omega]; exact HX.out ())
        have H2' := Lib.hid (show ∀ j, j + N < k + 1 → b.testBit j = true from fun j h1 => by
          rcases Nat.lt_or_ge (j + N) k with h4 | h4
          · exact H2.out j h4
          · have := HIK.out.2 (by omega)
            rw [show j = i by omega]; exact HX.out ())
        go_wp2
        go_roundw
        case rel => exact ⟨k + 1, by go_num, by omega, H1', H2', trivial⟩
        case measure => simp [intOf]; omega
    · exact absurd (show ∀ j, j < N → b.testBit j = true from fun j hj => H2.out j (by omega)) (fun h => HF.out h)
theorem made_bools (N : Nat) : madeCells (Value.bool false).cells (N * 1) = (TV (bitsL N 0)).toArray := by
  unfold madeCells bitsL
  rw [Nat.mul_one]
  refine Array.ext (by simp) fun i h1 h2 => ?_
  simp [Value.cells, Nat.mod_one]
theorem rnew_any {A : Option Addr} {n c : Nat} (hn : bs.length = n) (hs : n ≤ 4096) (hc : n ≤ c) (hm : c ≤ maxLen) (hz : A = none → c = 0) (w : World) (hr : RI .u8 w A bs) (hd : ∀ a, A = some a → 0 < bs.length → a.block < d) (hdw : d ≤ w.heap.size) : Calls Tryd.prog 8 #[.slice A n c] w fun e w' => ∃ g l, e = .returned (.pointer (some ⟨g, 0, none⟩)) ∧ w.heap.size ≤ l ∧ Rs w' d g l bs ((n + 63) / 64) 0 0 false ∧ Below w.heap.size w w' := by
  obtain ⟨N, hN⟩ : ∃ N, N = (n + 63) / 64 := ⟨_, rfl⟩
  rw [← hN]
  have HC := Lib.hid (fun W => rchunks_any hs hN W)
  obtain ⟨i0, hi, hz0, hz1, hz2⟩ := info_parts info_bool
  have mk : ∀ W : World, (Instr.makeSlice 46 (.int .i64 (N : Int)) (.int .i64 (N : Int))).run Tryd.prog W = .ok (.slice (some ⟨W.heap.size, 0, none⟩) N N) (W.alloc (.cells (TV (bitsL N 0)).toArray 4)) := fun W => by
    have := run_make (P := Tryd.prog) W 46 4 i0 (.bool false) Tryd.underlying46 hi hz0 .i64 .i64 (N : Int) (N : Int) (by omega) (by omega) (by rw [hz2]; omega) (by omega)
    rw [this, hz1, show ((N : Int)).toNat = N by omega, made_bools]
  have ha := (Below.refl w.heap.size w).alloc (Nat.le_refl _) (.cells (TV (bitsL N 0)).toArray 4)
  have hb := ha.alloc ha.size (.cells #[.slice A n c, .slice (some ⟨w.heap.size, 0, none⟩) N N, .int .i64 0, .bool false] 69)
  have HB := Lib.hid hb
  have HS := Lib.hid (show Rs ((w.alloc (.cells (TV (bitsL N 0)).toArray 4)).alloc (.cells #[.slice A n c, .slice (some ⟨w.heap.size, 0, none⟩) N N, .int .i64 0, .bool false] 69)) d (w.heap.size + 1) w.heap.size bs N 0 0 false from by
    refine ⟨⟨A, c, ?_, hr.below hb, hd, by rw [hn]; exact hc, hm, hz⟩, ?_, hdw, by omega, ?_, by rw [hn]; exact hN, by rw [hn]; exact hs, by omega⟩
    · rw [hn]
      exact new_block _ _ _ (by simp)
    · exact (old_block _ _ _ (by simp)).trans (heap_alloc_new _ _)
    · rw [rB_in (by omega)]
      exact decide_eq_true (Nat.two_pow_pos _))
  clear hn hs hc hm hz hr hN hd hdw hi hz0 hz1 hz2 ha hb
  go_enter Tryd.func8, Tryd.ntmps8
  go_wp2_with (go_at_call 32; refine (HC.out _).mono ?_; rintro e wx ⟨rfl, rfl⟩)
  go_ret
  exact ⟨_, _, rfl, Nat.le_refl _, HS.out, HB.out⟩
end
end Go.Proofs.YtdlhpmbgpjjkoaaDoor
