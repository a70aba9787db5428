/-
  Proved here: of the document's maps: Of and Write.
-/
import Derived.Test.YtdlhpmbgpjjkoaaDoorMe
set_option linter.unusedSimpArgs false
set_option linter.unusedVariables false
namespace Go.Proofs.YtdlhpmbgpjjkoaaDoor
open Go.RowKit
theorem OwnB.back {w U W : World} {v : Value} {xs : List Bool} (h : OwnB U v xs W) (hb : Below w.heap.size w U) : OwnB w v xs W := ⟨own_mono h.own hb.size, hb.trans (h.below.mono hb.size)⟩
/-- The list that the document has of N and Bits. -/
def ofL (n : Int) (b : Nat) : List Bool := if 0 ≤ n ∧ n ≤ 64 then bitsL n.toNat b else []
theorem ofL_in {n b : Nat} (h : n ≤ 64) : ofL n b = bitsL n b := by unfold ofL; rw [if_pos ⟨by omega, by omega⟩]; rfl
theorem ofL_no {n : Int} {b : Nat} (h : ¬ (0 ≤ n ∧ n ≤ 64)) : ofL n b = [] := by unfold ofL; rw [if_neg h]
def OfPost (l : List Bool) (x : Bool) (w : World) (e : Ending) (w' : World) : Prop := ∃ v, e = .returned (.tuple #[v, .bool x]) ∧ OwnB w v l w'
theorem rof_no {n : Int} (h : ¬ (0 ≤ n ∧ n ≤ 64)) (b : Nat) (w : World) : Calls Tryd.prog 13 #[.int .i64 n, .int .u64 b] w (OfPost [] false w) := by
  by_cases h0 : n < 0
  · have d0 : decide (n < 0) = true := by simpa using h0
    go_enter Tryd.func13, Tryd.ntmps13
    go_wp2
    go_returns
    exact ⟨_, rfl, OwnB.new w⟩
  · have d0 : decide (n < 0) = false := by simp; omega
    have d1 : decide (64 < n) = true := by simp; omega
    have h1 : 64 < n := by omega
    go_enter Tryd.func13, Tryd.ntmps13
    go_wp2
    go_returns
    exact ⟨_, rfl, OwnB.new w⟩
theorem bit_mod (b i : Nat) : ((((b / 2 ^ i : Nat) : Int)).tmod 2 == 1) = b.testBit i := by
  rw [Nat.testBit_eq_decide_div_mod_eq]
  generalize b / 2 ^ i = x
  rw [Int.tmod_eq_emod_of_nonneg (by omega)]
  rcases Nat.mod_two_eq_zero_or_one x with h | h
  · rw [show (x : Int) % 2 = 0 by omega, h]; rfl
  · rw [show (x : Int) % 2 = 1 by omega, h]; rfl
set_option maxHeartbeats 1000000 in
theorem rof_in {n : Nat} (hn : n ≤ 64) {b : Nat} (hb : b < 18446744073709551616) (w : World) : Calls Tryd.prog 13 #[.int .i64 n, .int .u64 b] w (OfPost (bitsL n b) (rB n b) w) := by
  have HRB := Lib.hid (rB_in hn b)
  obtain ⟨r, hr⟩ : ∃ r, rB n b = r := ⟨_, rfl⟩
  rw [hr] at HRB ⊢
  clear hr
  have d0 : decide ((n : Int) < 0) = false := by simp
  have d1 : decide ((64 : Int) < (n : Int)) = false := by simp; omega
  have h1 : ¬ ((64 : Int) < (n : Int)) := by omega
  go_enter Tryd.func13, Tryd.ntmps13
  go_wp2
  go_loopw [1, 6, 7] (fun bv ov iv wr => ∃ (v : Value) (i x : Nat), bv = .int .u64 x ∧ v = ov ∧ iv = .int .i64 i ∧ i ≤ n ∧ x ≤ b ∧ Hid (b / 2 ^ i = x) ∧ Hid (OwnB w v (bitsL i b) wr)) (fun _ _ iv _ => n - (intOf iv).toNat)
  case atStart => exact ⟨_, 0, b, rfl, rfl, rfl, by omega, by omega, Lib.hid (by simp), Lib.hid (OwnB.new w)⟩
  case round =>
    obtain ⟨v, i, x, rfl, rfl, rfl, hi, hxb, HX, HO⟩ := hrel
    by_cases hin : i < n
    · have e1 : decide ((i : Int) < (n : Int)) = true := by simp; omega
      have e2 : decide (i < n) = true := by simp; omega
      have w1 : IntKind.i64.wrap ((i : Int) + 1) = (i : Int) + 1 := IntWalk.i64_in _ (by omega)
      have hbit := bit_mod b i
      rw [HX.out] at hbit
      obtain ⟨y, hy⟩ : ∃ y, b.testBit i = y := ⟨_, rfl⟩
      rw [hy] at hbit
      have w2 : ((x : Int)).tmod 2 = ((x % 2 : Nat) : Int) := by rw [Int.tmod_eq_emod_of_nonneg (by omega)]; omega
      have w3 : ((x : Int)).tdiv 2 = ((x / 2 : Nat) : Int) := by rw [Int.tdiv_eq_ediv_of_nonneg (by omega)]; omega
      have w4 : IntKind.u64.wrap ((x % 2 : Nat) : Int) = ((x % 2 : Nat) : Int) := by rw [wrap64, Nat.mod_eq_of_lt (by omega)]
      have w5 : IntKind.u64.wrap ((x / 2 : Nat) : Int) = ((x / 2 : Nat) : Int) := by rw [wrap64, Nat.mod_eq_of_lt (by omega)]
      rw [w2] at hbit
      obtain ⟨m2, hm2⟩ : ∃ m, x % 2 = m := ⟨_, rfl⟩
      obtain ⟨x2, hx2⟩ : ∃ m, x / 2 = m := ⟨_, rfl⟩
      rw [hm2] at w2 w4 hbit
      rw [hx2] at w3 w5
      have hle := hx2 ▸ Nat.div_le_self x 2
      have HX2 := Lib.hid (show b / 2 ^ (i + 1) = x2 from by rw [← hx2, ← HX.out, Nat.div_div_eq_div_mul, ← Nat.pow_succ])
      obtain ⟨A2, cc, w2', hrun, hO2⟩ := HO.out.app (by rw [bitsL_len]; omega) y
      rw [← hy, ← bitsL_succ] at hO2
      rw [bitsL_len] at hrun hO2
      have HRUN := Lib.hid hrun
      have HO2 := Lib.hid hO2
      clear hy hm2 hx2 hrun hO2 HO HX
      go_wp2_with (first | (at_builtin; refine wpList_app rfl (.tmp 19) (.tmp 23) _ rfl _ _ rfl rfl HRUN.out ?_))
      go_roundw
      case rel => exact ⟨_, i + 1, x2, rfl, rfl, by go_num, by omega, by omega, HX2, HO2⟩
      case measure => simp [intOf]; omega
    · have e1 : decide ((i : Int) < (n : Int)) = false := by simp; omega
      have e2 : decide (i < n) = false := by simp; omega
      obtain rfl : i = n := by omega
      have hq : ((x : Int) == 0) = r := by
        rw [HRB.out, ← HX.out]
        by_cases h : b < 2 ^ i
        · rw [decide_eq_true h, Nat.div_eq_of_lt h]; rfl
        · have h2 : 0 < b / 2 ^ i := Nat.div_pos (by omega) (Nat.two_pow_pos i)
          rw [decide_eq_false h]
          simp only [beq_eq_false_iff_ne, ne_eq]
          omega
      clear HX HRB
      go_wp2
      go_returns
      exact ⟨_, rfl, HO.out⟩
theorem rof_any (n : Int) {b : Nat} (hb : b < 18446744073709551616) (w : World) : Calls Tryd.prog 13 #[.int .i64 n, .int .u64 b] w (OfPost (ofL n b) (rB n b) w) := by
  by_cases h : 0 ≤ n ∧ n ≤ 64
  · obtain ⟨k, rfl⟩ : ∃ k : Nat, n = k := ⟨n.toNat, by omega⟩
    rw [ofL_in (by omega)]
    exact rof_in (by omega) hb w
  · rw [ofL_no h, rB_no h]
    exact rof_no h b w
end Go.Proofs.YtdlhpmbgpjjkoaaDoor
