/-
  Kept here: how the model's numbers of 64 bits, as bits, are reckoned with natural numbers; which maps may be; what of a map is there.
-/
import Derived.Test.YtdlhpmbgpjjkoaaDoorOwI
import Derived.WalkKit
import Derived.Handy
import Derived.Lib.Hide
import Derived.WalkSpells
import Derived.Deep.RegionHeld3
import Derived.Deep.QuietTactic
import Derived.BigQuiet
import Derived.IntWalk
import Derived.Below
import Derived.OneCell
import Derived.BigRegion
import Derived.Deep.DeepCutAuto
import Derived.WalkMore
import Derived.Laws.Rows
set_option linter.unusedVariables false
set_option linter.unusedSimpArgs false
namespace Go.Proofs.YtdlhpmbgpjjkoaaDoor
open Go.RowKit
theorem ofInt64 (a : Nat) : (BitVec.ofInt 64 (a : Int)).toNat = a % 18446744073709551616 := by simp
theorem bits_u64 (op : BinOp) (a b : Int) : bits op .u64 a b = (((match op with | .and => BitVec.ofInt 64 a &&& BitVec.ofInt 64 b | .or => BitVec.ofInt 64 a ||| BitVec.ofInt 64 b | .xor => BitVec.ofInt 64 a ^^^ BitVec.ofInt 64 b | _ => BitVec.ofInt 64 a &&& ~~~ BitVec.ofInt 64 b).toNat : Nat) : Int) := by
  unfold bits
  have h : ∀ v : BitVec 64, IntKind.u64.wrap (v.toNat : Int) = (v.toNat : Int) := by
    intro v
    have := v.isLt
    simp [IntKind.wrap, IntKind.bits, IntKind.signed]
    omega
  cases op <;> exact h _
theorem u64_and (a b : Nat) : bits .and .u64 (a : Int) (b : Int) = (((a &&& b) % 18446744073709551616 : Nat) : Int) := by
  rw [bits_u64]
  simp only [BitVec.toNat_and, ofInt64]
  rw [show (18446744073709551616 : Nat) = 2 ^ 64 from rfl, Nat.and_mod_two_pow]
theorem u64_or (a b : Nat) : bits .or .u64 (a : Int) (b : Int) = (((a ||| b) % 18446744073709551616 : Nat) : Int) := by
  rw [bits_u64]
  simp only [BitVec.toNat_or, ofInt64]
  rw [show (18446744073709551616 : Nat) = 2 ^ 64 from rfl, Nat.or_mod_two_pow]
theorem u64_or' {a b : Nat} (ha : a < 2 ^ 64) (hb : b < 2 ^ 64) : bits .or .u64 (a : Int) (b : Int) = ((a ||| b : Nat) : Int) := by
  rw [u64_or, Nat.mod_eq_of_lt (Nat.or_lt_two_pow ha hb)]
theorem and1 (H d : Nat) : (bits .and .u64 ((H : Int) / 2 ^ d) 1 == 1) = H.testBit d := by
  have e : ((H : Int) / 2 ^ d) = ((H / 2 ^ d : Nat) : Int) := by simp
  rw [e, show (1 : Int) = ((1 : Nat) : Int) from rfl, u64_and, Nat.and_one_is_mod, Nat.testBit_eq_decide_div_mod_eq]
  have hm : H / 2 ^ d % 2 % 18446744073709551616 = H / 2 ^ d % 2 := by omega
  rw [hm]
  have := Nat.mod_two_eq_zero_or_one (H / 2 ^ d)
  rcases this with h | h <;> rw [h] <;> rfl
theorem wrap64 (a : Nat) : IntKind.u64.wrap (a : Int) = ((a % 18446744073709551616 : Nat) : Int) := by
  simp [IntKind.wrap, IntKind.bits, IntKind.signed]
theorem pow_le64 {n : Nat} (h : n ≤ 64) : 2 ^ n ≤ 18446744073709551616 := Nat.pow_le_pow_right (by omega) h
theorem pow_pos2 (n : Nat) : 1 ≤ 2 ^ n := Nat.one_le_two_pow
/-- All of n chunks. -/
theorem whole_bits {n : Nat} (h : n ≤ 64) : IntKind.u64.wrap (IntKind.u64.wrap ((2 : Int) ^ n) - 1) = ((2 ^ n - 1 : Nat) : Int) := by
  have e : ((2 : Int) ^ n) = ((2 ^ n : Nat) : Int) := by simp
  have h1 := pow_le64 h
  have h2 := pow_pos2 n
  rw [e, wrap64]
  generalize 2 ^ n = p at h1 h2
  rcases Nat.lt_or_ge p 18446744073709551616 with hp | hp
  · rw [Nat.mod_eq_of_lt hp, show ((p : Int) - 1) = ((p - 1 : Nat) : Int) by omega, wrap64, Nat.mod_eq_of_lt (by omega)]
  · obtain rfl : p = 18446744073709551616 := by omega
    rfl
theorem ofIntNat (a : Nat) : BitVec.ofInt 64 (a : Int) = BitVec.ofNat 64 a := by simp
theorem testBit_whole (n i : Nat) : (2 ^ n - 1).testBit i = decide (i < n) := Nat.testBit_two_pow_sub_one n i
theorem bit_far {n b i : Nat} (hb : b < 2 ^ n) (hi : n ≤ i) : b.testBit i = false := Nat.testBit_lt_two_pow (Nat.lt_of_lt_of_le hb (Nat.pow_le_pow_right (by omega) hi))
theorem behind_none {n b : Nat} (hn : n ≤ 64) (hb : b < 18446744073709551616) : (bits .andNot .u64 (b : Int) ((2 ^ n - 1 : Nat) : Int) == 0) = decide (b < 2 ^ n) := by
  rw [bits_u64]
  simp only [ofIntNat]
  have hx : (BitVec.ofNat 64 b &&& ~~~ BitVec.ofNat 64 (2 ^ n - 1)) = 0#64 ↔ b < 2 ^ n := by
    constructor
    · intro h
      refine Nat.lt_of_not_le fun hle => ?_
      obtain ⟨i, hi, ht⟩ := Nat.exists_ge_and_testBit_of_ge_two_pow hle
      have hi64 : i < 64 := by
        refine Nat.lt_of_not_le fun h6 => ?_
        rw [bit_far (n := 64) hb h6] at ht
        cases ht
      have hg := congrArg (fun v => v.getLsbD i) h
      simp only [BitVec.getLsbD_and, BitVec.getLsbD_not, BitVec.getLsbD_ofNat, BitVec.getLsbD_zero, testBit_whole] at hg
      simp [hi64, ht] at hg
      omega
    · intro h
      refine BitVec.eq_of_getLsbD_eq fun i hi => ?_
      simp only [BitVec.getLsbD_and, BitVec.getLsbD_not, BitVec.getLsbD_ofNat, BitVec.getLsbD_zero, testBit_whole]
      rcases Nat.lt_or_ge i n with h1 | h1
      · simp [h1, hi]
      · simp [bit_far h h1]
  by_cases h : b < 2 ^ n
  · rw [hx.2 h]; simp [h]
  · have h0 : (BitVec.ofNat 64 b &&& ~~~ BitVec.ofNat 64 (2 ^ n - 1)).toNat ≠ 0 := fun e => h (hx.1 (BitVec.eq_of_toNat_eq (by simpa using e)))
    rw [decide_eq_false h]
    simp only [beq_eq_false_iff_ne, ne_eq]
    omega
/-- A map as a value. -/
def mV (n b : Int) : Value := .agg #[.int .i64 n, .int .u64 b]
/-- May a map be? -/
def rB (n : Int) (b : Nat) : Bool := decide (0 ≤ n ∧ n ≤ 64 ∧ b < 2 ^ n.toNat)
/-- Is a chunk there? -/
def hB (n : Int) (b : Nat) (i : Int) : Bool := rB n b && decide (0 ≤ i ∧ i < n) && b.testBit i.toNat
end Go.Proofs.YtdlhpmbgpjjkoaaDoor
