/-
  Proved here: how the model's numbers of 64 bits, as bits, are reckoned with natural numbers.
-/
import Derived.Test.YtjbnoggmnfannaaPr
namespace Go.Proofs.Ytjbnoggmnfannaa
open Go.RowKit
theorem ofInt64 (a : Nat) : (BitVec.ofInt 64 (a : Int)).toNat = a % 18446744073709551616 := by simp
theorem bits_u64 (op : BinOp) (a b : Int) : bits op .u64 a b = (((match op with | .and => BitVec.ofInt 64 a &&& BitVec.ofInt 64 b | .or => BitVec.ofInt 64 a ||| BitVec.ofInt 64 b | .xor => BitVec.ofInt 64 a ^^^ BitVec.ofInt 64 b | _ => BitVec.ofInt 64 a &&& ~~~ BitVec.ofInt 64 b).toNat : Nat) : Int) := by
  unfold bits
  have h : ∀ v : BitVec 64, IntKind.u64.wrap (v.toNat : Int) = (v.toNat : Int) := by
    intro v
    have := v.isLt
    simp [IntKind.wrap, IntKind.bits, IntKind.signed]
    omega
  cases op <;> exact h _
theorem u64_and (a b : Nat) : bits .and .u64 (a : Int) (b : Int) = (((a &&& b) % 18446744073709551616 : Nat) : Int) := by
  rw [bits_u64]
  simp only [BitVec.toNat_and, ofInt64]
  rw [show (18446744073709551616 : Nat) = 2 ^ 64 from rfl, Nat.and_mod_two_pow]
theorem u64_or (a b : Nat) : bits .or .u64 (a : Int) (b : Int) = (((a ||| b) % 18446744073709551616 : Nat) : Int) := by
  rw [bits_u64]
  simp only [BitVec.toNat_or, ofInt64]
  rw [show (18446744073709551616 : Nat) = 2 ^ 64 from rfl, Nat.or_mod_two_pow]
theorem and1 (H d : Nat) : (bits .and .u64 ((H : Int) / 2 ^ d) 1 == 1) = H.testBit d := by
  have e : ((H : Int) / 2 ^ d) = ((H / 2 ^ d : Nat) : Int) := by simp
  rw [e, show (1 : Int) = ((1 : Nat) : Int) from rfl, u64_and, Nat.and_one_is_mod, Nat.testBit_eq_decide_div_mod_eq]
  have hm : H / 2 ^ d % 2 % 18446744073709551616 = H / 2 ^ d % 2 := by omega
  rw [hm]
  have := Nat.mod_two_eq_zero_or_one (H / 2 ^ d)
  rcases this with h | h <;> rw [h] <;> rfl
theorem wrap64 (a : Nat) : IntKind.u64.wrap (a : Int) = ((a % 18446744073709551616 : Nat) : Int) := by
  simp [IntKind.wrap, IntKind.bits, IntKind.signed]
theorem or_shl (H d : Nat) (hH : H < 18446744073709551616) (hd : d < 64) : bits .or .u64 (H : Int) (IntKind.u64.wrap (2 ^ d)) = ((H ||| 2 ^ d : Nat) : Int) := by
  have e : ((2 : Int) ^ d) = ((2 ^ d : Nat) : Int) := by simp
  have hp : 2 ^ d < 2 ^ 64 := Nat.pow_lt_pow_right (by omega) hd
  have ho : H ||| 2 ^ d < 2 ^ 64 := Nat.or_lt_two_pow hH hp
  rw [e, wrap64, Nat.mod_eq_of_lt hp, u64_or, Nat.mod_eq_of_lt ho]
theorem shl_or (H d : Nat) : bits .or .u64 (IntKind.u64.wrap ((H : Int) * 2 ^ min d 64)) 1 = ((H * 2 ^ d % 18446744073709551616 ||| 1 : Nat) : Int) := by
  have e : ((H : Int) * (2 : Int) ^ min d 64) = ((H * 2 ^ min d 64 : Nat) : Int) := by simp
  have hp : H * 2 ^ d % 18446744073709551616 < 2 ^ 64 := Nat.mod_lt _ (by omega)
  have ho : (H * 2 ^ d % 18446744073709551616) ||| 1 < 2 ^ 64 := Nat.or_lt_two_pow hp (by omega)
  have hm : H * 2 ^ min d 64 % 18446744073709551616 = H * 2 ^ d % 18446744073709551616 := by
    rcases Nat.lt_or_ge d 64 with h | h
    · rw [show min d 64 = d by omega]
    · rw [show min d 64 = 64 by omega, show d = 64 + (d - 64) by omega, Nat.pow_add, ← Nat.mul_assoc]
      rw [show (18446744073709551616 : Nat) = 2 ^ 64 from rfl, Nat.mul_mod_left, Nat.mul_right_comm, Nat.mul_mod_left]
  rw [e, wrap64, show (1 : Int) = ((1 : Nat) : Int) from rfl, u64_or, hm, Nat.mod_eq_of_lt ho]
end Go.Proofs.Ytjbnoggmnfannaa
