/-
  Proved here, for every word: math/bits.RotateLeft32 and sha's turn, at the ten places by which a word is turned, answer what 'rot32' says; and how the model's words of 32 bits are reckoned with natural numbers.
-/
import Derived.Test.YtdlhpmbgpjjkoaaDoorOwI
import Derived.WalkKit
import Derived.Handy
import Derived.WalkSpells
import Derived.WalkLawsBesides
namespace Go.Proofs.YtdlhpmbgpjjkoaaDoor
open Go.RowKit
def add32 (a b : Nat) : Nat := (a + b) % 4294967296
def xor32 (a b : Nat) : Nat := (a ^^^ b) % 4294967296
def and32 (a b : Nat) : Nat := (a &&& b) % 4294967296
def or32 (a b : Nat) : Nat := (a ||| b) % 4294967296
def not32 (a : Nat) : Nat := 4294967295 - a % 4294967296
def rot32 (n x : Nat) : Nat := or32 (x * 2 ^ (32 - n) % 4294967296) (x / 2 ^ n)
def shr3 (x : Nat) : Nat := x / 8
def shr10 (x : Nat) : Nat := x / 1024
def shlor (x c : Nat) : Nat := or32 (x * 256 % 4294967296) c

theorem ofInt32 (a : Nat) : (BitVec.ofInt 32 (a : Int)).toNat = a % 4294967296 := by simp
theorem u32_add (a b : Nat) : ((a : Int) + (b : Int)) % 4294967296 = ((add32 a b : Nat) : Int) := by unfold add32; omega
theorem bits_u32 (op : BinOp) (a b : Int) : bits op .u32 a b = (((match op with | .and => BitVec.ofInt 32 a &&& BitVec.ofInt 32 b | .or => BitVec.ofInt 32 a ||| BitVec.ofInt 32 b | .xor => BitVec.ofInt 32 a ^^^ BitVec.ofInt 32 b | _ => BitVec.ofInt 32 a &&& ~~~ BitVec.ofInt 32 b).toNat : Nat) : Int) := by
  unfold bits
  have h : ∀ v : BitVec 32, IntKind.u32.wrap (v.toNat : Int) = (v.toNat : Int) := by
    intro v
    have := v.isLt
    simp [IntKind.wrap, IntKind.bits, IntKind.signed]
    omega
  cases op <;> exact h _
theorem u32_xor (a b : Nat) : bits .xor .u32 (a : Int) (b : Int) = ((xor32 a b : Nat) : Int) := by
  rw [bits_u32]
  simp only [BitVec.toNat_xor, ofInt32, xor32]
  rw [show (4294967296 : Nat) = 2 ^ 32 from rfl, Nat.xor_mod_two_pow]
theorem u32_and (a b : Nat) : bits .and .u32 (a : Int) (b : Int) = ((and32 a b : Nat) : Int) := by
  rw [bits_u32]
  simp only [BitVec.toNat_and, ofInt32, and32]
  rw [show (4294967296 : Nat) = 2 ^ 32 from rfl, Nat.and_mod_two_pow]
theorem u32_or (a b : Nat) : bits .or .u32 (a : Int) (b : Int) = ((or32 a b : Nat) : Int) := by
  rw [bits_u32]
  simp only [BitVec.toNat_or, ofInt32, or32]
  rw [show (4294967296 : Nat) = 2 ^ 32 from rfl, Nat.or_mod_two_pow]
theorem u32_shlor (x c : Nat) : bits .or .u32 ((x : Int) * 256 % 4294967296) (c : Int) = ((shlor x c : Nat) : Int) := by
  rw [show ((x : Int) * 256 % 4294967296) = ((x * 256 % 4294967296 : Nat) : Int) by omega, u32_or]; rfl
theorem u32_shr3 (x : Nat) : (x : Int) / 8 = ((shr3 x : Nat) : Int) := by unfold shr3; omega
theorem u32_shr10 (x : Nat) : (x : Int) / 1024 = ((shr10 x : Nat) : Int) := by unfold shr10; omega
theorem am2 : bits .and .u64 (IntKind.u64.wrap (-2)) 31 = 30 := by decide +kernel
theorem r2 (x : Nat) : bits .or .u32 ((x : Int) * 1073741824 % 4294967296) ((x : Int) / 4) = ((rot32 2 x : Nat) : Int) := by
  rw [show ((x : Int) * 1073741824 % 4294967296) = ((x * 1073741824 % 4294967296 : Nat) : Int) by omega, show (x : Int) / 4 = ((x / 4 : Nat) : Int) by omega, u32_or]; rfl
theorem rot2 (x : Nat) (w : World) : Calls Tryd.prog 55 #[.int .u32 x, .int .i64 (-2)] w fun e w' => e = .returned (.int .u32 (rot32 2 x : Nat)) ∧ w = w' := by
  have h := am2
  go_enter Tryd.func55, Tryd.ntmps55
  go_wp2
  go_ret
  exact ⟨ret_int (r2 x), rfl⟩
theorem turn2 (x : Nat) (w : World) : Calls Tryd.prog 54 #[.int .u32 x, .int .i64 2] w fun e w' => e = .returned (.int .u32 (rot32 2 x : Nat)) ∧ w = w' := by
  go_enter Tryd.func54, Tryd.ntmps54
  go_wp2_with fail
  refine (rot2 x w).mono ?_
  rintro e w' ⟨rfl, rfl⟩
  go_wp2
  go_ret
  exact ⟨rfl, rfl⟩

theorem am6 : bits .and .u64 (IntKind.u64.wrap (-6)) 31 = 26 := by decide +kernel
theorem r6 (x : Nat) : bits .or .u32 ((x : Int) * 67108864 % 4294967296) ((x : Int) / 64) = ((rot32 6 x : Nat) : Int) := by
  rw [show ((x : Int) * 67108864 % 4294967296) = ((x * 67108864 % 4294967296 : Nat) : Int) by omega, show (x : Int) / 64 = ((x / 64 : Nat) : Int) by omega, u32_or]; rfl
theorem rot6 (x : Nat) (w : World) : Calls Tryd.prog 55 #[.int .u32 x, .int .i64 (-6)] w fun e w' => e = .returned (.int .u32 (rot32 6 x : Nat)) ∧ w = w' := by
  have h := am6
  go_enter Tryd.func55, Tryd.ntmps55
  go_wp2
  go_ret
  exact ⟨ret_int (r6 x), rfl⟩
theorem turn6 (x : Nat) (w : World) : Calls Tryd.prog 54 #[.int .u32 x, .int .i64 6] w fun e w' => e = .returned (.int .u32 (rot32 6 x : Nat)) ∧ w = w' := by
  go_enter Tryd.func54, Tryd.ntmps54
  go_wp2_with fail
  refine (rot6 x w).mono ?_
  rintro e w' ⟨rfl, rfl⟩
  go_wp2
  go_ret
  exact ⟨rfl, rfl⟩

theorem am7 : bits .and .u64 (IntKind.u64.wrap (-7)) 31 = 25 := by decide +kernel
theorem r7 (x : Nat) : bits .or .u32 ((x : Int) * 33554432 % 4294967296) ((x : Int) / 128) = ((rot32 7 x : Nat) : Int) := by
  rw [show ((x : Int) * 33554432 % 4294967296) = ((x * 33554432 % 4294967296 : Nat) : Int) by omega, show (x : Int) / 128 = ((x / 128 : Nat) : Int) by omega, u32_or]; rfl
theorem rot7 (x : Nat) (w : World) : Calls Tryd.prog 55 #[.int .u32 x, .int .i64 (-7)] w fun e w' => e = .returned (.int .u32 (rot32 7 x : Nat)) ∧ w = w' := by
  have h := am7
  go_enter Tryd.func55, Tryd.ntmps55
  go_wp2
  go_ret
  exact ⟨ret_int (r7 x), rfl⟩
theorem turn7 (x : Nat) (w : World) : Calls Tryd.prog 54 #[.int .u32 x, .int .i64 7] w fun e w' => e = .returned (.int .u32 (rot32 7 x : Nat)) ∧ w = w' := by
  go_enter Tryd.func54, Tryd.ntmps54
  go_wp2_with fail
  refine (rot7 x w).mono ?_
  rintro e w' ⟨rfl, rfl⟩
  go_wp2
  go_ret
  exact ⟨rfl, rfl⟩

theorem am11 : bits .and .u64 (IntKind.u64.wrap (-11)) 31 = 21 := by decide +kernel
theorem r11 (x : Nat) : bits .or .u32 ((x : Int) * 2097152 % 4294967296) ((x : Int) / 2048) = ((rot32 11 x : Nat) : Int) := by
  rw [show ((x : Int) * 2097152 % 4294967296) = ((x * 2097152 % 4294967296 : Nat) : Int) by omega, show (x : Int) / 2048 = ((x / 2048 : Nat) : Int) by omega, u32_or]; rfl
theorem rot11 (x : Nat) (w : World) : Calls Tryd.prog 55 #[.int .u32 x, .int .i64 (-11)] w fun e w' => e = .returned (.int .u32 (rot32 11 x : Nat)) ∧ w = w' := by
  have h := am11
  go_enter Tryd.func55, Tryd.ntmps55
  go_wp2
  go_ret
  exact ⟨ret_int (r11 x), rfl⟩
theorem turn11 (x : Nat) (w : World) : Calls Tryd.prog 54 #[.int .u32 x, .int .i64 11] w fun e w' => e = .returned (.int .u32 (rot32 11 x : Nat)) ∧ w = w' := by
  go_enter Tryd.func54, Tryd.ntmps54
  go_wp2_with fail
  refine (rot11 x w).mono ?_
  rintro e w' ⟨rfl, rfl⟩
  go_wp2
  go_ret
  exact ⟨rfl, rfl⟩

theorem am13 : bits .and .u64 (IntKind.u64.wrap (-13)) 31 = 19 := by decide +kernel
theorem r13 (x : Nat) : bits .or .u32 ((x : Int) * 524288 % 4294967296) ((x : Int) / 8192) = ((rot32 13 x : Nat) : Int) := by
  rw [show ((x : Int) * 524288 % 4294967296) = ((x * 524288 % 4294967296 : Nat) : Int) by omega, show (x : Int) / 8192 = ((x / 8192 : Nat) : Int) by omega, u32_or]; rfl
theorem rot13 (x : Nat) (w : World) : Calls Tryd.prog 55 #[.int .u32 x, .int .i64 (-13)] w fun e w' => e = .returned (.int .u32 (rot32 13 x : Nat)) ∧ w = w' := by
  have h := am13
  go_enter Tryd.func55, Tryd.ntmps55
  go_wp2
  go_ret
  exact ⟨ret_int (r13 x), rfl⟩
theorem turn13 (x : Nat) (w : World) : Calls Tryd.prog 54 #[.int .u32 x, .int .i64 13] w fun e w' => e = .returned (.int .u32 (rot32 13 x : Nat)) ∧ w = w' := by
  go_enter Tryd.func54, Tryd.ntmps54
  go_wp2_with fail
  refine (rot13 x w).mono ?_
  rintro e w' ⟨rfl, rfl⟩
  go_wp2
  go_ret
  exact ⟨rfl, rfl⟩

theorem am17 : bits .and .u64 (IntKind.u64.wrap (-17)) 31 = 15 := by decide +kernel
theorem r17 (x : Nat) : bits .or .u32 ((x : Int) * 32768 % 4294967296) ((x : Int) / 131072) = ((rot32 17 x : Nat) : Int) := by
  rw [show ((x : Int) * 32768 % 4294967296) = ((x * 32768 % 4294967296 : Nat) : Int) by omega, show (x : Int) / 131072 = ((x / 131072 : Nat) : Int) by omega, u32_or]; rfl
theorem rot17 (x : Nat) (w : World) : Calls Tryd.prog 55 #[.int .u32 x, .int .i64 (-17)] w fun e w' => e = .returned (.int .u32 (rot32 17 x : Nat)) ∧ w = w' := by
  have h := am17
  go_enter Tryd.func55, Tryd.ntmps55
  go_wp2
  go_ret
  exact ⟨ret_int (r17 x), rfl⟩
theorem turn17 (x : Nat) (w : World) : Calls Tryd.prog 54 #[.int .u32 x, .int .i64 17] w fun e w' => e = .returned (.int .u32 (rot32 17 x : Nat)) ∧ w = w' := by
  go_enter Tryd.func54, Tryd.ntmps54
  go_wp2_with fail
  refine (rot17 x w).mono ?_
  rintro e w' ⟨rfl, rfl⟩
  go_wp2
  go_ret
  exact ⟨rfl, rfl⟩

theorem am18 : bits .and .u64 (IntKind.u64.wrap (-18)) 31 = 14 := by decide +kernel
theorem r18 (x : Nat) : bits .or .u32 ((x : Int) * 16384 % 4294967296) ((x : Int) / 262144) = ((rot32 18 x : Nat) : Int) := by
  rw [show ((x : Int) * 16384 % 4294967296) = ((x * 16384 % 4294967296 : Nat) : Int) by omega, show (x : Int) / 262144 = ((x / 262144 : Nat) : Int) by omega, u32_or]; rfl
theorem rot18 (x : Nat) (w : World) : Calls Tryd.prog 55 #[.int .u32 x, .int .i64 (-18)] w fun e w' => e = .returned (.int .u32 (rot32 18 x : Nat)) ∧ w = w' := by
  have h := am18
  go_enter Tryd.func55, Tryd.ntmps55
  go_wp2
  go_ret
  exact ⟨ret_int (r18 x), rfl⟩
theorem turn18 (x : Nat) (w : World) : Calls Tryd.prog 54 #[.int .u32 x, .int .i64 18] w fun e w' => e = .returned (.int .u32 (rot32 18 x : Nat)) ∧ w = w' := by
  go_enter Tryd.func54, Tryd.ntmps54
  go_wp2_with fail
  refine (rot18 x w).mono ?_
  rintro e w' ⟨rfl, rfl⟩
  go_wp2
  go_ret
  exact ⟨rfl, rfl⟩

theorem am19 : bits .and .u64 (IntKind.u64.wrap (-19)) 31 = 13 := by decide +kernel
theorem r19 (x : Nat) : bits .or .u32 ((x : Int) * 8192 % 4294967296) ((x : Int) / 524288) = ((rot32 19 x : Nat) : Int) := by
  rw [show ((x : Int) * 8192 % 4294967296) = ((x * 8192 % 4294967296 : Nat) : Int) by omega, show (x : Int) / 524288 = ((x / 524288 : Nat) : Int) by omega, u32_or]; rfl
theorem rot19 (x : Nat) (w : World) : Calls Tryd.prog 55 #[.int .u32 x, .int .i64 (-19)] w fun e w' => e = .returned (.int .u32 (rot32 19 x : Nat)) ∧ w = w' := by
  have h := am19
  go_enter Tryd.func55, Tryd.ntmps55
  go_wp2
  go_ret
  exact ⟨ret_int (r19 x), rfl⟩
theorem turn19 (x : Nat) (w : World) : Calls Tryd.prog 54 #[.int .u32 x, .int .i64 19] w fun e w' => e = .returned (.int .u32 (rot32 19 x : Nat)) ∧ w = w' := by
  go_enter Tryd.func54, Tryd.ntmps54
  go_wp2_with fail
  refine (rot19 x w).mono ?_
  rintro e w' ⟨rfl, rfl⟩
  go_wp2
  go_ret
  exact ⟨rfl, rfl⟩

theorem am22 : bits .and .u64 (IntKind.u64.wrap (-22)) 31 = 10 := by decide +kernel
theorem r22 (x : Nat) : bits .or .u32 ((x : Int) * 1024 % 4294967296) ((x : Int) / 4194304) = ((rot32 22 x : Nat) : Int) := by
  rw [show ((x : Int) * 1024 % 4294967296) = ((x * 1024 % 4294967296 : Nat) : Int) by omega, show (x : Int) / 4194304 = ((x / 4194304 : Nat) : Int) by omega, u32_or]; rfl
theorem rot22 (x : Nat) (w : World) : Calls Tryd.prog 55 #[.int .u32 x, .int .i64 (-22)] w fun e w' => e = .returned (.int .u32 (rot32 22 x : Nat)) ∧ w = w' := by
  have h := am22
  go_enter Tryd.func55, Tryd.ntmps55
  go_wp2
  go_ret
  exact ⟨ret_int (r22 x), rfl⟩
theorem turn22 (x : Nat) (w : World) : Calls Tryd.prog 54 #[.int .u32 x, .int .i64 22] w fun e w' => e = .returned (.int .u32 (rot32 22 x : Nat)) ∧ w = w' := by
  go_enter Tryd.func54, Tryd.ntmps54
  go_wp2_with fail
  refine (rot22 x w).mono ?_
  rintro e w' ⟨rfl, rfl⟩
  go_wp2
  go_ret
  exact ⟨rfl, rfl⟩

theorem am25 : bits .and .u64 (IntKind.u64.wrap (-25)) 31 = 7 := by decide +kernel
theorem r25 (x : Nat) : bits .or .u32 ((x : Int) * 128 % 4294967296) ((x : Int) / 33554432) = ((rot32 25 x : Nat) : Int) := by
  rw [show ((x : Int) * 128 % 4294967296) = ((x * 128 % 4294967296 : Nat) : Int) by omega, show (x : Int) / 33554432 = ((x / 33554432 : Nat) : Int) by omega, u32_or]; rfl
theorem rot25 (x : Nat) (w : World) : Calls Tryd.prog 55 #[.int .u32 x, .int .i64 (-25)] w fun e w' => e = .returned (.int .u32 (rot32 25 x : Nat)) ∧ w = w' := by
  have h := am25
  go_enter Tryd.func55, Tryd.ntmps55
  go_wp2
  go_ret
  exact ⟨ret_int (r25 x), rfl⟩
theorem turn25 (x : Nat) (w : World) : Calls Tryd.prog 54 #[.int .u32 x, .int .i64 25] w fun e w' => e = .returned (.int .u32 (rot32 25 x : Nat)) ∧ w = w' := by
  go_enter Tryd.func54, Tryd.ntmps54
  go_wp2_with fail
  refine (rot25 x w).mono ?_
  rintro e w' ⟨rfl, rfl⟩
  go_wp2
  go_ret
  exact ⟨rfl, rfl⟩
end Go.Proofs.YtdlhpmbgpjjkoaaDoor
