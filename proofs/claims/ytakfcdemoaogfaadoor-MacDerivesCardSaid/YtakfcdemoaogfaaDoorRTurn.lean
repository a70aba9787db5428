/-
  Proved here: the document's own 'turn' and 'down' are the program's turn of a word, and its bits moved down; and its 'prime'.
-/
import Derived.Test.YtakfcdemoaogfaaDoorSMem
namespace Go.Proofs.YtakfcdemoaogfaaDoor
open Go.RowKit
/-- A word turned by one place. -/
def rot1 (x : Nat) : Nat := x / 2 + x % 2 * 2147483648
def iter (f : Nat → Nat) : Nat → Nat → Nat
  | 0, x => x
  | n + 1, x => iter f n (f x)
def half (x : Nat) : Nat := x / 2
theorem rturn_any (n x : Nat) (w : World) (hx : x < 4294967296) (hn : n < 100) : Calls Tryd.prog 41 #[.int .u32 x, .int .u32 n] w fun e w' => e = .returned (.int .u32 (iter rot1 n x : Nat)) ∧ w = w' := by
  go_enter Tryd.func41, Tryd.ntmps41
  go_wp2
  go_loop [0, 5] (fun v i => ∃ (k y : Nat), k ≤ n ∧ i = .int .u32 (k : Int) ∧ v = .int .u32 (y : Int) ∧ y < 4294967296 ∧ Hid (iter rot1 (n - k) y = iter rot1 n x)) (fun _ i => n - (intOf i).toNat)
  case atStart => exact ⟨0, x, by omega, rfl, rfl, hx, Lib.hid rfl⟩
  case round =>
    obtain ⟨k, y, hk, rfl, rfl, hy, HR⟩ := hrel
    by_cases hlt : k < n
    · obtain ⟨z, hz⟩ : ∃ z, rot1 y = z := ⟨_, rfl⟩
      have hz' := hz
      unfold rot1 at hz'
      have r1 : (y : Int) / 2 + (y : Int) % 2 * 2147483648 = (z : Int) := by omega
      have hz4 : z < 4294967296 := by omega
      clear hz'
      have HZ := Lib.hid hz
      clear hz
      go_wp2
      go_round
      case rel => exact ⟨k + 1, z, by omega, by go_num, rfl, hz4, by have := HR.out; rw [show n - k = (n - (k + 1)) + 1 by omega, iter, HZ.out] at this; exact this⟩
      case measure => simp [intOf]; omega
    · obtain rfl : k = n := by omega
      have hr := HR.out
      rw [Nat.sub_self] at hr
      go_wp2
      go_ret
      exact ⟨by rw [← hr]; rfl, rfl⟩
theorem rdown_any (n x : Nat) (w : World) (hx : x < 4294967296) (hn : n < 100) : Calls Tryd.prog 45 #[.int .u32 x, .int .u32 n] w fun e w' => e = .returned (.int .u32 (iter half n x : Nat)) ∧ w = w' := by
  go_enter Tryd.func45, Tryd.ntmps45
  go_wp2
  go_loop [0, 5] (fun v i => ∃ (k y : Nat), k ≤ n ∧ i = .int .u32 (k : Int) ∧ v = .int .u32 (y : Int) ∧ y < 4294967296 ∧ Hid (iter half (n - k) y = iter half n x)) (fun _ i => n - (intOf i).toNat)
  case atStart => exact ⟨0, x, by omega, rfl, rfl, hx, Lib.hid rfl⟩
  case round =>
    obtain ⟨k, y, hk, rfl, rfl, hy, HR⟩ := hrel
    by_cases hlt : k < n
    · obtain ⟨z, hz⟩ : ∃ z, half y = z := ⟨_, rfl⟩
      have hz' := hz
      unfold half at hz'
      have r1 : (y : Int) / 2 = (z : Int) := by omega
      have hz4 : z < 4294967296 := by omega
      clear hz'
      have HZ := Lib.hid hz
      clear hz
      go_wp2
      go_round
      case rel => exact ⟨k + 1, z, by omega, by go_num, rfl, hz4, by have := HR.out; rw [show n - k = (n - (k + 1)) + 1 by omega, iter, HZ.out] at this; exact this⟩
      case measure => simp [intOf]; omega
    · obtain rfl : k = n := by omega
      have hr := HR.out
      rw [Nat.sub_self] at hr
      go_wp2
      go_ret
      exact ⟨by rw [← hr]; rfl, rfl⟩
/-- No number from i on, below n, goes into it. -/
def noneIn (n : Nat) : Nat → Nat → Bool
  | 0, _ => true
  | f + 1, i => if i < n then (if n % i = 0 then false else noneIn n f (i + 1)) else true
def primeS (n : Nat) : Bool := noneIn n n 2 && decide (1 < n)
theorem prime_any (n : Nat) (w : World) (hn : n < 100000) : Calls Tryd.prog 34 #[.int .u64 n] w fun e w' => e = .returned (.bool (primeS n)) ∧ w = w' := by
  have HP := Lib.hid (show primeS n = (noneIn n n 2 && decide (1 < n)) from rfl)
  generalize primeS n = p at HP ⊢
  go_enter Tryd.func34, Tryd.ntmps34
  go_wp2
  go_loop [3] (fun i => ∃ (k f : Nat), 2 ≤ k ∧ (k ≤ n ∨ k = 2) ∧ n ≤ f + k ∧ i = .int .u64 (k : Int) ∧ Hid (p = (noneIn n f k && decide (1 < n)))) (fun i => n - (intOf i).toNat)
  case atStart => exact ⟨2, n, by omega, by omega, by omega, rfl, HP⟩
  case round =>
    obtain ⟨k, f, h2, hk, hf, rfl, HR⟩ := hrel
    clear HP
    have hk0 : ((k : Int) == 0) = false := by rw [beq_eq_false_iff_ne]; omega
    by_cases hlt : k < n
    · obtain ⟨f, rfl⟩ : ∃ g, f = g + 1 := ⟨f - 1, by omega⟩
      by_cases h0 : n % k = 0
      · have r1 : (n : Int) % (k : Int) = 0 := by rw [← Int.natCast_emod]; omega
        have hr := HR.out
        rw [noneIn, if_pos hlt, if_pos h0, Bool.false_and] at hr
        subst hr
        clear h0 HR
        go_wp2
        go_ret
        exact ⟨rfl, rfl⟩
      · obtain ⟨m, hm⟩ : ∃ m, n % k = m := ⟨_, rfl⟩
        have r1 : (n : Int) % (k : Int) = (m : Int) := by rw [← Int.natCast_emod]; omega
        have r2 : ((m : Int) == 0) = false := by rw [beq_eq_false_iff_ne]; omega
        have hr := HR.out
        rw [noneIn, if_pos hlt, if_neg h0] at hr
        have HR2 := Lib.hid hr
        clear h0 HR hm hr
        go_wp2
        go_round
        case rel => exact ⟨k + 1, f, by omega, by omega, by omega, by go_num, HR2⟩
        case measure => simp [intOf]; omega
    · have hr := HR.out
      have hnn : noneIn n f k = true := by cases f <;> simp [noneIn, hlt]
      rw [hnn, Bool.true_and] at hr
      clear HR hnn
      go_wp2
      go_ret
      subst hr
      exact ⟨by simp <;> omega, rfl⟩
end Go.Proofs.YtakfcdemoaogfaaDoor
