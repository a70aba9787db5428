/-
  Proved here: the document's own 'words' of a block are the program's.
-/
import Derived.Test.YtakfcdemoaogfaaDoorRConst
import Derived.Deep.QuietTactic
import Derived.BigQuiet
namespace Go.Proofs.YtakfcdemoaogfaaDoor
open Go.RowKit
theorem or_low (a c n : Nat) (h : c < 2 ^ n) : 2 ^ n * a ||| c = 2 ^ n * a + c := (Nat.two_pow_add_eq_or_of_lt h a).symm
theorem iter_rot : ∀ (n x : Nat), n ≤ 32 → iter rot1 n x = x / 2 ^ n + x % 2 ^ n * 2 ^ (32 - n)
  | 0, x, _ => by simp [iter, Nat.mod_one]
  | n + 1, x, h => by
    rw [iter, iter_rot n (rot1 x) (by omega), rot1]
    have e1 : (2147483648 : Nat) = 2 ^ n * 2 ^ (31 - n) := by rw [← Nat.pow_add, show n + (31 - n) = 31 by omega]
    have hp : 0 < 2 ^ n := Nat.two_pow_pos n
    have e2 : x / 2 + x % 2 * 2147483648 = x / 2 + 2 ^ n * (x % 2 * 2 ^ (31 - n)) := by rw [e1, ← Nat.mul_assoc, Nat.mul_comm (x % 2), Nat.mul_assoc]
    rw [e2, Nat.add_mul_div_left _ _ hp, Nat.add_mul_mod_self_left, Nat.div_div_eq_div_mul, show 2 * 2 ^ n = 2 ^ (n + 1) by rw [Nat.pow_succ, Nat.mul_comm]]
    have e3 : x % 2 ^ (n + 1) = x % 2 + 2 * (x / 2 % 2 ^ n) := by rw [Nat.pow_succ, Nat.mul_comm (2 ^ n) 2, Nat.mod_mul]
    rw [e3, show 32 - n = (31 - n) + 1 by omega, show 32 - (n + 1) = 31 - n by omega, Nat.add_mul, Nat.pow_succ, Nat.add_assoc]
    congr 2
    rw [Nat.mul_comm 2, Nat.mul_assoc, Nat.mul_comm 2, Nat.pow_succ]
theorem rot_eq (n x : Nat) (h : n ≤ 32) (h0 : 0 < n) (hx : x < 4294967296) : iter rot1 n x = rot32 n x := by
  rw [iter_rot n x h, rot32, or32]
  have e : (4294967296 : Nat) = 2 ^ n * 2 ^ (32 - n) := by rw [← Nat.pow_add, show n + (32 - n) = 32 by omega]
  have hp : 0 < 2 ^ n := Nat.two_pow_pos n
  have h1 : x * 2 ^ (32 - n) % 4294967296 = 2 ^ (32 - n) * (x % 2 ^ n) := by rw [e, Nat.mul_mod_mul_right, Nat.mul_comm]
  have h2 : x / 2 ^ n < 2 ^ (32 - n) := by rw [Nat.div_lt_iff_lt_mul hp, Nat.mul_comm, ← e]; exact hx
  have h3 : x % 2 ^ n < 2 ^ n := Nat.mod_lt _ hp
  have h4 : 2 ^ (32 - n) * (x % 2 ^ n) + 2 ^ (32 - n) ≤ 2 ^ (32 - n) * 2 ^ n := by rw [← Nat.mul_succ]; exact Nat.mul_le_mul_left _ h3
  rw [Nat.mul_comm (2 ^ (32 - n)) (2 ^ n), ← e] at h4
  rw [h1, or_low _ _ _ h2, Nat.mul_comm (x % 2 ^ n)]
  generalize 2 ^ (32 - n) * (x % 2 ^ n) = P at h4 ⊢
  generalize x / 2 ^ n = Q at h2 ⊢
  generalize 2 ^ (32 - n) = T at h2 h4
  omega
theorem rturn_r (n x : Nat) (w : World) (hx : x < 4294967296) (h0 : 0 < n) (hn : n ≤ 32) : Calls Tryd.prog 41 #[.int .u32 x, .int .u32 n] w fun e w' => e = .returned (.int .u32 (rot32 n x : Nat)) ∧ w = w' := by
  rw [← rot_eq n x hn h0 hx]
  exact rturn_any n x w hx (by omega)
theorem rdown3 (x : Nat) (w : World) (hx : x < 4294967296) : Calls Tryd.prog 45 #[.int .u32 x, .int .u32 3] w fun e w' => e = .returned (.int .u32 (shr3 x : Nat)) ∧ w = w' := by
  have := rdown_any 3 x w hx (by omega)
  rw [show iter half 3 x = shr3 x by simp only [iter, half, shr3]; omega] at this
  exact this
theorem rdown10 (x : Nat) (w : World) (hx : x < 4294967296) : Calls Tryd.prog 45 #[.int .u32 x, .int .u32 10] w fun e w' => e = .returned (.int .u32 (shr10 x : Nat)) ∧ w = w' := by
  have := rdown_any 10 x w hx (by omega)
  rw [show iter half 10 x = shr10 x by simp only [iter, half, shr10]; omega] at this
  exact this
theorem shlor_add (x c : Nat) (hc : c < 256) : shlor x c = (x * 256 % 4294967296 + c) % 4294967296 := by
  unfold shlor or32
  have : x * 256 % 4294967296 = 2 ^ 8 * (x % 16777216) := by omega
  rw [this, or_low _ _ 8 hc]
/-- Four bytes, the greatest first. -/
def word4 (b : List Nat) (i : Nat) : Nat := 16777216 * b.getD (4 * i) 0 + 65536 * b.getD (4 * i + 1) 0 + 256 * b.getD (4 * i + 2) 0 + b.getD (4 * i + 3) 0
theorem shlor4 (a b c d : Nat) (ha : a < 256) (hb : b < 256) (hc : c < 256) (hd : d < 256) : shlor (shlor (shlor (shlor 0 a) b) c) d = 16777216 * a + 65536 * b + 256 * c + d := by
  rw [shlor_add _ _ hd, shlor_add _ _ hc, shlor_add _ _ hb, shlor_add _ _ ha]
  omega
theorem wl1_zero (blk : List Nat) : ∀ n i, n ≤ 4 * i → (wl1 blk n).getD i 0 = 0
  | 0, i, _ => by
    simp only [wl1, List.getD_eq_getElem?_getD, List.getElem?_replicate]
    split <;> rfl
  | n + 1, i, h => by
    have z := wl1_zero blk n i (by omega)
    rw [wl1]
    have : ¬ n / 4 = i := by omega
    simpa [List.getD_eq_getElem?_getD, this] using z
theorem getD_set_same {l : List Nat} {i v : Nat} (h : i < l.length) : (l.set i v).getD i 0 = v := by simp [List.getD_eq_getElem?_getD, h]
theorem wl1_four (blk : List Nat) (hb : ∀ j, blk.getD j 0 < 256) (i : Nat) (hi : i < 16) : wl1 blk (4 * (i + 1)) = (wl1 blk (4 * i)).set i (word4 blk i) := by
  have hl : ∀ n, i < (wl1 blk n).length := fun n => by rw [length_wl1]; omega
  have z := wl1_zero blk (4 * i) i (Nat.le_refl _)
  have hl' : ∀ v, i < ((wl1 blk (4 * i)).set i v).length := fun v => by rw [List.length_set]; exact hl _
  rw [show 4 * (i + 1) = 4 * i + 1 + 1 + 1 + 1 by omega, wl1, wl1, wl1, wl1, show 4 * i / 4 = i by omega, show (4 * i + 1) / 4 = i by omega, show (4 * i + 1 + 1) / 4 = i by omega, show (4 * i + 1 + 1 + 1) / 4 = i by omega, z]
  simp only [List.set_set, getD_set_same (hl _)]
  rw [shlor4 _ _ _ _ (hb _) (hb _) (hb _) (hb _)]
  rfl
theorem take_set_succ {l : List Nat} {i v : Nat} (h : i < l.length) : (l.set i v).take (i + 1) = l.take i ++ [v] := by
  rw [List.take_succ_eq_append_getElem (by simpa using h)]
  simp [List.take_set]
  exact List.set_eq_of_length_le (by simp; omega)
theorem take_words (blk : List Nat) (hb : ∀ j, blk.getD j 0 < 256) (i : Nat) (hi : i < 16) : (wl1 blk (4 * (i + 1))).take (i + 1) = (wl1 blk (4 * i)).take i ++ [word4 blk i] := by
  rw [wl1_four blk hb i hi, take_set_succ (by rw [length_wl1]; omega)]
theorem getD_take' {l : List Nat} {i n : Nat} (h : i < n) : (l.take n).getD i 0 = l.getD i 0 := by simp [List.getD_eq_getElem?_getD, h]
theorem take_next (l : List Nat) (hl : l.length = 64) (k : Nat) (hk : k < 48) : (wl2 l (k + 1)).take (16 + (k + 1)) = (wl2 l k).take (16 + k) ++ [wnext ((wl2 l k).take (16 + k)) k] := by
  rw [wl2, show 16 + (k + 1) = 16 + k + 1 by omega, take_set_succ (by rw [length_wl2 l hl]; omega)]
  congr 2
  simp only [wnext, getD_take' (show k < 16 + k by omega), getD_take' (show k + 9 < 16 + k by omega), getD_take' (show k + 1 < 16 + k by omega), getD_take' (show k + 14 < 16 + k by omega)]
theorem wnext_lt (p : List Nat) (k : Nat) : wnext p k < 4294967296 := by unfold wnext add32; omega
theorem word4_lt (b : List Nat) (hb : ∀ j, b.getD j 0 < 256) (i : Nat) : word4 b i < 4294967296 := by
  have h0 := hb (4 * i)
  have h1 := hb (4 * i + 1)
  have h2 := hb (4 * i + 2)
  have h3 := hb (4 * i + 3)
  unfold word4
  omega
end Go.Proofs.YtakfcdemoaogfaaDoor
