/-
  Proved here: numbers as bytes, as the document has them: what XVSize, XVPut and XVGet hold of numbers alone, without a function of the program. (Not to be imported beside those.)
-/
import Derived.Test.YtjihcpnaebghnaaDoorBz
import Derived.WalkKit
import Derived.Handy
import Derived.Lib.Hide
import Derived.Maps.AppendAt
namespace Go.Proofs.YtjihcpnaebghnaaDoor
open Go.RowKit
/-- How many bytes a number has; 0 if it has none. -/
def szOf (v : Int) : Int := if v < 64 then 1 else if v < 16384 then 2 else if v < 1073741824 then 4 else if v < 4611686018427387904 then 8 else 0
/-- The lowest n bytes of a number, the greatest first. -/
def digs : Nat → Int → List Int
  | 0, _ => []
  | j + 1, V => V / 2 ^ (8 * j) % 256 :: digs j V
theorem digs_length : ∀ (n : Nat) (V : Int), (digs n V).length = n
  | 0, _ => rfl
  | n + 1, V => by simp [digs, digs_length n V]
theorem digs_byte : ∀ (n : Nat) (V : Int), ∀ x ∈ digs n V, 0 ≤ x ∧ x < 256
  | 0, _ => by simp [digs]
  | n + 1, V => by
    intro x hx
    rcases List.mem_cons.1 hx with rfl | hx
    · constructor
      · exact Int.emod_nonneg _ (by omega)
      · exact Int.emod_lt_of_pos _ (by omega)
    · exact digs_byte n V x hx
def szN (v : Int) : Nat := if v < 64 then 1 else if v < 16384 then 2 else if v < 1073741824 then 4 else 8
def topV (v : Int) : Int := if v < 64 then v else if v < 16384 then v + 16384 else if v < 1073741824 then v + 2147483648 else v + 13835058055282163712
/-- A number's bytes, as the document has them. -/
def numB (v : Int) : List Int := digs (szN v) (topV v)
theorem numB_length (v : Int) : (numB v).length = szN v := digs_length _ _
theorem numB_byte (v : Int) : ∀ x ∈ numB v, 0 ≤ x ∧ x < 256 := digs_byte _ _
theorem szN_le (v : Int) : 1 ≤ szN v ∧ szN v ≤ 8 := by
  unfold szN
  split
  · omega
  · split
    · omega
    · split <;> omega
theorem szOf_szN {v : Int} (h : v < 4611686018427387904) : szOf v = (szN v : Int) := by
  unfold szOf szN
  repeat' split
  all_goals first | rfl | omega
theorem topV_bd {v : Int} (h0 : 0 ≤ v) (h1 : v < 4611686018427387904) : 0 ≤ topV v ∧ topV v < 18446744073709551616 := by
  unfold topV
  repeat' split
  all_goals omega
theorem or_add (lo hi : Int) (i k : Nat) (h0 : 0 ≤ lo) (h1 : lo < 18446744073709551616) (h2 : 0 ≤ hi) (h3 : hi < 18446744073709551616) (hl : lo.toNat < 2 ^ i) (hh : hi.toNat = 2 ^ i * k) : bits .or .u64 lo hi = lo + hi := by
  rw [u64_or lo hi h0 h1 h2 h3, Nat.or_comm, hh, ← Nat.two_pow_add_eq_or_of_lt hl]
  omega
theorem or0 {v : Int} (h0 : 0 ≤ v) (h1 : v < 64) : bits .or .u64 v 0 = topV v := by
  rw [or_add v 0 6 0 h0 (by omega) (by omega) (by omega) (by omega) (by omega), topV, if_pos h1]; omega
theorem or1 {v : Int} (h0 : 64 ≤ v) (h1 : v < 16384) : bits .or .u64 v 16384 = topV v := by
  rw [or_add v 16384 14 1 (by omega) (by omega) (by omega) (by omega) (by omega) (by omega), topV, if_neg (by omega), if_pos h1]
theorem or2 {v : Int} (h0 : 16384 ≤ v) (h1 : v < 1073741824) : bits .or .u64 v 2147483648 = topV v := by
  rw [or_add v 2147483648 30 2 (by omega) (by omega) (by omega) (by omega) (by omega) (by omega), topV, if_neg (by omega), if_neg (by omega), if_pos h1]
theorem or3 {v : Int} (h0 : 1073741824 ≤ v) (h1 : v < 4611686018427387904) : bits .or .u64 v 13835058055282163712 = topV v := by
  rw [or_add v 13835058055282163712 62 3 (by omega) (by omega) (by omega) (by omega) (by omega) (by omega), topV, if_neg (by omega), if_neg (by omega), if_neg (by omega)]
theorem szN0 {v : Int} (h1 : v < 64) : szN v = 1 := by rw [szN, if_pos h1]
theorem szN1 {v : Int} (h0 : 64 ≤ v) (h1 : v < 16384) : szN v = 2 := by rw [szN, if_neg (by omega), if_pos h1]
theorem szN2 {v : Int} (h0 : 16384 ≤ v) (h1 : v < 1073741824) : szN v = 4 := by rw [szN, if_neg (by omega), if_neg (by omega), if_pos h1]
theorem szN3 {v : Int} (h0 : 1073741824 ≤ v) : szN v = 8 := by rw [szN, if_neg (by omega), if_neg (by omega), if_neg (by omega)]
/-- How many bytes a number has whose first byte is x. -/
def need (x : Int) : Nat := if x < 64 then 1 else if x < 128 then 2 else if x < 192 then 4 else 8
/-- What the byte at k, and i more behind it, come to. -/
def acc (bs : List Int) (k : Nat) : Nat → Int
  | 0 => bs.getD k 0 % 64
  | i + 1 => acc bs k i * 256 + bs.getD (k + 1 + i) 0
theorem acc_bd {bs : List Int} (h : Bytes bs) (k : Nat) : ∀ i, 0 ≤ acc bs k i ∧ acc bs k i < 64 * 256 ^ i
  | 0 => by simp only [acc]; omega
  | i + 1 => by
    obtain ⟨a, b⟩ := acc_bd h k i
    obtain ⟨c, d⟩ := h (k + 1 + i)
    simp only [acc, Int.pow_succ]
    omega
theorem acc_small {bs : List Int} (h : Bytes bs) (k i : Nat) (hi : i < 7) : 0 ≤ acc bs k i ∧ acc bs k i < 18014398509481984 := by
  obtain ⟨a, b⟩ := acc_bd h k i
  refine ⟨a, Int.lt_of_lt_of_le b ?_⟩
  match i, hi with
  | 0, _ => omega
  | 1, _ => omega
  | 2, _ => omega
  | 3, _ => omega
  | 4, _ => omega
  | 5, _ => omega
  | 6, _ => omega
theorem acc_fits {bs : List Int} (h : Bytes bs) (k i : Nat) (hi : i < 8) : 0 ≤ acc bs k i ∧ acc bs k i < 4611686018427387904 := by
  obtain ⟨a, b⟩ := acc_bd h k i
  refine ⟨a, Int.lt_of_lt_of_le b ?_⟩
  match i, hi with
  | 0, _ => omega
  | 1, _ => omega
  | 2, _ => omega
  | 3, _ => omega
  | 4, _ => omega
  | 5, _ => omega
  | 6, _ => omega
  | 7, _ => omega
theorem or_low {a c : Int} (h0 : 0 ≤ a) (h1 : a < 18014398509481984) (h2 : 0 ≤ c) (h3 : c < 256) : bits .or .u64 (a * 256) c = a * 256 + c := by
  rw [u64_or (a * 256) c (by omega) (by omega) h2 (by omega)]
  have e : (a * 256).toNat = 2 ^ 8 * a.toNat := by omega
  rw [e, ← Nat.two_pow_add_eq_or_of_lt (by omega)]
  omega
/-- What Get answers: the number, the place behind it, the error. -/
def getS (bs : List Int) (p : Int) : Int × Int × Int :=
  if p < 0 ∨ (bs.length : Int) < p then (0, 0, 1)
  else if bs.length - p.toNat < need (bs.getD p.toNat 0) ∨ p.toNat = bs.length then (0, 0, 10)
  else if szOf (acc bs p.toNat (need (bs.getD p.toNat 0) - 1)) = (need (bs.getD p.toNat 0) : Int) then (acc bs p.toNat (need (bs.getD p.toNat 0) - 1), p + need (bs.getD p.toNat 0), 0)
  else (0, 0, 3)
def GetPost (r : Int × Int × Int) (w : World) (e : Ending) (w' : World) : Prop := e = .returned (.tuple #[.int .u64 r.1, .int .i64 r.2.1, .int .i64 r.2.2]) ∧ w = w'
theorem need_cases (x : Int) (h0 : 0 ≤ x) (h1 : x < 256) : (x / 64 = 0 ∧ need x = 1) ∨ (x / 64 = 1 ∧ need x = 2) ∨ (x / 64 = 2 ∧ need x = 4) ∨ (x / 64 = 3 ∧ need x = 8) := by
  unfold need
  split
  · exact .inl ⟨by omega, rfl⟩
  · split
    · exact .inr (.inl ⟨by omega, rfl⟩)
    · split
      · exact .inr (.inr (.inl ⟨by omega, rfl⟩))
      · exact .inr (.inr (.inr ⟨by omega, rfl⟩))
def LoopPost (bs : List Int) (k n : Nat) (w : World) (e : Ending) (w' : World) : Prop :=
  GetPost (if szOf (acc bs k (n - 1)) = (n : Int) then (acc bs k (n - 1), (k : Int) + n, 0) else (0, 0, 3)) w e w'
theorem lp_yes {bs : List Int} {k n : Nat} {w : World} (h : szOf (acc bs k (n - 1)) = (n : Int)) : LoopPost bs k n w (.returned (.tuple #[.int .u64 (acc bs k (n - 1)), .int .i64 ((k : Int) + n), .int .i64 0])) w := by
  unfold LoopPost; rw [if_pos h]; exact ⟨rfl, rfl⟩
theorem lp_no {bs : List Int} {k n : Nat} {w : World} (h : ¬ szOf (acc bs k (n - 1)) = (n : Int)) : LoopPost bs k n w (.returned (.tuple #[.int .u64 0, .int .i64 0, .int .i64 3])) w := by
  unfold LoopPost; rw [if_neg h]; exact ⟨rfl, rfl⟩
theorem getS_ok {bs : List Int} (hB : Bytes bs) {p : Nat} (h : (getS bs (p : Int)).2.2 = 0) : 0 ≤ (getS bs (p : Int)).1 ∧ (getS bs (p : Int)).1 < 4611686018427387904 ∧ (p : Int) < (getS bs (p : Int)).2.1 ∧ (getS bs (p : Int)).2.1 ≤ (bs.length : Int) := by
  unfold getS at h ⊢
  rw [Int.toNat_natCast] at h ⊢
  by_cases h1 : (p : Int) < 0 ∨ (bs.length : Int) < (p : Int)
  · rw [if_pos h1] at h; simp at h
  · rw [if_neg h1] at h ⊢
    by_cases h2 : bs.length - p < need (bs.getD p 0) ∨ p = bs.length
    · rw [if_pos h2] at h; simp at h
    · rw [if_neg h2] at h ⊢
      by_cases h3 : szOf (acc bs p (need (bs.getD p 0) - 1)) = (need (bs.getD p 0) : Int)
      · rw [if_pos h3]
        have hn : 1 ≤ need (bs.getD p 0) ∧ need (bs.getD p 0) ≤ 8 := by
          have := need_cases (bs.getD p 0) (hB p).1 (hB p).2
          omega
        obtain ⟨a, b⟩ := acc_fits hB p (need (bs.getD p 0) - 1) (by omega)
        refine ⟨a, b, ?_, ?_⟩
        · show (p : Int) < (p : Int) + (need (bs.getD p 0) : Int)
          omega
        · show (p : Int) + (need (bs.getD p 0) : Int) ≤ _
          omega
      · rw [if_neg h3] at h; simp at h
theorem getS_ok1 {bs : List Int} (hB : Bytes bs) {p : Nat} (h : (getS bs ((p : Int) + 1)).2.2 = 0) : 0 ≤ (getS bs ((p : Int) + 1)).1 ∧ (getS bs ((p : Int) + 1)).1 < 4611686018427387904 ∧ (p : Int) + 1 < (getS bs ((p : Int) + 1)).2.1 ∧ (getS bs ((p : Int) + 1)).2.1 ≤ (bs.length : Int) := by
  have e : ((p : Int) + 1) = ((p + 1 : Nat) : Int) := by omega
  rw [e] at h ⊢
  exact getS_ok hB h
end Go.Proofs.YtjihcpnaebghnaaDoor
