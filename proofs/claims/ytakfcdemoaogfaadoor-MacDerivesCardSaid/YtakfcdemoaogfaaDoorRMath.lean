/-
  Proved here (numbers and lists alone): numbers by their digits of 4096.
-/
import Derived.Test.YtakfcdemoaogfaaDoorSMem
namespace Go.Proofs.YtakfcdemoaogfaaDoor
/-- The number of some digits, the least first. -/
def val : List Nat → Nat
  | [] => 0
  | d :: ds => d + 4096 * val ds
theorem val_append (a b : List Nat) : val (a ++ b) = val a + 4096 ^ a.length * val b := by
  induction a with
  | nil => simp [val]
  | cons d ds ih =>
    simp only [List.cons_append, val, ih, List.length_cons, Nat.pow_succ]
    rw [Nat.mul_add, ← Nat.mul_assoc, Nat.add_assoc, Nat.mul_comm (4096 ^ ds.length) 4096]
theorem val_one (d : Nat) : val [d] = d := by simp [val]
theorem val_lt (a : List Nat) (h : ∀ d ∈ a, d < 4096) : val a < 4096 ^ a.length := by
  induction a with
  | nil => simp [val]
  | cons d ds ih =>
    have h1 := h d (by simp)
    have h2 := ih fun x hx => h x (by simp [hx])
    simp only [val, List.length_cons, Nat.pow_succ]
    omega
/-- Behind one digit more of what is carried. -/
theorem car_in {l out : List Nat} {c k N : Nat} (hk : k < l.length) (ho : out.length = k) (h : val out + 4096 ^ k * (c + val (l.drop k)) = N) :
    val (out ++ [(c + l.getD k 0) % 4096]) + 4096 ^ (k + 1) * ((c + l.getD k 0) / 4096 + val (l.drop (k + 1))) = N := by
  rw [List.drop_eq_getElem_cons hk] at h
  have e : l.getD k 0 = l[k] := by simp [List.getD_eq_getElem?_getD, hk]
  rw [e, val_append, ho, val_one, ← h, val, Nat.pow_succ, Nat.add_assoc, Nat.mul_assoc, ← Nat.mul_add]
  congr 2
  have := Nat.div_add_mod (c + l[k]) 4096
  omega
theorem car_out {l out : List Nat} {c k N : Nat} (hk : l.length ≤ k) (ho : out.length = k) (h : val out + 4096 ^ k * (c + val (l.drop k)) = N) :
    val (out ++ [c % 4096]) + 4096 ^ (k + 1) * (c / 4096 + val (l.drop (k + 1))) = N := by
  rw [List.drop_of_length_le hk] at h
  rw [List.drop_of_length_le (by omega), val_append, ho, val_one, ← h, val, Nat.pow_succ, Nat.add_assoc, Nat.mul_assoc, ← Nat.mul_add]
  congr 2
  have := Nat.div_add_mod c 4096
  omega
theorem car_end {l out : List Nat} {k N : Nat} (hk : l.length ≤ k) (h : val out + 4096 ^ k * (0 + val (l.drop k)) = N) : val out = N := by
  rw [List.drop_of_length_le hk] at h
  simpa [val] using h
theorem car_less {c j : Nat} (h : c * 4096 ^ j < 1099511627776) : c / 4096 * 4096 ^ (j + 1) < 1099511627776 := by
  rw [Nat.pow_succ, Nat.mul_comm (4096 ^ j), ← Nat.mul_assoc]
  exact Nat.lt_of_le_of_lt (Nat.mul_le_mul_right _ (Nat.div_mul_le_self c 4096)) h
theorem car_stop {c : Nat} (h : c * 4096 ^ 4 < 1099511627776) : c = 0 := by omega
theorem all_lt_append {a : List Nat} {d n : Nat} (h : ∀ x ∈ a, x < n) (hd : d < n) : ∀ x ∈ a ++ [d], x < n := by
  intro x hx
  rcases List.mem_append.1 hx with h1 | h1
  · exact h x h1
  · simp at h1; omega

/-- Digits, compared from the greatest on. -/
def cmpD (a b : Nat → Nat) : Nat → Bool
  | 0 => true
  | k + 1 => if a k = b k then cmpD a b k else decide (a k < b k)
/-- The number of the first k digits. -/
def valN (a : Nat → Nat) : Nat → Nat
  | 0 => 0
  | k + 1 => valN a k + 4096 ^ k * a k
theorem valN_lt (a : Nat → Nat) (h : ∀ i, a i < 4096) : ∀ k, valN a k < 4096 ^ k
  | 0 => by simp [valN]
  | k + 1 => by
    have h1 := valN_lt a h k
    have h2 := h k
    rw [valN, Nat.pow_succ]
    have : 4096 ^ k * a k ≤ 4096 ^ k * 4095 := Nat.mul_le_mul_left _ (by omega)
    omega
theorem cmpD_val (a b : Nat → Nat) (ha : ∀ i, a i < 4096) (hb : ∀ i, b i < 4096) : ∀ k, cmpD a b k = decide (valN a k ≤ valN b k)
  | 0 => by simp [cmpD, valN]
  | k + 1 => by
    have h1 := valN_lt a ha k
    have h2 := valN_lt b hb k
    rw [cmpD, valN, valN]
    split
    · rename_i h
      rw [cmpD_val a b ha hb k, h]
      congr 1
      simp
    · rename_i h
      congr 1
      rw [eq_iff_iff]
      constructor
      · intro hlt
        have : 4096 ^ k * (a k + 1) ≤ 4096 ^ k * b k := Nat.mul_le_mul_left _ hlt
        rw [Nat.mul_add] at this
        omega
      · intro hle
        rcases Nat.lt_or_ge (a k) (b k) with h3 | h3
        · exact h3
        · have : 4096 ^ k * (b k + 1) ≤ 4096 ^ k * a k := Nat.mul_le_mul_left _ (by omega)
          rw [Nat.mul_add] at this
          omega
theorem val_valN (a : List Nat) : ∀ k, val (a.take k) = valN (fun i => a.getD i 0) (min k a.length)
  | 0 => by simp [val, valN]
  | k + 1 => by
    by_cases h : k < a.length
    · rw [List.take_succ_eq_append_getElem h, val_append, val_valN a k, val_one, Nat.min_eq_left (by omega), Nat.min_eq_left (by omega), valN]
      simp [List.getD_eq_getElem?_getD, h, Nat.min_eq_left (Nat.le_of_lt h)]
    · have h2 := val_valN a k
      rw [List.take_of_length_le (show a.length ≤ k by omega), Nat.min_eq_right (by omega)] at h2
      rw [List.take_of_length_le (show a.length ≤ k + 1 by omega), Nat.min_eq_right (by omega)]
      exact h2
theorem valN_more (a : List Nat) : ∀ k, a.length ≤ k → valN (fun i => a.getD i 0) k = val a
  | 0, h => by
    have : a = [] := List.eq_nil_of_length_eq_zero (by omega)
    subst this; rfl
  | k + 1, h => by
    by_cases hk : a.length ≤ k
    · rw [valN, valN_more a k hk]
      simp [List.getD_eq_getElem?_getD, List.getElem?_eq_none hk]
    · have e := val_valN a a.length
      rw [List.take_length, Nat.min_self] at e
      rw [e, show k + 1 = a.length by omega]
/-- What two numbers' digits make, multiplied: the first k of the one are done, and j of the next. -/
def addAt (l : List Nat) (i v : Nat) : List Nat := l.set i (l.getD i 0 + v)
theorem val_set (l : List Nat) (i v : Nat) (h : i < l.length) : val (addAt l i v) = val l + 4096 ^ i * v := by
  induction l generalizing i with
  | nil => simp at h
  | cons d ds ih =>
    cases i with
    | zero => simp [addAt, val]; omega
    | succ i =>
      have := ih i (by simpa using h)
      simp only [addAt, List.set_cons_succ, List.getD_cons_succ, val] at this ⊢
      rw [this, Nat.pow_succ, Nat.mul_add, Nat.mul_comm (4096 ^ i) 4096, Nat.mul_assoc]
      omega
theorem length_addAt (l : List Nat) (i v : Nat) : (addAt l i v).length = l.length := by simp [addAt]
theorem getD_addAt (l : List Nat) (i v k : Nat) (h : i < l.length) : (addAt l i v).getD k 0 = if k = i then l.getD k 0 + v else l.getD k 0 := by
  simp only [addAt, List.getD_eq_getElem?_getD, List.getElem?_set]
  split
  · rename_i e; subst e; simp [h]
  · rename_i e; rw [if_neg (Ne.symm e)]
end Go.Proofs.YtakfcdemoaogfaaDoor
