/-
  Proved here (lists, and what of them lies in memory): what the document's own 'With' puts behind a text, and what it makes of a state.
-/
import Derived.Test.YtakfcdemoaogfaaDoorSAlive
import Derived.Test.YtakfcdemoaogfaaDoorRCar
import Derived.Test.YtakfcdemoaogfaaDoorRWords
import Derived.Laws.AppendOwnNone
namespace Go.Proofs.YtakfcdemoaogfaaDoor
open Go.RowKit
/-- A number's eight bytes, made from the least on: k of them. -/
def beR (m : Nat) : Nat → List Nat
  | 0 => []
  | k + 1 => m / 256 ^ k % 256 :: beR m k
theorem length_beR (m : Nat) : ∀ k, (beR m k).length = k
  | 0 => rfl
  | k + 1 => by simp [beR, length_beR m k]
theorem byt_pow (m j : Nat) : byt m (8 * j) = m / 256 ^ j % 256 := by
  unfold byt
  rw [Nat.pow_mul]
theorem beR_eight (m : Nat) : beR m 8 = be m 8 := by
  simp only [beR, be, List.nil_append, List.cons_append, ← byt_pow]
theorem own_r8 {w : World} {base : Nat} {v : Value} {n : Nat} {cs : List Nat} (h : w.ownsRow base 5 1 v n (V8 cs)) : ∃ A cap, v = .slice A n cap ∧ R0 w A cs ∧ n ≤ cap ∧ cap ≤ maxLen ∧ (A = none → cap = 0) ∧ ∀ a, A = some a → base ≤ a.block := by
  obtain ⟨hl, ⟨rfl, rfl⟩ | ⟨b, cap, cur, rfl, hb, hblk, hnc, hmx, hsz, htk⟩⟩ := id h
  · refine ⟨none, 0, rfl, fun hp => ?_, Nat.le_refl _, by unfold maxLen; omega, fun _ => rfl, fun a h => (by cases h)⟩
    simp at hl
    rw [hl] at hp
    simp at hp
  · refine ⟨_, cap, rfl, fun hp => ⟨b, 0, rfl, (Array.getElem?_eq_some_iff.1 hblk).1, fun i hi => ?_⟩, hnc, hmx, fun h => (by cases h), fun a h => (by cases h; exact hb)⟩
    have hn : cs.length = n := by simpa using hl
    have := h.cellAt i (by omega)
    rw [Nat.zero_add, this, V8_get hi]
/-- append(v, b...) where v is the call's own, or nil. -/
theorem app8 (base : Nat) (v : Value) (xs bs : List Nat) (n m : Nat) (B : Option Addr) (cb : Nat) (w : World) (hown : w.ownsRow base 5 1 v n (V8 xs)) (hbase : base ≤ w.heap.size) (hB : R0 w B bs) (hm : bs.length = m) (hnB : B = none → cb = 0) (hcb : m ≤ cb) (hl : n + m ≤ 100000) :
    ∃ v1 w1, (Builtin.append_ #[22, 22] 22 #[v, .slice B m cb]).run Tryd.prog w = .ok v1 w1 ∧ w1.ownsRow base 5 1 v1 (n + m) (V8 (xs ++ bs)) ∧ w.grownBy w1 v.ownBlock := by
  subst hm
  obtain ⟨i0, hi, hz0, hz1, hz2⟩ := info_parts infoByte
  cases B with
  | none =>
    have h0 : cb = 0 := hnB rfl
    subst h0
    obtain rfl : bs = [] := List.eq_nil_of_length_eq_zero (by omega)
    exact ⟨_, _, run_append_owned_none _ base 22 22 5 i0 1 Tryd.underlying22 hi v n (V8 xs) hown, by simpa using hown, ⟨rfl, rfl, rfl, Nat.le_refl _, fun _ _ _ => rfl⟩⟩
  | some a =>
    obtain ⟨v1, w1, hr, ho, hg, _⟩ := run_append_own (P := Tryd.prog) w base 22 22 5 i0 (.int .u8 0) 1 1 Tryd.underlying22 hi hz0 hz1 hz2 rfl (by decide) v n (V8 xs) hown a bs.length cb (V8 bs) (by simp) (fun j u hj => by
        have hjl : j < bs.length := by simpa using (List.getElem?_eq_some_iff.1 hj).1
        obtain ⟨b, off, e, hlt, hc⟩ := hB (by omega)
        obtain rfl := Option.some.inj e
        have hadd : (⟨b, off, none⟩ : Addr).add j = ⟨b, off + j, none⟩ := by unfold Addr.add; split <;> simp_all
        rw [hadd, hc j hjl, ← hj, V8_get hjl]) (one_V8 bs) (by unfold maxLen; omega) (by omega) hbase
    exact ⟨v1, w1, hr, by rw [V8_append]; exact ho, hg⟩
/-- The bytes of some words. -/
def outR : List Nat → List Nat
  | [] => []
  | x :: l => [by0 x, by1 x, by2 x, by3 x] ++ outR l
theorem outR_append (a b : List Nat) : outR (a ++ b) = outR a ++ outR b := by
  induction a with
  | nil => rfl
  | cons x a ih => simp [outR, ih]
theorem outR_take (l : List Nat) (k : Nat) (hk : k < l.length) : outR (l.take (k + 1)) = outR (l.take k) ++ [by0 (l.getD k 0), by1 (l.getD k 0), by2 (l.getD k 0), by3 (l.getD k 0)] := by
  rw [List.take_succ_eq_append_getElem hk, outR_append]
  simp [outR, List.getD_eq_getElem?_getD, hk]
theorem length_outR (l : List Nat) : (outR l).length = 4 * l.length := by
  induction l with
  | nil => rfl
  | cons x l ih => simp [outR, ih]; omega
theorem sb_step (l : List Nat) (n : Nat) (hn : n < 32) : (sb l (n + 1)).take (n + 1) = (sb l n).take n ++ [byAt (l.getD (n / 4) 0) (n % 4)] := by
  rw [sb, take_set_succ (by rw [length_sb]; exact hn)]
theorem sb_four (l : List Nat) (k : Nat) (hk : k < 8) : (sb l (4 * (k + 1))).take (4 * (k + 1)) = (sb l (4 * k)).take (4 * k) ++ [by0 (l.getD k 0), by1 (l.getD k 0), by2 (l.getD k 0), by3 (l.getD k 0)] := by
  rw [show 4 * (k + 1) = 4 * k + 1 + 1 + 1 + 1 by omega, sb_step _ _ (by omega), sb_step _ _ (by omega), sb_step _ _ (by omega), sb_step _ _ (by omega)]
  rw [show 4 * k / 4 = k by omega, show (4 * k + 1) / 4 = k by omega, show (4 * k + 1 + 1) / 4 = k by omega, show (4 * k + 1 + 1 + 1) / 4 = k by omega, show 4 * k % 4 = 0 by omega, show (4 * k + 1) % 4 = 1 by omega, show (4 * k + 1 + 1) % 4 = 2 by omega, show (4 * k + 1 + 1 + 1) % 4 = 3 by omega]
  simp [byAt]
theorem sb_outR (l : List Nat) (hl : l.length = 8) : ∀ k, k ≤ 8 → (sb l (4 * k)).take (4 * k) = outR (l.take k)
  | 0, _ => by simp [outR]
  | k + 1, h => by rw [sb_four l k (by omega), sb_outR l hl k (by omega), outR_take l k (by omega)]
theorem outS_outR (s : S8) : outS s = outR s.list := by
  have := sb_outR s.list rfl 8 (by omega)
  rw [List.take_of_length_le (by rw [length_sb]; omega), List.take_of_length_le (by simp [S8.list])] at this
  exact this
end Go.Proofs.YtakfcdemoaogfaaDoor
