/-
  Proved here, for every two slices that read as bytes: mac's Equal tells whether they are the same, and leaves the world as it was.
-/
import Derived.Test.YtakfcdemoaogfaaDoorMFill
namespace Go.Proofs.YtakfcdemoaogfaaDoor
open Go.RowKit
/-- What is unlike of the first k bytes. -/
def unl (a b : List Nat) : Nat → Nat
  | 0 => 0
  | k + 1 => or8 (unl a b k) (xor8 (a.getD k 0) (b.getD k 0))
theorem or8_zero (x y : Nat) (hx : x < 256) (hy : y < 256) : or8 x y = 0 ↔ x = 0 ∧ y = 0 := by
  unfold or8
  have h : x ||| y < 256 := Nat.or_lt_two_pow (n := 8) hx hy
  rw [Nat.mod_eq_of_lt h]
  exact Nat.or_eq_zero_iff
theorem xor8_zero (x y : Nat) (hx : x < 256) (hy : y < 256) : xor8 x y = 0 ↔ x = y := by
  unfold xor8
  have h : x ^^^ y < 256 := Nat.xor_lt_two_pow (n := 8) hx hy
  rw [Nat.mod_eq_of_lt h]
  constructor
  · intro h0
    have e : x = (x ^^^ y) ^^^ y := by rw [Nat.xor_assoc, Nat.xor_self, Nat.xor_zero]
    rw [h0, Nat.zero_xor] at e
    exact e
  · rintro rfl
    exact Nat.xor_self x
theorem unl_lt (a b : List Nat) : ∀ k, unl a b k < 256
  | 0 => by simp [unl]
  | k + 1 => by unfold unl or8; omega
theorem unl_zero (a b : List Nat) (ha : ∀ i, a.getD i 0 < 256) (hb : ∀ i, b.getD i 0 < 256) : ∀ k, unl a b k = 0 ↔ ∀ i, i < k → a.getD i 0 = b.getD i 0
  | 0 => by simp [unl]
  | k + 1 => by
    rw [unl, or8_zero _ _ (unl_lt a b k) (by unfold xor8; omega), unl_zero a b ha hb k, xor8_zero _ _ (ha k) (hb k)]
    constructor
    · rintro ⟨h1, h2⟩ i hi
      by_cases h : i = k
      · subst h; exact h2
      · exact h1 i (by omega)
    · intro h
      exact ⟨fun i hi => h i (by omega), h k (by omega)⟩
/-- Are bytes the same? -/
def eqS (a b : List Nat) : Bool := a == b
theorem unl_eq (a b : List Nat) (ha : ∀ i, a.getD i 0 < 256) (hb : ∀ i, b.getD i 0 < 256) (hl : a.length = b.length) : ((unl a b a.length : Int) == 0) = eqS a b := by
  rw [Bool.eq_iff_iff, eqS]
  simp only [beq_iff_eq]
  constructor
  · intro h
    have h' : unl a b a.length = 0 := by omega
    rw [unl_zero a b ha hb] at h'
    apply List.ext_getElem hl
    intro i h1 h2
    have := h' i h1
    simpa [List.getD_eq_getElem?_getD, h1, h2] using this
  · intro h
    subst h
    have : unl a a a.length = 0 := (unl_zero a a ha ha _).2 fun _ _ => rfl
    omega
theorem equal_len (A B : Option Addr) (la ca lb cb : Nat) (w : World) (h : la ≠ lb) : Calls Tryd.prog 20 #[.slice A la ca, .slice B lb cb] w fun e w' => e = .returned (.bool false) ∧ w = w' := by
  have hd : ((la : Int) != (lb : Int)) = true := by simp; omega
  go_enter Tryd.func20, Tryd.ntmps20
  go_wp2
  go_ret
  exact ⟨rfl, rfl⟩
set_option maxHeartbeats 1000000 in
theorem equal_same (a b : List Nat) (n : Nat) (hla : a.length = n) (hlb : b.length = n) (A B : Option Addr) (ca cb : Nat) (w : World) (hA : R0 w A a) (hB : R0 w B b) (hm : n ≤ 1152921504606846976) : Calls Tryd.prog 20 #[.slice A n ca, .slice B n cb] w fun e w' => e = .returned (.bool ((unl a b n : Int) == 0)) ∧ w = w' := by
  have hd : ((n : Int) != (n : Int)) = false := by simp
  have HL := Lib.hid (And.intro hla hlb)
  have HA := Lib.hid hA
  have HB := Lib.hid hB
  clear hA hB hla hlb
  go_enter Tryd.func20, Tryd.ntmps20
  go_wp2
  go_loop [5, 6, 7, 15] (fun u _ _ i => ∃ k : Nat, k ≤ n ∧ i = .int .i64 k ∧ u = .int .u8 (unl a b k : Nat)) (fun _ _ _ i => n - (intOf i).toNat)
  case atStart => exact ⟨0, by omega, rfl, rfl⟩
  case round =>
    obtain ⟨k, hk, rfl, rfl⟩ := hrel
    by_cases hlt : k < n
    · obtain ⟨b1, o1, rfl, _, h1⟩ := HA.out (by have := HL.out; omega)
      obtain ⟨b2, o2, rfl, _, h2⟩ := HB.out (by have := HL.out; omega)
      have c1 := h1 k (by have := HL.out; omega)
      have c2 := h2 k (by have := HL.out; omega)
      clear h1 h2
      obtain ⟨x, hx⟩ : ∃ x, a.getD k 0 = x := ⟨_, rfl⟩
      obtain ⟨y, hy⟩ : ∃ y, b.getD k 0 = y := ⟨_, rfl⟩
      obtain ⟨u, hu⟩ : ∃ u, unl a b k = u := ⟨_, rfl⟩
      rw [hx] at c1
      rw [hy] at c2
      rw [hu]
      have HX := Lib.hid (And.intro hx (And.intro hy hu))
      clear hx hy hu
      have r1 := u8_xor
      have r2 := u8_or
      go_wp2
      go_round
      case rel => exact ⟨k + 1, by omega, by go_num, by rw [unl, HX.out.1, HX.out.2.1, HX.out.2.2]⟩
      case measure => simp [intOf]; omega
    · obtain rfl : k = n := by omega
      go_wp2
      go_ret
      exact ⟨rfl, rfl⟩
end Go.Proofs.YtakfcdemoaogfaaDoor
