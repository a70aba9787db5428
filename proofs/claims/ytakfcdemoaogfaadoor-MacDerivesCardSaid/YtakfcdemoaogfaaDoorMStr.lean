/-
  Proved here: bytes, turned into strings, are the same strings where they are the same bytes; and what the law's 'begins' tells is what 'Right' tells.
-/
import Derived.Test.YtakfcdemoaogfaaDoorMOut
import Derived.Test.YtakfcdemoaogfaaDoorMKeys
import Derived.Test.YtakfcdemoaogfaaDoorRMarkOf
import Derived.Laws.BytesArg
namespace Go.Proofs.YtakfcdemoaogfaaDoor
open Go.RowKit
/-- The string of bytes. -/
def strN (bs : List Nat) : ByteArray := strOfNums (bs.map fun n : Nat => (n : Int))
theorem strN_toList (bs : List Nat) : (strN bs).toList = bs.map fun n => UInt8.ofNat n := by
  unfold strN
  rw [ByteArray.toList_eq, strOfNums_data, List.map_map]
  rfl
theorem ofNat_inj {x y : Nat} (hx : x < 256) (hy : y < 256) (h : UInt8.ofNat x = UInt8.ofNat y) : x = y := by
  have := congrArg UInt8.toNat h
  simpa [UInt8.toNat_ofNat', Nat.mod_eq_of_lt hx, Nat.mod_eq_of_lt hy] using this
theorem strN_eq {a b : List Nat} (ha : ∀ i, a.getD i 0 < 256) (hb : ∀ i, b.getD i 0 < 256) : ((strN a).toList == (strN b).toList) = eqS a b := by
  rw [Bool.eq_iff_iff, eqS]
  simp only [beq_iff_eq]
  rw [strN_toList, strN_toList]
  constructor
  · intro h
    have hl : a.length = b.length := by simpa using congrArg List.length h
    apply List.ext_getElem hl
    intro i h1 h2
    have e := congrArg (fun l : List UInt8 => l[i]?) h
    simp only [List.getElem?_map, List.getElem?_eq_getElem h1, List.getElem?_eq_getElem h2, Option.map_some] at e
    have x1 := ha i
    have x2 := hb i
    simp only [List.getD_eq_getElem?_getD, List.getElem?_eq_getElem h1, Option.getD_some] at x1
    simp only [List.getD_eq_getElem?_getD, List.getElem?_eq_getElem h2, Option.getD_some] at x2
    exact ofNat_inj x1 x2 (Option.some.inj e)
  · intro h
    rw [h]
theorem conv_nat {w : World} {A : Option Addr} {bs : List Nat} {n : Nat} (hn : bs.length = n) (c : Nat) (h : R0 w A bs) :
    (convert 22 9 (.slice A n c)).run Tryd.prog w = .ok (.string (strN bs)) w := by
  rcases Nat.eq_zero_or_pos bs.length with h0 | h0
  · obtain rfl : bs = [] := List.eq_nil_of_length_eq_zero h0
    obtain rfl : n = 0 := hn.symm
    rcases A with _ | ad
    · exact run_convert_bytes_nil (P := Tryd.prog) w 22 5 Tryd.underlying22 Tryd.underlying5 0 c 9 Tryd.underlying9
    · rw [run_convert_bytes_string w 22 9 5 _ _ c Tryd.underlying22 Tryd.underlying5 Tryd.underlying9]
      exact run_bytesToString w ad 0 c [] (run_loadCells_list (P := Tryd.prog) w ad [] (fun j v hj => by simp at hj))
  · obtain ⟨b, off, rfl, _, hc⟩ := h h0
    subst hn
    exact run_convert_bytes_arg (P := Tryd.prog) w 22 5 Tryd.underlying22 Tryd.underlying5 b off _ c (bs.map fun n : Nat => (n : Int)) (by simp) (fun i hi => by
      have hi' : i < bs.length := hi
      rw [hc i hi']
      simp [List.getD_eq_getElem?_getD, hi']) 9 Tryd.underlying9
/-- 'begins' by a test. -/
theorem begF_all (b f : List Nat) (hl : f.length ≤ b.length) : ∀ n k, f.length < n + k → (begF b f n k = true ↔ ∀ i, k ≤ i → i < f.length → b.getD i 0 = f.getD i 0)
  | 0, k, h => ⟨fun _ i h1 h2 => by omega, fun _ => rfl⟩
  | n + 1, k, h => by
    unfold begF
    by_cases hk : k < f.length
    · rw [if_pos hk]
      by_cases he : k < b.length ∧ b.getD k 0 = f.getD k 0
      · rw [if_pos he, begF_all b f hl n (k + 1) (by omega)]
        constructor
        · intro h i h1 h2
          by_cases hik : i = k
          · subst hik; exact he.2
          · exact h i (by omega) h2
        · exact fun h i h1 h2 => h i (by omega) h2
      · rw [if_neg he]
        constructor
        · intro h; cases h
        · intro h
          exact absurd ⟨by omega, h k (Nat.le_refl _) hk⟩ he
    · rw [if_neg hk]
      exact ⟨fun _ i h1 h2 => by omega, fun _ => rfl⟩
theorem begS_eq (b f : List Nat) (hl : f.length ≤ b.length) : begS b f = eqS f (b.take f.length) := by
  rw [Bool.eq_iff_iff, begS, begF_all b f hl _ _ (by omega), eqS, beq_iff_eq]
  constructor
  · intro h
    apply List.ext_getElem (by simp; omega)
    intro i h1 h2
    have := h i (by omega) h1
    have hb : i < b.length := by omega
    simp only [List.getD_eq_getElem?_getD, List.getElem?_eq_getElem h1, List.getElem?_eq_getElem hb, Option.getD_some] at this
    rw [List.getElem_take]
    exact this.symm
  · intro h i _ h2
    have hb : i < b.length := by omega
    have e : f.getD i 0 = (b.take f.length).getD i 0 := congrArg (fun l => List.getD l i 0) h
    rw [e]
    simp [List.getD_eq_getElem?_getD, h2]
theorem equal_any (a b : List Nat) (n m : Nat) (hla : a.length = n) (hlb : b.length = m) (A B : Option Addr) (ca cb : Nat) (w : World) (hA : R0 w A a) (hB : R0 w B b) (hm : n ≤ 1152921504606846976) (ha : ∀ i, a.getD i 0 < 256) (hb : ∀ i, b.getD i 0 < 256) :
    Calls Tryd.prog 20 #[.slice A n ca, .slice B m cb] w fun e w' => e = .returned (.bool (eqS a b)) ∧ w = w' := by
  by_cases h : n = m
  · subst h
    have e := unl_eq a b ha hb (by omega)
    rw [hla] at e
    rw [← e]
    exact equal_same a b n hla hlb A B ca cb w hA hB hm
  · have e : eqS a b = false := by
      unfold eqS
      rw [beq_eq_false_iff_ne]
      intro h'
      subst h'
      omega
    rw [e]
    exact equal_len A B n ca m cb w h
end Go.Proofs.YtakfcdemoaogfaaDoor
