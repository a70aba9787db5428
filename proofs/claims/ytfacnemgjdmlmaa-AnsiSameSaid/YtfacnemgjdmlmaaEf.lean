/-
  Proved here: of the program's parser: its text as bytes; take where no text of the system is open.
-/
import Derived.Test.YtfacnemgjdmlmaaEe
import Derived.Laws.Cover4
set_option linter.unusedSimpArgs false
set_option linter.unusedVariables false
namespace Go.Proofs.Ytfacnemgjdmlmaa
open Go.RowKit
theorem str_app (a b : List Int) : strOfNums (a ++ b) = strOfNums a ++ strOfNums b := by
  apply ByteArray.ext
  simp [strOfNums, ByteArray.data_append]
theorem enc_point {p : Int} (h : isP p = true) : Utf8.encode p = strOfNums (bytesP p) := by
  rw [isP_iff] at h
  have hv : Utf8.valid p = true := by unfold Utf8.valid; simp; omega
  unfold Utf8.encode bytesP
  simp only [hv, if_true]
  by_cases h1 : p < 128
  · rw [if_pos (show p.toNat < 128 by omega), if_pos h1]
    rfl
  rw [if_neg (show ¬ p.toNat < 128 by omega), if_neg h1]
  by_cases h2 : p < 2048
  · rw [if_pos (show p.toNat < 2048 by omega), if_pos h2]
    simp only [strOfNums, List.map_cons, List.map_nil]
    rw [show (192 + p / 64).toNat = 192 + p.toNat / 64 by omega, show (128 + p % 64).toNat = 128 + p.toNat % 64 by omega]
  rw [if_neg (show ¬ p.toNat < 2048 by omega), if_neg h2]
  by_cases h3 : p < 65536
  · rw [if_pos (show p.toNat < 65536 by omega), if_pos h3]
    simp only [strOfNums, List.map_cons, List.map_nil]
    rw [show (224 + p / 4096).toNat = 224 + p.toNat / 4096 by omega, show (128 + p / 64 % 64).toNat = 128 + p.toNat / 64 % 64 by omega, show (128 + p % 64).toNat = 128 + p.toNat % 64 by omega]
  rw [if_neg (show ¬ p.toNat < 65536 by omega), if_neg h3]
  simp only [strOfNums, List.map_cons, List.map_nil]
  rw [show (240 + p / 262144).toNat = 240 + p.toNat / 262144 by omega, show (128 + p / 4096 % 64).toNat = 128 + p.toNat / 4096 % 64 by omega, show (128 + p / 64 % 64).toNat = 128 + p.toNat / 64 % 64 by omega, show (128 + p % 64).toNat = 128 + p.toNat % 64 by omega]
theorem runes_go : ∀ (l : List Int) (s : ByteArray), (∀ p ∈ l, isP p = true) → l.foldl (fun r n => r ++ Utf8.encode n) s = s ++ strOfNums (bytesL l)
  | [], s, _ => by
    show s = s ++ strOfNums []
    apply ByteArray.ext
    simp [strOfNums, ByteArray.data_append]
  | p :: r, s, h => by
    have hp := h p (List.mem_cons_self ..)
    rw [List.foldl_cons, runes_go r _ (fun q hq => h q (List.mem_cons_of_mem _ hq)), enc_point hp, bytesL, str_app]
    have : fixP p = p := by unfold fixP; rw [if_pos hp]
    rw [this]
    apply ByteArray.ext
    simp [ByteArray.data_append]
theorem runes_bytes {l : List Int} (h : ∀ p ∈ l, isP p = true) : runesBytes l = strOfNums (bytesL l) := by
  unfold runesBytes
  rw [runes_go l _ h]
  apply ByteArray.ext
  simp [ByteArray.data_append]
theorem conv_runes {w : World} {B : Nat} {A : Option Addr} {n c : Nat} {l : List Int} (ho : w.ownsRow B 21 1 (.slice A n c) l.length (NV .i32 l)) (h : ∀ p ∈ l, isP p = true) :
    (convert 22 9 (.slice A n c)).run Try.prog w = .ok (.string (strOfNums (bytesL l))) w := by
  obtain ⟨A', c', e, _, _, hz⟩ := own_slice ho
  injection e with e1 e2 e3
  subst e1 e2 e3
  rw [← runes_bytes h]
  rcases Nat.eq_zero_or_pos l.length with h0 | hp
  · obtain rfl : l = [] := List.eq_nil_of_length_eq_zero h0
    rcases A with _ | a
    · exact run_convert_runes_nil (P := Try.prog) w 22 9 21 0 c Try.underlying22 Try.underlying21 Try.underlying9
    · exact run_convert_runes (P := Try.prog) w 22 9 21 a 0 c [] (Nat.le_refl _) Try.underlying22 Try.underlying21 Try.underlying9 (fun j hj => absurd hj (by simp))
  · obtain ⟨b, rfl, _, hlt, hc⟩ := own_cells ho rfl hp
    have := run_convert_runes (P := Try.prog) w 22 9 21 ⟨b, 0, none⟩ l.length c l (Nat.le_refl _) Try.underlying22 Try.underlying21 Try.underlying9 (fun j hj => by
      have h1 := hc j hj
      unfold Addr.add
      by_cases j0 : j = 0
      · subst j0; simpa using h1
      · simpa [j0] using h1)
    rw [List.take_length] at this
    exact this
end Go.Proofs.Ytfacnemgjdmlmaa
