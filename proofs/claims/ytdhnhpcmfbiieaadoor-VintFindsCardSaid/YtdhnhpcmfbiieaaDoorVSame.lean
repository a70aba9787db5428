/-
  Proved here: Same answers true of two slices that read as the same fields, and changes nothing.
-/
import Derived.Test.YtdhnhpcmfbiieaaDoorVAs
namespace Go.Proofs.YtdhnhpcmfbiieaaDoor
open Go.RowKit

theorem convN {w : World} {B : Nat} {A : Option Addr} {bs : List Int} {n : Nat} (c : Nat) (h : RB w B A bs) (hn : bs.length = n) : ∀ m, (convert 23 9 (.slice A n c)).run Tryd.prog (w.drewN m) = .ok (.string (strOfNums bs)) (w.drewN m) := fun m => by
  subst hn
  exact conv_any (w := w.drewN m) (B := B) c h

set_option maxHeartbeats 1000000 in
theorem same_true (fs : List Fld) (A1 A2 : Option Addr) (c1 c2 : Nat) (w : World) (h1 : FS w w.heap.size A1 fs) (h2 : FS w w.heap.size A2 fs) (hl : fs.length ≤ maxLen) :
    Calls Tryd.prog 25 #[.slice A1 fs.length c1, .slice A2 fs.length c2] w fun e w' => e = .returned (.bool true) ∧ Below w.heap.size w w' := by
  unfold maxLen at hl
  have H1 := Lib.hid h1
  have H2 := Lib.hid h2
  clear h1 h2
  have dl : ((fs.length : Int) != (fs.length : Int)) = false := by simp
  go_enter Tryd.func25, Tryd.ntmps25
  go_wp2
  go_loopw [5] (fun i wr => ∃ k : Nat, k ≤ fs.length ∧ i = .int .i64 k ∧ Below w.heap.size w wr) (fun i _ => fs.length - (intOf i).toNat)
  case atStart => exact ⟨0, by omega, rfl, Below.refl _ _⟩
  case round =>
    obtain ⟨k, hk, rfl, hbel⟩ := hrel
    by_cases hlt : k < fs.length
    · obtain ⟨b, off, hA, hb, hc⟩ := (H1.out.below hbel) (by omega)
      subst hA
      obtain ⟨b', off', hA', hb', hc'⟩ := (H2.out.below hbel) (by omega)
      subst hA'
      obtain ⟨ct, D, cD, hcd, hRB, _⟩ := hc k hlt
      obtain ⟨ct', D', cD', hcd', hRB', _⟩ := hc' k hlt
      clear hc hc'
      obtain ⟨t, ht⟩ : ∃ t, (fAt fs k).1 = t := ⟨_, rfl⟩
      obtain ⟨d, hd⟩ : ∃ d, (fAt fs k).2 = d := ⟨_, rfl⟩
      rw [ht] at ct ct'
      rw [hd] at hcd hcd' hRB hRB'
      clear ht hd
      have v1 := convN cD hRB rfl
      have v2 := convN cD' hRB' rfl
      have tt : (t != t) = false := by simp
      have ss : (!((strOfNums d).toList == (strOfNums d).toList)) = false := by simp
      have g3 : (0 : Int) ≤ (k : Int) := by omega
      have g4 : (k : Int) < (fs.length : Int) := by omega
      go_wp2
      go_quiet (fail)
      clear v1 v2 ss tt
      go_wp2
      go_roundw
      case rel => exact ⟨k + 1, by omega, by go_num, belowN hbel _⟩
      case measure => simp [intOf]; omega
    · go_wp2
      go_ret
      exact ⟨rfl, hbel⟩
end Go.Proofs.YtdhnhpcmfbiieaaDoor
