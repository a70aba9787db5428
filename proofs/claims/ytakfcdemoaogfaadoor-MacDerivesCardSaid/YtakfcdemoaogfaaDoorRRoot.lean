/-
  Proved here: the document's own 'root' answers what 'rootS' says (halving, over numbers).
-/
import Derived.Test.YtakfcdemoaogfaaDoorRUnder
import Derived.Test.YtakfcdemoaogfaaDoorRTurn
namespace Go.Proofs.YtakfcdemoaogfaaDoor
open Go.RowKit
/-- Halving between what is too little and what is too much. -/
def halve (u : Nat → Bool) : Nat → Nat → Nat → Nat
  | 0, low, _ => low
  | f + 1, low, high => if low + 1 < high then (if u ((low + high) / 2) then halve u f ((low + high) / 2) high else halve u f low ((low + high) / 2)) else low
def underS (p : Nat) (three : Bool) (m : Nat) : Bool := if three then decide (m * m * m ≤ p * 2 ^ 96) else decide (m * m ≤ p * 2 ^ 64)
def rootS (p : Nat) (three : Bool) : Nat := halve (underS p three) 37 0 137438953472 % 4294967296
theorem under_any (x p : Nat) (three : Bool) (w : World) (hx : x < 281474976710656) (hp : p < 4294967296) : Calls Tryd.prog 39 #[.int .u64 x, .int .u64 p, .bool three] w fun e w' => e = .returned (.bool (underS p three x)) ∧ Below w.heap.size w w' := by
  cases three
  · exact under_two x p w hx hp
  · exact under_three x p w hx hp
theorem halve_step {l h f m : Nat} (hm : (l + h) / 2 = m) (hlh : l + 1 < h) (hf : h - l ≤ 2 ^ f) : ∃ g, f = g + 1 ∧ h - m ≤ 2 ^ g ∧ m - l ≤ 2 ^ g ∧ l < m ∧ m < h := by
  cases f with
  | zero => simp at hf; omega
  | succ g =>
    rw [Nat.pow_succ] at hf
    exact ⟨g, rfl, by omega, by omega, by omega, by omega⟩
set_option maxHeartbeats 1000000 in
theorem root_any (p : Nat) (three : Bool) (w : World) (hp : p < 4294967296) : Calls Tryd.prog 35 #[.int .u64 p, .bool three] w fun e w' => e = .returned (.int .u32 (rootS p three : Nat)) ∧ Below w.heap.size w w' := by
  have HU := Lib.hid (fun x W hx => under_any x p three W hx hp)
  have HR := Lib.hid (show rootS p three = halve (underS p three) 37 0 137438953472 % 4294967296 from rfl)
  generalize rootS p three = R at HR ⊢
  generalize underS p three = u at HU HR
  clear hp
  go_enter Tryd.func35, Tryd.ntmps35
  go_wp2
  go_loopw [5, 6] (fun a b wr => ∃ (l h f : Nat), a = .int .u64 (l : Int) ∧ b = .int .u64 (h : Int) ∧ l < h ∧ h ≤ 137438953472 ∧ Hid (h - l ≤ 2 ^ f) ∧ Hid (R = halve u f l h % 4294967296) ∧ Below w.heap.size w wr) (fun a b _ => (intOf b - intOf a).toNat)
  case atStart => exact ⟨0, 137438953472, 37, rfl, rfl, by omega, by omega, Lib.hid (by decide), HR, Below.refl _ _⟩
  case round =>
    obtain ⟨l, h, f, rfl, rfl, hlh, hh, HF, HH, hbel⟩ := hrel
    clear HR
    by_cases hlt : l + 1 < h
    · obtain ⟨m, hm⟩ : ∃ m, (l + h) / 2 = m := ⟨_, rfl⟩
      obtain ⟨g, rfl, h1, h2, h3, h4⟩ := halve_step hm hlt HF.out
      have hH := HH.out
      rw [halve, if_pos hlt, hm] at hH
      have r1 : ((l : Int) + (h : Int)) / 2 = (m : Int) := by omega
      have H1 := Lib.hid h1
      have H2 := Lib.hid h2
      have hlt' : (l : Int) + 1 < (h : Int) := by omega
      cases hu : u m with
      | true =>
        rw [hu, if_pos rfl] at hH
        have HH2 := Lib.hid hH
        have HC := Lib.hid (HU.out m wr (by omega))
        rw [hu] at HC
        clear hH hm HF HH h1 h2 hu
        go_wp2_with fail
        refine HC.out.mono ?_
        rintro e w2 ⟨rfl, hb⟩
        have hb2 : Below w.heap.size w w2 := hbel.trans (hb.mono hbel.size)
        clear hb hbel HC
        go_wp2
        go_roundw
        case rel => exact ⟨m, h, g, rfl, rfl, h4, hh, H1, HH2, hb2⟩
        case measure => simp [intOf]; omega
      | false =>
        rw [hu, if_neg (by simp)] at hH
        have HH2 := Lib.hid hH
        have HC := Lib.hid (HU.out m wr (by omega))
        rw [hu] at HC
        clear hH hm HF HH h1 h2 hu
        go_wp2_with fail
        refine HC.out.mono ?_
        rintro e w2 ⟨rfl, hb⟩
        have hb2 : Below w.heap.size w w2 := hbel.trans (hb.mono hbel.size)
        clear hb hbel HC
        go_wp2
        go_roundw
        case rel => exact ⟨l, m, g, rfl, rfl, h3, by omega, H2, HH2, hb2⟩
        case measure => simp [intOf]; omega
    · have hH := HH.out
      have hv : halve u f l h = l := by cases f <;> simp [halve, hlt]
      rw [hv] at hH
      have HH2 := Lib.hid hH
      have hlt' : ¬ (l : Int) + 1 < (h : Int) := by omega
      clear hH hv HF HH
      go_wp2
      go_ret
      exact ⟨by rw [HH2.out]; simp, hbel⟩
end Go.Proofs.YtakfcdemoaogfaaDoor
