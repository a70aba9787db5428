/-
  Proved here: BitmapTells.
-/
import Derived.Test.YtlppnnehgfpgbaaMq1
import Derived.Test.YtlppnnehgfpgbaaMq2
import Derived.Test.YtlppnnehgfpgbaaMq3
import Derived.Test.YtlppnnehgfpgbaaMq4
import Derived.Test.YtlppnnehgfpgbaaMq5
set_option linter.unusedSimpArgs false
set_option linter.unusedVariables false
namespace Go.Proofs.Ytlppnnehgfpgbaa
open Go.RowKit
theorem tells_any {n n2 : Int} {b b2 : Nat} (hb : b < 18446744073709551616) (hb2 : b2 < 18446744073709551616) (i : Int) (w : World) : Calls Try.prog 6 #[mV n b, mV n2 b2, .int .i64 i] w fun e w' => e = .returned (.bool true) ∧ Below w.heap.size w w' := by
  cases hr : rB n b
  · exact tells_bad hb hb2 i hr w
  obtain ⟨k, rfl, _, _⟩ := rB_yes hr
  cases hr2 : rB n2 b2
  · by_cases h1 : i < 0
    · exact tells_neg_bad hr h1 hb2 hr2 w
    · by_cases h2 : (k : Int) ≤ i
      · exact tells_big_bad hr h2 hb2 hr2 w
      · obtain ⟨j, rfl⟩ : ∃ j : Nat, i = j := ⟨i.toNat, by omega⟩
        exact tells_in_bad hr (by omega) hb2 hr2 w
  obtain ⟨k2, rfl, _, _⟩ := rB_yes hr2
  by_cases hk : k2 = k
  · subst hk
    by_cases h1 : i < 0
    · exact tells_neg_same hr h1 hr2 w
    · by_cases h2 : (k2 : Int) ≤ i
      · exact tells_big_same hr h2 hr2 w
      · obtain ⟨j, rfl⟩ : ∃ j : Nat, i = j := ⟨i.toNat, by omega⟩
        exact tells_in_same hr (by omega) hr2 w
  · by_cases h1 : i < 0
    · exact tells_neg_un hr h1 hr2 hk w
    · by_cases h2 : (k : Int) ≤ i
      · exact tells_big_un hr h2 hr2 hk w
      · obtain ⟨j, rfl⟩ : ∃ j : Nat, i = j := ⟨i.toNat, by omega⟩
        exact tells_in_un hr (by omega) hr2 hk w
end Go.Proofs.Ytlppnnehgfpgbaa
