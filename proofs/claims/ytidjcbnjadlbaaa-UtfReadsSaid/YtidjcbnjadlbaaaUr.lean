/-
  Proved here: the document's own follows, may, Is and One, for every number and every bytes that come in.
-/
import Derived.Test.YtidjcbnjadlbaaaUn
import Derived.Test.YtidjcbnjadlbaaaOw
import Derived.RegionTactic
import Derived.BigRegion
import Derived.IntWalk
import Derived.WalkLawsBesides
import Derived.Below
import Derived.OneCell
import Derived.Laws.Rows
namespace Go.Proofs.Ytidjcbnjadlbaaa
open Go.RowKit
theorem rfollows_any (c : Int) (w : World) : Calls Try.prog 41 #[.int .i64 c] w fun e w' => e = .returned (.int .i64 (fol c : Nat)) ∧ w = w' := by
  obtain ⟨n, hn⟩ : ∃ n, fol c = n := ⟨_, rfl⟩
  have HN := Lib.hid (fun (_ : Unit) => hn)
  rw [hn]
  clear hn
  by_cases h1 : 194 ≤ c ∧ c ≤ 223
  · have e : n = 1 := by rw [← HN.out (), fol1 h1.1 h1.2]
    obtain ⟨h1, h2⟩ := h1
    subst e
    go_enter Try.func41, Try.ntmps41
    go_wp2
    go_ret
    exact ⟨rfl, rfl⟩
  by_cases h2 : 224 ≤ c ∧ c ≤ 239
  · have e : n = 2 := by rw [← HN.out (), fol2 h2.1 h2.2]
    obtain ⟨h2, h3⟩ := h2
    have d1 : decide (c ≤ 223) = false := by simp; omega
    subst e
    go_enter Try.func41, Try.ntmps41
    go_wp2
    go_ret
    exact ⟨rfl, rfl⟩
  by_cases h3 : 240 ≤ c ∧ c ≤ 244
  · have e : n = 3 := by rw [← HN.out (), fol3 h3.1 h3.2]
    obtain ⟨h3, h4⟩ := h3
    have d1 : decide (c ≤ 223) = false := by simp; omega
    have d2 : decide (c ≤ 239) = false := by simp; omega
    subst e
    go_enter Try.func41, Try.ntmps41
    go_wp2
    go_ret
    exact ⟨rfl, rfl⟩
  · have e : n = 0 := by rw [← HN.out ()]; unfold fol; rw [if_neg h1, if_neg h2, if_neg h3]
    subst e
    have d1 : (decide (194 ≤ c) && decide (c ≤ 223)) = false := by rw [Bool.and_eq_false_iff]; simp; omega
    have d2 : (decide (224 ≤ c) && decide (c ≤ 239)) = false := by rw [Bool.and_eq_false_iff]; simp; omega
    have d3 : (decide (240 ≤ c) && decide (c ≤ 244)) = false := by rw [Bool.and_eq_false_iff]; simp; omega
    go_enter Try.func41, Try.ntmps41
    go_wp2
    all_goals go_ret
    all_goals exact ⟨rfl, rfl⟩
theorem rmay_any (f c : Int) (i : Nat) (w : World) : Calls Try.prog 42 #[.int .i64 f, .int .i64 i, .int .i64 c] w fun e w' => e = .returned (.bool (mayB f i c)) ∧ w = w' := by
  by_cases h1 : i = 1
  · subst h1
    have key : ∀ l h : Int, lo1 f = l → hi1 f = h → mayB f 1 c = (decide (l ≤ c) && decide (c ≤ h)) := fun l h h1 h2 => by unfold mayB; simp [h1, h2]
    have K := Lib.hid key
    clear key
    by_cases f1 : f = 224
    · rw [K.out 160 191 (by simp [lo1, f1]) (by simp [hi1, f1])]
      subst f1; clear K
      go_enter Try.func42, Try.ntmps42
      go_wp2
      all_goals go_ret
      all_goals exact ⟨ret_bool (Bool.eq_iff_iff.2 (by simp <;> omega)), rfl⟩
    by_cases f2 : f = 237
    · rw [K.out 128 159 (by simp [lo1, f2]) (by simp [hi1, f2])]
      subst f2; clear K
      go_enter Try.func42, Try.ntmps42
      go_wp2
      all_goals go_ret
      all_goals exact ⟨ret_bool (Bool.eq_iff_iff.2 (by simp <;> omega)), rfl⟩
    by_cases f3 : f = 240
    · rw [K.out 144 191 (by simp [lo1, f3]) (by simp [hi1, f3])]
      subst f3; clear K
      go_enter Try.func42, Try.ntmps42
      go_wp2
      all_goals go_ret
      all_goals exact ⟨ret_bool (Bool.eq_iff_iff.2 (by simp <;> omega)), rfl⟩
    by_cases f4 : f = 244
    · rw [K.out 128 143 (by simp [lo1, f4]) (by simp [hi1, f4])]
      subst f4; clear K
      go_enter Try.func42, Try.ntmps42
      go_wp2
      all_goals go_ret
      all_goals exact ⟨ret_bool (Bool.eq_iff_iff.2 (by simp <;> omega)), rfl⟩
    · rw [K.out 128 191 (by simp [lo1, f1, f3]) (by simp [hi1, f2, f4])]
      have d1 : (f == 224) = false := by simpa using f1
      have d2 : (f == 237) = false := by simpa using f2
      have d3 : (f == 240) = false := by simpa using f3
      have d4 : (f == 244) = false := by simpa using f4
      clear K f1 f2 f3 f4
      go_enter Try.func42, Try.ntmps42
      go_wp2
      all_goals go_ret
      all_goals exact ⟨ret_bool (Bool.eq_iff_iff.2 (by simp <;> omega)), rfl⟩
  · have e : mayB f i c = (decide (128 ≤ c) && decide (c ≤ 191)) := by unfold mayB; simp [h1]
    rw [e]
    have d1 : ((i : Int) == 1) = false := by simp; omega
    clear e
    go_enter Try.func42, Try.ntmps42
    go_wp2
    all_goals go_ret
    all_goals exact ⟨ret_bool (Bool.eq_iff_iff.2 (by simp <;> omega)), rfl⟩
theorem ris_any (p : Int) (w : World) : Calls Try.prog 22 #[.int .i32 p] w fun e w' => e = .returned (.bool (isP p)) ∧ w = w' := by
  have e : isP p = (decide (0 ≤ p) && decide (p < 55296) || decide (57343 < p) && decide (p < 1114112)) := by unfold isP; rw [Bool.decide_or, Bool.decide_and, Bool.decide_and]
  rw [e]
  go_enter Try.func22, Try.ntmps22
  go_wp2
  all_goals go_ret
  all_goals exact ⟨ret_bool (Bool.eq_iff_iff.2 (by simp <;> omega)), rfl⟩
end Go.Proofs.Ytidjcbnjadlbaaa
