/-
  Proved here: ViewBack.
-/
import Derived.Test.YtjihcpnaebghnaaDoorIj
import Derived.Lib.Bytes
set_option linter.unusedSimpArgs false
set_option linter.unusedVariables false
namespace Go.Proofs.YtjihcpnaebghnaaDoor
open Go.RowKit
theorem writeY_bytes {s : Sty} (h : Good s) : ∀ x ∈ writeY s, 0 ≤ x ∧ x < 256 := fun x hx => by
  unfold writeY at hx
  rcases List.mem_append.1 hx with h1 | h1
  · rcases List.mem_append.1 h1 with h2 | h2
    · rw [List.mem_singleton.1 h2]
      have := flagsF_range s.fs
      rw [h.len] at this
      omega
    · exact numB_byte _ x h2
  · exact numB_byte _ x h1
theorem cellB_bytes {c : Ce} (h : CeOk c) : ∀ x ∈ cellB c, 0 ≤ x ∧ x < 256 := fun x hx => by
  unfold cellB at hx
  rcases List.mem_append.1 hx with h1 | h1
  · exact writeY_bytes h.good x h1
  · exact numB_byte _ x h1
theorem runs_bytes : ∀ (L : List Ce) (k : Nat), LOk L → ∀ x ∈ runsB k L, 0 ≤ x ∧ x < 256
  | [], _, _ => fun x hx => by rw [runs_nil] at hx; cases hx
  | [c], k, h => fun x hx => by
    rw [runs_one] at hx
    rcases List.mem_append.1 hx with h1 | h1
    · exact numB_byte _ x h1
    · exact cellB_bytes (h c (by simp)).1 x h1
  | c :: d :: L, k, h => fun x hx => by
    have h3 : LOk (d :: L) := fun y hy => h y (List.mem_cons_of_mem _ hy)
    rw [runs_two] at hx
    split at hx
    · exact runs_bytes (d :: L) (k + 1) h3 x hx
    · rcases List.mem_append.1 hx with h1 | h1
      · exact numB_byte _ x h1
      · rcases List.mem_append.1 h1 with h2 | h2
        · exact cellB_bytes (h c (by simp)).1 x h2
        · exact runs_bytes (d :: L) 0 h3 x h2
theorem bytes_view {R C row col : Int} {vis : Bool} {L : List Ce} (hr : rightW R C row col L = true) (h : LOk L) : Bytes (viewB R C row col vis L) := bytes_of_mem fun x hx => by
  obtain ⟨_, _, _, _, _, hb⟩ := rightW_parts hr
  unfold viewB at hx
  rcases List.mem_append.1 hx with h1 | h1
  · simp at h1
    rcases h1 with h1 | h1 | h1 | h1 | h1
    · omega
    · omega
    · omega
    · omega
    · subst h1; cases vis <;> simp
  · exact runs_bytes L 0 h x h1
theorem same_self {R C row col : Int} {vis : Bool} {L : List Ce} : sameW R C row col vis L R C row col vis L = true := by unfold sameW; simp
theorem same_bytes {R C row col R2 C2 row2 col2 : Int} {vis vis2 : Bool} {L M : List Ce} (h1 : rightW R C row col L = true) (k1 : LOk L) (h2 : rightW R2 C2 row2 col2 M = true) (k2 : LOk M) : sameW R C row col vis L R2 C2 row2 col2 vis2 M = decide (viewB R C row col vis L = viewB R2 C2 row2 col2 vis2 M) := by
  by_cases h : viewB R C row col vis L = viewB R2 C2 row2 col2 vis2 M
  · obtain ⟨rfl, rfl, rfl, rfl, rfl, rfl⟩ := isView_inj (bs := viewB R C row col vis L) ⟨h1, k1, rfl⟩ ⟨h2, k2, h⟩
    rw [same_self]; simp
  · rw [decide_eq_false h]
    cases hs : sameW R C row col vis L R2 C2 row2 col2 vis2 M with
    | false => rfl
    | true =>
      unfold sameW at hs
      simp at hs
      obtain ⟨⟨⟨⟨⟨rfl, rfl⟩, rfl⟩, rfl⟩, rfl⟩, rfl⟩ := hs
      exact absurd rfl h
theorem str_eq {X Y : List Int} (hX : Bytes X) (hY : Bytes Y) : ((strOfNums X).toList == (strOfNums Y).toList) = decide (X = Y) := by
  rw [Lib.strOfNums_toList, Lib.strOfNums_toList, Bool.eq_iff_iff, beq_iff_eq, decide_eq_true_iff]
  refine ⟨fun h => ?_, fun h => by rw [h]⟩
  have hl : X.length = Y.length := by have := congrArg List.length h; rwa [Lib.bytesOf_length, Lib.bytesOf_length] at this
  apply List.ext_getElem hl
  intro i h1 h2
  have e := congrArg (fun l => l[i]?) h
  simp [Lib.bytesOf, h1, h2] at e
  have a := hX i
  have b := hY i
  rw [show X.getD i 0 = X[i] by simp [List.getD, h1]] at a
  rw [show Y.getD i 0 = Y[i] by simp [List.getD, h2]] at b
  have e2 := congrArg UInt8.toNat e
  simp at e2
  omega
end Go.Proofs.YtjihcpnaebghnaaDoor
