/-
  Proved here, of lists alone: what numbers make of a style: in two parts, behind 0, and of a style's own numbers.
-/
import Derived.Test.YtohhmpkmcodoeaaDoorYa
set_option linter.unusedSimpArgs false
set_option linter.unusedVariables false
namespace Go.Proofs.YtohhmpkmcodoeaaDoor
/-- Numbers ahead of a colour's. -/
def Simple (l : List Int) : Prop := ∀ x ∈ l, x ≠ 38 ∧ x ≠ 48
theorem chF_app : ∀ (a b : List Int) (s : Sty), Simple a → chF (a ++ b).length s (a ++ b) = chF b.length (a.foldl oneS s) b
  | [], b, s, _ => rfl
  | x :: r, b, s, h => by
    have hx := h x (List.mem_cons_self ..)
    have h2 := chF_app r b (oneS s x) (fun y hy => h y (List.mem_cons_of_mem _ hy))
    rw [List.cons_append, List.length_cons, chF, if_neg (by omega)]
    exact h2
theorem chF_simple (l : List Int) (s : Sty) (h : Simple l) : chF l.length s l = l.foldl oneS s := by
  have := chF_app l [] s h
  rw [List.append_nil] at this
  exact this
theorem change_simple {l : List Int} (s : Sty) (h : Simple l) (hl : l ≠ []) : changeS s l = l.foldl oneS s := by
  unfold changeS; rw [if_neg hl]; exact chF_simple l s h
theorem change_zero (s : Sty) {l : List Int} (h : Simple l) : changeS s (l ++ [0]) = zeroY := by
  have h0 : Simple (l ++ [0]) := fun x hx => by
    rcases List.mem_append.1 hx with e | e
    · exact h x e
    · simp at e; omega
  rw [change_simple s h0 (by simp), List.foldl_append]
  rfl
theorem change_two (s : Sty) {l : List Int} (h : Simple l) (hl : 2 ≤ l.length) : changeS (changeS s (l.take 1)) (l.drop 1) = changeS s l := by
  obtain ⟨x, y, r, rfl⟩ : ∃ x y r, l = x :: y :: r := by
    match l, hl with
    | x :: y :: r, _ => exact ⟨x, y, r, rfl⟩
  have h1 : Simple [x] := fun z hz => h z (by simp at hz; simp [hz])
  have h2 : Simple (y :: r) := fun z hz => h z (List.mem_cons_of_mem _ hz)
  show changeS (changeS s [x]) (y :: r) = _
  rw [change_simple s h1 (by simp), change_simple _ h2 (by simp), change_simple s h (by simp)]
  rfl
/-- The flags' numbers make the flags. -/
theorem flags_make : ∀ a b c d e f g i : Bool, (flagNs [a, b, c, d, e, f, g, i] 9).foldl oneS zeroY = ⟨[a, b, c, d, e, f, g, i], 0, 0⟩ ∧ (flagNs [a, b, c, d, e, f, g, i] 9).all (fun x => x != 38 && x != 48) = true := by
  intro a b c d e f g i
  cases a <;> cases b <;> cases c <;> cases d <;> cases e <;> cases f <;> cases g <;> cases i <;> exact ⟨rfl, rfl⟩
/-- A colour's numbers set it. -/
theorem tell_any (s : Sty) (x c : Int) (hx : x = 38 ∨ x = 48) (hc : colB c = true) (h0 : c = 0 → setS s x true 0 = s) (t : List Int) : chF (tellS x c ++ t).length s (tellS x c ++ t) = chF t.length (setS s x true c) t := by
  have hcc : c = 0 ∨ (c / 16777216 = 1 ∧ c % 16777216 < 256) ∨ c / 16777216 = 2 := by
    unfold colB at hc
    simp at hc
    omega
  rcases hcc with rfl | ⟨h1, h2⟩ | h1
  · rw [show tellS x 0 = [] from rfl, List.nil_append, h0 rfl]
  · have e : 16777216 + c % 256 = c := by omega
    have e2 : smallB (c % 256) = true := by unfold smallB; simp; omega
    rw [show tellS x c = [x, 5, c % 256] by unfold tellS; rw [if_pos h1]]
    show chF (t.length + 2 + 1) s (x :: ([5, c % 256] ++ t)) = _
    rw [chF, if_pos hx, if_pos ⟨by simp, rfl⟩]
    show chF (t.length + 2) (setS s x (smallB (c % 256)) (16777216 + c % 256)) t = _
    rw [e, e2]
    exact chF_more _ _ _ _ (by omega) (Nat.le_refl _)
  · have e : 33554432 + 65536 * (c / 65536 % 256) + 256 * (c / 256 % 256) + c % 256 = c := by omega
    have e2 : (smallB (c / 65536 % 256) && smallB (c / 256 % 256) && smallB (c % 256)) = true := by unfold smallB; simp; omega
    rw [show tellS x c = [x, 2, c / 65536 % 256, c / 256 % 256, c % 256] by unfold tellS; rw [if_neg (by omega), if_pos h1]]
    show chF (t.length + 4 + 1) s (x :: ([2, c / 65536 % 256, c / 256 % 256, c % 256] ++ t)) = _
    rw [chF, if_pos hx, if_neg (fun h => by have := h.2; simp at this), if_pos ⟨by simp, rfl⟩]
    show chF (t.length + 4) (setS s x (smallB (c / 65536 % 256) && smallB (c / 256 % 256) && smallB (c % 256)) (33554432 + 65536 * (c / 65536 % 256) + 256 * (c / 256 % 256) + c % 256)) t = _
    rw [e, e2]
    exact chF_more _ _ _ _ (by omega) (Nat.le_refl _)
/-- A style's numbers change any style into it. -/
theorem change_params (s t : Sty) (ht : t.fs.length = 8) (hr : rightS t = true) : changeS s (paramsS t) = t := by
  obtain ⟨fs, fg, bg⟩ := t
  dsimp only at ht
  obtain ⟨a, b, c, d, e, f, g, i, rfl⟩ : ∃ a b c d e f g i, fs = [a, b, c, d, e, f, g, i] := by
    match fs, ht with
    | [a, b, c, d, e, f, g, i], _ => exact ⟨a, b, c, d, e, f, g, i, rfl⟩
  obtain ⟨hm, ha⟩ := flags_make a b c d e f g i
  have hc : colB fg = true ∧ colB bg = true := by unfold rightS at hr; simpa using hr
  have hs : Simple (0 :: flagNs [a, b, c, d, e, f, g, i] 9) := fun x hx => by
    rcases List.mem_cons.1 hx with rfl | hx
    · omega
    · have := List.all_eq_true.1 ha x hx
      simpa using this
  unfold paramsS changeS
  rw [if_pos hr, if_neg (by simp)]
  rw [show 0 :: flagNs [a, b, c, d, e, f, g, i] 9 ++ tellS 38 fg ++ tellS 48 bg = (0 :: flagNs [a, b, c, d, e, f, g, i] 9) ++ (tellS 38 fg ++ tellS 48 bg) by simp]
  rw [chF_app _ _ _ hs, List.foldl_cons, show oneS s 0 = zeroY from rfl, hm]
  rw [tell_any _ 38 fg (.inl rfl) hc.1 (fun _ => rfl)]
  have h3 := tell_any (setS ⟨[a, b, c, d, e, f, g, i], 0, 0⟩ 38 true fg) 48 bg (.inr rfl) hc.2 (fun _ => rfl) []
  rw [List.append_nil] at h3
  rw [h3]
  rfl
end Go.Proofs.YtohhmpkmcodoeaaDoor
