/-
  Proved here, of lists alone: what many points bring: in pieces; behind a cancel; a control within a sequence; how long what is kept may be.
-/
import Derived.Test.YtfacnemgjdmlmaaNg
set_option linter.unusedSimpArgs false
set_option linter.unusedVariables false
namespace Go.Proofs.Ytfacnemgjdmlmaa
open Go.RowKit
/-- What points bring, one behind the other. -/
def feedsS : List Int → List Int → List Int × List Ev
  | L, [] => (L, [])
  | L, r :: t => ((feedsS (feedS L r).1 t).1, (feedS L r).2.toList ++ (feedsS (feedS L r).1 t).2)
theorem feeds_app : ∀ (a b L : List Int), feedsS L (a ++ b) = ((feedsS (feedsS L a).1 b).1, (feedsS L a).2 ++ (feedsS (feedsS L a).1 b).2)
  | [], b, L => by simp [feedsS]
  | r :: t, b, L => by rw [List.cons_append, feedsS, feeds_app t b]; simp [feedsS]
theorem seqS_fst (L : List Int) : (seqS L).1 = L ∨ (seqS L).1 = [] := by
  unfold seqS
  split
  · split
    · exact .inl rfl
    · dsimp only; split <;> exact .inr rfl
  · split
    · exact .inl rfl
    · split <;> exact .inr rfl
theorem plainS_fst (L : List Int) (r : Int) : (plainS L r).1 = L ∨ (plainS L r).1 = [] ∨ (plainS L r).1 = [27] ∨ (32 ≤ r ∧ r < 128 ∧ L ≠ [] ∧ (plainS L r).1 = L ++ [r]) := by
  unfold plainS
  split
  · exact .inr (.inr (.inl rfl))
  · split
    · exact .inl rfl
    · split
      · exact .inr (.inl rfl)
      · rename_i h1 h2 h3
        rcases seqS_fst (L ++ [r]) with e | e
        · exact .inr (.inr (.inr ⟨by omega, by omega, fun e2 => h3 (.inl e2), e⟩))
        · exact .inr (.inl e)
/-- What may be kept. -/
def KeepOk (L : List Int) : Prop := oscB L = false → SeqOk L
theorem keep_nil : KeepOk [] := fun _ i h1 h2 => by simp at h2
theorem keep_esc : KeepOk [27] := fun _ i h1 h2 => by simp at h2; omega
theorem keep_app {L : List Int} {r : Int} (h : KeepOk L) (h0 : L ≠ []) (hr : oscB L = true ∨ (32 ≤ r ∧ r < 128)) : KeepOk (L ++ [r]) := by
  intro ho
  have hp : 0 < L.length := List.length_pos_iff.2 h0
  have hof : oscB L = false := by
    cases e : oscB L with
    | false => rfl
    | true =>
      exfalso
      unfold oscB at e ho
      simp only [Bool.and_eq_true, decide_eq_true_eq] at e
      have e3 : (L ++ [r]).getD 1 0 = L.getD 1 0 := by simp [List.getD, List.getElem?_append_left (show 1 < L.length by omega)]
      rw [e3, e.2] at ho
      have e4 : decide (2 ≤ (L ++ [r]).length) = true := decide_eq_true (by simp; omega)
      rw [e4] at ho
      simp at ho
  have hr' : 32 ≤ r ∧ r < 128 := by
    rcases hr with e | e
    · rw [hof] at e; cases e
    · exact e
  intro i h1 h2
  rw [List.length_append, List.length_singleton] at h2
  by_cases hi : i < L.length
  · have := h hof i h1 hi
    simpa [List.getD, List.getElem?_append_left hi] using this
  · have : i = L.length := by omega
    subst this
    simp [List.getD]; omega
theorem osc_ne {L : List Int} (h : oscB L = true) : L ≠ [] := by
  intro e; subst e; simp [oscB] at h
theorem plain_keep {L : List Int} (h : KeepOk L) (r : Int) : KeepOk (plainS L r).1 ∧ (plainS L r).1.length ≤ L.length + 1 := by
  rcases plainS_fst L r with e | e | e | ⟨h1, h2, h3, e⟩
  · rw [e]; exact ⟨h, by omega⟩
  · rw [e]; exact ⟨keep_nil, by simp⟩
  · rw [e]; exact ⟨keep_esc, by simp⟩
  · rw [e]; exact ⟨keep_app h h3 (.inr ⟨h1, h2⟩), by simp⟩
theorem feed_keep {L : List Int} (h : KeepOk L) (r : Int) : KeepOk (feedS L r).1 ∧ (feedS L r).1.length ≤ L.length + 1 := by
  unfold feedS
  split
  · exact ⟨h, by simp⟩
  · split
    · exact ⟨keep_nil, by simp⟩
    · split
      · rename_i ho
        have hl : 2 ≤ L.length := by unfold oscB at ho; simp at ho; exact ho.1
        unfold oscS
        split
        · unfold endS; split <;> exact ⟨keep_nil, by simp⟩
        · split
          · exact ⟨keep_app h (osc_ne ho) (.inl ho), by simp⟩
          · split
            · exact ⟨h, by simp⟩
            · split
              · have := plain_keep keep_esc r
                exact ⟨this.1, by have := this.2; simp at this; omega⟩
              · exact ⟨keep_app h (osc_ne ho) (.inl ho), by simp⟩
      · exact plain_keep h r
theorem feeds_keep : ∀ {l L : List Int}, KeepOk L → KeepOk (feedsS L l).1 ∧ (feedsS L l).1.length ≤ L.length + l.length
  | [], L, h => ⟨h, by simp [feedsS]⟩
  | r :: t, L, h => by
    have h1 := feed_keep h r
    have h2 := feeds_keep (l := t) h1.1
    rw [feedsS]
    exact ⟨h2.1, by have := h1.2; have := h2.2; simp; omega⟩
/-- A cancel. -/
theorem feed_stop (L : List Int) : feedS L 24 = ([], none) := by unfold feedS; rw [if_neg (by decide), if_pos (by decide)]
/-- A text without controls. -/
theorem feed_text {r : Int} (h0 : noneS r = false) (h1 : 32 ≤ r) : feedS [] r = ([], some ⟨1, r, 0, 0, 0, [], []⟩) := by
  unfold feedS
  rw [if_neg (by simp [h0]), if_neg (by simp [stopS]; omega), if_neg (by simp [oscB])]
  unfold plainS
  rw [if_neg (by omega), if_neg (by omega), if_pos (.inl rfl)]
theorem feeds_text : ∀ {l : List Int}, (∀ r ∈ l, noneS r = false ∧ 32 ≤ r) → feedsS [] l = ([], l.map fun r => ⟨1, r, 0, 0, 0, [], []⟩)
  | [], _ => rfl
  | r :: t, h => by
    have h1 := h r (List.mem_cons_self ..)
    have h2 := feeds_text (l := t) (fun x hx => h x (List.mem_cons_of_mem _ hx))
    rw [feedsS, feed_text h1.1 h1.2, h2]
    rfl
/-- Within [: what goes on, and a control. -/
theorem csi_on {l : List Int} {r : Int} (h1 : 32 ≤ r) (h2 : r < 64) : feedS ([27, 91] ++ l) r = ([27, 91] ++ (l ++ [r]), none) := by
  have hp : noneS r = false := by unfold noneS; rw [(isP_iff.2 (.inl ⟨by omega, by omega⟩) : isP r = true)]; simp; omega
  unfold feedS
  rw [if_neg (by simp [hp]), if_neg (by simp [stopS]; omega), if_neg (by simp [oscB])]
  unfold plainS
  rw [if_neg (by omega), if_neg (by omega), if_neg (by simp; omega)]
  unfold seqS
  rw [if_pos (by simp), if_pos (.inr (by unfold lastS; simp [List.getD]; omega))]
  simp
theorem csi_ctl {l : List Int} {p : Int} (h1 : 0 ≤ p) (h2 : p < 32) (h3 : p ≠ 24 ∧ p ≠ 26 ∧ p ≠ 27) : feedS ([27, 91] ++ l) p = ([27, 91] ++ l, some ⟨2, p, 0, 0, 0, [], []⟩) := by
  have hp : noneS p = false := by unfold noneS; rw [(isP_iff.2 (.inl ⟨by omega, by omega⟩) : isP p = true)]; simp; omega
  unfold feedS
  rw [if_neg (by simp [hp]), if_neg (by simp [stopS]; omega), if_neg (by simp [oscB])]
  unfold plainS
  rw [if_neg h3.2.2, if_pos h2]
theorem csi_ons : ∀ {t l : List Int}, (∀ r ∈ t, 32 ≤ r ∧ r < 64) → feedsS ([27, 91] ++ l) t = ([27, 91] ++ (l ++ t), [])
  | [], l, _ => by simp [feedsS]
  | r :: t, l, h => by
    have h1 := h r (List.mem_cons_self ..)
    have h2 := csi_ons (t := t) (l := l ++ [r]) (fun x hx => h x (List.mem_cons_of_mem _ hx))
    rw [feedsS, csi_on h1.1 h1.2]
    dsimp only
    rw [h2]
    simp
theorem csi_start : feedsS [] [27, 91] = ([27, 91] ++ [], []) := rfl
/-- The end q. -/
def qEnd (l : List Int) : List Ev := (feedsS ([27, 91] ++ l) [113]).2
theorem csi_q (l : List Int) : (feedsS ([27, 91] ++ l) [113]).1 = [] := by
  show (feedS ([27, 91] ++ l) 113).1 = []
  unfold feedS
  rw [if_neg (by decide), if_neg (by decide), if_neg (by simp [oscB])]
  unfold plainS
  rw [if_neg (by decide), if_neg (by decide), if_neg (by simp)]
  unfold seqS
  rw [if_pos (by simp), if_neg (by unfold lastS; simp [List.getD])]
  dsimp only
  split <;> rfl
theorem inside_plain {l : List Int} (h : ∀ r ∈ l, 32 ≤ r ∧ r < 64) : feedsS [] ([27, 91] ++ l ++ [113]) = ([], qEnd l) := by
  rw [feeds_app, feeds_app, csi_start]
  dsimp only
  rw [csi_ons h]
  dsimp only
  rw [List.nil_append, csi_q]
  simp [qEnd]
/-- A control within a sequence is told at once, and the sequence goes on as without it. -/
theorem inside_with {l : List Int} (h : ∀ r ∈ l, 32 ≤ r ∧ r < 64) {at_ : Nat} {p : Int} (h1 : 0 ≤ p) (h2 : p < 32) (h3 : p ≠ 24 ∧ p ≠ 26 ∧ p ≠ 27) :
    feedsS [] ([27, 91] ++ l.take at_ ++ [p] ++ l.drop at_ ++ [113]) = ([], ⟨2, p, 0, 0, 0, [], []⟩ :: qEnd l) := by
  have hp : feedsS ([27, 91] ++ l.take at_) [p] = ([27, 91] ++ l.take at_, [⟨2, p, 0, 0, 0, [], []⟩]) := by
    rw [feedsS, csi_ctl h1 h2 h3]; rfl
  rw [feeds_app, feeds_app, feeds_app, feeds_app, csi_start]
  dsimp only
  rw [csi_ons (fun r hr => h r (List.mem_of_mem_take hr))]
  dsimp only
  rw [List.nil_append, hp]
  dsimp only
  rw [csi_ons (fun r hr => h r (List.mem_of_mem_drop hr)), List.take_append_drop]
  dsimp only
  rw [csi_q]
  simp [qEnd]
end Go.Proofs.Ytfacnemgjdmlmaa
