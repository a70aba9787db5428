/-
  Proved here, of lists alone: sequences as the document has them (what stands between [ and the end).
-/
import Derived.Test.YtfacnemgjdmlmaaProg
set_option linter.unusedSimpArgs false
set_option linter.unusedVariables false
namespace Go.Proofs.Ytfacnemgjdmlmaa
/-- An event. -/
structure Ev where
  kind : Int
  point : Int
  priv : Int
  inter : Int
  fin : Int
  params : List Int
  text : List Int
def evC : Ev := ⟨4, 0, 0, 0, 0, [], []⟩
def least (a b : Int) : Int := if b < a then b else a
/-- A digit, or what parts numbers. -/
def numS (ps : List Int) (c : Int) : List Int := if c = 59 then ps ++ [0] else ps.set (ps.length - 1) (least (10 * ps.getD (ps.length - 1) 0 + c - 48) 9999)
/-- What stands between [ and the end; false: it is given up. -/
def csiF : Nat → Ev → List Int → Ev × Bool
  | _, e, [] => (e, decide (e.params.length ≤ 16))
  | i, e, c :: r =>
    if c < 48 then (if e.inter = 0 then csiF (i + 1) { e with inter := c } r else (e, false))
    else if 60 ≤ c ∧ i = 0 then csiF (i + 1) { e with priv := c } r
    else if 60 ≤ c ∨ c = 58 ∨ e.inter ≠ 0 then (e, false)
    else csiF (i + 1) { e with params := numS (if e.params = [] then [0] else e.params) c } r
def csiS (l : List Int) : Ev × Bool := csiF 0 evC l
/-- Numbers as they may stand. -/
def NumOk (ps : List Int) : Prop := ∀ x ∈ ps, 0 ≤ x ∧ x ≤ 9999
theorem numS_ok {ps : List Int} {c : Int} (h : NumOk ps) (hc : c = 59 ∨ (48 ≤ c ∧ c ≤ 57)) (hp : ps ≠ []) : NumOk (numS ps c) := by
  unfold numS
  split
  · intro x hx
    rcases List.mem_append.1 hx with hx | hx
    · exact h x hx
    · simp at hx; omega
  · intro x hx
    rcases List.mem_or_eq_of_mem_set hx with hx | hx
    · exact h x hx
    · have hl : ps.length - 1 < ps.length := by have := List.length_pos_iff.2 hp; omega
      have h1 := h (ps.getD (ps.length - 1) 0) (by simp [List.getD, hl])
      rw [hx]
      unfold least
      split <;> omega
theorem numS_len (ps : List Int) (c : Int) : (numS ps c).length ≤ ps.length + 1 ∧ ps.length ≤ (numS ps c).length := by
  unfold numS
  split
  · simp
  · simp
theorem numS_ne {ps : List Int} (c : Int) (h : ps ≠ []) : numS ps c ≠ [] := by
  have h1 := (numS_len ps c).2
  have h2 := List.length_pos_iff.2 h
  exact List.length_pos_iff.1 (by omega)
end Go.Proofs.Ytfacnemgjdmlmaa
