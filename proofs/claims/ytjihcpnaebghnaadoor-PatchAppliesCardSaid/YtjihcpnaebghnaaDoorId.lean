/-
  Proved here: of the program's views: Write.
-/
import Derived.Test.YtjihcpnaebghnaaDoorIc
import Derived.BigRegion
import Derived.WalkMore
set_option linter.unusedSimpArgs false
set_option linter.unusedVariables false
namespace Go.Proofs.YtjihcpnaebghnaaDoor
open Go.RowKit
set_option maxRecDepth 100000 in
theorem eq_ce (p f g b p' f' g' b' : Int) (w : World) : (Op.equalIn 10000 88 (.agg #[.int .i32 p, .int .u8 f, .int .u32 g, .int .u32 b]) (.agg #[.int .i32 p', .int .u8 f', .int .u32 g', .int .u32 b'])).run Tryd.prog w = .ok (decide ((⟨p, f, g, b⟩ : Ce) = ⟨p', f', g', b'⟩)) w := by
  go_simp
  by_cases h1 : p = p' <;> by_cases h2 : f = f' <;> by_cases h3 : g = g' <;> by_cases h4 : b = b' <;> simp [h1, h2, h3, h4]
/-- A view's bytes. -/
def viewB (R C row col : Int) (vis : Bool) (L : List Ce) : List Int := [R, C, row, col, if vis = true then 1 else 0] ++ runsB 0 L
theorem rightW_parts {R C row col : Int} {L : List Ce} (h : rightW R C row col L = true) : headB R C row col = true ∧ (L.length : Int) = R * C ∧ (∀ c ∈ L, cellR c = true) ∧ L.length ≤ 480 ∧ 1 ≤ L.length ∧ (1 ≤ R ∧ R ≤ 12 ∧ 1 ≤ C ∧ C ≤ 40 ∧ 0 ≤ row ∧ row < R ∧ 0 ≤ col ∧ col < C) := by
  unfold rightW at h
  rw [Bool.and_eq_true, Bool.and_eq_true, List.all_eq_true] at h
  obtain ⟨⟨h1, h2⟩, h3⟩ := h
  have h4 := of_decide_eq_true h2
  have hb : 1 ≤ R ∧ R ≤ 12 ∧ 1 ≤ C ∧ C ≤ 40 ∧ 0 ≤ row ∧ row < R ∧ 0 ≤ col ∧ col < C := by unfold headB at h1; simp at h1; omega
  have h5 := Int.mul_le_mul hb.2.1 hb.2.2.2.1 (by omega) (by omega)
  have h6 := Int.mul_le_mul hb.1 hb.2.2.1 (by omega) (by omega)
  exact ⟨h1, h4, h3, by omega, by omega, hb⟩
theorem viewB_len {R C row col : Int} {vis : Bool} {L : List Ce} (ho : ∀ c ∈ L, CeOk c) (hr : ∀ c ∈ L, cellR c = true) (hn : L.length ≤ 480) : (viewB R C row col vis L).length ≤ 5 + 15 * L.length := by
  have := runs_len L 0 (fun c hc => ⟨ho c hc, hr c hc⟩) (by omega)
  unfold viewB
  simp
  omega
end Go.Proofs.YtjihcpnaebghnaaDoor
