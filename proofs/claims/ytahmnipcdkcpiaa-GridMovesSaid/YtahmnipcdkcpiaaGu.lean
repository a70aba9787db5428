/-
  Proved here: a cell of the document is put behind a list.
-/
import Derived.Test.YtahmnipcdkcpiaaGt
import Derived.WideShapes
set_option linter.unusedSimpArgs false
set_option linter.unusedVariables false
namespace Go.Proofs.Ytahmnipcdkcpiaa
open Go.RowKit
def flatY (L : List Ce) : List Value := L.flatMap yC
theorem flatY_nil : flatY [] = [] := rfl
theorem flatY_app (a b : List Ce) : flatY (a ++ b) = flatY a ++ flatY b := by simp [flatY]
theorem flatY_one (c : Ce) : flatY [c] = yC c := by simp [flatY]
theorem flatY_len : ∀ L : List Ce, (flatY L).length = L.length * 11
  | [] => rfl
  | c :: L => by
    have h := flatY_len L
    rw [show flatY (c :: L) = yC c ++ flatY L from rfl, List.length_append, yC_len, h, List.length_cons, Nat.succ_mul]; omega
theorem yC_one (c : Ce) : ∀ v ∈ yC c, v.oneCell' = true := by
  intro v hv
  rcases List.mem_cons.1 hv with rfl | hv
  · rfl
  · exact styL_all _ v hv
theorem infoY : (Try.prog.info? 49).map (fun i => (i.zero, i.size, i.bytes)) = some (some (.agg #[.int .i32 0, .bool false, .bool false, .bool false, .bool false, .bool false, .bool false, .bool false, .bool false, .int .u32 0, .int .u32 0]), 11, 20) := by kernel_rfl
set_option maxRecDepth 100000 in
theorem app_y {W : World} {base fb : Nat} {v : Value} {n : Nat} {L : List Ce} {c : Ce} (hown : W.ownsRow base 49 11 v n (flatY L))
    (hblk : W.heap[fb]? = some (.cells (yC c).toArray 49 (0, 0))) (hn : n ≤ 100000) (hb : base ≤ W.heap.size) :
    ∃ v' w', (Builtin.append_ #[27, 27] 27 #[v, .slice (some ⟨fb, 0, none⟩) 1 1]).run Try.prog W = .ok v' w' ∧ w'.ownsRow base 49 11 v' (n + 1) (flatY (L ++ [c])) ∧ W.grownBy w' v.ownBlock ∧ (v'.ownBlock = v.ownBlock ∨ v'.ownBlock = some W.heap.size) := by
  obtain ⟨i0, hi, hz0, hz1, hz2⟩ := info_parts infoY
  obtain ⟨v', w', hr, ho, hg, _, hat⟩ := run_append_own_at (P := Try.prog) W base 27 27 49 i0 _ 11 20 Try.underlying27 hi hz0 hz1 hz2 rfl (by decide) v n (flatY L) hown ⟨fb, 0, none⟩ 1 1 (yC c) (by rw [yC_len])
    (fun j u hu => by
      rw [show (⟨fb, 0, none⟩ : Addr).add j = ⟨fb, j, none⟩ by unfold Addr.add; split <;> simp_all]
      unfold World.cell?
      simp only [hblk]
      simpa using hu)
    (yC_one c) (by unfold maxLen; omega) (by omega) hb
  refine ⟨v', w', hr, by rw [flatY_app, flatY_one]; exact ho, hg, ?_⟩
  exact hat
end Go.Proofs.Ytahmnipcdkcpiaa
