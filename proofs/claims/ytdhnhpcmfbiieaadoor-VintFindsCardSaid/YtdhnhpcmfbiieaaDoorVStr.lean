/-
  Proved here: a slice that reads as a list of bytes, or a row that the call owns, is turned into the string of these bytes, in whatever world keeps them.
-/
import Derived.Test.YtdhnhpcmfbiieaaDoorVFields
import Derived.Laws.BytesArg
namespace Go.Proofs.YtdhnhpcmfbiieaaDoor
open Go.RowKit

theorem conv_any {w : World} {B : Nat} {A : Option Addr} {bs : List Int} (c : Nat) (h : RB w B A bs) :
    (convert 23 9 (.slice A bs.length c)).run Tryd.prog w = .ok (.string (strOfNums bs)) w := by
  rcases Nat.eq_zero_or_pos bs.length with h0 | h0
  · obtain rfl : bs = [] := List.eq_nil_of_length_eq_zero h0
    rcases A with _ | ad
    · exact run_convert_bytes_nil (P := Tryd.prog) w 23 5 Tryd.underlying23 Tryd.underlying5 0 c 9 Tryd.underlying9
    · rw [run_convert_bytes_string w 23 9 5 _ _ c Tryd.underlying23 Tryd.underlying5 Tryd.underlying9]
      exact run_bytesToString w ad 0 c [] (run_loadCells_list (P := Tryd.prog) w ad [] (fun j v hj => by simp at hj))
  · obtain ⟨b, off, rfl, _, hc⟩ := h h0
    exact run_convert_bytes_arg (P := Tryd.prog) w 23 5 Tryd.underlying23 Tryd.underlying5 b off _ c bs rfl hc 9 Tryd.underlying9

theorem B8_getElem {bs : List Int} {i : Nat} (hi : i < bs.length) : (B8 bs)[i]? = some (.int .u8 (bs.getD i 0)) := by
  simp [B8, List.getD, hi]

theorem RB.of_own {w : World} {base : Nat} {v : Value} {bs : List Int} (h : w.ownsRow base 5 1 v bs.length (B8 bs)) : ∃ A c, v = .slice A bs.length c ∧ RB w w.heap.size A bs ∧ bs.length ≤ c ∧ c ≤ maxLen ∧ (A = none → c = 0) := by
  obtain ⟨A, c, rfl, h1, h2, h3⟩ := own_slice h
  refine ⟨A, c, rfl, fun hl => ?_, h1, h2, h3⟩
  obtain ⟨g, cap, hv, _, hlt⟩ := h.form hl
  injection hv with hA _ hc
  subst hA; subst hc
  exact ⟨g, 0, rfl, hlt, fun i hi => by rw [Nat.zero_add, h.cellAt i (by omega), B8_getElem hi]⟩

theorem nums_cell {w : World} {base : Nat} {A : Option Addr} {c : Nat} {ns : List Int} {j : Nat} (h : w.ownsRow base 22 1 (.slice A ns.length c) ns.length (ns.map (Value.int .u64))) (hj : j < ns.length) :
    ∃ g, A = some ⟨g, 0, none⟩ ∧ g < w.heap.size ∧ w.cell? ⟨g, j, none⟩ = some (.int .u64 (ns.getD j 0)) := by
  obtain ⟨g, cap, hv, _, hlt⟩ := h.form (by omega)
  injection hv with hA _ hc
  subst hA; subst hc
  exact ⟨g, rfl, hlt, by rw [h.cellAt j (by omega)]; simp [List.getD, hj]⟩
end Go.Proofs.YtdhnhpcmfbiieaaDoor
