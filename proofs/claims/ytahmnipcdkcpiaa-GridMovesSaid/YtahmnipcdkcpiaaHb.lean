/-
  Kept here: rows of the document's cells in memory, of this call's own; one of them is stored.
-/
import Derived.Test.YtahmnipcdkcpiaaGy
import Derived.Test.YtahmnipcdkcpiaaHa
set_option linter.unusedSimpArgs false
set_option linter.unusedVariables false
namespace Go.Proofs.Ytahmnipcdkcpiaa
open Go.RowKit
theorem flatY_take (L : List Ce) (n : Nat) : flatY (L.take n) = (flatY L).take (n * 11) := by
  by_cases h : n ≤ L.length
  · have e := congrArg flatY (List.take_append_drop n L)
    rw [flatY_app] at e
    rw [← e, List.take_left' (by rw [flatY_len, List.length_take]; omega)]
  · rw [List.take_of_length_le (by omega), List.take_of_length_le (by rw [flatY_len]; omega)]
theorem flatY_drop (L : List Ce) (n : Nat) : flatY (L.drop n) = (flatY L).drop (n * 11) := by
  by_cases h : n ≤ L.length
  · have e := congrArg flatY (List.take_append_drop n L)
    rw [flatY_app] at e
    rw [← e, List.drop_left' (by rw [flatY_len, List.length_take]; omega)]
  · rw [List.drop_eq_nil_of_le (by omega), List.drop_eq_nil_of_le (by rw [flatY_len]; omega)]; rfl
theorem flatY_cells (L : List Ce) : ∀ v ∈ flatY L, v.oneCell' = true := by
  intro v hv
  obtain ⟨c, _, hc⟩ := List.mem_flatMap.1 hv
  exact yC_one c v hc
/-- A row of the document's cells in a block. -/
def RowY (W : World) (b cap : Nat) (L : List Ce) : Prop :=
  ∃ cur : Array Value, W.heap[b]? = some (.cells cur 49 (0, 0)) ∧ cur.size = cap * 11 ∧ L.length ≤ cap ∧ cap ≤ maxLen ∧ cur.toList.take (L.length * 11) = flatY L
theorem RowY.lt {W : World} {b cap : Nat} {L : List Ce} (h : RowY W b cap L) : b < W.heap.size := by
  obtain ⟨cur, h1, _⟩ := h
  exact lt_of_block h1
theorem RowY.free {W : World} {b cap : Nat} {L : List Ce} (h : RowY W b cap L) (k : Nat) : W.frozen? ⟨b, k, none⟩ = false := by
  obtain ⟨cur, h1, _⟩ := h
  exact frozen_of_row W b k _ _ h1
theorem RowY.at_ {W : World} {b cap : Nat} {L : List Ce} (h : RowY W b cap L) {k : Nat} (hk : k < L.length * 11) : W.cell? ⟨b, k, none⟩ = (flatY L)[k]? := by
  obtain ⟨cur, h1, h2, h3, _, h4⟩ := h
  unfold World.cell?
  simp only [h1]
  rw [← h4, List.getElem?_take_of_lt hk]
  simp
theorem RowY.yr {W : World} {b cap : Nat} {L : List Ce} (h : RowY W b cap L) : YR W b L := by
  refine ⟨h.lt, fun j v hv => ?_⟩
  have hj : j < L.length * 11 := by
    rw [← flatY_len]
    exact (List.getElem?_eq_some_iff.1 hv).1
  rw [h.at_ hj]; exact hv
theorem RowY.keep {W W' : World} {b cap : Nat} {L : List Ce} (h : RowY W b cap L) (hb : W'.heap[b]? = W.heap[b]?) : RowY W' b cap L := by
  obtain ⟨cur, h1, h2⟩ := h
  exact ⟨cur, hb.trans h1, h2⟩
theorem RowY.below {W W' : World} {b cap : Nat} {L : List Ce} (h : RowY W b cap L) (hb : Below W.heap.size W W') : RowY W' b cap L := h.keep (hb.block b h.lt)
theorem RowY.grown {W W' : World} {b cap : Nat} {L : List Ce} {row : Option Nat} (h : RowY W b cap L) (hg : W.grownBy W' row) (hne : some b ≠ row) : RowY W' b cap L := h.keep (hg.block b h.lt hne)
theorem RowY.own {W : World} {B b cap : Nat} {L : List Ce} (h : RowY W b cap L) (hB : B ≤ b) : W.ownsRow B 49 11 (.slice (some ⟨b, 0, none⟩) L.length cap) L.length (flatY L) := by
  obtain ⟨cur, h1, h2, h3, h4, h5⟩ := h
  exact ⟨flatY_len L, .inr ⟨b, cap, cur, rfl, hB, h1, h3, h4, h2, h5⟩⟩
theorem RowY.of_own {W : World} {B n : Nat} {v : Value} {L : List Ce} (h : W.ownsRow B 49 11 v n (flatY L)) (hn : 1 ≤ n) : ∃ b cap, v = .slice (some ⟨b, 0, none⟩) n cap ∧ RowY W b cap L ∧ n = L.length ∧ B ≤ b := by
  obtain ⟨h0, h⟩ := h
  rw [flatY_len] at h0
  obtain rfl : n = L.length := by omega
  rcases h with h | ⟨g, c, cur, rfl, hB, h1, h3, h4, h2, h5⟩
  · have h2 := h.2
    first | omega | (have := h2.1; omega)
  · exact ⟨g, c, rfl, ⟨cur, h1, h2, h3, h4, h5⟩, rfl, hB⟩
theorem YR.grown {W W' : World} {b : Nat} {L : List Ce} {row : Option Nat} (h : YR W b L) (hg : W.grownBy W' row) (hne : some b ≠ row) : YR W' b L := ⟨Nat.lt_of_lt_of_le h.1 hg.size, fun j v hv => by
  have := h.2 j v hv
  unfold World.cell? at this ⊢
  rw [show W'.heap[b]? = W.heap[b]? from hg.block b h.1 hne]
  exact this⟩
theorem RowY.laid {W : World} {b cap : Nat} {L : List Ce} (h : RowY W b cap L) {o : Nat} {cs : List Ce} (ho : o + cs.length ≤ L.length) :
    ∃ cur : Array Value, W.heap[b]? = some (.cells cur 49 (0, 0)) ∧ o * 11 + (flatY cs).length ≤ cur.size ∧ RowY (W.setRow b (cur.toList.take (o * 11) ++ flatY cs ++ cur.toList.drop (o * 11 + (flatY cs).length)).toArray) b cap (lay L o cs) := by
  obtain ⟨cur, h1, h2, h3, h4, h5⟩ := h
  have hfl := flatY_len cs
  refine ⟨cur, h1, by rw [hfl, h2]; omega, _, setRow_heap W b _ _ _ _ h1, ?_, by rw [lay_len ho]; exact h3, h4, ?_⟩
  · simp [hfl, h2]; omega
  · rw [lay_len ho, List.toList_toArray]
    have e : flatY (lay L o cs) = (flatY L).take (o * 11) ++ flatY cs ++ (flatY L).drop (o * 11 + (flatY cs).length) := by
      unfold lay
      rw [flatY_app, flatY_app, flatY_take, flatY_drop, hfl, Nat.add_mul]
    rw [e, ← h5]
    apply List.ext_getElem?
    intro k
    simp only [List.getElem?_take, List.getElem?_append, List.length_append, List.length_take, Array.length_toList, h2, hfl, List.getElem?_drop]
    have e1 : min (o * 11) (cap * 11) = o * 11 := by omega
    have e2 : min (o * 11) (min (L.length * 11) (cap * 11)) = o * 11 := by omega
    rw [e1, e2]
    by_cases k1 : k < L.length * 11
    · by_cases k2 : k < o * 11
      · simp [k1, k2, show k < o * 11 + cs.length * 11 by omega]
      · by_cases k3 : k < o * 11 + cs.length * 11
        · simp [k1, k2, k3]
        · simp [k1, k2, k3, show o * 11 + cs.length * 11 + (k - (o * 11 + cs.length * 11)) = k by omega]
    · by_cases k3 : k < o * 11 + cs.length * 11
      · omega
      · simp [k1, k3, show ¬ k < o * 11 by omega, show o * 11 + cs.length * 11 + (k - (o * 11 + cs.length * 11)) = k by omega]
theorem run_storeY {W : World} {b cap : Nat} {L : List Ce} (h : RowY W b cap L) {k : Nat} (hk : k < L.length) (c : Ce) : ∃ V, (storeVar 49 ⟨b, k * 11, none⟩ (yV c)).run Try.prog W = .ok () V ∧ RowY V b cap (L.set k c) ∧ W.grownBy V (some b) := by
  obtain ⟨cur, h1, h2, h3⟩ := h.laid (o := k) (cs := [c]) (by simp; omega)
  obtain ⟨i, hi, _, hz1, _⟩ := info_parts infoY
  have hst := run_storeCells_at Try.prog b (k * 11) 49 (flatY [c]) 0 cur W h1 (by simpa using h2) (flatY_cells [c])
  rw [lay_one L k c hk] at h3
  refine ⟨_, ?_, h3, grown_setRow _ _ _⟩
  have e : (yV c).cells.toList = flatY [c] := by rw [flatY_one]; rfl
  have e2 : (yV c).cells.size = 11 := yC_len c
  simp only [storeVar, sizeOf, typeInfo, hi, hz1, e2, e]
  simpa [hi, hz1] using hst
theorem wpList_storeY {ops : Array Oper} {rest : List Oper} {o : Oper} {a : Act} {W : World} {Q : Exit → Act → World → Prop} (hgd : o.guard = none) (x y : Operand) (ho : o.op = .store 49 x y)
    {b cap : Nat} {L : List Ce} (h : RowY W b cap L) {k : Nat} (hk : k < L.length) (hx : a.eval x = .pointer (some ⟨b, k * 11, none⟩)) {c : Ce} (hy : a.eval y = yV c)
    (hK : ∀ V, RowY V b cap (L.set k c) → W.grownBy V (some b) → wpList Try.prog ops Q rest (a.put o.dst undef) V) : wpList Try.prog ops Q (o :: rest) a W := by
  refine wpList_plain hgd fun K hK2 => ?_
  obtain ⟨V, h1, h2, h3⟩ := run_storeY h hk c
  unfold Oper.wp execOp
  simp only [ho, hx, hy, Instr.storeAt, Instr.sureAddr, Sem.run_bind, Sem.run_pure, Result.andThen_ok, h1]
  exact hK2 _ _ (hK V h2 h3)
/-- A whole row is put behind nothing. -/
theorem app_rowY {W : World} {b : Nat} {L : List Ce} {n cap : Nat} (h : YR W b L) (hL : L.length = n) (hn : 1 ≤ n) (hm : n ≤ 100000) : ∃ b' cap' w', (Builtin.append_ #[27, 27] 27 #[.slice none 0 0, .slice (some ⟨b, 0, none⟩) n cap]).run Try.prog W = .ok (.slice (some ⟨b', 0, none⟩) n cap') w' ∧ RowY w' b' cap' L ∧ W.heap.size ≤ b' ∧ Below W.heap.size W w' := by
  obtain ⟨i0, hi, hz0, hz1, hz2⟩ := info_parts infoY
  obtain ⟨v', w', hr, ho, hg, _, hat⟩ := run_append_own_at (P := Try.prog) W W.heap.size 27 27 49 i0 _ 11 20 Try.underlying27 hi hz0 hz1 hz2 rfl (by decide) (.slice none 0 0) 0 (flatY []) (World.ownsRow_nil _ _ _ _) ⟨b, 0, none⟩ n cap (flatY L) (by rw [flatY_len, hL])
    (fun j u hu => by
      rw [show (⟨b, 0, none⟩ : Addr).add j = ⟨b, j, none⟩ by unfold Addr.add; split <;> simp_all]
      exact h.2 j u hu)
    (flatY_cells L) (by unfold maxLen; omega) (by omega) (Nat.le_refl _)
  rw [flatY_nil, List.nil_append, Nat.zero_add] at ho
  obtain ⟨b', cap', rfl, hR, _, hB⟩ := RowY.of_own ho hn
  exact ⟨b', cap', w', hr, hR, hB, ⟨hg.os, hg.tape, hg.output, hg.size, fun k hk => hg.block k hk (by simp [Value.ownBlock])⟩⟩
end Go.Proofs.Ytahmnipcdkcpiaa
