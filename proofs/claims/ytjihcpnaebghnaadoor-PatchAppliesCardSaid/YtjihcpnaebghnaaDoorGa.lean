/-
  Kept here: a grid's cells as lists, and rows of them in memory.
-/
import Derived.Test.YtjihcpnaebghnaaDoorRg
import Derived.Laws.CopyRow
import Derived.Laws.CopyOwn
import Derived.Laws.Cells
set_option linter.unusedSimpArgs false
set_option linter.unusedVariables false
namespace Go.Proofs.YtjihcpnaebghnaaDoor
open Go.RowKit
/-- A cell: its point, its flags, its colours. -/
structure Ce where
  p : Int
  f : Int
  g : Int
  b : Int
  deriving DecidableEq
def gC (c : Ce) : List Value := [.int .i32 c.p, .int .u8 c.f, .int .u32 c.g, .int .u32 c.b]
def cV (c : Ce) : Value := .agg #[.int .i32 c.p, .int .u8 c.f, .int .u32 c.g, .int .u32 c.b]
def flat (L : List Ce) : List Value := L.flatMap gC
def zeC : Ce := ⟨0, 0, 0, 0⟩
theorem flat_nil : flat [] = [] := rfl
theorem flat_cons (c : Ce) (L : List Ce) : flat (c :: L) = gC c ++ flat L := rfl
theorem flat_app (a b : List Ce) : flat (a ++ b) = flat a ++ flat b := by simp [flat]
theorem flat_len : ∀ L : List Ce, (flat L).length = L.length * 4
  | [] => rfl
  | c :: L => by rw [flat_cons, List.length_append, flat_len L]; simp [gC]; omega
theorem flat_get : ∀ (L : List Ce) (i j : Nat) (hi : i < L.length), j < 4 → (flat L)[i * 4 + j]? = (gC (L[i]))[j]?
  | [], i, j, hi, _ => by simp at hi
  | c :: L, 0, j, _, hj => by
    rw [flat_cons, List.getElem?_append_left (by simp [gC]; omega)]
    simp
  | c :: L, i + 1, j, hi, hj => by
    have hl : (gC c).length = 4 := rfl
    rw [flat_cons, List.getElem?_append_right (by rw [hl]; omega), hl, show (i + 1) * 4 + j - 4 = i * 4 + j by omega, flat_get L i j (by simpa using hi) hj]
    simp
theorem flat_take (L : List Ce) (n : Nat) : flat (L.take n) = (flat L).take (n * 4) := by
  by_cases h : n ≤ L.length
  · have e := congrArg flat (List.take_append_drop n L)
    rw [flat_app] at e
    rw [← e, List.take_left' (by rw [flat_len, List.length_take]; omega)]
  · rw [List.take_of_length_le (by omega), List.take_of_length_le (by rw [flat_len]; omega)]
theorem flat_drop (L : List Ce) (n : Nat) : flat (L.drop n) = (flat L).drop (n * 4) := by
  by_cases h : n ≤ L.length
  · have e := congrArg flat (List.take_append_drop n L)
    rw [flat_app] at e
    rw [← e, List.drop_left' (by rw [flat_len, List.length_take]; omega)]
  · rw [List.drop_eq_nil_of_le (by omega), List.drop_eq_nil_of_le (by rw [flat_len]; omega)]; rfl
theorem flat_cells (L : List Ce) : ∀ v ∈ flat L, v.oneCell' = true := by
  intro v hv
  obtain ⟨c, _, hc⟩ := List.mem_flatMap.1 hv
  simp [gC] at hc
  rcases hc with rfl | rfl | rfl | rfl <;> rfl
/-- Cells laid over others from a place on. -/
def lay (L : List Ce) (o : Nat) (cs : List Ce) : List Ce := L.take o ++ cs ++ L.drop (o + cs.length)
theorem lay_len {L : List Ce} {o : Nat} {cs : List Ce} (h : o + cs.length ≤ L.length) : (lay L o cs).length = L.length := by simp [lay]; omega
/-- A row of cells in a block, with room for some more. -/
def RowAt (W : World) (b cap : Nat) (L : List Ce) : Prop :=
  ∃ cur : Array Value, W.heap[b]? = some (.cells cur 88 (0, 0)) ∧ cur.size = cap * 4 ∧ L.length ≤ cap ∧ cap ≤ maxLen ∧ cur.toList.take (L.length * 4) = flat L
theorem RowAt.lt {W : World} {b cap : Nat} {L : List Ce} (h : RowAt W b cap L) : b < W.heap.size := by
  obtain ⟨cur, h1, _⟩ := h
  exact lt_of_block h1
theorem RowAt.free {W : World} {b cap : Nat} {L : List Ce} (h : RowAt W b cap L) (k : Nat) : W.frozen? ⟨b, k, none⟩ = false := by
  obtain ⟨cur, h1, _⟩ := h
  exact frozen_of_row W b k _ _ h1
theorem RowAt.at_ {W : World} {b cap : Nat} {L : List Ce} (h : RowAt W b cap L) {k : Nat} (hk : k < L.length * 4) : W.cell? ⟨b, k, none⟩ = (flat L)[k]? := by
  obtain ⟨cur, h1, h2, h3, _, h4⟩ := h
  unfold World.cell?
  simp only [h1]
  rw [← h4, List.getElem?_take_of_lt hk]
  simp
theorem RowAt.cell {W : World} {b cap : Nat} {L : List Ce} (h : RowAt W b cap L) {i j : Nat} (hi : i < L.length) (hj : j < 4) : W.cell? ⟨b, i * 4 + j, none⟩ = (gC (L[i]))[j]? := by
  rw [h.at_ (by omega), flat_get L i j hi hj]
theorem RowAt.keep {W W' : World} {b cap : Nat} {L : List Ce} (h : RowAt W b cap L) (hb : W'.heap[b]? = W.heap[b]?) : RowAt W' b cap L := by
  obtain ⟨cur, h1, h2⟩ := h
  exact ⟨cur, hb.trans h1, h2⟩
theorem RowAt.below {W W' : World} {b cap : Nat} {L : List Ce} (h : RowAt W b cap L) (hb : Below W.heap.size W W') : RowAt W' b cap L := h.keep (hb.block b h.lt)
theorem RowAt.grown {W W' : World} {b cap : Nat} {L : List Ce} {row : Option Nat} (h : RowAt W b cap L) (hg : W.grownBy W' row) (hne : some b ≠ row) : RowAt W' b cap L := h.keep (hg.block b h.lt hne)
theorem RowAt.own {W : World} {B b cap : Nat} {L : List Ce} (h : RowAt W b cap L) (hB : B ≤ b) : W.ownsRow B 88 4 (.slice (some ⟨b, 0, none⟩) L.length cap) L.length (flat L) := by
  obtain ⟨cur, h1, h2, h3, h4, h5⟩ := h
  exact ⟨flat_len L, .inr ⟨b, cap, cur, rfl, hB, h1, h3, h4, h2, h5⟩⟩
theorem RowAt.of_own {W : World} {B b cap n : Nat} {L : List Ce} (h : W.ownsRow B 88 4 (.slice (some ⟨b, 0, none⟩) n cap) n (flat L)) : RowAt W b cap L ∧ n = L.length ∧ B ≤ b := by
  obtain ⟨h0, h⟩ := h
  rw [flat_len] at h0
  obtain rfl : n = L.length := by omega
  rcases h with ⟨h, _⟩ | ⟨g, c, cur, hv, hB, h1, h3, h4, h2, h5⟩
  · simp at h
  · injection hv with a _ c'
    injection a with a
    injection a with a
    subst a c'
    exact ⟨⟨cur, h1, h2, h3, h4, h5⟩, rfl, hB⟩
theorem grown_setRow (W : World) (b : Nat) (cs : Array Value) : W.grownBy (W.setRow b cs) (some b) :=
  ⟨rfl, rfl, rfl, by simp [World.setRow], fun k _ hk => setRow_other W b k cs (fun e => hk (by rw [e]))⟩
/-- What a block holds is laid over. -/
theorem RowAt.laid {W : World} {b cap : Nat} {L : List Ce} (h : RowAt W b cap L) {o : Nat} {cs : List Ce} (ho : o + cs.length ≤ L.length) :
    ∃ cur : Array Value, W.heap[b]? = some (.cells cur 88 (0, 0)) ∧ o * 4 + (flat cs).length ≤ cur.size ∧ RowAt (W.setRow b (cur.toList.take (o * 4) ++ flat cs ++ cur.toList.drop (o * 4 + (flat cs).length)).toArray) b cap (lay L o cs) := by
  obtain ⟨cur, h1, h2, h3, h4, h5⟩ := h
  have hfl := flat_len cs
  refine ⟨cur, h1, by rw [hfl, h2]; omega, _, setRow_heap W b _ _ _ _ h1, ?_, by rw [lay_len ho]; exact h3, h4, ?_⟩
  · simp [hfl, h2]; omega
  · rw [lay_len ho, List.toList_toArray]
    have e : flat (lay L o cs) = (flat L).take (o * 4) ++ flat cs ++ (flat L).drop (o * 4 + (flat cs).length) := by
      unfold lay
      rw [flat_app, flat_app, flat_take, flat_drop, hfl, Nat.add_mul]
    rw [e, ← h5]
    apply List.ext_getElem?
    intro k
    simp only [List.getElem?_take, List.getElem?_append, List.length_append, List.length_take, Array.length_toList, h2, hfl, List.getElem?_drop]
    have e1 : min (o * 4) (cap * 4) = o * 4 := by omega
    have e2 : min (o * 4) (min (L.length * 4) (cap * 4)) = o * 4 := by omega
    rw [e1, e2]
    by_cases k1 : k < L.length * 4
    · by_cases k2 : k < o * 4
      · simp [k1, k2, show k < o * 4 + cs.length * 4 by omega]
      · by_cases k3 : k < o * 4 + cs.length * 4
        · simp [k1, k2, k3]
        · simp [k1, k2, k3, show o * 4 + cs.length * 4 + (k - (o * 4 + cs.length * 4)) = k by omega]
    · by_cases k3 : k < o * 4 + cs.length * 4
      · omega
      · simp [k1, k3, show ¬ k < o * 4 by omega, show o * 4 + cs.length * 4 + (k - (o * 4 + cs.length * 4)) = k by omega]
theorem infoCell : (Tryd.prog.info? 88).map (fun i => (i.zero, i.size, i.bytes)) = some (some (cV zeC), 4, 16) := by kernel_rfl
/-- Cells are copied, within a block or from another one. -/
theorem run_copy4 {W : World} {b cap : Nat} {L : List Ce} (h : RowAt W b cap L) (ty : TypeId) {o m dc k sc : Nat} {a : Addr} {cs : List Ce} (hcs : cs.length = Nat.min k m) (ho : o + cs.length ≤ L.length) (hsrc : ∀ j v, (flat cs)[j]? = some v → W.cell? (a.add j) = some v) :
    ∃ W', (Builtin.copy_ #[22, 22] ty #[.slice (some ⟨b, o * 4, none⟩) m dc, .slice (some a) k sc]).run Tryd.prog W = .ok (goInt cs.length) W' ∧ RowAt W' b cap (lay L o cs) ∧ W.grownBy W' (some b) := by
  obtain ⟨cur, h1, h2, h3⟩ := h.laid ho
  obtain ⟨i, hi, _, hz1, _⟩ := info_parts infoCell
  have hl := run_loadCells_list (P := Tryd.prog) W a (flat cs) hsrc
  have hst := run_storeCells_at Tryd.prog b (o * 4) 88 (flat cs) 0 cur W h1 (by simpa using h2) (flat_cells cs)
  refine ⟨_, ?_, h3, grown_setRow _ _ _⟩
  rw [flat_len] at hl hst ⊢
  simp [Builtin.copy_, run_underlying Tryd.underlying22, Builtin.lenOf, Builtin.firstCells, sizeOf, typeInfo, hi, hz1, ← hcs, hl, hst]
/-- Nothing is copied. -/
theorem run_copy0 (W : World) (ty : TypeId) {d s : Option Addr} {m dc k sc : Nat} (hn : Nat.min k m = 0) :
    (Builtin.copy_ #[22, 22] ty #[.slice d m dc, .slice s k sc]).run Tryd.prog W = .ok (goInt 0) W := by
  obtain ⟨i, hi, _, hz1, _⟩ := info_parts infoCell
  have hl : ∀ (x : Addr), (loadCells x 0).run Tryd.prog W = .ok #[] W := fun x => by simpa using run_loadCells_list (P := Tryd.prog) W x [] (by simp)
  cases d <;> cases s <;> simp [Builtin.copy_, run_underlying Tryd.underlying22, Builtin.lenOf, Builtin.firstCells, sizeOf, typeInfo, hi, hz1, hn, storeCells, hl]
theorem wpList_copy {P : Program} {ops : Array Oper} {rest : List Oper} {o : Oper} {a : Act} {W W' : World} {Q : Exit → Act → World → Prop} {r : Value} (hgd : o.guard = none) (d s : Operand) (dT sT : TypeId)
    (ho : o.op = .call { callee := .builtin .copy, args := #[d, s], argTypes := #[dT, sT] }) (dv sv : Value) (hd : a.eval d = dv) (hs : a.eval s = sv) (hrun : (Builtin.copy_ #[dT, sT] o.type #[dv, sv]).run P W = .ok r W')
    (h : wpList P ops Q rest (a.put o.dst r) W') : wpList P ops Q (o :: rest) a W := by
  refine wpList_plain hgd fun K hK => ?_
  unfold Oper.wp
  simp [execOp, ho, resolve, invoke, builtin, hd, hs, hrun, Result.andThen]
  exact hK _ _ h
theorem step_copy {P : Program} {ops : Array Oper} {o : Oper} {a : Act} {W W' : World} {K : Act → World → Prop} {Q : Exit → Act → World → Prop} {E : Prop} {r : Value} (hgd : o.guard = none) (d s : Operand) (dT sT : TypeId)
    (ho : o.op = .call { callee := .builtin .copy, args := #[d, s], argTypes := #[dT, sT] }) (dv sv : Value) (hd : a.eval d = dv) (hs : a.eval s = sv) (hrun : (Builtin.copy_ #[dT, sT] o.type #[dv, sv]).run P W = .ok r W')
    (h : K (a.put o.dst r) W') : if Region.wanted o (yielded ops a.tmps) = true then Oper.wp P o a W K Q else E := by
  have hw : Region.wanted o (yielded ops a.tmps) = true := by simp [Region.wanted, hgd]
  rw [if_pos hw]
  unfold Oper.wp
  simp [execOp, ho, resolve, invoke, builtin, hd, hs, hrun, Result.andThen]
  exact h
end Go.Proofs.YtjihcpnaebghnaaDoor
