/-
  Proved here: of the document's grids: Has, with.
-/
import Derived.Test.YtjihcpnaebghnaaDoorGw
set_option linter.unusedSimpArgs false
set_option linter.unusedVariables false
namespace Go.Proofs.YtjihcpnaebghnaaDoor
open Go.RowKit
set_option maxRecDepth 100000 in
set_option maxHeartbeats 4000000 in
theorem rhas_any (R C : Nat) (A : Option Addr) (n c : Nat) (row col : Int) (w : World) : Calls Tryd.prog 58 #[.agg #[.int .i64 R, .int .i64 C, .slice A n c], .int .i64 row, .int .i64 col] w fun e w' => e = .returned (.bool (hasC R C row col)) ∧ Below w.heap.size w w' := by
  have HB := Lib.hid ((Below.refl w.heap.size w).alloc (Nat.le_refl _) (.cells #[.int .i64 R, .int .i64 C, .slice A n c] 32))
  have HQ : Hid (∀ a b c d : Bool, decide (0 ≤ row) = a → decide (row < (R : Int)) = b → decide (0 ≤ col) = c → decide (col < (C : Int)) = d → hasC R C row col = (a && b && (c && d))) := Lib.hid (fun a b c d h1 h2 h3 h4 => by subst h1 h2 h3 h4; unfold hasC hasR; simp)
  obtain ⟨q, hq⟩ : ∃ q, hasC R C row col = q := ⟨_, rfl⟩
  rw [hq] at HQ ⊢
  clear hq
  cases h1 : decide (0 ≤ row) with
  | false =>
    have h1' : decide (row ≥ 0) = false := h1
    obtain rfl := HQ.out _ _ _ _ h1 rfl rfl rfl
    rw [Bool.false_and, Bool.false_and]
    go_enter Tryd.func58, Tryd.ntmps58
    go_wp2
    go_ret
    exact ⟨rfl, HB.out⟩
  | true =>
    have h1' : decide (row ≥ 0) = true := h1
    cases h2 : decide (row < (R : Int)) with
    | false =>
      obtain rfl := HQ.out _ _ _ _ h1 h2 rfl rfl
      rw [Bool.true_and, Bool.false_and]
      go_enter Tryd.func58, Tryd.ntmps58
      go_wp2
      go_ret
      exact ⟨rfl, HB.out⟩
    | true =>
      cases h3 : decide (0 ≤ col) with
      | false =>
        have h3' : decide (col ≥ 0) = false := h3
        obtain rfl := HQ.out _ _ _ _ h1 h2 h3 rfl
        rw [Bool.true_and, Bool.true_and, Bool.false_and]
        go_enter Tryd.func58, Tryd.ntmps58
        go_wp2
        go_ret
        exact ⟨rfl, HB.out⟩
      | true =>
        have h3' : decide (col ≥ 0) = true := h3
        cases h4 : decide (col < (C : Int)) with
        | false =>
          obtain rfl := HQ.out _ _ _ _ h1 h2 h3 h4
          go_enter Tryd.func58, Tryd.ntmps58
          go_wp2
          go_ret
          exact ⟨rfl, HB.out⟩
        | true =>
          obtain rfl := HQ.out _ _ _ _ h1 h2 h3 h4
          go_enter Tryd.func58, Tryd.ntmps58
          go_wp2
          go_ret
          exact ⟨rfl, HB.out⟩
end Go.Proofs.YtjihcpnaebghnaaDoor

/-
  Proved here: of the document's grids: At.
-/
set_option linter.unusedSimpArgs false
set_option linter.unusedVariables false
namespace Go.Proofs.YtjihcpnaebghnaaDoor
open Go.RowKit
theorem flatY_get : ∀ (L : List Ce) (i j : Nat) (hi : i < L.length), j < 11 → (flatY L)[i * 11 + j]? = (yC (L[i]))[j]?
  | c :: L, 0, j, _, hj => by
    rw [show flatY (c :: L) = yC c ++ flatY L from rfl, Nat.zero_mul, Nat.zero_add, List.getElem?_append_left (by rw [yC_len]; exact hj)]; rfl
  | c :: L, i + 1, j, hi, hj => by
    rw [show flatY (c :: L) = yC c ++ flatY L from rfl, List.getElem?_append_right (by rw [yC_len, Nat.succ_mul]; omega), yC_len, show (i + 1) * 11 + j - 11 = i * 11 + j by omega]
    exact flatY_get L i j (by simpa using hi) hj
/-- A row of the document's cells, read. -/
def YR (W : World) (b : Nat) (L : List Ce) : Prop := b < W.heap.size ∧ ∀ j v, (flatY L)[j]? = some v → W.cell? ⟨b, j, none⟩ = some v
theorem YR.below {W W' : World} {b : Nat} {L : List Ce} (h : YR W b L) (hb : Below W.heap.size W W') : YR W' b L := ⟨Nat.lt_of_lt_of_le h.1 hb.size, fun j v hv => (hb.cell (p := ⟨b, j, none⟩) h.1).trans (h.2 j v hv)⟩
end Go.Proofs.YtjihcpnaebghnaaDoor

/-
  Proved here, of lists alone: what a grid's calls make of its cells, place by place.
-/
set_option linter.unusedSimpArgs false
set_option linter.unusedVariables false
namespace Go.Proofs.YtjihcpnaebghnaaDoor
/-- A list, cell by cell. -/
def genL (n : Nat) (f : Nat → Ce) : List Ce := (List.range n).map f
theorem genL_len (n : Nat) (f : Nat → Ce) : (genL n f).length = n := by simp [genL]
theorem genL_succ (n : Nat) (f : Nat → Ce) : genL (n + 1) f = genL n f ++ [f n] := by simp [genL, List.range_succ]
theorem ceAt_gen {n : Nat} {f : Nat → Ce} {k : Nat} (h : k < n) : ceAt (genL n f) k = f k := by
  simp [ceAt, genL, List.getD, h]
theorem ceAt_get {L : List Ce} {k : Nat} (h : k < L.length) : L[k] = ceAt L k := by simp [ceAt, List.getD, h]
theorem ext_ce {L M : List Ce} (hl : L.length = M.length) (h : ∀ k, k < L.length → ceAt L k = ceAt M k) : L = M := by
  apply List.ext_getElem hl
  intro k h1 h2
  rw [ceAt_get h1, ceAt_get h2]
  exact h k h1
theorem ceAt_lay {L : List Ce} {o k : Nat} {cs : List Ce} (h : o + cs.length ≤ L.length) : ceAt (lay L o cs) k = if k < o then ceAt L k else if k < o + cs.length then ceAt cs (k - o) else ceAt L k := by
  unfold ceAt lay
  simp only [List.getD_eq_getElem?_getD]
  have hto : (L.take o).length = o := by simp; omega
  by_cases h1 : k < o
  · rw [if_pos h1, List.append_assoc, List.getElem?_append_left (by rw [hto]; exact h1), List.getElem?_take_of_lt h1]
  · rw [if_neg h1, List.append_assoc, List.getElem?_append_right (by rw [hto]; omega), hto]
    by_cases h2 : k < o + cs.length
    · rw [if_pos h2, List.getElem?_append_left (by omega)]
    · rw [if_neg h2, List.getElem?_append_right (by omega), List.getElem?_drop, show o + cs.length + (k - o - cs.length) = k by omega]
theorem ceAt_rep {n k : Nat} {c : Ce} (h : k < n) : ceAt (rep n c) k = c := by simp [ceAt, rep, List.getD, h]
theorem ceAt_sub {L : List Ce} {s len k : Nat} (h : k < len) : ceAt ((L.drop s).take len) k = ceAt L (s + k) := by
  unfold ceAt
  simp only [List.getD_eq_getElem?_getD]
  rw [List.getElem?_take_of_lt h, List.getElem?_drop]
theorem ceAt_fwd {L : List Ce} {o m n k : Nat} {c : Ce} (h : o + m ≤ L.length) (hn : n ≤ m) : ceAt (fwdL L o m n c) k = if k < o ∨ o + m ≤ k then ceAt L k else if k + n < o + m then ceAt L (k + n) else c := by
  unfold fwdL
  have h1 : ((L.drop (o + n)).take (m - n)).length = m - n := by simp; omega
  have h2 : (lay L o ((L.drop (o + n)).take (m - n))).length = L.length := lay_len (by rw [h1]; omega)
  rw [ceAt_lay (by rw [rep_len, h2]; omega), ceAt_lay (by rw [h1]; omega), h1, rep_len]
  by_cases a1 : k < o
  · rw [if_pos (show k < o + (m - n) by omega), if_pos a1, if_pos (Or.inl a1)]
  · by_cases a2 : o + m ≤ k
    · rw [if_neg (by omega), if_neg (by omega), if_neg (by omega), if_neg (by omega), if_pos (Or.inr a2)]
    · rw [if_neg (show ¬ (k < o ∨ o + m ≤ k) by omega)]
      by_cases a3 : k + n < o + m
      · rw [if_pos (by omega), if_neg a1, if_pos (by omega), if_pos a3, ceAt_sub (by omega), show o + n + (k - o) = k + n by omega]
      · rw [if_neg (by omega), if_pos (by omega), if_neg a3, ceAt_rep (by omega)]
theorem ceAt_bck {L : List Ce} {o m n k : Nat} {c : Ce} (h : o + m ≤ L.length) (hn : n ≤ m) : ceAt (bckL L o m n c) k = if k < o ∨ o + m ≤ k then ceAt L k else if o + n ≤ k then ceAt L (k - n) else c := by
  unfold bckL
  have h1 : ((L.drop o).take (m - n)).length = m - n := by simp; omega
  have h2 : (lay L (o + n) ((L.drop o).take (m - n))).length = L.length := lay_len (by rw [h1]; omega)
  rw [ceAt_lay (by rw [rep_len, h2]; omega), ceAt_lay (by rw [h1]; omega), h1, rep_len]
  by_cases a1 : k < o
  · rw [if_pos a1, if_pos (by omega), if_pos (Or.inl a1)]
  · by_cases a2 : o + m ≤ k
    · rw [if_neg (by omega), if_neg (by omega), if_neg (by omega), if_neg (by omega), if_pos (Or.inr a2)]
    · rw [if_neg (show ¬ (k < o ∨ o + m ≤ k) by omega), if_neg a1]
      by_cases a3 : o + n ≤ k
      · rw [if_neg (by omega), if_neg (by omega), if_pos (by omega), if_pos a3, ceAt_sub (by omega), show o + (k - (o + n)) = k - n by omega]
      · rw [if_pos (by omega), if_neg a3, ceAt_rep (by omega)]
theorem row_lt {a i : Nat} (C : Nat) (h : a < i) : a * C + C ≤ i * C := by
  have := Nat.mul_le_mul_right C (show a + 1 ≤ i from h)
  rwa [Nat.succ_mul] at this
theorem place_div {C a r : Nat} (h : r < C) : (a * C + r) / C = a ∧ (a * C + r) % C = r := by
  refine ⟨?_, ?_⟩
  · rw [Nat.mul_comm, Nat.mul_add_div (by omega), Nat.div_eq_of_lt h, Nat.add_zero]
  · rw [Nat.mul_comm, Nat.mul_add_mod, Nat.mod_eq_of_lt h]
theorem place_of {C : Nat} (k : Nat) (h : 0 < C) : ∃ a r, k = a * C + r ∧ r < C := ⟨k / C, k % C, by rw [Nat.mul_comm]; exact (Nat.div_add_mod k C).symm, Nat.mod_lt _ h⟩
theorem place_row {C R a r : Nat} (h : r < C) (hk : a * C + r < R * C) : a < R := by
  rcases Nat.lt_or_ge a R with h1 | h1
  · exact h1
  · have := Nat.mul_le_mul_right C h1
    omega
/-- The document's Fill. -/
def dfillF (C : Nat) (L : List Ce) (i : Nat) (x y : Int) (c : Ce) (k : Nat) : Ce := if k / C = i ∧ x ≤ ((k % C : Nat) : Int) ∧ ((k % C : Nat) : Int) < y then c else ceAt L k
end Go.Proofs.YtjihcpnaebghnaaDoor

/-
  Kept here: rows of the document's cells in memory, of this call's own; one of them is stored.
-/
set_option linter.unusedSimpArgs false
set_option linter.unusedVariables false
namespace Go.Proofs.YtjihcpnaebghnaaDoor
open Go.RowKit
theorem flatY_take (L : List Ce) (n : Nat) : flatY (L.take n) = (flatY L).take (n * 11) := by
  by_cases h : n ≤ L.length
  · have e := congrArg flatY (List.take_append_drop n L)
    rw [flatY_app] at e
    rw [← e, List.take_left' (by rw [flatY_len, List.length_take]; omega)]
  · rw [List.take_of_length_le (by omega), List.take_of_length_le (by rw [flatY_len]; omega)]
theorem flatY_drop (L : List Ce) (n : Nat) : flatY (L.drop n) = (flatY L).drop (n * 11) := by
  by_cases h : n ≤ L.length
  · have e := congrArg flatY (List.take_append_drop n L)
    rw [flatY_app] at e
    rw [← e, List.drop_left' (by rw [flatY_len, List.length_take]; omega)]
  · rw [List.drop_eq_nil_of_le (by omega), List.drop_eq_nil_of_le (by rw [flatY_len]; omega)]; rfl
theorem flatY_cells (L : List Ce) : ∀ v ∈ flatY L, v.oneCell' = true := by
  intro v hv
  obtain ⟨c, _, hc⟩ := List.mem_flatMap.1 hv
  exact yC_one c v hc
/-- A row of the document's cells in a block. -/
def RowY (W : World) (b cap : Nat) (L : List Ce) : Prop :=
  ∃ cur : Array Value, W.heap[b]? = some (.cells cur 80 (0, 0)) ∧ cur.size = cap * 11 ∧ L.length ≤ cap ∧ cap ≤ maxLen ∧ cur.toList.take (L.length * 11) = flatY L
theorem RowY.lt {W : World} {b cap : Nat} {L : List Ce} (h : RowY W b cap L) : b < W.heap.size := by
  obtain ⟨cur, h1, _⟩ := h
  exact lt_of_block h1
theorem RowY.free {W : World} {b cap : Nat} {L : List Ce} (h : RowY W b cap L) (k : Nat) : W.frozen? ⟨b, k, none⟩ = false := by
  obtain ⟨cur, h1, _⟩ := h
  exact frozen_of_row W b k _ _ h1
theorem RowY.at_ {W : World} {b cap : Nat} {L : List Ce} (h : RowY W b cap L) {k : Nat} (hk : k < L.length * 11) : W.cell? ⟨b, k, none⟩ = (flatY L)[k]? := by
  obtain ⟨cur, h1, h2, h3, _, h4⟩ := h
  unfold World.cell?
  simp only [h1]
  rw [← h4, List.getElem?_take_of_lt hk]
  simp
theorem RowY.yr {W : World} {b cap : Nat} {L : List Ce} (h : RowY W b cap L) : YR W b L := by
  refine ⟨h.lt, fun j v hv => ?_⟩
  have hj : j < L.length * 11 := by
    rw [← flatY_len]
    exact (List.getElem?_eq_some_iff.1 hv).1
  rw [h.at_ hj]; exact hv
theorem RowY.keep {W W' : World} {b cap : Nat} {L : List Ce} (h : RowY W b cap L) (hb : W'.heap[b]? = W.heap[b]?) : RowY W' b cap L := by
  obtain ⟨cur, h1, h2⟩ := h
  exact ⟨cur, hb.trans h1, h2⟩
theorem RowY.below {W W' : World} {b cap : Nat} {L : List Ce} (h : RowY W b cap L) (hb : Below W.heap.size W W') : RowY W' b cap L := h.keep (hb.block b h.lt)
theorem RowY.grown {W W' : World} {b cap : Nat} {L : List Ce} {row : Option Nat} (h : RowY W b cap L) (hg : W.grownBy W' row) (hne : some b ≠ row) : RowY W' b cap L := h.keep (hg.block b h.lt hne)
theorem RowY.own {W : World} {B b cap : Nat} {L : List Ce} (h : RowY W b cap L) (hB : B ≤ b) : W.ownsRow B 80 11 (.slice (some ⟨b, 0, none⟩) L.length cap) L.length (flatY L) := by
  obtain ⟨cur, h1, h2, h3, h4, h5⟩ := h
  exact ⟨flatY_len L, .inr ⟨b, cap, cur, rfl, hB, h1, h3, h4, h2, h5⟩⟩
theorem RowY.of_own {W : World} {B n : Nat} {v : Value} {L : List Ce} (h : W.ownsRow B 80 11 v n (flatY L)) (hn : 1 ≤ n) : ∃ b cap, v = .slice (some ⟨b, 0, none⟩) n cap ∧ RowY W b cap L ∧ n = L.length ∧ B ≤ b := by
  obtain ⟨h0, h⟩ := h
  rw [flatY_len] at h0
  obtain rfl : n = L.length := by omega
  rcases h with h | ⟨g, c, cur, rfl, hB, h1, h3, h4, h2, h5⟩
  · have h2 := h.2
    first | omega | (have := h2.1; omega)
  · exact ⟨g, c, rfl, ⟨cur, h1, h2, h3, h4, h5⟩, rfl, hB⟩
theorem YR.grown {W W' : World} {b : Nat} {L : List Ce} {row : Option Nat} (h : YR W b L) (hg : W.grownBy W' row) (hne : some b ≠ row) : YR W' b L := ⟨Nat.lt_of_lt_of_le h.1 hg.size, fun j v hv => by
  have := h.2 j v hv
  unfold World.cell? at this ⊢
  rw [show W'.heap[b]? = W.heap[b]? from hg.block b h.1 hne]
  exact this⟩
theorem RowY.laid {W : World} {b cap : Nat} {L : List Ce} (h : RowY W b cap L) {o : Nat} {cs : List Ce} (ho : o + cs.length ≤ L.length) :
    ∃ cur : Array Value, W.heap[b]? = some (.cells cur 80 (0, 0)) ∧ o * 11 + (flatY cs).length ≤ cur.size ∧ RowY (W.setRow b (cur.toList.take (o * 11) ++ flatY cs ++ cur.toList.drop (o * 11 + (flatY cs).length)).toArray) b cap (lay L o cs) := by
  obtain ⟨cur, h1, h2, h3, h4, h5⟩ := h
  have hfl := flatY_len cs
  refine ⟨cur, h1, by rw [hfl, h2]; omega, _, setRow_heap W b _ _ _ _ h1, ?_, by rw [lay_len ho]; exact h3, h4, ?_⟩
  · simp [hfl, h2]; omega
  · rw [lay_len ho, List.toList_toArray]
    have e : flatY (lay L o cs) = (flatY L).take (o * 11) ++ flatY cs ++ (flatY L).drop (o * 11 + (flatY cs).length) := by
      unfold lay
      rw [flatY_app, flatY_app, flatY_take, flatY_drop, hfl, Nat.add_mul]
    rw [e, ← h5]
    apply List.ext_getElem?
    intro k
    simp only [List.getElem?_take, List.getElem?_append, List.length_append, List.length_take, Array.length_toList, h2, hfl, List.getElem?_drop]
    have e1 : min (o * 11) (cap * 11) = o * 11 := by omega
    have e2 : min (o * 11) (min (L.length * 11) (cap * 11)) = o * 11 := by omega
    rw [e1, e2]
    by_cases k1 : k < L.length * 11
    · by_cases k2 : k < o * 11
      · simp [k1, k2, show k < o * 11 + cs.length * 11 by omega]
      · by_cases k3 : k < o * 11 + cs.length * 11
        · simp [k1, k2, k3]
        · simp [k1, k2, k3, show o * 11 + cs.length * 11 + (k - (o * 11 + cs.length * 11)) = k by omega]
    · by_cases k3 : k < o * 11 + cs.length * 11
      · omega
      · simp [k1, k3, show ¬ k < o * 11 by omega, show o * 11 + cs.length * 11 + (k - (o * 11 + cs.length * 11)) = k by omega]
theorem run_storeY {W : World} {b cap : Nat} {L : List Ce} (h : RowY W b cap L) {k : Nat} (hk : k < L.length) (c : Ce) : ∃ V, (storeVar 80 ⟨b, k * 11, none⟩ (yV c)).run Tryd.prog W = .ok () V ∧ RowY V b cap (L.set k c) ∧ W.grownBy V (some b) := by
  obtain ⟨cur, h1, h2, h3⟩ := h.laid (o := k) (cs := [c]) (by simp; omega)
  obtain ⟨i, hi, _, hz1, _⟩ := info_parts infoY
  have hst := run_storeCells_at Tryd.prog b (k * 11) 80 (flatY [c]) 0 cur W h1 (by simpa using h2) (flatY_cells [c])
  rw [lay_one L k c hk] at h3
  refine ⟨_, ?_, h3, grown_setRow _ _ _⟩
  have e : (yV c).cells.toList = flatY [c] := by rw [flatY_one]; rfl
  have e2 : (yV c).cells.size = 11 := yC_len c
  simp only [storeVar, sizeOf, typeInfo, hi, hz1, e2, e]
  simpa [hi, hz1] using hst
theorem wpList_storeY {ops : Array Oper} {rest : List Oper} {o : Oper} {a : Act} {W : World} {Q : Exit → Act → World → Prop} (hgd : o.guard = none) (x y : Operand) (ho : o.op = .store 80 x y)
    {b cap : Nat} {L : List Ce} (h : RowY W b cap L) {k : Nat} (hk : k < L.length) (hx : a.eval x = .pointer (some ⟨b, k * 11, none⟩)) {c : Ce} (hy : a.eval y = yV c)
    (hK : ∀ V, RowY V b cap (L.set k c) → W.grownBy V (some b) → wpList Tryd.prog ops Q rest (a.put o.dst undef) V) : wpList Tryd.prog ops Q (o :: rest) a W := by
  refine wpList_plain hgd fun K hK2 => ?_
  obtain ⟨V, h1, h2, h3⟩ := run_storeY h hk c
  unfold Oper.wp execOp
  simp only [ho, hx, hy, Instr.storeAt, Instr.sureAddr, Sem.run_bind, Sem.run_pure, Result.andThen_ok, h1]
  exact hK2 _ _ (hK V h2 h3)
/-- A whole row is put behind nothing. -/
theorem app_rowY {W : World} {b : Nat} {L : List Ce} {n cap : Nat} (h : YR W b L) (hL : L.length = n) (hn : 1 ≤ n) (hm : n ≤ 100000) : ∃ b' cap' w', (Builtin.append_ #[30, 30] 30 #[.slice none 0 0, .slice (some ⟨b, 0, none⟩) n cap]).run Tryd.prog W = .ok (.slice (some ⟨b', 0, none⟩) n cap') w' ∧ RowY w' b' cap' L ∧ W.heap.size ≤ b' ∧ Below W.heap.size W w' := by
  obtain ⟨i0, hi, hz0, hz1, hz2⟩ := info_parts infoY
  obtain ⟨v', w', hr, ho, hg, _, hat⟩ := run_append_own_at (P := Tryd.prog) W W.heap.size 30 30 80 i0 _ 11 20 Tryd.underlying30 hi hz0 hz1 hz2 rfl (by decide) (.slice none 0 0) 0 (flatY []) (World.ownsRow_nil _ _ _ _) ⟨b, 0, none⟩ n cap (flatY L) (by rw [flatY_len, hL])
    (fun j u hu => by
      rw [show (⟨b, 0, none⟩ : Addr).add j = ⟨b, j, none⟩ by unfold Addr.add; split <;> simp_all]
      exact h.2 j u hu)
    (flatY_cells L) (by unfold maxLen; omega) (by omega) (Nat.le_refl _)
  rw [flatY_nil, List.nil_append, Nat.zero_add] at ho
  obtain ⟨b', cap', rfl, hR, _, hB⟩ := RowY.of_own ho hn
  exact ⟨b', cap', w', hr, hR, hB, ⟨hg.os, hg.tape, hg.output, hg.size, fun k hk => hg.block k hk (by simp [Value.ownBlock])⟩⟩
end Go.Proofs.YtjihcpnaebghnaaDoor

/-
  Proved here: of the document's grids: Put.
-/
set_option linter.unusedSimpArgs false
set_option linter.unusedVariables false
namespace Go.Proofs.YtjihcpnaebghnaaDoor
open Go.RowKit
theorem yC_form (c : Ce) : ∃ p f0 f1 f2 f3 f4 f5 f6 f7 gg bb, yC c = [.int .i32 p, .bool f0, .bool f1, .bool f2, .bool f3, .bool f4, .bool f5, .bool f6, .bool f7, .int .u32 gg, .int .u32 bb] := by
  obtain ⟨p, f, gg, bb⟩ := c
  obtain ⟨f0, f1, f2, f3, f4, f5, f6, f7, hf⟩ := eight (ofF_len 8 f)
  exact ⟨p, f0, f1, f2, f3, f4, f5, f6, f7, gg, bb, by unfold yC; dsimp only; rw [hf]; rfl⟩
/-- What a call of a document's grid has laid: the grid, a cell, its answer's place. -/
structure Bx (w : World) (R C : Nat) (S : Value) (c : Ce) (U : World) : Prop where
  g : U.heap[w.heap.size]? = some (.cells #[.int .i64 R, .int .i64 C, S] 32 (0, 0))
  c : U.heap[w.heap.size + 1]? = some (.cells (yC c).toArray 80 (0, 0))
  z : U.heap[w.heap.size + 2]? = some (.cells #[.int .i64 0, .int .i64 0, .slice none 0 0] 32 (0, 0))
  b : Below w.heap.size w U
section
variable {w U W : World} {R C : Nat} {S : Value} {c : Ce}
theorem Bx.next (H : Bx w R C S c U) (hb : Below U.heap.size U W) : Bx w R C S c W :=
  ⟨(hb.block _ (lt_of_block H.g)).trans H.g, (hb.block _ (lt_of_block H.c)).trans H.c, (hb.block _ (lt_of_block H.z)).trans H.z, H.b.trans (hb.mono H.b.size)⟩
theorem Bx.grown (H : Bx w R C S c U) {k : Nat} (hg : U.grownBy W (some k)) (hk : w.heap.size + 3 ≤ k) : Bx w R C S c W :=
  ⟨(hg.block _ (lt_of_block H.g) (fun e => by injection e; omega)).trans H.g, (hg.block _ (lt_of_block H.c) (fun e => by injection e; omega)).trans H.c, (hg.block _ (lt_of_block H.z) (fun e => by injection e; omega)).trans H.z, H.b.grown hg H.b.size (fun j e => by injection e; omega)⟩
theorem Bx.three (H : Bx w R C S c U) : U.cell? ⟨w.heap.size, 0, none⟩ = some (.int .i64 R) ∧ U.cell? ⟨w.heap.size, 1, none⟩ = some (.int .i64 C) ∧ U.cell? ⟨w.heap.size, 2, none⟩ = some S := by
  refine ⟨?_, ?_, ?_⟩ <;> (unfold World.cell?; simp only [H.g]; rfl)
theorem Bx.end_ (H : Bx w R C S c U) (A : Array Value) : (U.setRow (w.heap.size + 2) A).heap[w.heap.size + 2]? = some (.cells A 32 (0, 0)) ∧ Below w.heap.size w (U.setRow (w.heap.size + 2) A) :=
  ⟨setRow_heap _ _ _ _ _ _ H.z, below_setRow H.b (by omega) _⟩
theorem Bx.new (w : World) (R C : Nat) (S : Value) (c : Ce) (A : Array Value) (hA : A = (yC c).toArray) : Bx w R C S c (((w.alloc (.cells #[.int .i64 R, .int .i64 C, S] 32)).alloc (.cells A 80)).alloc (.cells #[.int .i64 0, .int .i64 0, .slice none 0 0] 32)) := by
  subst hA
  have b1 := (Below.refl (w.alloc (.cells #[.int .i64 R, .int .i64 C, S] 32)).heap.size (w.alloc (.cells #[.int .i64 R, .int .i64 C, S] 32))).alloc (Nat.le_refl _) (.cells (yC c).toArray 80)
  have b2 := (Below.refl ((w.alloc (.cells #[.int .i64 R, .int .i64 C, S] 32)).alloc (.cells (yC c).toArray 80)).heap.size ((w.alloc (.cells #[.int .i64 R, .int .i64 C, S] 32)).alloc (.cells (yC c).toArray 80))).alloc (Nat.le_refl _) (.cells #[.int .i64 0, .int .i64 0, .slice none 0 0] 32)
  refine ⟨?_, ?_, ?_, ?_⟩
  · exact (b2.block w.heap.size (by simp; omega)).trans ((b1.block w.heap.size (by simp)).trans (heap_alloc_new w _))
  · refine (b2.block (w.heap.size + 1) (by simp)).trans ?_
    have := heap_alloc_new (w.alloc (.cells #[.int .i64 R, .int .i64 C, S] 32)) (.cells (yC c).toArray 80)
    simpa using this
  · have := heap_alloc_new ((w.alloc (.cells #[.int .i64 R, .int .i64 C, S] 32)).alloc (.cells (yC c).toArray 80)) (.cells #[.int .i64 0, .int .i64 0, .slice none 0 0] 32)
    simpa using this
  · exact (((Below.refl _ _).alloc (Nat.le_refl _) _).alloc (by simp) _).alloc (by simp; omega) _
theorem cells11 {k : Nat} {t : TypeId} {c0 c1 c2 c3 c4 c5 c6 c7 c8 c9 c10 : Value} (h : U.heap[k]? = some (.cells #[c0, c1, c2, c3, c4, c5, c6, c7, c8, c9, c10] t (0, 0))) :
    U.cell? ⟨k, 0, none⟩ = some c0 ∧ U.cell? ⟨k, 1, none⟩ = some c1 ∧ U.cell? ⟨k, 2, none⟩ = some c2 ∧ U.cell? ⟨k, 3, none⟩ = some c3 ∧ U.cell? ⟨k, 4, none⟩ = some c4 ∧ U.cell? ⟨k, 5, none⟩ = some c5 ∧ U.cell? ⟨k, 6, none⟩ = some c6 ∧ U.cell? ⟨k, 7, none⟩ = some c7 ∧ U.cell? ⟨k, 8, none⟩ = some c8 ∧ U.cell? ⟨k, 9, none⟩ = some c9 ∧ U.cell? ⟨k, 10, none⟩ = some c10 := by
  refine ⟨?_, ?_, ?_, ?_, ?_, ?_, ?_, ?_, ?_, ?_, ?_⟩ <;> (unfold World.cell?; simp only [h]; rfl)
theorem YR.eleven {k : Nat} {b : Nat} {L : List Ce} (h : YR U b L) (hk : k < L.length) {c0 c1 c2 c3 c4 c5 c6 c7 c8 c9 c10 : Value} (e : yC (ceAt L k) = [c0, c1, c2, c3, c4, c5, c6, c7, c8, c9, c10]) :
    U.cell? ⟨b, k * 11, none⟩ = some c0 ∧ U.cell? ⟨b, k * 11 + 1, none⟩ = some c1 ∧ U.cell? ⟨b, k * 11 + 2, none⟩ = some c2 ∧ U.cell? ⟨b, k * 11 + 3, none⟩ = some c3 ∧ U.cell? ⟨b, k * 11 + 4, none⟩ = some c4 ∧ U.cell? ⟨b, k * 11 + 5, none⟩ = some c5 ∧ U.cell? ⟨b, k * 11 + 6, none⟩ = some c6 ∧ U.cell? ⟨b, k * 11 + 7, none⟩ = some c7 ∧ U.cell? ⟨b, k * 11 + 8, none⟩ = some c8 ∧ U.cell? ⟨b, k * 11 + 9, none⟩ = some c9 ∧ U.cell? ⟨b, k * 11 + 10, none⟩ = some c10 := by
  have at_ : ∀ q v, q < 11 → [c0, c1, c2, c3, c4, c5, c6, c7, c8, c9, c10][q]? = some v → U.cell? ⟨b, k * 11 + q, none⟩ = some v := fun q v hq hv => h.2 _ v (by rw [flatY_get L k q hk hq, ceAt_get hk, e]; exact hv)
  exact ⟨at_ 0 _ (by omega) rfl, at_ 1 _ (by omega) rfl, at_ 2 _ (by omega) rfl, at_ 3 _ (by omega) rfl, at_ 4 _ (by omega) rfl, at_ 5 _ (by omega) rfl, at_ 6 _ (by omega) rfl, at_ 7 _ (by omega) rfl, at_ 8 _ (by omega) rfl, at_ 9 _ (by omega) rfl, at_ 10 _ (by omega) rfl⟩
end
/-- A grid of the document's, as a value. -/
abbrev XV (R C b n cap : Nat) : Value := .agg #[.int .i64 R, .int .i64 C, .slice (some ⟨b, 0, none⟩) n cap]
/-- What a call of a document's grid answers: another grid. -/
def XPost (w : World) (R C n : Nat) (L : List Ce) (f : Value → Value) (e : Ending) (w' : World) : Prop :=
  ∃ b' cap', e = .returned (f (XV R C b' n cap')) ∧ w.heap.size ≤ b' ∧ RowY w' b' cap' L ∧ Below w.heap.size w w'
end Go.Proofs.YtjihcpnaebghnaaDoor
