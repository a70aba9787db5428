/-
  Proved here: a grid of the program's in memory; New.
-/
import Derived.Test.YtjihcpnaebghnaaDoorGb
import Derived.Laws.Cover3
import Derived.Deep.DeepCutAuto
set_option linter.unusedSimpArgs false
set_option linter.unusedVariables false
namespace Go.Proofs.YtjihcpnaebghnaaDoor
open Go.RowKit
/-- A grid in block g, its cells in block b. -/
structure Gr (g b cap R C : Nat) (L : List Ce) (W : World) : Prop where
  blk : W.heap[g]? = some (.cells #[.int .i64 R, .int .i64 C, .slice (some ⟨b, 0, none⟩) (R * C) cap] 177 (0, 0))
  row : RowAt W b cap L
  len : L.length = R * C
  pos : 1 ≤ R ∧ R ≤ 12 ∧ 1 ≤ C ∧ C ≤ 40
section
variable {g b cap R C : Nat} {L : List Ce} {W W' : World}
theorem Gr.ne (h : Gr g b cap R C L W) : g ≠ b := fun e => by
  obtain ⟨cur, h1, _⟩ := h.row
  have h2 := h.blk
  rw [e, h1] at h2
  injection h2 with h2
  injection h2 with _ h2 _
  exact absurd h2 (by decide)
theorem Gr.lt (h : Gr g b cap R C L W) : g < W.heap.size := lt_of_block h.blk
theorem Gr.below (h : Gr g b cap R C L W) (hb : Below W.heap.size W W') : Gr g b cap R C L W' := ⟨(hb.block g h.lt).trans h.blk, h.row.below hb, h.len, h.pos⟩
theorem Gr.grown (h : Gr g b cap R C L W) {row : Option Nat} (hg : W.grownBy W' row) (h1 : some g ≠ row) (h2 : some b ≠ row) : Gr g b cap R C L W' := ⟨(hg.block g h.lt h1).trans h.blk, h.row.grown hg h2, h.len, h.pos⟩
theorem Gr.cells (h : Gr g b cap R C L W) : W.cell? ⟨g, 0, none⟩ = some (.int .i64 R) ∧ W.cell? ⟨g, 1, none⟩ = some (.int .i64 C) ∧ W.cell? ⟨g, 2, none⟩ = some (.slice (some ⟨b, 0, none⟩) (R * C) cap) := by
  refine ⟨?_, ?_, ?_⟩ <;> (unfold World.cell?; simp only [h.blk]; rfl)
/-- The cells are others now. -/
theorem Gr.put (h : Gr g b cap R C L W) {L' : List Ce} (hr : RowAt W' b cap L') (hl : L'.length = L.length) (hg : W.grownBy W' (some b)) : Gr g b cap R C L' W' :=
  ⟨(hg.block g h.lt (fun e => h.ne (by injection e))).trans h.blk, hr, hl.trans h.len, h.pos⟩
theorem Gr.room (h : Gr g b cap R C L W) : R * C ≤ cap ∧ R * C ≤ 480 ∧ cap ≤ maxLen := by
  obtain ⟨cur, _, _, h3, h4, _⟩ := h.row
  rw [h.len] at h3
  exact ⟨h3, Nat.mul_le_mul h.pos.2.1 h.pos.2.2.2, h4⟩
end
def rightB (r c : Int) : Bool := decide (1 ≤ r) && decide (r ≤ 12) && decide (1 ≤ c) && decide (c ≤ 40)
theorem info_cell {a b c d : Value} : (Tryd.prog.info? 88).map (·.size) = some (#[a, b, c, d] : Array Value).size := by
  have h : (Tryd.prog.info? 88).map (·.size) = some 4 := by kernel_rfl
  exact h
def blC : Ce := ⟨32, 0, 0, 0⟩
set_option maxRecDepth 100000 in
theorem blank_any (w : World) : Calls Tryd.prog 48 #[] w fun e w' => e = .returned (cV blC) ∧ Below w.heap.size w w' := by
  go_enter Tryd.func48, Tryd.ntmps48
  go_wp2
  exact bodyPost_ret (results_cell_row Tryd.results48 _ _ w.heap.size 88 #[.int .i32 32, .int .u8 0, .int .u32 0, .int .u32 0] (0, 0) _ rfl (heap_alloc_new w _) Tryd.underlying88 rfl info_cell) rfl ⟨rfl, (Below.refl _ _).alloc (Nat.le_refl _) _⟩
end Go.Proofs.YtjihcpnaebghnaaDoor

/-
  Proved here: what a grid of the program's tells; its rows.
-/
set_option linter.unusedSimpArgs false
set_option linter.unusedVariables false
namespace Go.Proofs.YtjihcpnaebghnaaDoor
open Go.RowKit
theorem run_eql_sn (w : World) (a : Option Addr) (l c : Nat) : (binOp .eql 22 (.slice a l c) (.slice none 0 0)).run Tryd.prog w = .ok (.bool a.isNone) w := by
  simp [binOp, Op.binOp, run_equal_slice_nil w 22 88 a l c Tryd.underlying22, Result.andThen]
/-- Nil, or one that no call made. -/
def NoneV (v : Value) (w : World) : Prop := v = .pointer none ∨ ∃ g, v = .pointer (some ⟨g, 0, none⟩) ∧ w.cell? ⟨g, 2, none⟩ = some (.slice none 0 0)
set_option maxRecDepth 100000 in
theorem none_yes {v : Value} {w : World} (h : NoneV v w) : Calls Tryd.prog 103 #[v] w fun e w' => e = .returned (.bool true) ∧ w = w' := by
  rcases h with rfl | ⟨g, rfl, h⟩
  · go_enter Tryd.func103, Tryd.ntmps103
    go_wp2
    go_ret
    exact ⟨rfl, rfl⟩
  · have hq := run_eql_sn w none 0 0
    go_enter Tryd.func103, Tryd.ntmps103
    go_wp2
    go_ret
    exact ⟨rfl, rfl⟩
section
variable {g b cap R C : Nat} {L : List Ce} {w : World}
set_option maxRecDepth 100000 in
theorem none_no (h : Gr g b cap R C L w) : Calls Tryd.prog 103 #[.pointer (some ⟨g, 0, none⟩)] w fun e w' => e = .returned (.bool false) ∧ w = w' := by
  obtain ⟨k0, k1, k2⟩ := h.cells
  have hq := run_eql_sn w (some ⟨b, 0, none⟩) (R * C) cap
  clear h
  go_enter Tryd.func103, Tryd.ntmps103
  go_wp2
  go_ret
  exact ⟨rfl, rfl⟩
theorem rows_gr (h : Gr g b cap R C L w) : Calls Tryd.prog 90 #[.pointer (some ⟨g, 0, none⟩)] w fun e w' => e = .returned (.int .i64 R) ∧ w = w' := by
  obtain ⟨k0, k1, k2⟩ := h.cells
  have HN := Lib.hid (none_no h)
  clear h
  go_enter Tryd.func90, Tryd.ntmps90
  go_wp2_with fail
  refine HN.out.mono ?_
  rintro e wx ⟨rfl, rfl⟩
  go_wp2
  go_ret
  exact ⟨rfl, rfl⟩
theorem cols_gr (h : Gr g b cap R C L w) : Calls Tryd.prog 91 #[.pointer (some ⟨g, 0, none⟩)] w fun e w' => e = .returned (.int .i64 C) ∧ w = w' := by
  obtain ⟨k0, k1, k2⟩ := h.cells
  have HN := Lib.hid (none_no h)
  clear h
  go_enter Tryd.func91, Tryd.ntmps91
  go_wp2_with fail
  refine HN.out.mono ?_
  rintro e wx ⟨rfl, rfl⟩
  go_wp2
  go_ret
  exact ⟨rfl, rfl⟩
/-- Is there a row, a cell? -/
def hasR (R : Nat) (row : Int) : Bool := decide (0 ≤ row) && decide (row < R)
def hasC (R C : Nat) (row col : Int) : Bool := hasR R row && hasR C col
def flt (q : Bool) : Int := if q then 0 else 1
theorem rowFault_gr (h : Gr g b cap R C L w) (row : Int) : Calls Tryd.prog 104 #[.pointer (some ⟨g, 0, none⟩), .int .i64 row] w fun e w' => e = .returned (.int .i64 (flt (hasR R row))) ∧ w = w' := by
  obtain ⟨k0, k1, k2⟩ := h.cells
  have HN := Lib.hid (none_no h)
  clear h
  obtain ⟨q, hq⟩ : ∃ q, flt (hasR R row) = q := ⟨_, rfl⟩
  rw [hq]
  unfold flt hasR at hq
  by_cases h1 : row < 0
  · have d1 : decide (row < 0) = true := by simpa using h1
    have e : q = 1 := by
      rw [← hq, show decide (0 ≤ row) = false by simp; omega]; rfl
    subst e
    clear h1 hq
    go_enter Tryd.func104, Tryd.ntmps104
    go_wp2_with fail
    refine HN.out.mono ?_
    rintro e wx ⟨rfl, rfl⟩
    go_wp2
    go_ret
    exact ⟨rfl, rfl⟩
  have d1 : decide (row < 0) = false := by simpa using h1
  by_cases h2 : (R : Int) ≤ row
  · have d2 : decide ((R : Int) ≤ row) = true := by simpa using h2
    have e : q = 1 := by
      rw [← hq, show decide (row < (R : Int)) = false by simp; omega, Bool.and_false]; rfl
    subst e
    clear h1 h2 hq
    go_enter Tryd.func104, Tryd.ntmps104
    go_wp2_with fail
    refine HN.out.mono ?_
    rintro e wx ⟨rfl, rfl⟩
    go_wp2
    go_ret
    exact ⟨rfl, rfl⟩
  have d2 : decide ((R : Int) ≤ row) = false := by simpa using h2
  have e : q = 0 := by
    rw [← hq, show decide (row < (R : Int)) = true by simp; omega, show decide (0 ≤ row) = true by simp; omega]; rfl
  subst e
  clear h1 h2 hq
  go_enter Tryd.func104, Tryd.ntmps104
  go_wp2_with fail
  refine HN.out.mono ?_
  rintro e wx ⟨rfl, rfl⟩
  go_wp2
  go_ret
  exact ⟨rfl, rfl⟩
theorem flt_ne {q : Bool} : (flt q != 0) = !q := by cases q <;> rfl
/-- A row's cells themselves. -/
theorem line_gr (h : Gr g b cap R C L w) {i o : Nat} (hi : i < R) (ho : i * C = o) : Calls Tryd.prog 105 #[.pointer (some ⟨g, 0, none⟩), .int .i64 i] w fun e w' => e = .returned (.slice (some ⟨b, o * 4, none⟩) C (cap - o)) ∧ w' = w.drew := by
  obtain ⟨k0, k1, k2⟩ := h.cells
  have hp := h.pos
  have hroom := h.room
  have hoc : o + C ≤ R * C := by
    rw [← ho, ← Nat.succ_mul]; exact Nat.mul_le_mul_right C hi
  obtain ⟨n, hn⟩ : ∃ n, R * C = n := ⟨_, rfl⟩
  rw [hn] at hroom hoc k2
  have w1 : IntKind.i64.wrap ((i : Int) * (C : Int)) = (o : Int) := by rw [← Int.natCast_mul, ho]; exact IntWalk.i64_in _ (by omega)
  have w2 : IntKind.i64.wrap ((i : Int) + 1) = (i : Int) + 1 := IntWalk.i64_in _ (by omega)
  have w3 : IntKind.i64.wrap (((i : Int) + 1) * (C : Int)) = (o : Int) + (C : Int) := by
    rw [Int.add_mul, ← Int.natCast_mul, ho, Int.one_mul]; exact IntWalk.i64_in _ (by omega)
  have g1 : (0 : Int) ≤ (o : Int) := by omega
  have g2 : (o : Int) ≤ (o : Int) + (C : Int) := by omega
  have g3 : (o : Int) + (C : Int) ≤ (cap : Int) := by omega
  have g4 : ¬ cap = o := by omega
  have g5 : ((o : Int) + (C : Int)).toNat = o + C := by omega
  have g6 : o + C - o = C := by omega
  clear h hp hroom hoc hn ho hi
  go_enter Tryd.func105, Tryd.ntmps105
  go_wp2
  go_region
  go_wp2
  go_ret
  exact ⟨rfl, rfl⟩
end
end Go.Proofs.YtjihcpnaebghnaaDoor

/-
  Proved here: a grid's cells are told and put; its rows are told.
-/
set_option linter.unusedSimpArgs false
set_option linter.unusedVariables false
namespace Go.Proofs.YtjihcpnaebghnaaDoor
open Go.RowKit
theorem results_cell_tmp {P : Program} {fn : Func} {p q : Tmp} {ty : TypeId} (h : fn.results = #[.cell p ty, .tmp q]) (tmps : Array Value) (w : World) (g : Nat) (t : TypeId) (cs : Array Value) (fr : Nat × Nat) (d : TypeDesc) (u : Value)
    (hp : tmps.getD p undef = .pointer (some ⟨g, 0, none⟩)) (hq : tmps.getD q undef = u) (hg : w.heap[g]? = some (.cells cs t fr))
    (hu : P.underlying ty = some d) (hd : (match d with | .struct _ | .array _ _ => true | _ => false) = true) (hi : (P.info? ty).map (·.size) = some cs.size) :
    (results fn tmps).run P w = .ok (.tuple #[.agg cs, u]) w := by
  have hp' : tmps[p]?.getD undef = .pointer (some ⟨g, 0, none⟩) := by simpa using hp
  have hq' : tmps[q]?.getD undef = u := by simpa using hq
  simp [results, h, hp', hq', asAddr, run_loadVar_row w g t ty cs fr d hg hu hd hi]
theorem has_bounds {R C : Nat} {row col : Int} (h : hasC R C row col = true) : ∃ i j : Nat, row = i ∧ col = j ∧ i < R ∧ j < C := by
  unfold hasC hasR at h
  simp at h
  exact ⟨row.toNat, col.toNat, by omega, by omega, by omega, by omega⟩
theorem has_row {R : Nat} {row : Int} (h : hasR R row = true) : ∃ i : Nat, row = i ∧ i < R := by
  unfold hasR at h
  simp at h
  exact ⟨row.toNat, by omega, by omega⟩
theorem ix_lt {R C i j : Nat} (hi : i < R) (hj : j < C) : i * C + j < R * C := by
  have := Nat.mul_le_mul_right C (show i + 1 ≤ R from hi)
  rw [Nat.succ_mul] at this
  omega
/-- The cell at a place. -/
def ceAt (L : List Ce) (k : Nat) : Ce := L.getD k zeC
theorem RowAt.four {W : World} {b cap : Nat} {L : List Ce} (h : RowAt W b cap L) {k : Nat} (hk : k < L.length) :
    W.cell? ⟨b, k * 4, none⟩ = some (.int .i32 (ceAt L k).p) ∧ W.cell? ⟨b, k * 4 + 1, none⟩ = some (.int .u8 (ceAt L k).f) ∧ W.cell? ⟨b, k * 4 + 2, none⟩ = some (.int .u32 (ceAt L k).g) ∧ W.cell? ⟨b, k * 4 + 3, none⟩ = some (.int .u32 (ceAt L k).b) := by
  have e : ceAt L k = L[k] := by simp [ceAt, List.getD, hk]
  rw [e]
  exact ⟨by rw [show k * 4 = k * 4 + 0 from rfl, h.cell hk (by omega)]; rfl, by rw [h.cell hk (by omega)]; rfl, by rw [h.cell hk (by omega)]; rfl, by rw [h.cell hk (by omega)]; rfl⟩
section
variable {g b cap R C : Nat} {L : List Ce} {w : World}
theorem lay_one (L : List Ce) (k : Nat) (c : Ce) (hk : k < L.length) : lay L k [c] = L.set k c := by
  unfold lay
  rw [List.set_eq_take_append_cons_drop, if_pos hk]
  simp
theorem below_grown {W V X : World} {row : Option Nat} (hb : Below W.heap.size W V) (hg : V.grownBy X row) : W.grownBy X row :=
  ⟨hg.os.trans hb.os, hg.tape.trans hb.tape, hg.output.trans hb.output, Nat.le_trans hb.size hg.size, fun k hk hr => (hg.block k (Nat.lt_of_lt_of_le hk hb.size) hr).trans (hb.block k hk)⟩
theorem grown_below {W V X : World} {row : Option Nat} (hg : W.grownBy V row) (hb : Below V.heap.size V X) : W.grownBy X row :=
  ⟨hb.os.trans hg.os, hb.tape.trans hg.tape, hb.output.trans hg.output, Nat.le_trans hg.size hb.size, fun k hk hr => (hb.block k (Nat.lt_of_lt_of_le hk hg.size)).trans (hg.block k hk hr)⟩
theorem run_store4 {W : World} {b cap : Nat} {L : List Ce} (h : RowAt W b cap L) {k : Nat} (hk : k < L.length) (c : Ce) : ∃ V, (storeVar 88 ⟨b, k * 4, none⟩ (cV c)).run Tryd.prog W = .ok () V ∧ RowAt V b cap (L.set k c) ∧ W.grownBy V (some b) := by
  obtain ⟨cur, h1, h2, h3⟩ := h.laid (o := k) (cs := [c]) (by simp; omega)
  obtain ⟨i, hi, _, hz1, _⟩ := info_parts infoCell
  have hst := run_storeCells_at Tryd.prog b (k * 4) 88 (flat [c]) 0 cur W h1 (by simpa using h2) (flat_cells [c])
  rw [lay_one L k c hk] at h3
  refine ⟨_, ?_, h3, grown_setRow _ _ _⟩
  have e : (cV c).cells.toList = flat [c] := rfl
  have e2 : (cV c).cells.size = 4 := rfl
  simp only [storeVar, sizeOf, typeInfo, hi, hz1, e2, e]
  simpa [hi, hz1] using hst
theorem step_store4 {ops : Array Oper} {o : Oper} {a : Act} {W : World} {K : Act → World → Prop} {Q : Exit → Act → World → Prop} {E : Prop} (hgd : o.guard = none) (x y : Operand) (ho : o.op = .store 88 x y)
    {b cap : Nat} {L : List Ce} (h : RowAt W b cap L) {k : Nat} (hk : k < L.length) (hx : a.eval x = .pointer (some ⟨b, k * 4, none⟩)) {c : Ce} (hy : a.eval y = cV c)
    (hK : ∀ V, RowAt V b cap (L.set k c) → W.grownBy V (some b) → K (a.put o.dst undef) V) : if Region.wanted o (yielded ops a.tmps) = true then Oper.wp Tryd.prog o a W K Q else E := by
  have hw : Region.wanted o (yielded ops a.tmps) = true := by simp [Region.wanted, hgd]
  rw [if_pos hw]
  obtain ⟨V, h1, h2, h3⟩ := run_store4 h hk c
  unfold Oper.wp execOp
  simp only [ho, hx, hy, Instr.storeAt, Instr.sureAddr, Sem.run_bind, Sem.run_pure, Result.andThen_ok, h1]
  exact hK V h2 h3
theorem wpList_store4 {ops : Array Oper} {rest : List Oper} {o : Oper} {a : Act} {W : World} {Q : Exit → Act → World → Prop} (hgd : o.guard = none) (x y : Operand) (ho : o.op = .store 88 x y)
    {b cap : Nat} {L : List Ce} (h : RowAt W b cap L) {k : Nat} (hk : k < L.length) (hx : a.eval x = .pointer (some ⟨b, k * 4, none⟩)) {c : Ce} (hy : a.eval y = cV c)
    (hK : ∀ V, RowAt V b cap (L.set k c) → W.grownBy V (some b) → wpList Tryd.prog ops Q rest (a.put o.dst undef) V) : wpList Tryd.prog ops Q (o :: rest) a W := by
  refine wpList_plain hgd fun K hK2 => ?_
  obtain ⟨V, h1, h2, h3⟩ := run_store4 h hk c
  unfold Oper.wp execOp
  simp only [ho, hx, hy, Instr.storeAt, Instr.sureAddr, Sem.run_bind, Sem.run_pure, Result.andThen_ok, h1]
  exact hK2 _ _ (hK V h2 h3)
end
end Go.Proofs.YtjihcpnaebghnaaDoor

/-
  Proved here: a grid's cells are filled, and moved to the beginning or the end of a list.
-/
set_option linter.unusedSimpArgs false
set_option linter.unusedVariables false
namespace Go.Proofs.YtjihcpnaebghnaaDoor
open Go.RowKit
theorem lay_step {L : List Ce} {o i : Nat} (c : Ce) (h : o + i < L.length) : (lay L o (rep i c)).set (o + i) c = lay L o (rep (i + 1) c) := by
  have hl : (lay L o (rep i c)).length = L.length := lay_len (by rw [rep_len]; omega)
  apply List.ext_getElem?
  intro k
  rw [List.getElem?_set]
  have e2 : (lay L o (rep (i + 1) c))[k]? = if k < o then L[k]? else if k < o + (i + 1) then some c else L[k]? := by
    unfold lay rep
    rw [List.getElem?_append, List.getElem?_append, List.length_append, List.length_take, List.length_replicate]
    have e : min o L.length = o := by omega
    rw [e]
    by_cases k1 : k < o
    · simp [k1, show k < o + (i + 1) by omega]
    · by_cases k2 : k < o + (i + 1)
      · simp [k1, k2, List.getElem?_replicate, show k - o < i + 1 by omega]
      · simp [k1, k2, List.getElem?_drop, show o + (i + 1) + (k - (o + (i + 1))) = k by omega]
  have e1 : (lay L o (rep i c))[k]? = if k < o then L[k]? else if k < o + i then some c else L[k]? := by
    unfold lay rep
    rw [List.getElem?_append, List.getElem?_append, List.length_append, List.length_take, List.length_replicate]
    have e : min o L.length = o := by omega
    rw [e]
    by_cases k1 : k < o
    · simp [k1, show k < o + i by omega]
    · by_cases k2 : k < o + i
      · simp [k1, k2, List.getElem?_replicate, show k - o < i by omega]
      · simp [k1, k2, List.getElem?_drop, show o + i + (k - (o + i)) = k by omega]
  rw [e1, e2, hl]
  by_cases k1 : o + i = k
  · subst k1
    rw [if_pos rfl, if_pos h, if_neg (by omega), if_pos (by omega)]
  · rw [if_neg k1]
    by_cases k2 : k < o
    · simp [k2]
    · by_cases k3 : k < o + i
      · simp [k2, k3, show k < o + (i + 1) by omega]
      · simp [k2, k3, show ¬ k < o + (i + 1) by omega]
theorem lay_zero (L : List Ce) (o : Nat) (c : Ce) : lay L o (rep 0 c) = L := by
  unfold lay rep
  simp
theorem grown_trans {a b c : World} {row : Option Nat} (h : a.grownBy b row) (k : b.grownBy c row) : a.grownBy c row :=
  ⟨k.os.trans h.os, k.tape.trans h.tape, k.output.trans h.output, Nat.le_trans h.size k.size, fun i hi hr => (k.block i (Nat.lt_of_lt_of_le hi h.size) hr).trans (h.block i hi hr)⟩
/-- What is boxed stays. -/
theorem box_cells {w W : World} {b : Nat} {p f gg bb : Int} (hb : b < w.heap.size) (hW : (w.alloc (.cells #[.int .i32 p, .int .u8 f, .int .u32 gg, .int .u32 bb] 88)).grownBy W (some b)) : W.cell? ⟨w.heap.size, 0, none⟩ = some (.int .i32 p) ∧ W.cell? ⟨w.heap.size, 1, none⟩ = some (.int .u8 f) ∧ W.cell? ⟨w.heap.size, 2, none⟩ = some (.int .u32 gg) ∧ W.cell? ⟨w.heap.size, 3, none⟩ = some (.int .u32 bb) := by
  have hh := (hW.block w.heap.size (by simp) (fun e => by injection e with e; omega)).trans (heap_alloc_new w _)
  refine ⟨?_, ?_, ?_, ?_⟩ <;> (unfold World.cell?; simp only [hh]; rfl)
/-- A list's rest. -/
theorem slice_from4 {b o m dc k : Nat} (hk : k ≤ m) (hm : m ≤ dc) : ∃ A : Option Addr, (0 < m - k → A = some ⟨b, (o + k) * 4, none⟩) ∧ A.isSome = true ∧ ∀ W : World, (Instr.slice 22 (.slice (some ⟨b, o * 4, none⟩) m dc) (some (.int .i64 (k : Int))) none none).run Tryd.prog W = .ok (.slice A (m - k) (dc - k)) W := by
  have h1 : (k : Int) ≤ (m : Int) := by omega
  refine ⟨some (if dc = k then ⟨b, o * 4, none⟩ else ⟨b, (o + k) * 4, none⟩), fun hp => by rw [if_neg (by omega)], rfl, fun W => ?_⟩
  obtain ⟨i0, hi, _, hz1, _⟩ := info_parts infoCell
  have ha : (⟨b, o * 4, none⟩ : Addr).add (k * 4) = ⟨b, (o + k) * 4, none⟩ := by
    rw [Nat.add_mul]; unfold Addr.add; split <;> simp_all
  simp [Instr.slice, run_underlying Tryd.underlying22, Instr.sliceBounds, run_sliceBound, h1, hi, hz1, ha]
  split <;> rfl
theorem slice_to4 {b o m dc k : Nat} (hk : k ≤ m) (hm : m ≤ dc) (W : World) : (Instr.slice 22 (.slice (some ⟨b, o * 4, none⟩) m dc) none (some (.int .i64 (k : Int))) none).run Tryd.prog W = .ok (.slice (some ⟨b, o * 4, none⟩) k dc) W := by
  have h1 : (k : Int) ≤ (dc : Int) := by omega
  obtain ⟨i0, hi, _, hz1, _⟩ := info_parts infoCell
  simp [Instr.slice, run_underlying Tryd.underlying22, Instr.sliceBounds, run_sliceBound, h1, hi, hz1]
  try (intro _; rfl)
/-- Cells that move to the beginning, to the end, of a list. -/
def fwdL (L : List Ce) (o m n : Nat) (c : Ce) : List Ce := lay (lay L o ((L.drop (o + n)).take (m - n))) (o + (m - n)) (rep n c)
def bckL (L : List Ce) (o m n : Nat) (c : Ce) : List Ce := lay (lay L (o + n) ((L.drop o).take (m - n))) o (rep n c)
/-- How far, at most. -/
def atMost (n : Int) (m : Nat) : Nat := if (m : Int) < n then m else n.toNat
theorem atMost_le {n : Int} {m : Nat} (h : 0 ≤ n) : atMost n m ≤ m := by unfold atMost; split <;> omega
theorem RowAt.sub {W : World} {b cap : Nat} {L : List Ce} (h : RowAt W b cap L) {s len : Nat} : ∀ j v, (flat ((L.drop s).take len))[j]? = some v → W.cell? ((⟨b, s * 4, none⟩ : Addr).add j) = some v := by
  intro j v hv
  rw [show (⟨b, s * 4, none⟩ : Addr).add j = ⟨b, s * 4 + j, none⟩ by unfold Addr.add; split <;> simp_all]
  have hj := (List.getElem?_eq_some_iff.1 hv).1
  rw [flat_len, List.length_take, List.length_drop] at hj
  rw [h.at_ (by omega), ← hv, flat_take, flat_drop, List.getElem?_take_of_lt (by omega), List.getElem?_drop]
theorem sub_len {L : List Ce} {s len : Nat} (h : s + len ≤ L.length) : ((L.drop s).take len).length = len := by simp; omega
theorem lay_nil (L : List Ce) (o : Nat) : lay L o [] = L := by unfold lay; simp
/-- Cells are copied within a list. -/
theorem copy_any {W : World} {b cap : Nat} {L : List Ce} (h : RowAt W b cap L) {dA sA : Option Addr} {d s m k dc sc r : Nat} (hr : Nat.min k m = r) (hd : 0 < r → dA = some ⟨b, d * 4, none⟩) (hs : 0 < r → sA = some ⟨b, s * 4, none⟩) (h1 : d + r ≤ L.length) (h2 : s + r ≤ L.length) :
    ∃ W', (Builtin.copy_ #[22, 22] 3 #[.slice dA m dc, .slice sA k sc]).run Tryd.prog W = .ok (.int .i64 (r : Int)) W' ∧ RowAt W' b cap (lay L d ((L.drop s).take r)) ∧ W.grownBy W' (some b) := by
  rcases Nat.eq_zero_or_pos r with h0 | h0
  · subst h0
    refine ⟨W, run_copy0 W _ hr, ?_, World.grownBy.refl _ _⟩
    rw [List.take_zero, lay_nil]
    exact h
  · obtain rfl := hd h0
    obtain rfl := hs h0
    have hl := sub_len (L := L) h2
    obtain ⟨W', e1, e2, e3⟩ := run_copy4 h 3 (o := d) (m := m) (dc := dc) (k := k) (sc := sc) (a := ⟨b, s * 4, none⟩) (cs := (L.drop s).take r) (by rw [hl, hr]) (by rw [hl]; exact h1) h.sub
    rw [hl] at e1
    exact ⟨W', e1, e2, e3⟩
end Go.Proofs.YtjihcpnaebghnaaDoor

/-
  Proved here: a grid's rows and cells are moved.
-/
set_option linter.unusedSimpArgs false
set_option linter.unusedVariables false
namespace Go.Proofs.YtjihcpnaebghnaaDoor
open Go.RowKit
/-- May rows be moved so? -/
def btwB (R : Nat) (top bottom n : Int) : Bool := hasR R bottom && decide (0 ≤ top) && decide (top ≤ bottom) && decide (0 ≤ n)
theorem btw_nums {R : Nat} {top bottom n : Int} (h : btwB R top bottom n = true) : ∃ t d k : Nat, top = t ∧ bottom = d ∧ n = k ∧ t ≤ d ∧ d < R := by
  unfold btwB hasR at h
  simp at h
  exact ⟨top.toNat, bottom.toNat, n.toNat, by omega, by omega, by omega, by omega, by omega⟩
section
variable {g b cap R C : Nat} {L : List Ce} {w : World}
theorem rows_in {t d : Nat} (h1 : t ≤ d) (h2 : d < R) : t * C + (d + 1 - t) * C = (d + 1) * C ∧ (d + 1) * C ≤ R * C := by
  refine ⟨?_, Nat.mul_le_mul_right C h2⟩
  rw [← Nat.add_mul]
  congr 1
  omega
/-- Rows that move up, down; cells that move to the right, to the left. -/
def upL (R C : Nat) (L : List Ce) (t d n : Nat) (c : Ce) : List Ce := fwdL L (t * C) ((d + 1 - t) * C) (atMost (((atMost (n : Int) R) * C : Nat) : Int) ((d + 1 - t) * C)) c
def downL (R C : Nat) (L : List Ce) (t d n : Nat) (c : Ce) : List Ce := bckL L (t * C) ((d + 1 - t) * C) (atMost (((atMost (n : Int) R) * C : Nat) : Int) ((d + 1 - t) * C)) c
def insL (C : Nat) (L : List Ce) (i j n : Nat) (c : Ce) : List Ce := bckL L (i * C + j) (C - j) (atMost (n : Int) (C - j)) c
def delL (C : Nat) (L : List Ce) (i j n : Nat) (c : Ce) : List Ce := fwdL L (i * C + j) (C - j) (atMost (n : Int) (C - j)) c
theorem fwdL_len {L : List Ce} {o m n : Nat} {c : Ce} (h : o + m ≤ L.length) (hn : n ≤ m) : (fwdL L o m n c).length = L.length := by
  have h1 : (lay L o ((L.drop (o + n)).take (m - n))).length = L.length := lay_len (by rw [sub_len (by omega)]; omega)
  unfold fwdL
  rw [lay_len (by rw [h1, rep_len]; omega), h1]
theorem bckL_len {L : List Ce} {o m n : Nat} {c : Ce} (h : o + m ≤ L.length) (hn : n ≤ m) : (bckL L o m n c).length = L.length := by
  have h1 : (lay L (o + n) ((L.drop o).take (m - n))).length = L.length := lay_len (by rw [sub_len (by omega)]; omega)
  unfold bckL
  rw [lay_len (by rw [h1, rep_len]; omega), h1]
end
end Go.Proofs.YtjihcpnaebghnaaDoor

/-
  Proved here: a grid's row is told; what is nil, or no call made, says so; layer 17's fixed calls.
-/
set_option linter.unusedSimpArgs false
set_option linter.unusedVariables false
namespace Go.Proofs.YtjihcpnaebghnaaDoor
open Go.RowKit
theorem NoneV.below {v : Value} {w w' : World} (h : NoneV v w) (hb : Below w.heap.size w w') : NoneV v w' := by
  rcases h with h | ⟨g, h1, h2⟩
  · exact .inl h
  · exact .inr ⟨g, h1, (hb.cell (p := ⟨g, 2, none⟩) (World.block_lt_of_cell? w _ h2)).trans h2⟩
theorem NoneV.nil (w : World) : NoneV (.pointer none) w := .inl rfl
section
variable {v : Value} {w : World}
theorem rows_none (h : NoneV v w)  : Calls Tryd.prog 90 #[v] w fun e w' => e = .returned (.int .i64 0) ∧ w = w' := by
  have HN := Lib.hid (none_yes h)
  clear h
  go_enter Tryd.func90, Tryd.ntmps90
  go_wp2_with fail
  refine HN.out.mono ?_
  rintro e wx ⟨rfl, rfl⟩
  go_wp2
  go_ret
  exact ⟨rfl, rfl⟩
theorem cols_none (h : NoneV v w)  : Calls Tryd.prog 91 #[v] w fun e w' => e = .returned (.int .i64 0) ∧ w = w' := by
  have HN := Lib.hid (none_yes h)
  clear h
  go_enter Tryd.func91, Tryd.ntmps91
  go_wp2_with fail
  refine HN.out.mono ?_
  rintro e wx ⟨rfl, rfl⟩
  go_wp2
  go_ret
  exact ⟨rfl, rfl⟩
theorem rowFault_none (h : NoneV v w) (r : Int) : Calls Tryd.prog 104 #[v, .int .i64 r] w fun e w' => e = .returned (.int .i64 6) ∧ w = w' := by
  have HN := Lib.hid (none_yes h)
  clear h
  go_enter Tryd.func104, Tryd.ntmps104
  go_wp2_with fail
  refine HN.out.mono ?_
  rintro e wx ⟨rfl, rfl⟩
  go_wp2
  go_ret
  exact ⟨rfl, rfl⟩
theorem line_none (h : NoneV v w) (r : Int) : Calls Tryd.prog 92 #[v, .int .i64 r] w fun e w' => e = .returned (.tuple #[.slice none 0 0, .int .i64 6]) ∧ w = w' := by
  have HN := Lib.hid (rowFault_none h r)
  clear h
  go_enter Tryd.func92, Tryd.ntmps92
  go_wp2_with fail
  refine HN.out.mono ?_
  rintro e wx ⟨rfl, rfl⟩
  go_wp2
  go_ret2
  exact ⟨rfl, rfl⟩
theorem copy_none (h : NoneV v w)  : Calls Tryd.prog 102 #[v] w fun e w' => e = .returned (.pointer none) ∧ w = w' := by
  have HN := Lib.hid (none_yes h)
  clear h
  go_enter Tryd.func102, Tryd.ntmps102
  go_wp2_with fail
  refine HN.out.mono ?_
  rintro e wx ⟨rfl, rfl⟩
  go_wp2
  go_ret
  exact ⟨rfl, rfl⟩
end
/-- A row is told. -/
theorem lay_whole {n : Nat} (z : Ce) {cs : List Ce} (h : cs.length = n) : lay (rep n z) 0 cs = cs := by
  unfold lay rep
  simp [h]
set_option maxRecDepth 100000 in
set_option maxHeartbeats 1000000 in
theorem line_no {g b cap R C : Nat} {L : List Ce} {w : World} (h : Gr g b cap R C L w) {row : Int} (hq : hasR R row = false) : Calls Tryd.prog 92 #[.pointer (some ⟨g, 0, none⟩), .int .i64 row] w fun e w' => e = .returned (.tuple #[.slice none 0 0, .int .i64 1]) ∧ w = w' := by
  have HF := Lib.hid (rowFault_gr h row)
  rw [hq, show flt false = 1 from rfl] at HF
  clear h hq
  go_enter Tryd.func92, Tryd.ntmps92
  go_wp2_with fail
  refine HF.out.mono ?_
  rintro e wx ⟨rfl, rfl⟩
  go_wp2
  go_ret2
  exact ⟨rfl, rfl⟩
set_option maxRecDepth 100000 in
set_option maxHeartbeats 1000000 in
theorem line_yes {g b cap R C : Nat} {L : List Ce} {w : World} (h : Gr g b cap R C L w) {i : Nat} (hi : i < R) : Calls Tryd.prog 92 #[.pointer (some ⟨g, 0, none⟩), .int .i64 i] w fun e w' => ∃ b2, e = .returned (.tuple #[.slice (some ⟨b2, 0, none⟩) C C, .int .i64 0]) ∧ w.heap.size ≤ b2 ∧ RowAt w' b2 C ((L.drop (i * C)).take C) ∧ Below w.heap.size w w' := by
  have HF := Lib.hid (rowFault_gr h i)
  rw [show hasR R (i : Int) = true by unfold hasR; simp; omega, show flt true = 0 from rfl] at HF
  obtain ⟨k0, k1, k2⟩ := h.cells
  have hp := h.pos
  obtain ⟨o, ho⟩ : ∃ o, i * C = o := ⟨_, rfl⟩
  have hrow := (rows_in (C := C) (t := i) (d := i) (Nat.le_refl _) hi)
  rw [show i + 1 - i = 1 by omega, Nat.one_mul, ho] at hrow
  obtain ⟨W1, hmk, hR1, hB1⟩ := run_make4 w C (by omega)
  have hl := sub_len (L := L) (s := o) (len := C) (by rw [h.len]; omega)
  have h1 := h.below hB1
  obtain ⟨W2, hcp, hR2, hg2⟩ := run_copy4 (W := W1.drew) (hR1.below (Below.refl _ _).drew) 3 (o := 0) (m := C) (dc := C) (k := C) (sc := cap - o) (a := ⟨b, o * 4, none⟩) (cs := (L.drop o).take C) (by rw [hl]; simp) (by rw [rep_len, hl]; omega) ((h1.row.below (Below.refl _ _).drew).sub)
  rw [lay_whole zeC hl] at hR2
  rw [Nat.zero_mul, hl, show goInt ((C : Nat) : Int) = .int .i64 (C : Int) from rfl] at hcp
  obtain ⟨b2, hb2⟩ : ∃ b, w.heap.size = b := ⟨_, rfl⟩
  have HBL := Lib.hid (fun (_ : Unit) => hb2)
  have HZ := Lib.hid (show RowAt W2 w.heap.size C ((L.drop o).take C) ∧ Below w.heap.size w W2 from ⟨hR2, (hB1.drew).grown hg2 hB1.size (fun k e => by injection e with e; omega)⟩)
  rw [hb2] at hcp hmk
  have HCP := Lib.hid hcp
  have HLN := Lib.hid (line_gr h1 hi ho)
  rw [ho]
  clear h hp ho hrow hR1 hB1 hl h1 hcp hR2 hg2 hb2 hi
  go_enter Tryd.func92, Tryd.ntmps92
  go_wp2_with fail
  refine HF.out.mono ?_
  rintro e wx ⟨rfl, rfl⟩
  go_wp2_with fail
  refine HLN.out.mono ?_
  rintro e wx ⟨rfl, rfl⟩
  go_wp2_with (refine wpList_copy rfl (.tmp 19) (.tmp 22) _ _ rfl _ _ rfl rfl HCP.out ?_)
  go_ret2
  exact ⟨b2, rfl, by have := HBL.out (); omega, by have h := HZ.out.1; rw [HBL.out ()] at h; exact h, HZ.out.2⟩
theorem alive_list : ceAt (upL 2 3 ((rep 6 blC).set 5 ⟨65, 0, 0, 0⟩) 0 1 1 blC) 2 = ⟨65, 0, 0, 0⟩ ∧ ceAt (upL 2 3 ((rep 6 blC).set 5 ⟨65, 0, 0, 0⟩) 0 1 1 blC) 5 = blC := by decide
end Go.Proofs.YtjihcpnaebghnaaDoor

/-
  Proved here: GridNobody.
-/
set_option linter.unusedSimpArgs false
set_option linter.unusedVariables false
namespace Go.Proofs.YtjihcpnaebghnaaDoor
open Go.RowKit
theorem setF {α : Type} (x0 x1 x2 x3 x4 x5 x6 x7 x8 x9 x10 x11 x12 x13 x14 x15 : α) (l : List α) (n : Nat) (v : α) : (x0 :: x1 :: x2 :: x3 :: x4 :: x5 :: x6 :: x7 :: x8 :: x9 :: x10 :: x11 :: x12 :: x13 :: x14 :: x15 :: l).set (n + 16) v = x0 :: x1 :: x2 :: x3 :: x4 :: x5 :: x6 :: x7 :: x8 :: x9 :: x10 :: x11 :: x12 :: x13 :: x14 :: x15 :: l.set n v := rfl
theorem heldMono {P : Program} {md : Region.Mode} {ops : Array Oper} {Q : Exit → Act → World → Prop} {S S' : World → Prop} (h : ∀ w, S' w → S w) :
    ∀ (fuel : Nat) (listed : Array Bool) (a : Act) (w : World), wpAnyH P md ops Q S' fuel listed a w → wpAnyH P md ops Q S fuel listed a w
  | 0, _, _, _, x => x
  | fuel + 1, _, _, _, x => ⟨x.1, fun i hi => wpOp_mono (fun a' w' h' => ⟨h _ h'.1, heldMono h fuel _ a' w' h'.2⟩) (x.2 i hi)⟩
/-- A new parser. -/
theorem step_store_row {P : Program} {ops : Array Oper} {o : Oper} {a : Act} {w : World} {K : Act → World → Prop} {Q : Exit → Act → World → Prop} {E : Prop} (hgd : o.guard = none) (ty : TypeId) (x y : Operand) (ho : o.op = .store ty x y)
    (g : Nat) (cells : Array Value) (hx : a.eval x = .pointer (some ⟨g, 0, none⟩)) (hy : a.eval y = .agg cells)
    (t : TypeId) (old : Array Value) (hg : w.heap[g]? = some (.cells old t (0, 0))) (hi : (P.info? ty).map (·.size) = some cells.size)
    (hold : old.size = cells.size) (h1 : cells.all (·.oneCell') = true)
    (h : K (a.put o.dst undef) (w.setRow g cells)) : if Region.wanted o (yielded ops a.tmps) = true then Oper.wp P o a w K Q else E := by
  have hw : Region.wanted o (yielded ops a.tmps) = true := by simp [Region.wanted, hgd]
  rw [if_pos hw]
  exact wp_store_row ty x y ho g cells hx hy t old hg hi hold h1 h
theorem op_cells {W : World} {g : Nat} {c0 c1 c2 c3 c4 c5 c6 c7 : Value} {t : TypeId} (h : W.heap[g]? = some (.cells #[c0, c1, c2, c3, c4, c5, c6, c7] t (0, 0))) : W.cell? ⟨g, 0, none⟩ = some c0 ∧ W.cell? ⟨g, 1, none⟩ = some c1 ∧ W.cell? ⟨g, 2, none⟩ = some c2 ∧ W.cell? ⟨g, 3, none⟩ = some c3 ∧ W.cell? ⟨g, 4, none⟩ = some c4 ∧ W.cell? ⟨g, 5, none⟩ = some c5 ∧ W.cell? ⟨g, 6, none⟩ = some c6 ∧ W.cell? ⟨g, 7, none⟩ = some c7 := by
  refine ⟨?_, ?_, ?_, ?_, ?_, ?_, ?_, ?_⟩ <;> (unfold World.cell?; simp only [h]; rfl)
theorem six_cell {W : World} {g : Nat} {t : TypeId} (h : W.heap[g]? = some (.cells #[.int .i64 6, .int .i64 6, .int .i64 6, .int .i64 6, .int .i64 6, .int .i64 6] t (0, 0))) {i : Nat} (hi : i < 6) : W.cell? ⟨g, i, none⟩ = some (.int .i64 6) := by
  unfold World.cell?
  simp only [h]
  rcases (show i = 0 ∨ i = 1 ∨ i = 2 ∨ i = 3 ∨ i = 4 ∨ i = 5 by omega) with rfl | rfl | rfl | rfl | rfl | rfl <;> rfl
end Go.Proofs.YtjihcpnaebghnaaDoor
