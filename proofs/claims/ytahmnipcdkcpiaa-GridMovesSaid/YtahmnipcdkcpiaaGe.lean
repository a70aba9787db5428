/-
  Proved here: a grid's cells are told and put; its rows are told.
-/
import Derived.Test.YtahmnipcdkcpiaaGd
set_option linter.unusedSimpArgs false
set_option linter.unusedVariables false
namespace Go.Proofs.Ytahmnipcdkcpiaa
open Go.RowKit
theorem results_cell_tmp {P : Program} {fn : Func} {p q : Tmp} {ty : TypeId} (h : fn.results = #[.cell p ty, .tmp q]) (tmps : Array Value) (w : World) (g : Nat) (t : TypeId) (cs : Array Value) (fr : Nat × Nat) (d : TypeDesc) (u : Value)
    (hp : tmps.getD p undef = .pointer (some ⟨g, 0, none⟩)) (hq : tmps.getD q undef = u) (hg : w.heap[g]? = some (.cells cs t fr))
    (hu : P.underlying ty = some d) (hd : (match d with | .struct _ | .array _ _ => true | _ => false) = true) (hi : (P.info? ty).map (·.size) = some cs.size) :
    (results fn tmps).run P w = .ok (.tuple #[.agg cs, u]) w := by
  have hp' : tmps[p]?.getD undef = .pointer (some ⟨g, 0, none⟩) := by simpa using hp
  have hq' : tmps[q]?.getD undef = u := by simpa using hq
  simp [results, h, hp', hq', asAddr, run_loadVar_row w g t ty cs fr d hg hu hd hi]
theorem has_bounds {R C : Nat} {row col : Int} (h : hasC R C row col = true) : ∃ i j : Nat, row = i ∧ col = j ∧ i < R ∧ j < C := by
  unfold hasC hasR at h
  simp at h
  exact ⟨row.toNat, col.toNat, by omega, by omega, by omega, by omega⟩
theorem has_row {R : Nat} {row : Int} (h : hasR R row = true) : ∃ i : Nat, row = i ∧ i < R := by
  unfold hasR at h
  simp at h
  exact ⟨row.toNat, by omega, by omega⟩
theorem ix_lt {R C i j : Nat} (hi : i < R) (hj : j < C) : i * C + j < R * C := by
  have := Nat.mul_le_mul_right C (show i + 1 ≤ R from hi)
  rw [Nat.succ_mul] at this
  omega
/-- The cell at a place. -/
def ceAt (L : List Ce) (k : Nat) : Ce := L.getD k zeC
theorem RowAt.four {W : World} {b cap : Nat} {L : List Ce} (h : RowAt W b cap L) {k : Nat} (hk : k < L.length) :
    W.cell? ⟨b, k * 4, none⟩ = some (.int .i32 (ceAt L k).p) ∧ W.cell? ⟨b, k * 4 + 1, none⟩ = some (.int .u8 (ceAt L k).f) ∧ W.cell? ⟨b, k * 4 + 2, none⟩ = some (.int .u32 (ceAt L k).g) ∧ W.cell? ⟨b, k * 4 + 3, none⟩ = some (.int .u32 (ceAt L k).b) := by
  have e : ceAt L k = L[k] := by simp [ceAt, List.getD, hk]
  rw [e]
  exact ⟨by rw [show k * 4 = k * 4 + 0 from rfl, h.cell hk (by omega)]; rfl, by rw [h.cell hk (by omega)]; rfl, by rw [h.cell hk (by omega)]; rfl, by rw [h.cell hk (by omega)]; rfl⟩
section
variable {g b cap R C : Nat} {L : List Ce} {w : World}
set_option maxRecDepth 100000 in
theorem at_gr (h : Gr g b cap R C L w) (row col : Int) : Calls Try.prog 11 #[.pointer (some ⟨g, 0, none⟩), .int .i64 row, .int .i64 col] w fun e w' =>
    e = .returned (.tuple #[cV (if hasC R C row col = true then ceAt L (row.toNat * C + col.toNat) else zeC), .int .i64 (flt (hasC R C row col))]) ∧ Below w.heap.size w w' := by
  have h1 : Gr g b cap R C L (w.alloc (.cells #[.int .i32 0, .int .u8 0, .int .u32 0, .int .u32 0] 39)) := h.below ((Below.refl _ _).alloc (Nat.le_refl _) _)
  have HF := Lib.hid (cellFault_gr h1 row col)
  cases hq : hasC R C row col with
  | false =>
    rw [hq] at HF
    rw [if_neg (by decide)]
    rw [show flt false = 1 from rfl] at HF ⊢
    clear h h1
    go_enter Try.func11, Try.ntmps11
    go_wp2_with fail
    refine HF.out.mono ?_
    rintro e wx ⟨rfl, rfl⟩
    go_wp2
    exact bodyPost_ret (results_cell_tmp Try.results11 _ _ w.heap.size 39 #[.int .i32 0, .int .u8 0, .int .u32 0, .int .u32 0] (0, 0) _ (.int .i64 1) rfl rfl (heap_alloc_new w _) Try.underlying39 rfl info_cell) rfl ⟨rfl, (Below.refl _ _).alloc (Nat.le_refl _) _⟩
  | true =>
    obtain ⟨i, j, rfl, rfl, hi, hj⟩ := has_bounds hq
    rw [hq] at HF
    rw [if_pos rfl]
    rw [show flt true = 0 from rfl] at HF ⊢
    rw [Int.toNat_natCast, Int.toNat_natCast]
    obtain ⟨o, ho⟩ : ∃ o, i * C = o := ⟨_, rfl⟩
    have HL := Lib.hid (line_gr h1 hi ho)
    have hk := ix_lt hi hj
    have hfour := fun obj => (h.row.below ((Below.refl w.heap.size w).alloc (Nat.le_refl _) obj)).four (k := o + j) (by rw [h.len, ← ho]; exact hk)
    rw [ho]
    obtain ⟨ce, hce⟩ : ∃ c, ceAt L (o + j) = c := ⟨_, rfl⟩
    simp only [hce, Nat.add_mul] at hfour
    rw [hce]
    obtain ⟨p, f, gg, bb⟩ := ce
    dsimp only at hfour
    have q0 := fun obj => (hfour obj).1
    have q1 := fun obj => (hfour obj).2.1
    have q2 := fun obj => (hfour obj).2.2.1
    have q3 := fun obj => (hfour obj).2.2.2
    have g1 : (0 : Int) ≤ (j : Int) := by omega
    have g2 : (j : Int) < (C : Int) := by omega
    unfold cV
    clear h h1 hq hk hfour hi ho hce
    go_enter Try.func11, Try.ntmps11
    go_wp2_with fail
    refine HF.out.mono ?_
    rintro e wx ⟨rfl, rfl⟩
    go_wp2_with fail
    refine HL.out.mono ?_
    rintro e wx ⟨rfl, rfl⟩
    go_wp2
    exact bodyPost_ret (results_cell_tmp Try.results11 _ _ w.heap.size 39 #[.int .i32 p, .int .u8 f, .int .u32 gg, .int .u32 bb] (0, 0) _ (.int .i64 0) rfl rfl (heap_alloc_new w _) Try.underlying39 rfl info_cell) rfl ⟨rfl, ((Below.refl _ _).alloc (Nat.le_refl _) _).drew⟩
theorem lay_one (L : List Ce) (k : Nat) (c : Ce) (hk : k < L.length) : lay L k [c] = L.set k c := by
  unfold lay
  rw [List.set_eq_take_append_cons_drop, if_pos hk]
  simp
theorem below_grown {W V X : World} {row : Option Nat} (hb : Below W.heap.size W V) (hg : V.grownBy X row) : W.grownBy X row :=
  ⟨hg.os.trans hb.os, hg.tape.trans hb.tape, hg.output.trans hb.output, Nat.le_trans hb.size hg.size, fun k hk hr => (hg.block k (Nat.lt_of_lt_of_le hk hb.size) hr).trans (hb.block k hk)⟩
theorem grown_below {W V X : World} {row : Option Nat} (hg : W.grownBy V row) (hb : Below V.heap.size V X) : W.grownBy X row :=
  ⟨hb.os.trans hg.os, hb.tape.trans hg.tape, hb.output.trans hg.output, Nat.le_trans hg.size hb.size, fun k hk hr => (hb.block k (Nat.lt_of_lt_of_le hk hg.size)).trans (hg.block k hk hr)⟩
theorem run_store4 {W : World} {b cap : Nat} {L : List Ce} (h : RowAt W b cap L) {k : Nat} (hk : k < L.length) (c : Ce) : ∃ V, (storeVar 39 ⟨b, k * 4, none⟩ (cV c)).run Try.prog W = .ok () V ∧ RowAt V b cap (L.set k c) ∧ W.grownBy V (some b) := by
  obtain ⟨cur, h1, h2, h3⟩ := h.laid (o := k) (cs := [c]) (by simp; omega)
  obtain ⟨i, hi, _, hz1, _⟩ := info_parts infoCell
  have hst := run_storeCells_at Try.prog b (k * 4) 39 (flat [c]) 0 cur W h1 (by simpa using h2) (flat_cells [c])
  rw [lay_one L k c hk] at h3
  refine ⟨_, ?_, h3, grown_setRow _ _ _⟩
  have e : (cV c).cells.toList = flat [c] := rfl
  have e2 : (cV c).cells.size = 4 := rfl
  simp only [storeVar, sizeOf, typeInfo, hi, hz1, e2, e]
  simpa [hi, hz1] using hst
theorem step_store4 {ops : Array Oper} {o : Oper} {a : Act} {W : World} {K : Act → World → Prop} {Q : Exit → Act → World → Prop} {E : Prop} (hgd : o.guard = none) (x y : Operand) (ho : o.op = .store 39 x y)
    {b cap : Nat} {L : List Ce} (h : RowAt W b cap L) {k : Nat} (hk : k < L.length) (hx : a.eval x = .pointer (some ⟨b, k * 4, none⟩)) {c : Ce} (hy : a.eval y = cV c)
    (hK : ∀ V, RowAt V b cap (L.set k c) → W.grownBy V (some b) → K (a.put o.dst undef) V) : if Region.wanted o (yielded ops a.tmps) = true then Oper.wp Try.prog o a W K Q else E := by
  have hw : Region.wanted o (yielded ops a.tmps) = true := by simp [Region.wanted, hgd]
  rw [if_pos hw]
  obtain ⟨V, h1, h2, h3⟩ := run_store4 h hk c
  unfold Oper.wp execOp
  simp only [ho, hx, hy, Instr.storeAt, Instr.sureAddr, Sem.run_bind, Sem.run_pure, Result.andThen_ok, h1]
  exact hK V h2 h3
theorem wpList_store4 {ops : Array Oper} {rest : List Oper} {o : Oper} {a : Act} {W : World} {Q : Exit → Act → World → Prop} (hgd : o.guard = none) (x y : Operand) (ho : o.op = .store 39 x y)
    {b cap : Nat} {L : List Ce} (h : RowAt W b cap L) {k : Nat} (hk : k < L.length) (hx : a.eval x = .pointer (some ⟨b, k * 4, none⟩)) {c : Ce} (hy : a.eval y = cV c)
    (hK : ∀ V, RowAt V b cap (L.set k c) → W.grownBy V (some b) → wpList Try.prog ops Q rest (a.put o.dst undef) V) : wpList Try.prog ops Q (o :: rest) a W := by
  refine wpList_plain hgd fun K hK2 => ?_
  obtain ⟨V, h1, h2, h3⟩ := run_store4 h hk c
  unfold Oper.wp execOp
  simp only [ho, hx, hy, Instr.storeAt, Instr.sureAddr, Sem.run_bind, Sem.run_pure, Result.andThen_ok, h1]
  exact hK2 _ _ (hK V h2 h3)
/-- A cell is put. -/
def PutPost (g b cap R C : Nat) (L : List Ce) (q : Bool) (L' : List Ce) (w : World) (e : Ending) (w' : World) : Prop :=
  e = .returned (.int .i64 (flt q)) ∧ Gr g b cap R C (if q = true then L' else L) w' ∧ w.grownBy w' (some b)
set_option maxRecDepth 100000 in
set_option maxHeartbeats 1000000 in
theorem put_gr (h : Gr g b cap R C L w) (row col : Int) (c : Ce) : Calls Try.prog 18 #[.pointer (some ⟨g, 0, none⟩), .int .i64 row, .int .i64 col, cV c] w (PutPost g b cap R C L (hasC R C row col) (L.set (row.toNat * C + col.toNat) c) w) := by
  obtain ⟨p, f, gg, bb⟩ := c
  have hb0 : Below w.heap.size w (w.alloc (.cells #[.int .i32 p, .int .u8 f, .int .u32 gg, .int .u32 bb] 39)) := (Below.refl _ _).alloc (Nat.le_refl _) _
  have h1 := h.below hb0
  have HF := Lib.hid (cellFault_gr h1 row col)
  cases hq : hasC R C row col with
  | false =>
    rw [hq, show flt false = 1 from rfl] at HF
    have HH := Lib.hid (show PutPost g b cap R C L false (L.set (row.toNat * C + col.toNat) ⟨p, f, gg, bb⟩) w (.returned (.int .i64 1)) (w.alloc (.cells #[.int .i32 p, .int .u8 f, .int .u32 gg, .int .u32 bb] 39)) from ⟨rfl, by rw [if_neg (by decide)]; exact h1, below_grown hb0 (World.grownBy.refl _ _)⟩)
    unfold cV
    clear h h1 hb0 hq
    go_enter Try.func18, Try.ntmps18
    go_wp2_with fail
    refine HF.out.mono ?_
    rintro e wx ⟨rfl, rfl⟩
    go_wp2
    go_ret
    exact HH.out
  | true =>
    obtain ⟨i, j, rfl, rfl, hi, hj⟩ := has_bounds hq
    rw [hq, show flt true = 0 from rfl] at HF
    rw [Int.toNat_natCast, Int.toNat_natCast]
    obtain ⟨o, ho⟩ : ∃ o, i * C = o := ⟨_, rfl⟩
    have hk := ix_lt hi hj
    rw [ho] at hk ⊢
    have HIJ := Lib.hid (And.intro hi (And.intro ho (show o + j < L.length from by rw [h.len]; exact hk)))
    have g1 : (0 : Int) ≤ (j : Int) := by omega
    have g2 : (j : Int) < (C : Int) := by omega
    have H1 := Lib.hid h1
    have HB0 := Lib.hid hb0
    have hbn : w.heap.size ≠ b := fun e => by have := h.row.lt; omega
    have HBX := Lib.hid (fun (W : World) (hW : (w.alloc (.cells #[.int .i32 p, .int .u8 f, .int .u32 gg, .int .u32 bb] 39)).grownBy W (some b)) => show W.cell? ⟨w.heap.size, 0, none⟩ = some (.int .i32 p) ∧ W.cell? ⟨w.heap.size, 1, none⟩ = some (.int .u8 f) ∧ W.cell? ⟨w.heap.size, 2, none⟩ = some (.int .u32 gg) ∧ W.cell? ⟨w.heap.size, 3, none⟩ = some (.int .u32 bb) from by
      have hh := (hW.block w.heap.size (by simp) (fun e => hbn (by injection e))).trans (heap_alloc_new w _)
      refine ⟨?_, ?_, ?_, ?_⟩ <;> (unfold World.cell?; simp only [hh]; rfl))
    unfold cV
    clear h h1 hb0 hq hk hi ho hj hbn
    go_enter Try.func18, Try.ntmps18
    go_wp2_with fail
    refine HF.out.mono ?_
    rintro e wx ⟨rfl, rfl⟩
    clear HF
    go_wp2
    refine wp_region_held_drew (S := fun W => (w.alloc (.cells #[.int .i32 p, .int .u8 f, .int .u32 gg, .int .u32 bb] 39)).grownBy W (some b)) (by kernel_rfl) ⟨rfl, rfl, rfl, Nat.le_refl _, fun _ _ _ => rfl⟩ (fun hHeld => ?_)
    refine wpAnyH_take (i := 0) (v := ?_) (by simp; rfl) (by kernel_rfl) (by kernel_rfl) (by kernel_rfl) (by exact fun _ _ _ h => h) (Or.inl ⟨by rfl, fun wx hSx => ?_⟩) hHeld ?_
    rotate_left
    · clear hSx; go_simp; (try with_reducible rfl)
    simp only [Act.put, List.setIfInBounds_toArray, List.set_cons_zero, List.set_cons_succ]
    refine wpAnyH_take (i := 1) (v := ?_) (by simp; rfl) (by kernel_rfl) (by kernel_rfl) (by kernel_rfl) (by exact fun _ _ _ h => h) (Or.inl ⟨by rfl, fun wx hSx => ?_⟩) hHeld ?_
    rotate_left
    · clear hSx; go_simp; (try with_reducible rfl)
    simp only [Act.put, List.setIfInBounds_toArray, List.set_cons_zero, List.set_cons_succ]
    refine wpAnyH_take (i := 3) (v := ?_) (by simp; rfl) (by kernel_rfl) (by kernel_rfl) (by kernel_rfl) (by exact fun _ _ _ h => h) (Or.inl ⟨by rfl, fun wx hSx => ?_⟩) hHeld ?_
    rotate_left
    · clear hSx; go_simp; (try with_reducible rfl)
    simp only [Act.put, List.setIfInBounds_toArray, List.set_cons_zero, List.set_cons_succ]
    refine wpAnyH_take (i := 4) (v := ?_) (by simp; rfl) (by kernel_rfl) (by kernel_rfl) (by kernel_rfl) (by exact fun _ _ _ h => h) (Or.inl ⟨by rfl, fun wx hSx => ?_⟩) hHeld ?_
    rotate_left
    · obtain ⟨q0, q1, q2, q3⟩ := HBX.out wx hSx; clear hSx; go_simp; (try with_reducible rfl)
    simp only [Act.put, List.setIfInBounds_toArray, List.set_cons_zero, List.set_cons_succ]
    refine wpAnyH_ready (rs := [2]) (by kernel_rfl) (by simp) ?_
    refine AllReadyH.cons (by simp; rfl) (fun K0 hK0 => ?_) AllReadyH.nil
    go_simp
    refine (line_gr (H1.out.below (Below.refl _ _).drew) HIJ.out.1 HIJ.out.2.1).mono ?_
    rintro e V ⟨rfl, rfl⟩
    refine hK0.out _ _ ⟨rfl, rfl, rfl, Nat.le_refl _, fun _ _ _ => rfl⟩ (fun hHeld => ?_)
    clear hK0 K0
    refine wpAnyH_take (i := 5) (v := ?_) (by simp; rfl) (by kernel_rfl) (by kernel_rfl) (by kernel_rfl) (by exact fun _ _ _ h => h) (Or.inl ⟨by rfl, fun wx hSx => ?_⟩) hHeld ?_
    rotate_left
    · clear hSx; go_simp; (try with_reducible rfl)
    simp only [Act.put, List.setIfInBounds_toArray, List.set_cons_zero, List.set_cons_succ]
    refine wpAnyH_ready (rs := [6]) (by kernel_rfl) (by simp) ?_
    refine AllReadyH.cons (by simp; rfl) (fun K0 hK0 => ?_) AllReadyH.nil
    refine step_store4 rfl (.tmp 22) (.tmp 21) rfl (H1.out.below ((Below.refl _ _).drew.drew)).row (k := o + j) HIJ.out.2.2 (by simp [Nat.add_mul]; rfl) (c := ⟨p, f, gg, bb⟩) rfl (fun V hV hgV => ?_)
    simp only [Act.put, List.setIfInBounds_toArray, List.set_cons_zero, List.set_cons_succ]
    have HG := Lib.hid ((H1.out.below ((Below.refl _ _).drew.drew)).put hV (by simp) hgV)
    have HGB := Lib.hid (show (w.alloc (.cells #[.int .i32 p, .int .u8 f, .int .u32 gg, .int .u32 bb] 39)).grownBy V (some b) from ⟨hgV.os, hgV.tape, hgV.output, hgV.size, hgV.block⟩)
    refine hK0.out _ _ HGB.out (fun _ => ?_)
    clear hK0 K0 hV hgV hHeld
    refine wpAnyH_done (by kernel_rfl) ?_ _
    go_wp2
    go_ret
    exact ⟨rfl, by rw [if_pos rfl]; exact HG.out, below_grown HB0.out HGB.out⟩
end
end Go.Proofs.Ytahmnipcdkcpiaa
