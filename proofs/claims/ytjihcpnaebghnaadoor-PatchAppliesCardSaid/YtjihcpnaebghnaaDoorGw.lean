/-
  Proved here: a cell as the document's.
-/
import Derived.Test.YtjihcpnaebghnaaDoorYg
import Derived.Test.YtjihcpnaebghnaaDoorGi
import Derived.WideShapes
set_option linter.unusedSimpArgs false
set_option linter.unusedVariables false
namespace Go.Proofs.YtjihcpnaebghnaaDoor
open Go.RowKit
set_option maxRecDepth 100000 in
set_option maxHeartbeats 4000000 in
theorem as_any (f fg bg : Int) (w : World) (h0 : 0 ≤ f) (h1 : f < 256) : Calls Tryd.prog 66 #[.agg #[.int .u8 f, .int .u32 fg, .int .u32 bg]] w fun e w' => e = .returned (styV ⟨ofF 8 f, fg, bg⟩) ∧ Below w.heap.size w w' := by
  have hl : (ofF 8 f).length = 8 := ofF_len 8 f
  have HO := Lib.hid (fun W => ry_of f fg bg W h0 h1)
  obtain ⟨fs, hfs⟩ : ∃ l, ofF 8 f = l := ⟨_, rfl⟩
  rw [hfs] at HO hl ⊢
  have HB0 := Lib.hid ((Below.refl w.heap.size w).alloc (Nat.le_refl _) (.cells #[.int .u8 f, .int .u32 fg, .int .u32 bg] 86))
  have h : (Sty.mk fs fg bg).fs.length = 8 := hl
  clear h0 h1 hfs hl
  go_enter Tryd.func66, Tryd.ntmps66
  go_wp2_with fail
  refine (HO.out _).mono ?_
  rintro e w1 ⟨rfl, hb⟩
  have HBX := HB0.out.alloc HB0.out.size (.cells #[.bool false, .bool false, .bool false, .bool false, .bool false, .bool false, .bool false, .bool false, .int .u32 0, .int .u32 0] 78)
  have HRO := Lib.hid ((hb.block _ (by simp)).trans (heap_alloc2_new w (.cells #[.int .u8 f, .int .u32 fg, .int .u32 bg] 86) (.cells #[.bool false, .bool false, .bool false, .bool false, .bool false, .bool false, .bool false, .bool false, .int .u32 0, .int .u32 0] 78)))
  have HB1 := Lib.hid (HBX.trans (hb.mono HBX.size))
  have HIS := Lib.hid (info_of (s := ⟨fs, fg, bg⟩) h)
  clear hb HBX h
  go_wp2_with (first | refine wpList_store_row rfl 78 _ _ rfl (w.heap.size + 1) (styL ⟨fs, fg, bg⟩).toArray rfl rfl 78 _ HRO.out HIS.out ?c1 (styL_one _) ?_)
  case c1 =>
    have h1 := info_of (s := zeroY) rfl
    have h2 := HIS.out
    rw [h1] at h2
    exact Option.some.inj h2
  exact bodyPost_ret (v := styV ⟨fs, fg, bg⟩) (results_cell_row (p := 2) (ty := 78) Tryd.results66 _ _ (w.heap.size + 1) 78 _ (0, 0) _ rfl (setRow_heap _ _ _ _ _ _ HRO.out) Tryd.underlying78 rfl HIS.out) rfl ⟨rfl, below_setRow HB1.out (by omega) _⟩
end Go.Proofs.YtjihcpnaebghnaaDoor

/-
  Proved here: a cell as the document's.
-/
set_option linter.unusedSimpArgs false
set_option linter.unusedVariables false
namespace Go.Proofs.YtjihcpnaebghnaaDoor
open Go.RowKit
/-- A cell of the document. -/
def yC (c : Ce) : List Value := .int .i32 c.p :: styL ⟨ofF 8 c.f, c.g, c.b⟩
def yV (c : Ce) : Value := .agg (yC c).toArray
theorem yC_len (c : Ce) : (yC c).length = 11 := by simp [yC, styL_len ⟨ofF 8 c.f, c.g, c.b⟩ (ofF_len 8 c.f)]
theorem info_yc : (Tryd.prog.info? 80).map (·.size) = some 11 := by kernel_rfl
theorem four_cells {W : World} {g : Nat} {c0 c1 c2 c3 : Value} {t : TypeId} (h : W.heap[g]? = some (.cells #[c0, c1, c2, c3] t (0, 0))) : W.cell? ⟨g, 0, none⟩ = some c0 ∧ W.cell? ⟨g, 1, none⟩ = some c1 ∧ W.cell? ⟨g, 2, none⟩ = some c2 ∧ W.cell? ⟨g, 3, none⟩ = some c3 := by
  refine ⟨?_, ?_, ?_, ?_⟩ <;> (unfold World.cell?; simp only [h]; rfl)
set_option maxRecDepth 100000 in
set_option maxHeartbeats 4000000 in
theorem l_cell (c : Ce) (w : World) (h0 : 0 ≤ c.f) (h1 : c.f < 256) : Calls Tryd.prog 35 #[cV c] w fun e w' => e = .returned (yV c) ∧ Below w.heap.size w w' := by
  obtain ⟨p, f, gg, bb⟩ := c
  have H := fun W => as_any f gg bb W h0 h1
  obtain ⟨f0, f1, f2, f3, f4, f5, f6, f7, hf⟩ := eight (ofF_len 8 f)
  have HFE := Lib.hid (fun (_ : Unit) => show yC ⟨p, f, gg, bb⟩ = [.int .i32 p, .bool f0, .bool f1, .bool f2, .bool f3, .bool f4, .bool f5, .bool f6, .bool f7, .int .u32 gg, .int .u32 bb] from by unfold yC; dsimp only; rw [hf]; rfl)
  have HO : Hid (∀ W : World, Calls Tryd.prog 66 #[.agg #[.int .u8 f, .int .u32 gg, .int .u32 bb]] W fun e w' => e = .returned (.agg #[.bool f0, .bool f1, .bool f2, .bool f3, .bool f4, .bool f5, .bool f6, .bool f7, .int .u32 gg, .int .u32 bb]) ∧ Below W.heap.size W w') := Lib.hid (fun W => by
    have := H W
    rw [hf] at this
    exact this)
  have hbu : Below w.heap.size w ((w.alloc (.cells #[.int .i32 p, .int .u8 f, .int .u32 gg, .int .u32 bb] 88)).alloc (.cells #[.int .i32 0, .bool false, .bool false, .bool false, .bool false, .bool false, .bool false, .bool false, .bool false, .int .u32 0, .int .u32 0] 80)) := ((Below.refl _ _).alloc (Nat.le_refl _) _).alloc (by simp) _
  have hrow : ((w.alloc (.cells #[.int .i32 p, .int .u8 f, .int .u32 gg, .int .u32 bb] 88)).alloc (.cells #[.int .i32 0, .bool false, .bool false, .bool false, .bool false, .bool false, .bool false, .bool false, .bool false, .int .u32 0, .int .u32 0] 80)).heap[w.heap.size + 1]? = some (.cells #[.int .i32 0, .bool false, .bool false, .bool false, .bool false, .bool false, .bool false, .bool false, .bool false, .int .u32 0, .int .u32 0] 80 (0, 0)) := by
    have := heap_alloc_new (w.alloc (.cells #[.int .i32 p, .int .u8 f, .int .u32 gg, .int .u32 bb] 88)) (.cells #[.int .i32 0, .bool false, .bool false, .bool false, .bool false, .bool false, .bool false, .bool false, .bool false, .int .u32 0, .int .u32 0] 80)
    simpa using this
  have hbox : ((w.alloc (.cells #[.int .i32 p, .int .u8 f, .int .u32 gg, .int .u32 bb] 88)).alloc (.cells #[.int .i32 0, .bool false, .bool false, .bool false, .bool false, .bool false, .bool false, .bool false, .bool false, .int .u32 0, .int .u32 0] 80)).heap[w.heap.size]? = some (.cells #[.int .i32 p, .int .u8 f, .int .u32 gg, .int .u32 bb] 88 (0, 0)) :=
    (((Below.refl (w.alloc (.cells #[.int .i32 p, .int .u8 f, .int .u32 gg, .int .u32 bb] 88)).heap.size (w.alloc (.cells #[.int .i32 p, .int .u8 f, .int .u32 gg, .int .u32 bb] 88))).alloc (Nat.le_refl _) (.cells #[.int .i32 0, .bool false, .bool false, .bool false, .bool false, .bool false, .bool false, .bool false, .bool false, .int .u32 0, .int .u32 0] 80)).block w.heap.size (by simp)).trans (heap_alloc_new w _)
  have hsz : ((w.alloc (.cells #[.int .i32 p, .int .u8 f, .int .u32 gg, .int .u32 bb] 88)).alloc (.cells #[.int .i32 0, .bool false, .bool false, .bool false, .bool false, .bool false, .bool false, .bool false, .bool false, .int .u32 0, .int .u32 0] 80)).heap.size = w.heap.size + 2 := by simp
  clear H h0 h1 hf
  unfold cV
  go_enter Tryd.func35, Tryd.ntmps35
  go_upto_region 1 with fail
  generalize ((w.alloc (.cells #[.int .i32 p, .int .u8 f, .int .u32 gg, .int .u32 bb] 88)).alloc (.cells #[.int .i32 0, .bool false, .bool false, .bool false, .bool false, .bool false, .bool false, .bool false, .bool false, .int .u32 0, .int .u32 0] 80)) = U at hbu hrow hbox hsz ⊢
  have HBX := Lib.hid (fun (X : World) (hX : Below U.drew.heap.size U.drew X) => four_cells ((hX.block w.heap.size (show w.heap.size < U.heap.size by omega)).trans hbox))
  have HRO := Lib.hid (fun (X : World) (hX : Below U.drew.heap.size U.drew X) => (hX.block (w.heap.size + 1) (show w.heap.size + 1 < U.heap.size by omega)).trans hrow)
  have HBW := Lib.hid hbu.drew
  have HSR := Lib.hid (fun (X : World) (hX : Below U.drew.heap.size U.drew X) => below_setRow (HBW.out.trans (hX.mono HBW.out.size)) (Nat.le_succ w.heap.size) #[.int .i32 p, .bool f0, .bool f1, .bool f2, .bool f3, .bool f4, .bool f5, .bool f6, .bool f7, .int .u32 gg, .int .u32 bb])
  have HSX := Lib.hid (fun (X : World) (hX : Below U.drew.heap.size U.drew X) => four_cells ((setRow_other X (w.heap.size + 1) w.heap.size #[.int .i32 p, .bool f0, .bool f1, .bool f2, .bool f3, .bool f4, .bool f5, .bool f6, .bool f7, .int .u32 gg, .int .u32 bb] (by omega)).trans ((hX.block w.heap.size (show w.heap.size < U.heap.size by omega)).trans hbox)))
  clear hbu hrow hbox hsz
  refine wp_region_held_drew (S := fun W => W.cell? ⟨w.heap.size, 0, none⟩ = some (.int .i32 p) ∧ W.cell? ⟨w.heap.size, 1, none⟩ = some (.int .u8 f) ∧ W.cell? ⟨w.heap.size, 2, none⟩ = some (.int .u32 gg) ∧ W.cell? ⟨w.heap.size, 3, none⟩ = some (.int .u32 bb)) (by kernel_rfl) (HBX.out _ (Below.refl _ _)) (fun hHeld => ?_)
  refine wpAnyH_take (i := 0) (v := ?_) (by simp; rfl) (by kernel_rfl) (by kernel_rfl) (by kernel_rfl) (by exact fun _ _ _ h => h) (Or.inl ⟨by rfl, fun wx hSx => ?_⟩) hHeld ?_
  rotate_left
  · clear hSx; go_simp; (try with_reducible rfl)
  simp only [Act.put, List.setIfInBounds_toArray, List.set_cons_zero, List.set_cons_succ]
  refine wpAnyH_take (i := 1) (v := ?_) (by simp; rfl) (by kernel_rfl) (by kernel_rfl) (by kernel_rfl) (by exact fun _ _ _ h => h) (Or.inl ⟨by rfl, fun wx hSx => ?_⟩) hHeld ?_
  rotate_left
  · obtain ⟨q0, q1, q2, q3⟩ := hSx; go_simp; (try with_reducible rfl)
  simp only [Act.put, List.setIfInBounds_toArray, List.set_cons_zero, List.set_cons_succ]
  refine wpAnyH_take (i := 2) (v := ?_) (by simp; rfl) (by kernel_rfl) (by kernel_rfl) (by kernel_rfl) (by exact fun _ _ _ h => h) (Or.inl ⟨by rfl, fun wx hSx => ?_⟩) hHeld ?_
  rotate_left
  · clear hSx; go_simp; (try with_reducible rfl)
  simp only [Act.put, List.setIfInBounds_toArray, List.set_cons_zero, List.set_cons_succ]
  refine wpAnyH_take (i := 3) (v := ?_) (by simp; rfl) (by kernel_rfl) (by kernel_rfl) (by kernel_rfl) (by exact fun _ _ _ h => h) (Or.inl ⟨by rfl, fun wx hSx => ?_⟩) hHeld ?_
  rotate_left
  · obtain ⟨q0, q1, q2, q3⟩ := hSx; go_simp; (try with_reducible rfl)
  simp only [Act.put, List.setIfInBounds_toArray, List.set_cons_zero, List.set_cons_succ]
  refine wpAnyH_ready (rs := [4]) (by kernel_rfl) (by simp) ?_
  refine AllReadyH.cons (by simp; rfl) (fun K0 hK0 => ?_) AllReadyH.nil
  go_simp
  refine (HO.out _).mono ?_
  rintro e V ⟨rfl, hV⟩
  have HV := Lib.hid hV
  clear hV
  refine hK0.out _ _ (HBX.out V HV.out) (fun _ => ?_)
  clear hK0 K0 hHeld
  have hHeld := HBX.out V HV.out
  refine wpAnyH_take (i := 5) (v := ?_) (by simp; rfl) (by kernel_rfl) (by kernel_rfl) (by kernel_rfl) (by exact fun _ _ _ h => h) (Or.inl ⟨by rfl, fun wx hSx => ?_⟩) hHeld ?_
  rotate_left
  · clear hSx; go_simp; (try with_reducible rfl)
  simp only [Act.put, List.setIfInBounds_toArray, List.set_cons_zero, List.set_cons_succ]
  refine wpAnyH_ready (rs := [6]) (by kernel_rfl) (by simp) ?_
  refine AllReadyH.cons (by simp; rfl) (fun K0 hK0 => ?_) AllReadyH.nil
  have hrow := HRO.out V HV.out
  refine step_store_row rfl 80 (.tmp 2) (.tmp 8) rfl (w.heap.size + 1) #[.int .i32 p, .bool f0, .bool f1, .bool f2, .bool f3, .bool f4, .bool f5, .bool f6, .bool f7, .int .u32 gg, .int .u32 bb] rfl rfl 80 _ hrow info_yc rfl (by simp [Value.oneCell']) ?_
  simp only [Act.put, List.setIfInBounds_toArray, List.set_cons_zero, List.set_cons_succ]
  refine hK0.out _ _ (HSX.out V HV.out) (fun _ => ?_)
  clear hK0 K0
  refine wpAnyH_done (by kernel_rfl) ?_ _
  go_wp2
  rw [← HFE.out ()]
  exact bodyPost_ret (v := yV ⟨p, f, gg, bb⟩) (results_cell_row (p := 2) (ty := 80) Tryd.results35 _ _ (w.heap.size + 1) 80 (yC ⟨p, f, gg, bb⟩).toArray (0, 0) _ rfl (by rw [HFE.out ()]; exact setRow_heap _ _ _ _ _ _ hrow) Tryd.underlying80 rfl (by rw [HFE.out ()]; exact info_yc)) rfl ⟨rfl, by have := HSR.out V HV.out; rw [HFE.out ()]; exact this⟩
end Go.Proofs.YtjihcpnaebghnaaDoor

/-
  Proved here: a cell of the document is put behind a list.
-/
set_option linter.unusedSimpArgs false
set_option linter.unusedVariables false
namespace Go.Proofs.YtjihcpnaebghnaaDoor
open Go.RowKit
def flatY (L : List Ce) : List Value := L.flatMap yC
theorem flatY_nil : flatY [] = [] := rfl
theorem flatY_app (a b : List Ce) : flatY (a ++ b) = flatY a ++ flatY b := by simp [flatY]
theorem flatY_one (c : Ce) : flatY [c] = yC c := by simp [flatY]
theorem flatY_len : ∀ L : List Ce, (flatY L).length = L.length * 11
  | [] => rfl
  | c :: L => by
    have h := flatY_len L
    rw [show flatY (c :: L) = yC c ++ flatY L from rfl, List.length_append, yC_len, h, List.length_cons, Nat.succ_mul]; omega
theorem yC_one (c : Ce) : ∀ v ∈ yC c, v.oneCell' = true := by
  intro v hv
  rcases List.mem_cons.1 hv with rfl | hv
  · rfl
  · exact styL_all _ v hv
theorem infoY : (Tryd.prog.info? 80).map (fun i => (i.zero, i.size, i.bytes)) = some (some (.agg #[.int .i32 0, .bool false, .bool false, .bool false, .bool false, .bool false, .bool false, .bool false, .bool false, .int .u32 0, .int .u32 0]), 11, 20) := by kernel_rfl
set_option maxRecDepth 100000 in
theorem app_y {W : World} {base fb : Nat} {v : Value} {n : Nat} {L : List Ce} {c : Ce} (hown : W.ownsRow base 80 11 v n (flatY L))
    (hblk : W.heap[fb]? = some (.cells (yC c).toArray 80 (0, 0))) (hn : n ≤ 100000) (hb : base ≤ W.heap.size) :
    ∃ v' w', (Builtin.append_ #[30, 30] 30 #[v, .slice (some ⟨fb, 0, none⟩) 1 1]).run Tryd.prog W = .ok v' w' ∧ w'.ownsRow base 80 11 v' (n + 1) (flatY (L ++ [c])) ∧ W.grownBy w' v.ownBlock ∧ (v'.ownBlock = v.ownBlock ∨ v'.ownBlock = some W.heap.size) := by
  obtain ⟨i0, hi, hz0, hz1, hz2⟩ := info_parts infoY
  obtain ⟨v', w', hr, ho, hg, _, hat⟩ := run_append_own_at (P := Tryd.prog) W base 30 30 80 i0 _ 11 20 Tryd.underlying30 hi hz0 hz1 hz2 rfl (by decide) v n (flatY L) hown ⟨fb, 0, none⟩ 1 1 (yC c) (by rw [yC_len])
    (fun j u hu => by
      rw [show (⟨fb, 0, none⟩ : Addr).add j = ⟨fb, j, none⟩ by unfold Addr.add; split <;> simp_all]
      unfold World.cell?
      simp only [hblk]
      simpa using hu)
    (yC_one c) (by unfold maxLen; omega) (by omega) hb
  refine ⟨v', w', hr, by rw [flatY_app, flatY_one]; exact ho, hg, ?_⟩
  exact hat
end Go.Proofs.YtjihcpnaebghnaaDoor

/-
  Proved here: a new grid of the document's.
-/
set_option linter.unusedSimpArgs false
set_option linter.unusedVariables false
namespace Go.Proofs.YtjihcpnaebghnaaDoor
open Go.RowKit
theorem wpList_appY {P : Program} {ops : Array Oper} {rest : List Oper} {o : Oper} {a : Act} {W w' : World} {Q : Exit → Act → World → Prop} {v' : Value} (hgd : o.guard = none) (s x : Operand) (t : TypeId)
    (ho : o.op = .call { callee := .builtin .append, args := #[s, x], argTypes := #[t, t] }) (v sx : Value) (hs : a.eval s = v) (hx : a.eval x = sx) (hrun : (Builtin.append_ #[t, t] o.type #[v, sx]).run P W = .ok v' w') (h : wpList P ops Q rest (a.put o.dst v') w') :
    wpList P ops Q (o :: rest) a W := by
  refine wpList_plain hgd fun K hK => ?_
  unfold Oper.wp execOp
  simp only [ho, resolve, invoke, builtin, Sem.run_bind, Sem.run_pure, Result.andThen_ok, List.map_toArray, List.map_cons, List.map_nil, hs, hx, hrun]
  exact hK _ _ h

theorem yC_bl : yC blC = [.int .i32 32, .bool false, .bool false, .bool false, .bool false, .bool false, .bool false, .bool false, .bool false, .int .u32 0, .int .u32 0] := rfl
theorem rep_more (n : Nat) (c : Ce) : rep n c ++ [c] = rep (n + 1) c := by unfold rep; rw [List.replicate_succ']
theorem gy_info : (Tryd.prog.info? 32).map (·.size) = some 3 := by kernel_rfl
theorem gy_one (R C : Int) {v : Value} (hv : v.oneCell' = true) : (#[.int .i64 R, .int .i64 C, v] : Array Value).all (·.oneCell') = true := by rw [← Array.all_toList]; simp only [List.all_cons, List.all_nil, hv, Bool.and_true]; rfl
theorem own_form {W : World} {B : Nat} {e : TypeId} {size n : Nat} {v : Value} {xs : List Value} (h : W.ownsRow B e size v n xs) : ∃ A m c, v = .slice A m c := by
  obtain ⟨_, h⟩ := h
  rcases h with ⟨rfl, _⟩ | ⟨g, c, cur, rfl, _⟩ <;> exact ⟨_, _, _, rfl⟩
theorem own_one {W : World} {B : Nat} {e : TypeId} {size n : Nat} {v : Value} {xs : List Value} (h : W.ownsRow B e size v n xs) : v.oneCell' = true := by
  obtain ⟨_, h⟩ := h
  rcases h with ⟨rfl, _⟩ | ⟨g, c, cur, rfl, _⟩ <;> rfl
end Go.Proofs.YtjihcpnaebghnaaDoor
