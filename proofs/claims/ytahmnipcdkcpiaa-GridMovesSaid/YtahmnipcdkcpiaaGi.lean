/-
  Proved here: GridNobody.
-/
import Derived.Test.YtahmnipcdkcpiaaGh
import Derived.Deep.DeepCutAuto
set_option linter.unusedSimpArgs false
set_option linter.unusedVariables false
namespace Go.Proofs.Ytahmnipcdkcpiaa
open Go.RowKit
theorem setF {α : Type} (x0 x1 x2 x3 x4 x5 x6 x7 x8 x9 x10 x11 x12 x13 x14 x15 : α) (l : List α) (n : Nat) (v : α) : (x0 :: x1 :: x2 :: x3 :: x4 :: x5 :: x6 :: x7 :: x8 :: x9 :: x10 :: x11 :: x12 :: x13 :: x14 :: x15 :: l).set (n + 16) v = x0 :: x1 :: x2 :: x3 :: x4 :: x5 :: x6 :: x7 :: x8 :: x9 :: x10 :: x11 :: x12 :: x13 :: x14 :: x15 :: l.set n v := rfl
theorem heldMono {P : Program} {md : Region.Mode} {ops : Array Oper} {Q : Exit → Act → World → Prop} {S S' : World → Prop} (h : ∀ w, S' w → S w) :
    ∀ (fuel : Nat) (listed : Array Bool) (a : Act) (w : World), wpAnyH P md ops Q S' fuel listed a w → wpAnyH P md ops Q S fuel listed a w
  | 0, _, _, _, x => x
  | fuel + 1, _, _, _, x => ⟨x.1, fun i hi => wpOp_mono (fun a' w' h' => ⟨h _ h'.1, heldMono h fuel _ a' w' h'.2⟩) (x.2 i hi)⟩
/-- A new parser. -/
theorem step_store_row {P : Program} {ops : Array Oper} {o : Oper} {a : Act} {w : World} {K : Act → World → Prop} {Q : Exit → Act → World → Prop} {E : Prop} (hgd : o.guard = none) (ty : TypeId) (x y : Operand) (ho : o.op = .store ty x y)
    (g : Nat) (cells : Array Value) (hx : a.eval x = .pointer (some ⟨g, 0, none⟩)) (hy : a.eval y = .agg cells)
    (t : TypeId) (old : Array Value) (hg : w.heap[g]? = some (.cells old t (0, 0))) (hi : (P.info? ty).map (·.size) = some cells.size)
    (hold : old.size = cells.size) (h1 : cells.all (·.oneCell') = true)
    (h : K (a.put o.dst undef) (w.setRow g cells)) : if Region.wanted o (yielded ops a.tmps) = true then Oper.wp P o a w K Q else E := by
  have hw : Region.wanted o (yielded ops a.tmps) = true := by simp [Region.wanted, hgd]
  rw [if_pos hw]
  exact wp_store_row ty x y ho g cells hx hy t old hg hi hold h1 h
theorem op_cells {W : World} {g : Nat} {c0 c1 c2 c3 c4 c5 c6 c7 : Value} {t : TypeId} (h : W.heap[g]? = some (.cells #[c0, c1, c2, c3, c4, c5, c6, c7] t (0, 0))) : W.cell? ⟨g, 0, none⟩ = some c0 ∧ W.cell? ⟨g, 1, none⟩ = some c1 ∧ W.cell? ⟨g, 2, none⟩ = some c2 ∧ W.cell? ⟨g, 3, none⟩ = some c3 ∧ W.cell? ⟨g, 4, none⟩ = some c4 ∧ W.cell? ⟨g, 5, none⟩ = some c5 ∧ W.cell? ⟨g, 6, none⟩ = some c6 ∧ W.cell? ⟨g, 7, none⟩ = some c7 := by
  refine ⟨?_, ?_, ?_, ?_, ?_, ?_, ?_, ?_⟩ <;> (unfold World.cell?; simp only [h]; rfl)
theorem six_cell {W : World} {g : Nat} {t : TypeId} (h : W.heap[g]? = some (.cells #[.int .i64 6, .int .i64 6, .int .i64 6, .int .i64 6, .int .i64 6, .int .i64 6] t (0, 0))) {i : Nat} (hi : i < 6) : W.cell? ⟨g, i, none⟩ = some (.int .i64 6) := by
  unfold World.cell?
  simp only [h]
  rcases (show i = 0 ∨ i = 1 ∨ i = 2 ∨ i = 3 ∨ i = 4 ∨ i = 5 by omega) with rfl | rfl | rfl | rfl | rfl | rfl <;> rfl
set_option maxRecDepth 100000 in
set_option maxHeartbeats 16000000 in
theorem nobody_any {w : World} {kd oa ob on p f gg bb : Int} : Calls Try.prog 4 #[.agg #[.int .i64 kd, .int .i64 oa, .int .i64 ob, .int .i64 on, .int .i32 p, .int .u8 f, .int .u32 gg, .int .u32 bb]] w fun e w' => e = .returned (.bool true) ∧ Below w.heap.size w w' := by
  have HAL := Lib.hid (fun U => alive_any U)
  have hb0 : Below w.heap.size w ((w.alloc (.cells #[.int .i64 kd, .int .i64 oa, .int .i64 ob, .int .i64 on, .int .i32 p, .int .u8 f, .int .u32 gg, .int .u32 bb] 41)).alloc (.cells #[.int .i64 0, .int .i64 0, .slice none 0 0] 57)) := ((Below.refl _ _).alloc (Nat.le_refl _) _).alloc (by simp) _
  have hz : ((w.alloc (.cells #[.int .i64 kd, .int .i64 oa, .int .i64 ob, .int .i64 on, .int .i32 p, .int .u8 f, .int .u32 gg, .int .u32 bb] 41)).alloc (.cells #[.int .i64 0, .int .i64 0, .slice none 0 0] 57)).heap[w.heap.size + 1]? = some (.cells #[.int .i64 0, .int .i64 0, .slice none 0 0] 57 (0, 0)) := by
    have := heap_alloc_new (w.alloc (.cells #[.int .i64 kd, .int .i64 oa, .int .i64 ob, .int .i64 on, .int .i32 p, .int .u8 f, .int .u32 gg, .int .u32 bb] 41)) (.cells #[.int .i64 0, .int .i64 0, .slice none 0 0] 57)
    simpa using this
  have ho : ((w.alloc (.cells #[.int .i64 kd, .int .i64 oa, .int .i64 ob, .int .i64 on, .int .i32 p, .int .u8 f, .int .u32 gg, .int .u32 bb] 41)).alloc (.cells #[.int .i64 0, .int .i64 0, .slice none 0 0] 57)).heap[w.heap.size]? = some (.cells #[.int .i64 kd, .int .i64 oa, .int .i64 ob, .int .i64 on, .int .i32 p, .int .u8 f, .int .u32 gg, .int .u32 bb] 41 (0, 0)) :=
    (((Below.refl (w.alloc (.cells #[.int .i64 kd, .int .i64 oa, .int .i64 ob, .int .i64 on, .int .i32 p, .int .u8 f, .int .u32 gg, .int .u32 bb] 41)).heap.size (w.alloc (.cells #[.int .i64 kd, .int .i64 oa, .int .i64 ob, .int .i64 on, .int .i32 p, .int .u8 f, .int .u32 gg, .int .u32 bb] 41))).alloc (Nat.le_refl _) (.cells #[.int .i64 0, .int .i64 0, .slice none 0 0] 57)).block w.heap.size (by simp)).trans (heap_alloc_new w _)
  have hlt : w.heap.size + 1 < ((w.alloc (.cells #[.int .i64 kd, .int .i64 oa, .int .i64 ob, .int .i64 on, .int .i32 p, .int .u8 f, .int .u32 gg, .int .u32 bb] 41)).alloc (.cells #[.int .i64 0, .int .i64 0, .slice none 0 0] 57)).heap.size := by simp
  have HN0 := Lib.hid (show Calls Try.prog 11 #[.pointer none, .int .i64 oa, .int .i64 ob] ((w.alloc (.cells #[.int .i64 kd, .int .i64 oa, .int .i64 ob, .int .i64 on, .int .i32 p, .int .u8 f, .int .u32 gg, .int .u32 bb] 41)).alloc (.cells #[.int .i64 0, .int .i64 0, .slice none 0 0] 57)) fun e w' => e = .returned (.tuple #[.agg #[.int .i32 0, .int .u8 0, .int .u32 0, .int .u32 0], .int .i64 6]) ∧ Below ((w.alloc (.cells #[.int .i64 kd, .int .i64 oa, .int .i64 ob, .int .i64 on, .int .i32 p, .int .u8 f, .int .u32 gg, .int .u32 bb] 41)).alloc (.cells #[.int .i64 0, .int .i64 0, .slice none 0 0] 57)).heap.size ((w.alloc (.cells #[.int .i64 kd, .int .i64 oa, .int .i64 ob, .int .i64 on, .int .i32 p, .int .u8 f, .int .u32 gg, .int .u32 bb] 41)).alloc (.cells #[.int .i64 0, .int .i64 0, .slice none 0 0] 57)) w' from at_none (.nil ((w.alloc (.cells #[.int .i64 kd, .int .i64 oa, .int .i64 ob, .int .i64 on, .int .i32 p, .int .u8 f, .int .u32 gg, .int .u32 bb] 41)).alloc (.cells #[.int .i64 0, .int .i64 0, .slice none 0 0] 57))) oa ob)
  go_enter Try.func4, Try.ntmps4
  go_wp2_with fail
  refine HN0.out.mono ?_
  rintro e w1 ⟨rfl, hb1⟩
  have HB0 := Lib.hid (hb0.trans (hb1.mono hb0.size))
  have hlt1 : w.heap.size + 1 < w1.heap.size := Nat.lt_of_lt_of_le hlt hb1.size
  have hop1 : w1.heap[w.heap.size]? = some (.cells #[.int .i64 kd, .int .i64 oa, .int .i64 ob, .int .i64 on, .int .i32 p, .int .u8 f, .int .u32 gg, .int .u32 bb] 41 (0, 0)) := (hb1.block _ (by omega)).trans ho
  have hz1 : w1.heap[w.heap.size + 1]? = some (.cells #[.int .i64 0, .int .i64 0, .slice none 0 0] 57 (0, 0)) := (hb1.block _ hlt).trans hz
  clear hb0 hz ho hlt hb1 HN0
  have hb5 : Below w1.heap.size w1 (w1.alloc (.cells #[.int .i32 0, .int .u8 0, .int .u32 0, .int .u32 0] 39)) := (Below.refl _ _).alloc (Nat.le_refl _) _
  have hop5 := (hb5.block _ (by omega)).trans hop1
  have hz5 := (hb5.block _ hlt1).trans hz1
  have hzN : NoneV (.pointer (some ⟨w.heap.size + 1, 0, none⟩)) (w1.alloc (.cells #[.int .i32 0, .int .u8 0, .int .u32 0, .int .u32 0] 39)) := .inr ⟨_, rfl, by
    unfold World.cell?
    simp only [hz5]
    rfl⟩
  have HLN := Lib.hid (line_none hzN oa)
  have k1 := (op_cells hop5).2.1
  clear hzN
  go_wp2_with fail
  refine HLN.out.mono ?_
  rintro e w2 ⟨rfl, rfl⟩
  clear HLN k1
  generalize (w1.alloc (.cells #[.int .i32 0, .int .u8 0, .int .u32 0, .int .u32 0] 39)) = U5 at hb5 hop5 hz5 ⊢
  have HOP := Lib.hid (fun (X : World) (hX : Below U5.drew.heap.size U5.drew X) => op_cells ((hX.block w.heap.size (Nat.lt_of_lt_of_le (by omega) hb5.size)).trans hop5))
  have HZV := Lib.hid (fun (X : World) (hX : Below U5.drew.heap.size U5.drew X) => show NoneV (.pointer (some ⟨w.heap.size + 1, 0, none⟩)) X from .inr ⟨_, rfl, by
    unfold World.cell?
    simp only [(hX.block (w.heap.size + 1) (Nat.lt_of_lt_of_le hlt1 hb5.size)).trans hz5]
    rfl⟩)
  have HBU := Lib.hid (HB0.out.trans (hb5.mono HB0.out.size))
  clear hb5 hop1 hz1 hop5 hz5 hlt1 HB0
  obtain ⟨UD, hUD⟩ : ∃ U, U5.drew = U := ⟨_, rfl⟩
  have HBD := Lib.hid HBU.out.drew
  rw [hUD] at HOP HZV HBD
  clear HBU
  have HUD := Lib.hid (fun (_ : Unit) => hUD)
  clear hUD
  go_upto_region 5 with fail
  go_cut [9] (fun v wx => ∃ g6, v = .pointer (some ⟨g6, 0, none⟩) ∧ Hid (wx.heap[g6]? = some (.cells #[.int .i64 6, .int .i64 6, .int .i64 6, .int .i64 6, .int .i64 6, .int .i64 6] 62 (0, 0)) ∧ Below UD.heap.size UD wx))
  case first =>
    have HDB := Lib.hid (Below.refl UD.heap.size UD)
    clear HAL HBD
    refine wp_region_held_drew (S := fun W => Below UD.heap.size UD W) (by kernel_rfl) (by rw [HUD.out ()]; exact Below.refl _ _) (fun hHeld => ?_)
    rw [HUD.out ()] at hHeld ⊢
    clear HUD
    refine wpAnyH_take (i := 0) (v := ?_) (by simp; rfl) (by kernel_rfl) (by kernel_rfl) (by kernel_rfl) (by exact fun _ _ _ h => h) (Or.inl ⟨by rfl, fun wx hSx => ?_⟩) hHeld ?_
    rotate_left
    · clear hSx; go_simp; (try with_reducible rfl)
    simp only [Act.put, List.setIfInBounds_toArray, setF]; try simp only [List.set_cons_zero, List.set_cons_succ]
    refine wpAnyH_take (i := 1) (v := ?_) (by simp; rfl) (by kernel_rfl) (by kernel_rfl) (by kernel_rfl) (by exact fun _ _ _ h => h) (Or.inl ⟨by rfl, fun wx hSx => ?_⟩) hHeld ?_
    rotate_left
    · clear hSx; go_simp; (try with_reducible rfl)
    simp only [Act.put, List.setIfInBounds_toArray, setF]; try simp only [List.set_cons_zero, List.set_cons_succ]
    refine wpAnyH_take (i := 2) (v := ?_) (by simp; rfl) (by kernel_rfl) (by kernel_rfl) (by kernel_rfl) (by exact fun _ _ _ h => h) (Or.inl ⟨by rfl, fun wx hSx => ?_⟩) hHeld ?_
    rotate_left
    · obtain ⟨s0, s1, s2, s3, s4, s5, s6, s7⟩ := HOP.out wx hSx; clear hSx; go_simp; (try with_reducible rfl)
    simp only [Act.put, List.setIfInBounds_toArray, setF]; try simp only [List.set_cons_zero, List.set_cons_succ]
    refine wpAnyH_take (i := 3) (v := ?_) (by simp; rfl) (by kernel_rfl) (by kernel_rfl) (by kernel_rfl) (by exact fun _ _ _ h => h) (Or.inl ⟨by rfl, fun wx hSx => ?_⟩) hHeld ?_
    rotate_left
    · clear hSx; go_simp; (try with_reducible rfl)
    simp only [Act.put, List.setIfInBounds_toArray, setF]; try simp only [List.set_cons_zero, List.set_cons_succ]
    refine wpAnyH_take (i := 4) (v := ?_) (by simp; rfl) (by kernel_rfl) (by kernel_rfl) (by kernel_rfl) (by exact fun _ _ _ h => h) (Or.inl ⟨by rfl, fun wx hSx => ?_⟩) hHeld ?_
    rotate_left
    · obtain ⟨s0, s1, s2, s3, s4, s5, s6, s7⟩ := HOP.out wx hSx; clear hSx; go_simp; (try with_reducible rfl)
    simp only [Act.put, List.setIfInBounds_toArray, setF]; try simp only [List.set_cons_zero, List.set_cons_succ]
    refine wpAnyH_take (i := 5) (v := ?_) (by simp; rfl) (by kernel_rfl) (by kernel_rfl) (by kernel_rfl) (by exact fun _ _ _ h => h) (Or.inl ⟨by rfl, fun wx hSx => ?_⟩) hHeld ?_
    rotate_left
    · clear hSx; go_simp; (try with_reducible rfl)
    simp only [Act.put, List.setIfInBounds_toArray, setF]; try simp only [List.set_cons_zero, List.set_cons_succ]
    refine wpAnyH_take (i := 6) (v := ?_) (by simp; rfl) (by kernel_rfl) (by kernel_rfl) (by kernel_rfl) (by exact fun _ _ _ h => h) (Or.inl ⟨by rfl, fun wx hSx => ?_⟩) hHeld ?_
    rotate_left
    · obtain ⟨s0, s1, s2, s3, s4, s5, s6, s7⟩ := HOP.out wx hSx; clear hSx; go_simp; (try with_reducible rfl)
    simp only [Act.put, List.setIfInBounds_toArray, setF]; try simp only [List.set_cons_zero, List.set_cons_succ]
    refine wpAnyH_take (i := 8) (v := ?_) (by simp; rfl) (by kernel_rfl) (by kernel_rfl) (by kernel_rfl) (by exact fun _ _ _ h => h) (Or.inl ⟨by rfl, fun wx hSx => ?_⟩) hHeld ?_
    rotate_left
    · clear hSx; go_simp; (try with_reducible rfl)
    simp only [Act.put, List.setIfInBounds_toArray, setF]; try simp only [List.set_cons_zero, List.set_cons_succ]
    refine wpAnyH_take (i := 9) (v := ?_) (by simp; rfl) (by kernel_rfl) (by kernel_rfl) (by kernel_rfl) (by exact fun _ _ _ h => h) (Or.inl ⟨by rfl, fun wx hSx => ?_⟩) hHeld ?_
    rotate_left
    · obtain ⟨s0, s1, s2, s3, s4, s5, s6, s7⟩ := HOP.out wx hSx; clear hSx; go_simp; (try with_reducible rfl)
    simp only [Act.put, List.setIfInBounds_toArray, setF]; try simp only [List.set_cons_zero, List.set_cons_succ]
    refine wpAnyH_take (i := 10) (v := ?_) (by simp; rfl) (by kernel_rfl) (by kernel_rfl) (by kernel_rfl) (by exact fun _ _ _ h => h) (Or.inl ⟨by rfl, fun wx hSx => ?_⟩) hHeld ?_
    rotate_left
    · clear hSx; go_simp; (try with_reducible rfl)
    simp only [Act.put, List.setIfInBounds_toArray, setF]; try simp only [List.set_cons_zero, List.set_cons_succ]
    refine wpAnyH_take (i := 11) (v := ?_) (by simp; rfl) (by kernel_rfl) (by kernel_rfl) (by kernel_rfl) (by exact fun _ _ _ h => h) (Or.inl ⟨by rfl, fun wx hSx => ?_⟩) hHeld ?_
    rotate_left
    · obtain ⟨s0, s1, s2, s3, s4, s5, s6, s7⟩ := HOP.out wx hSx; clear hSx; go_simp; (try with_reducible rfl)
    simp only [Act.put, List.setIfInBounds_toArray, setF]; try simp only [List.set_cons_zero, List.set_cons_succ]
    refine wpAnyH_take (i := 12) (v := ?_) (by simp; rfl) (by kernel_rfl) (by kernel_rfl) (by kernel_rfl) (by exact fun _ _ _ h => h) (Or.inl ⟨by rfl, fun wx hSx => ?_⟩) hHeld ?_
    rotate_left
    · clear hSx; go_simp; (try with_reducible rfl)
    simp only [Act.put, List.setIfInBounds_toArray, setF]; try simp only [List.set_cons_zero, List.set_cons_succ]
    refine wpAnyH_take (i := 13) (v := ?_) (by simp; rfl) (by kernel_rfl) (by kernel_rfl) (by kernel_rfl) (by exact fun _ _ _ h => h) (Or.inl ⟨by rfl, fun wx hSx => ?_⟩) hHeld ?_
    rotate_left
    · obtain ⟨s0, s1, s2, s3, s4, s5, s6, s7⟩ := HOP.out wx hSx; clear hSx; go_simp; (try with_reducible rfl)
    simp only [Act.put, List.setIfInBounds_toArray, setF]; try simp only [List.set_cons_zero, List.set_cons_succ]
    refine wpAnyH_take (i := 14) (v := ?_) (by simp; rfl) (by kernel_rfl) (by kernel_rfl) (by kernel_rfl) (by exact fun _ _ _ h => h) (Or.inl ⟨by rfl, fun wx hSx => ?_⟩) hHeld ?_
    rotate_left
    · clear hSx; go_simp; (try with_reducible rfl)
    simp only [Act.put, List.setIfInBounds_toArray, setF]; try simp only [List.set_cons_zero, List.set_cons_succ]
    refine wpAnyH_take (i := 15) (v := ?_) (by simp; rfl) (by kernel_rfl) (by kernel_rfl) (by kernel_rfl) (by exact fun _ _ _ h => h) (Or.inl ⟨by rfl, fun wx hSx => ?_⟩) hHeld ?_
    rotate_left
    · obtain ⟨s0, s1, s2, s3, s4, s5, s6, s7⟩ := HOP.out wx hSx; clear hSx; go_simp; (try with_reducible rfl)
    simp only [Act.put, List.setIfInBounds_toArray, setF]; try simp only [List.set_cons_zero, List.set_cons_succ]
    refine wpAnyH_take (i := 17) (v := ?_) (by simp; rfl) (by kernel_rfl) (by kernel_rfl) (by kernel_rfl) (by exact fun _ _ _ h => h) (Or.inl ⟨by rfl, fun wx hSx => ?_⟩) hHeld ?_
    rotate_left
    · clear hSx; go_simp; (try with_reducible rfl)
    simp only [Act.put, List.setIfInBounds_toArray, setF]; try simp only [List.set_cons_zero, List.set_cons_succ]
    refine wpAnyH_take (i := 18) (v := ?_) (by simp; rfl) (by kernel_rfl) (by kernel_rfl) (by kernel_rfl) (by exact fun _ _ _ h => h) (Or.inl ⟨by rfl, fun wx hSx => ?_⟩) hHeld ?_
    rotate_left
    · clear hSx; go_simp; (try with_reducible rfl)
    simp only [Act.put, List.setIfInBounds_toArray, setF]; try simp only [List.set_cons_zero, List.set_cons_succ]
    refine wpAnyH_take (i := 19) (v := ?_) (by simp; rfl) (by kernel_rfl) (by kernel_rfl) (by kernel_rfl) (by exact fun _ _ _ h => h) (Or.inl ⟨by rfl, fun wx hSx => ?_⟩) hHeld ?_
    rotate_left
    · obtain ⟨s0, s1, s2, s3, s4, s5, s6, s7⟩ := HOP.out wx hSx; clear hSx; go_simp; (try with_reducible rfl)
    simp only [Act.put, List.setIfInBounds_toArray, setF]; try simp only [List.set_cons_zero, List.set_cons_succ]
    refine wpAnyH_take (i := 20) (v := ?_) (by simp; rfl) (by kernel_rfl) (by kernel_rfl) (by kernel_rfl) (by exact fun _ _ _ h => h) (Or.inl ⟨by rfl, fun wx hSx => ?_⟩) hHeld ?_
    rotate_left
    · clear hSx; go_simp; (try with_reducible rfl)
    simp only [Act.put, List.setIfInBounds_toArray, setF]; try simp only [List.set_cons_zero, List.set_cons_succ]
    refine wpAnyH_take (i := 21) (v := ?_) (by simp; rfl) (by kernel_rfl) (by kernel_rfl) (by kernel_rfl) (by exact fun _ _ _ h => h) (Or.inl ⟨by rfl, fun wx hSx => ?_⟩) hHeld ?_
    rotate_left
    · obtain ⟨s0, s1, s2, s3, s4, s5, s6, s7⟩ := HOP.out wx hSx; clear hSx; go_simp; (try with_reducible rfl)
    simp only [Act.put, List.setIfInBounds_toArray, setF]; try simp only [List.set_cons_zero, List.set_cons_succ]
    refine wpAnyH_take (i := 22) (v := ?_) (by simp; rfl) (by kernel_rfl) (by kernel_rfl) (by kernel_rfl) (by exact fun _ _ _ h => h) (Or.inl ⟨by rfl, fun wx hSx => ?_⟩) hHeld ?_
    rotate_left
    · clear hSx; go_simp; (try with_reducible rfl)
    simp only [Act.put, List.setIfInBounds_toArray, setF]; try simp only [List.set_cons_zero, List.set_cons_succ]
    refine wpAnyH_take (i := 23) (v := ?_) (by simp; rfl) (by kernel_rfl) (by kernel_rfl) (by kernel_rfl) (by exact fun _ _ _ h => h) (Or.inl ⟨by rfl, fun wx hSx => ?_⟩) hHeld ?_
    rotate_left
    · obtain ⟨s0, s1, s2, s3, s4, s5, s6, s7⟩ := HOP.out wx hSx; clear hSx; go_simp; (try with_reducible rfl)
    simp only [Act.put, List.setIfInBounds_toArray, setF]; try simp only [List.set_cons_zero, List.set_cons_succ]
    refine wpAnyH_take (i := 24) (v := ?_) (by simp; rfl) (by kernel_rfl) (by kernel_rfl) (by kernel_rfl) (by exact fun _ _ _ h => h) (Or.inl ⟨by rfl, fun wx hSx => ?_⟩) hHeld ?_
    rotate_left
    · clear hSx; go_simp; (try with_reducible rfl)
    simp only [Act.put, List.setIfInBounds_toArray, setF]; try simp only [List.set_cons_zero, List.set_cons_succ]
    refine wpAnyH_take (i := 25) (v := ?_) (by simp; rfl) (by kernel_rfl) (by kernel_rfl) (by kernel_rfl) (by exact fun _ _ _ h => h) (Or.inl ⟨by rfl, fun wx hSx => ?_⟩) hHeld ?_
    rotate_left
    · obtain ⟨s0, s1, s2, s3, s4, s5, s6, s7⟩ := HOP.out wx hSx; clear hSx; go_simp; (try with_reducible rfl)
    simp only [Act.put, List.setIfInBounds_toArray, setF]; try simp only [List.set_cons_zero, List.set_cons_succ]
    refine wpAnyH_take (i := 27) (v := ?_) (by simp; rfl) (by kernel_rfl) (by kernel_rfl) (by kernel_rfl) (by exact fun _ _ _ h => h) (Or.inl ⟨by rfl, fun wx hSx => ?_⟩) hHeld ?_
    rotate_left
    · clear hSx; go_simp; (try with_reducible rfl)
    simp only [Act.put, List.setIfInBounds_toArray, setF]; try simp only [List.set_cons_zero, List.set_cons_succ]
    refine wpAnyH_take (i := 28) (v := ?_) (by simp; rfl) (by kernel_rfl) (by kernel_rfl) (by kernel_rfl) (by exact fun _ _ _ h => h) (Or.inl ⟨by rfl, fun wx hSx => ?_⟩) hHeld ?_
    rotate_left
    · obtain ⟨s0, s1, s2, s3, s4, s5, s6, s7⟩ := HOP.out wx hSx; clear hSx; go_simp; (try with_reducible rfl)
    simp only [Act.put, List.setIfInBounds_toArray, setF]; try simp only [List.set_cons_zero, List.set_cons_succ]
    refine wpAnyH_take (i := 29) (v := ?_) (by simp; rfl) (by kernel_rfl) (by kernel_rfl) (by kernel_rfl) (by exact fun _ _ _ h => h) (Or.inl ⟨by rfl, fun wx hSx => ?_⟩) hHeld ?_
    rotate_left
    · clear hSx; go_simp; (try with_reducible rfl)
    simp only [Act.put, List.setIfInBounds_toArray, setF]; try simp only [List.set_cons_zero, List.set_cons_succ]
    refine wpAnyH_take (i := 30) (v := ?_) (by simp; rfl) (by kernel_rfl) (by kernel_rfl) (by kernel_rfl) (by exact fun _ _ _ h => h) (Or.inl ⟨by rfl, fun wx hSx => ?_⟩) hHeld ?_
    rotate_left
    · obtain ⟨s0, s1, s2, s3, s4, s5, s6, s7⟩ := HOP.out wx hSx; clear hSx; go_simp; (try with_reducible rfl)
    simp only [Act.put, List.setIfInBounds_toArray, setF]; try simp only [List.set_cons_zero, List.set_cons_succ]
    refine wpAnyH_take (i := 31) (v := ?_) (by simp; rfl) (by kernel_rfl) (by kernel_rfl) (by kernel_rfl) (by exact fun _ _ _ h => h) (Or.inl ⟨by rfl, fun wx hSx => ?_⟩) hHeld ?_
    rotate_left
    · clear hSx; go_simp; (try with_reducible rfl)
    simp only [Act.put, List.setIfInBounds_toArray, setF]; try simp only [List.set_cons_zero, List.set_cons_succ]
    refine wpAnyH_take (i := 32) (v := ?_) (by simp; rfl) (by kernel_rfl) (by kernel_rfl) (by kernel_rfl) (by exact fun _ _ _ h => h) (Or.inl ⟨by rfl, fun wx hSx => ?_⟩) hHeld ?_
    rotate_left
    · obtain ⟨s0, s1, s2, s3, s4, s5, s6, s7⟩ := HOP.out wx hSx; clear hSx; go_simp; (try with_reducible rfl)
    simp only [Act.put, List.setIfInBounds_toArray, setF]; try simp only [List.set_cons_zero, List.set_cons_succ]
    refine wpAnyH_take (i := 33) (v := ?_) (by simp; rfl) (by kernel_rfl) (by kernel_rfl) (by kernel_rfl) (by exact fun _ _ _ h => h) (Or.inl ⟨by rfl, fun wx hSx => ?_⟩) hHeld ?_
    rotate_left
    · clear hSx; go_simp; (try with_reducible rfl)
    simp only [Act.put, List.setIfInBounds_toArray, setF]; try simp only [List.set_cons_zero, List.set_cons_succ]
    refine wpAnyH_take (i := 34) (v := ?_) (by simp; rfl) (by kernel_rfl) (by kernel_rfl) (by kernel_rfl) (by exact fun _ _ _ h => h) (Or.inl ⟨by rfl, fun wx hSx => ?_⟩) hHeld ?_
    rotate_left
    · obtain ⟨s0, s1, s2, s3, s4, s5, s6, s7⟩ := HOP.out wx hSx; clear hSx; go_simp; (try with_reducible rfl)
    simp only [Act.put, List.setIfInBounds_toArray, setF]; try simp only [List.set_cons_zero, List.set_cons_succ]
    refine wpAnyH_take (i := 36) (v := ?_) (by simp; rfl) (by kernel_rfl) (by kernel_rfl) (by kernel_rfl) (by exact fun _ _ _ h => h) (Or.inl ⟨by rfl, fun wx hSx => ?_⟩) hHeld ?_
    rotate_left
    · clear hSx; go_simp; (try with_reducible rfl)
    simp only [Act.put, List.setIfInBounds_toArray, setF]; try simp only [List.set_cons_zero, List.set_cons_succ]
    refine wpAnyH_take (i := 37) (v := ?_) (by simp; rfl) (by kernel_rfl) (by kernel_rfl) (by kernel_rfl) (by exact fun _ _ _ h => h) (Or.inl ⟨by rfl, fun wx hSx => ?_⟩) hHeld ?_
    rotate_left
    · clear hSx; go_simp; (try with_reducible rfl)
    simp only [Act.put, List.setIfInBounds_toArray, setF]; try simp only [List.set_cons_zero, List.set_cons_succ]
    refine wpAnyH_take (i := 38) (v := ?_) (by simp; rfl) (by kernel_rfl) (by kernel_rfl) (by kernel_rfl) (by exact fun _ _ _ h => h) (Or.inl ⟨by rfl, fun wx hSx => ?_⟩) hHeld ?_
    rotate_left
    · obtain ⟨s0, s1, s2, s3, s4, s5, s6, s7⟩ := HOP.out wx hSx; clear hSx; go_simp; (try with_reducible rfl)
    simp only [Act.put, List.setIfInBounds_toArray, setF]; try simp only [List.set_cons_zero, List.set_cons_succ]
    refine wpAnyH_take (i := 39) (v := ?_) (by simp; rfl) (by kernel_rfl) (by kernel_rfl) (by kernel_rfl) (by exact fun _ _ _ h => h) (Or.inl ⟨by rfl, fun wx hSx => ?_⟩) hHeld ?_
    rotate_left
    · clear hSx; go_simp; (try with_reducible rfl)
    simp only [Act.put, List.setIfInBounds_toArray, setF]; try simp only [List.set_cons_zero, List.set_cons_succ]
    refine wpAnyH_take (i := 40) (v := ?_) (by simp; rfl) (by kernel_rfl) (by kernel_rfl) (by kernel_rfl) (by exact fun _ _ _ h => h) (Or.inl ⟨by rfl, fun wx hSx => ?_⟩) hHeld ?_
    rotate_left
    · obtain ⟨s0, s1, s2, s3, s4, s5, s6, s7⟩ := HOP.out wx hSx; clear hSx; go_simp; (try with_reducible rfl)
    simp only [Act.put, List.setIfInBounds_toArray, setF]; try simp only [List.set_cons_zero, List.set_cons_succ]
    refine wpAnyH_take (i := 41) (v := ?_) (by simp; rfl) (by kernel_rfl) (by kernel_rfl) (by kernel_rfl) (by exact fun _ _ _ h => h) (Or.inl ⟨by rfl, fun wx hSx => ?_⟩) hHeld ?_
    rotate_left
    · clear hSx; go_simp; (try with_reducible rfl)
    simp only [Act.put, List.setIfInBounds_toArray, setF]; try simp only [List.set_cons_zero, List.set_cons_succ]
    refine wpAnyH_take (i := 42) (v := ?_) (by simp; rfl) (by kernel_rfl) (by kernel_rfl) (by kernel_rfl) (by exact fun _ _ _ h => h) (Or.inl ⟨by rfl, fun wx hSx => ?_⟩) hHeld ?_
    rotate_left
    · obtain ⟨s0, s1, s2, s3, s4, s5, s6, s7⟩ := HOP.out wx hSx; clear hSx; go_simp; (try with_reducible rfl)
    simp only [Act.put, List.setIfInBounds_toArray, setF]; try simp only [List.set_cons_zero, List.set_cons_succ]
    refine wpAnyH_take (i := 43) (v := ?_) (by simp; rfl) (by kernel_rfl) (by kernel_rfl) (by kernel_rfl) (by exact fun _ _ _ h => h) (Or.inl ⟨by rfl, fun wx hSx => ?_⟩) hHeld ?_
    rotate_left
    · clear hSx; go_simp; (try with_reducible rfl)
    simp only [Act.put, List.setIfInBounds_toArray, setF]; try simp only [List.set_cons_zero, List.set_cons_succ]
    refine wpAnyH_take (i := 44) (v := ?_) (by simp; rfl) (by kernel_rfl) (by kernel_rfl) (by kernel_rfl) (by exact fun _ _ _ h => h) (Or.inl ⟨by rfl, fun wx hSx => ?_⟩) hHeld ?_
    rotate_left
    · obtain ⟨s0, s1, s2, s3, s4, s5, s6, s7⟩ := HOP.out wx hSx; clear hSx; go_simp; (try with_reducible rfl)
    simp only [Act.put, List.setIfInBounds_toArray, setF]; try simp only [List.set_cons_zero, List.set_cons_succ]
    refine wpAnyH_take (i := 46) (v := ?_) (by simp; rfl) (by kernel_rfl) (by kernel_rfl) (by kernel_rfl) (by exact fun _ _ _ h => h) (Or.inl ⟨by rfl, fun wx hSx => ?_⟩) hHeld ?_
    rotate_left
    · clear hSx; go_simp; (try with_reducible rfl)
    simp only [Act.put, List.setIfInBounds_toArray, setF]; try simp only [List.set_cons_zero, List.set_cons_succ]
    refine wpAnyH_take (i := 47) (v := ?_) (by simp; rfl) (by kernel_rfl) (by kernel_rfl) (by kernel_rfl) (by exact fun _ _ _ h => h) (Or.inl ⟨by rfl, fun wx hSx => ?_⟩) hHeld ?_
    rotate_left
    · obtain ⟨s0, s1, s2, s3, s4, s5, s6, s7⟩ := HOP.out wx hSx; clear hSx; go_simp; (try with_reducible rfl)
    simp only [Act.put, List.setIfInBounds_toArray, setF]; try simp only [List.set_cons_zero, List.set_cons_succ]
    refine wpAnyH_ready (rs := [7, 50]) (by kernel_rfl) (by simp) ?_
    refine AllReadyH.cons (by simp; rfl) (fun K0 hK0 => ?_) (AllReadyH.cons (by simp; rfl) (fun K0 hK0 => ?_) AllReadyH.nil)
    · go_simp
      refine (put_none (.nil _) oa ob ⟨p, f, gg, bb⟩).mono ?_
      rintro e v1 ⟨rfl, hx⟩
      have hbv1 : Below UD.heap.size UD v1 := hx
      clear hx
      have HDB2 := Lib.hid (HDB.out.trans (hbv1.mono HDB.out.size))
      clear HDB
      have HDB := HDB2
      clear HDB2
      clear hbv1
      refine hK0.out _ _ HDB.out (fun _ => ?_)
      clear hK0 K0 hHeld
      have hHeld := HDB.out
      refine wpAnyH_ready (rs := [16, 50]) (by kernel_rfl) (by simp) ?_
      refine AllReadyH.cons (by simp; rfl) (fun K0 hK0 => ?_) (AllReadyH.cons (by simp; rfl) (fun K0 hK0 => ?_) AllReadyH.nil)
      · go_simp
        refine (fill_none (HZV.out _ HDB.out) oa ob on ⟨p, f, gg, bb⟩).mono ?_
        rintro e v27 ⟨rfl, hx⟩
        have hbv27 : Below v1.heap.size v1 v27 := hx
        clear hx
        have HDB2 := Lib.hid (HDB.out.trans (hbv27.mono HDB.out.size))
        clear HDB
        have HDB := HDB2
        clear HDB2
        clear hbv27
        refine hK0.out _ _ HDB.out (fun _ => ?_)
        clear hK0 K0 hHeld
        have hHeld := HDB.out
        refine wpAnyH_ready (rs := [26, 50]) (by kernel_rfl) (by simp) ?_
        refine AllReadyH.cons (by simp; rfl) (fun K0 hK0 => ?_) (AllReadyH.cons (by simp; rfl) (fun K0 hK0 => ?_) AllReadyH.nil)
        · go_simp
          refine (up_none (.nil _) oa ob on ⟨p, f, gg, bb⟩).mono ?_
          rintro e v316 ⟨rfl, hx⟩
          have hbv316 : Below v27.heap.size v27 v316 := hx
          clear hx
          have HDB2 := Lib.hid (HDB.out.trans (hbv316.mono HDB.out.size))
          clear HDB
          have HDB := HDB2
          clear HDB2
          clear hbv316
          refine hK0.out _ _ HDB.out (fun _ => ?_)
          clear hK0 K0 hHeld
          have hHeld := HDB.out
          refine wpAnyH_ready (rs := [35, 50]) (by kernel_rfl) (by simp) ?_
          refine AllReadyH.cons (by simp; rfl) (fun K0 hK0 => ?_) (AllReadyH.cons (by simp; rfl) (fun K0 hK0 => ?_) AllReadyH.nil)
          · go_simp
            refine (down_none (HZV.out _ HDB.out) oa ob on ⟨p, f, gg, bb⟩).mono ?_
            rintro e v426 ⟨rfl, hx⟩
            have hbv426 : Below v316.heap.size v316 v426 := hx
            clear hx
            have HDB2 := Lib.hid (HDB.out.trans (hbv426.mono HDB.out.size))
            clear HDB
            have HDB := HDB2
            clear HDB2
            clear hbv426
            refine hK0.out _ _ HDB.out (fun _ => ?_)
            clear hK0 K0 hHeld
            have hHeld := HDB.out
            refine wpAnyH_ready (rs := [45, 50]) (by kernel_rfl) (by simp) ?_
            refine AllReadyH.cons (by simp; rfl) (fun K0 hK0 => ?_) (AllReadyH.cons (by simp; rfl) (fun K0 hK0 => ?_) AllReadyH.nil)
            · go_simp
              refine (ins_none (.nil _) oa ob on ⟨p, f, gg, bb⟩).mono ?_
              rintro e v535 ⟨rfl, hx⟩
              have hbv535 : Below v426.heap.size v426 v535 := hx
              clear hx
              have HDB2 := Lib.hid (HDB.out.trans (hbv535.mono HDB.out.size))
              clear HDB
              have HDB := HDB2
              clear HDB2
              clear hbv535
              refine hK0.out _ _ HDB.out (fun _ => ?_)
              clear hK0 K0 hHeld
              have hHeld := HDB.out
              refine wpAnyH_ready (rs := [48, 50]) (by kernel_rfl) (by simp) ?_
              refine AllReadyH.cons (by simp; rfl) (fun K0 hK0 => ?_) (AllReadyH.cons (by simp; rfl) (fun K0 hK0 => ?_) AllReadyH.nil)
              · go_simp
                refine (resize_none (HZV.out _ HDB.out) 1 1 ⟨p, f, gg, bb⟩).mono ?_
                rintro e v645 ⟨rfl, hx⟩
                have hbv645 : Below v535.heap.size v535 v645 := hx
                clear hx
                have HDB2 := Lib.hid (HDB.out.trans (hbv645.mono HDB.out.size))
                clear HDB
                have HDB := HDB2
                clear HDB2
                clear hbv645
                refine hK0.out _ _ HDB.out (fun _ => ?_)
                clear hK0 K0 hHeld
                have hHeld := HDB.out
                refine wpAnyH_take (i := 49) (v := ?_) (by simp; rfl) (by kernel_rfl) (by kernel_rfl) (by kernel_rfl) (by exact fun _ _ _ h => h) (Or.inl ⟨by rfl, fun wx hSx => ?_⟩) hHeld ?_
                rotate_left
                · clear hSx; go_simp; (try with_reducible rfl)
                simp only [Act.put, List.setIfInBounds_toArray, setF]; try simp only [List.set_cons_zero, List.set_cons_succ]
                refine wpAnyH_ready (rs := [50]) (by kernel_rfl) (by simp) ?_
                refine AllReadyH.cons (by simp; rfl) (fun K0 hK0 => ?_) AllReadyH.nil
                go_simp
                have hbV : Below v645.heap.size v645 (v645.alloc (.cells #[.int .i64 0, .int .i64 0, .int .i64 0, .int .i64 0, .int .i64 0, .int .i64 0] 62)) := (Below.refl _ _).alloc (Nat.le_refl _) _
                have HT9 := Lib.hid (show (v645.alloc (.cells #[.int .i64 0, .int .i64 0, .int .i64 0, .int .i64 0, .int .i64 0, .int .i64 0] 62)).heap[v645.heap.size]? = some (.cells #[.int .i64 0, .int .i64 0, .int .i64 0, .int .i64 0, .int .i64 0, .int .i64 0] 62 (0, 0)) ∧ UD.heap.size ≤ v645.heap.size ∧ v645.heap.size < (v645.alloc (.cells #[.int .i64 0, .int .i64 0, .int .i64 0, .int .i64 0, .int .i64 0, .int .i64 0] 62)).heap.size from ⟨heap_alloc_new v645 _, HDB.out.size, by simp⟩)
                have HDB2 := Lib.hid (HDB.out.trans (hbV.mono HDB.out.size))
                clear HDB
                have HDB := HDB2
                clear HDB2 hbV
                refine hK0.out _ _ HDB.out (fun _ => ?_)
                clear hK0 K0 hHeld
                obtain ⟨g6, hg6⟩ : ∃ g, v645.heap.size = g := ⟨_, rfl⟩
                rw [hg6] at HT9 ⊢
                generalize (v645.alloc (.cells #[.int .i64 0, .int .i64 0, .int .i64 0, .int .i64 0, .int .i64 0, .int .i64 0] 62)) = v750 at HT9 HDB ⊢
                have hHeld := HDB.out
                have HDV := Lib.hid (Below.refl v750.heap.size v750)
                clear hg6
                refine wpAnyH_ready (rs := [51]) (by kernel_rfl) (by simp) ?_
                refine AllReadyH.cons (by simp; rfl) (fun K0 hK0 => ?_) AllReadyH.nil
                have hrow := (HDV.out.block (g6) HT9.out.2.2).trans HT9.out.1
                refine step_store_row rfl 62 (.tmp 9) (.tmp 79) rfl (g6) #[.int .i64 6, .int .i64 6, .int .i64 6, .int .i64 6, .int .i64 6, .int .i64 6] rfl rfl 62 #[.int .i64 0, .int .i64 0, .int .i64 0, .int .i64 0, .int .i64 0, .int .i64 0] hrow (by kernel_rfl) rfl (by simp [Value.oneCell']) ?_
                simp only [Act.put, List.setIfInBounds_toArray, setF]; try simp only [List.set_cons_zero, List.set_cons_succ]
                have HSB := below_setRow HDB.out HT9.out.2.1 #[.int .i64 6, .int .i64 6, .int .i64 6, .int .i64 6, .int .i64 6, .int .i64 6]
                have HEND := Lib.hid (And.intro (setRow_heap _ _ _ #[.int .i64 6, .int .i64 6, .int .i64 6, .int .i64 6, .int .i64 6, .int .i64 6] _ _ hrow) HSB)
                refine hK0.out _ _ HSB (fun _ => ?_)
                clear hK0 K0 HSB hrow
                refine wpAnyH_done (by kernel_rfl) ?_ _
                go_wp2
                go_meet
                exact ⟨_, rfl, HEND⟩
              · go_simp
                have hbV : Below v535.heap.size v535 (v535.alloc (.cells #[.int .i64 0, .int .i64 0, .int .i64 0, .int .i64 0, .int .i64 0, .int .i64 0] 62)) := (Below.refl _ _).alloc (Nat.le_refl _) _
                have HT9 := Lib.hid (show (v535.alloc (.cells #[.int .i64 0, .int .i64 0, .int .i64 0, .int .i64 0, .int .i64 0, .int .i64 0] 62)).heap[v535.heap.size]? = some (.cells #[.int .i64 0, .int .i64 0, .int .i64 0, .int .i64 0, .int .i64 0, .int .i64 0] 62 (0, 0)) ∧ UD.heap.size ≤ v535.heap.size ∧ v535.heap.size < (v535.alloc (.cells #[.int .i64 0, .int .i64 0, .int .i64 0, .int .i64 0, .int .i64 0, .int .i64 0] 62)).heap.size from ⟨heap_alloc_new v535 _, HDB.out.size, by simp⟩)
                have HDB2 := Lib.hid (HDB.out.trans (hbV.mono HDB.out.size))
                clear HDB
                have HDB := HDB2
                clear HDB2 hbV
                refine hK0.out _ _ HDB.out (fun _ => ?_)
                clear hK0 K0 hHeld
                obtain ⟨g6, hg6⟩ : ∃ g, v535.heap.size = g := ⟨_, rfl⟩
                rw [hg6] at HT9 ⊢
                generalize (v535.alloc (.cells #[.int .i64 0, .int .i64 0, .int .i64 0, .int .i64 0, .int .i64 0, .int .i64 0] 62)) = v650 at HT9 HDB ⊢
                have hHeld := HDB.out
                have HDV := Lib.hid (Below.refl v650.heap.size v650)
                clear hg6
                refine wpAnyH_ready (rs := [48]) (by kernel_rfl) (by simp) ?_
                refine AllReadyH.cons (by simp; rfl) (fun K0 hK0 => ?_) AllReadyH.nil
                go_simp
                refine (resize_none (HZV.out _ HDB.out) 1 1 ⟨p, f, gg, bb⟩).mono ?_
                rintro e v750 ⟨rfl, hx⟩
                have hbv750 : Below v650.heap.size v650 v750 := hx
                clear hx
                have HDB2 := Lib.hid (HDB.out.trans (hbv750.mono HDB.out.size))
                clear HDB
                have HDB := HDB2
                clear HDB2
                have HDV2 := Lib.hid (HDV.out.trans (hbv750.mono HDV.out.size))
                clear HDV
                have HDV := HDV2
                clear HDV2
                clear hbv750
                refine hK0.out _ _ HDB.out (fun _ => ?_)
                clear hK0 K0 hHeld
                have hHeld := HDB.out
                refine wpAnyH_take (i := 49) (v := ?_) (by simp; rfl) (by kernel_rfl) (by kernel_rfl) (by kernel_rfl) (by exact fun _ _ _ h => h) (Or.inl ⟨by rfl, fun wx hSx => ?_⟩) hHeld ?_
                rotate_left
                · clear hSx; go_simp; (try with_reducible rfl)
                simp only [Act.put, List.setIfInBounds_toArray, setF]; try simp only [List.set_cons_zero, List.set_cons_succ]
                refine wpAnyH_ready (rs := [51]) (by kernel_rfl) (by simp) ?_
                refine AllReadyH.cons (by simp; rfl) (fun K0 hK0 => ?_) AllReadyH.nil
                have hrow := (HDV.out.block (g6) HT9.out.2.2).trans HT9.out.1
                refine step_store_row rfl 62 (.tmp 9) (.tmp 79) rfl (g6) #[.int .i64 6, .int .i64 6, .int .i64 6, .int .i64 6, .int .i64 6, .int .i64 6] rfl rfl 62 #[.int .i64 0, .int .i64 0, .int .i64 0, .int .i64 0, .int .i64 0, .int .i64 0] hrow (by kernel_rfl) rfl (by simp [Value.oneCell']) ?_
                simp only [Act.put, List.setIfInBounds_toArray, setF]; try simp only [List.set_cons_zero, List.set_cons_succ]
                have HSB := below_setRow HDB.out HT9.out.2.1 #[.int .i64 6, .int .i64 6, .int .i64 6, .int .i64 6, .int .i64 6, .int .i64 6]
                have HEND := Lib.hid (And.intro (setRow_heap _ _ _ #[.int .i64 6, .int .i64 6, .int .i64 6, .int .i64 6, .int .i64 6, .int .i64 6] _ _ hrow) HSB)
                refine hK0.out _ _ HSB (fun _ => ?_)
                clear hK0 K0 HSB hrow
                refine wpAnyH_done (by kernel_rfl) ?_ _
                go_wp2
                go_meet
                exact ⟨_, rfl, HEND⟩
            · go_simp
              have hbV : Below v426.heap.size v426 (v426.alloc (.cells #[.int .i64 0, .int .i64 0, .int .i64 0, .int .i64 0, .int .i64 0, .int .i64 0] 62)) := (Below.refl _ _).alloc (Nat.le_refl _) _
              have HT9 := Lib.hid (show (v426.alloc (.cells #[.int .i64 0, .int .i64 0, .int .i64 0, .int .i64 0, .int .i64 0, .int .i64 0] 62)).heap[v426.heap.size]? = some (.cells #[.int .i64 0, .int .i64 0, .int .i64 0, .int .i64 0, .int .i64 0, .int .i64 0] 62 (0, 0)) ∧ UD.heap.size ≤ v426.heap.size ∧ v426.heap.size < (v426.alloc (.cells #[.int .i64 0, .int .i64 0, .int .i64 0, .int .i64 0, .int .i64 0, .int .i64 0] 62)).heap.size from ⟨heap_alloc_new v426 _, HDB.out.size, by simp⟩)
              have HDB2 := Lib.hid (HDB.out.trans (hbV.mono HDB.out.size))
              clear HDB
              have HDB := HDB2
              clear HDB2 hbV
              refine hK0.out _ _ HDB.out (fun _ => ?_)
              clear hK0 K0 hHeld
              obtain ⟨g6, hg6⟩ : ∃ g, v426.heap.size = g := ⟨_, rfl⟩
              rw [hg6] at HT9 ⊢
              generalize (v426.alloc (.cells #[.int .i64 0, .int .i64 0, .int .i64 0, .int .i64 0, .int .i64 0, .int .i64 0] 62)) = v550 at HT9 HDB ⊢
              have hHeld := HDB.out
              have HDV := Lib.hid (Below.refl v550.heap.size v550)
              clear hg6
              refine wpAnyH_ready (rs := [45]) (by kernel_rfl) (by simp) ?_
              refine AllReadyH.cons (by simp; rfl) (fun K0 hK0 => ?_) AllReadyH.nil
              go_simp
              refine (ins_none (.nil _) oa ob on ⟨p, f, gg, bb⟩).mono ?_
              rintro e v650 ⟨rfl, hx⟩
              have hbv650 : Below v550.heap.size v550 v650 := hx
              clear hx
              have HDB2 := Lib.hid (HDB.out.trans (hbv650.mono HDB.out.size))
              clear HDB
              have HDB := HDB2
              clear HDB2
              have HDV2 := Lib.hid (HDV.out.trans (hbv650.mono HDV.out.size))
              clear HDV
              have HDV := HDV2
              clear HDV2
              clear hbv650
              refine hK0.out _ _ HDB.out (fun _ => ?_)
              clear hK0 K0 hHeld
              have hHeld := HDB.out
              refine wpAnyH_ready (rs := [48]) (by kernel_rfl) (by simp) ?_
              refine AllReadyH.cons (by simp; rfl) (fun K0 hK0 => ?_) AllReadyH.nil
              go_simp
              refine (resize_none (HZV.out _ HDB.out) 1 1 ⟨p, f, gg, bb⟩).mono ?_
              rintro e v745 ⟨rfl, hx⟩
              have hbv745 : Below v650.heap.size v650 v745 := hx
              clear hx
              have HDB2 := Lib.hid (HDB.out.trans (hbv745.mono HDB.out.size))
              clear HDB
              have HDB := HDB2
              clear HDB2
              have HDV2 := Lib.hid (HDV.out.trans (hbv745.mono HDV.out.size))
              clear HDV
              have HDV := HDV2
              clear HDV2
              clear hbv745
              refine hK0.out _ _ HDB.out (fun _ => ?_)
              clear hK0 K0 hHeld
              have hHeld := HDB.out
              refine wpAnyH_take (i := 49) (v := ?_) (by simp; rfl) (by kernel_rfl) (by kernel_rfl) (by kernel_rfl) (by exact fun _ _ _ h => h) (Or.inl ⟨by rfl, fun wx hSx => ?_⟩) hHeld ?_
              rotate_left
              · clear hSx; go_simp; (try with_reducible rfl)
              simp only [Act.put, List.setIfInBounds_toArray, setF]; try simp only [List.set_cons_zero, List.set_cons_succ]
              refine wpAnyH_ready (rs := [51]) (by kernel_rfl) (by simp) ?_
              refine AllReadyH.cons (by simp; rfl) (fun K0 hK0 => ?_) AllReadyH.nil
              have hrow := (HDV.out.block (g6) HT9.out.2.2).trans HT9.out.1
              refine step_store_row rfl 62 (.tmp 9) (.tmp 79) rfl (g6) #[.int .i64 6, .int .i64 6, .int .i64 6, .int .i64 6, .int .i64 6, .int .i64 6] rfl rfl 62 #[.int .i64 0, .int .i64 0, .int .i64 0, .int .i64 0, .int .i64 0, .int .i64 0] hrow (by kernel_rfl) rfl (by simp [Value.oneCell']) ?_
              simp only [Act.put, List.setIfInBounds_toArray, setF]; try simp only [List.set_cons_zero, List.set_cons_succ]
              have HSB := below_setRow HDB.out HT9.out.2.1 #[.int .i64 6, .int .i64 6, .int .i64 6, .int .i64 6, .int .i64 6, .int .i64 6]
              have HEND := Lib.hid (And.intro (setRow_heap _ _ _ #[.int .i64 6, .int .i64 6, .int .i64 6, .int .i64 6, .int .i64 6, .int .i64 6] _ _ hrow) HSB)
              refine hK0.out _ _ HSB (fun _ => ?_)
              clear hK0 K0 HSB hrow
              refine wpAnyH_done (by kernel_rfl) ?_ _
              go_wp2
              go_meet
              exact ⟨_, rfl, HEND⟩
          · go_simp
            have hbV : Below v316.heap.size v316 (v316.alloc (.cells #[.int .i64 0, .int .i64 0, .int .i64 0, .int .i64 0, .int .i64 0, .int .i64 0] 62)) := (Below.refl _ _).alloc (Nat.le_refl _) _
            have HT9 := Lib.hid (show (v316.alloc (.cells #[.int .i64 0, .int .i64 0, .int .i64 0, .int .i64 0, .int .i64 0, .int .i64 0] 62)).heap[v316.heap.size]? = some (.cells #[.int .i64 0, .int .i64 0, .int .i64 0, .int .i64 0, .int .i64 0, .int .i64 0] 62 (0, 0)) ∧ UD.heap.size ≤ v316.heap.size ∧ v316.heap.size < (v316.alloc (.cells #[.int .i64 0, .int .i64 0, .int .i64 0, .int .i64 0, .int .i64 0, .int .i64 0] 62)).heap.size from ⟨heap_alloc_new v316 _, HDB.out.size, by simp⟩)
            have HDB2 := Lib.hid (HDB.out.trans (hbV.mono HDB.out.size))
            clear HDB
            have HDB := HDB2
            clear HDB2 hbV
            refine hK0.out _ _ HDB.out (fun _ => ?_)
            clear hK0 K0 hHeld
            obtain ⟨g6, hg6⟩ : ∃ g, v316.heap.size = g := ⟨_, rfl⟩
            rw [hg6] at HT9 ⊢
            generalize (v316.alloc (.cells #[.int .i64 0, .int .i64 0, .int .i64 0, .int .i64 0, .int .i64 0, .int .i64 0] 62)) = v450 at HT9 HDB ⊢
            have hHeld := HDB.out
            have HDV := Lib.hid (Below.refl v450.heap.size v450)
            clear hg6
            refine wpAnyH_ready (rs := [35]) (by kernel_rfl) (by simp) ?_
            refine AllReadyH.cons (by simp; rfl) (fun K0 hK0 => ?_) AllReadyH.nil
            go_simp
            refine (down_none (HZV.out _ HDB.out) oa ob on ⟨p, f, gg, bb⟩).mono ?_
            rintro e v550 ⟨rfl, hx⟩
            have hbv550 : Below v450.heap.size v450 v550 := hx
            clear hx
            have HDB2 := Lib.hid (HDB.out.trans (hbv550.mono HDB.out.size))
            clear HDB
            have HDB := HDB2
            clear HDB2
            have HDV2 := Lib.hid (HDV.out.trans (hbv550.mono HDV.out.size))
            clear HDV
            have HDV := HDV2
            clear HDV2
            clear hbv550
            refine hK0.out _ _ HDB.out (fun _ => ?_)
            clear hK0 K0 hHeld
            have hHeld := HDB.out
            refine wpAnyH_ready (rs := [45]) (by kernel_rfl) (by simp) ?_
            refine AllReadyH.cons (by simp; rfl) (fun K0 hK0 => ?_) AllReadyH.nil
            go_simp
            refine (ins_none (.nil _) oa ob on ⟨p, f, gg, bb⟩).mono ?_
            rintro e v635 ⟨rfl, hx⟩
            have hbv635 : Below v550.heap.size v550 v635 := hx
            clear hx
            have HDB2 := Lib.hid (HDB.out.trans (hbv635.mono HDB.out.size))
            clear HDB
            have HDB := HDB2
            clear HDB2
            have HDV2 := Lib.hid (HDV.out.trans (hbv635.mono HDV.out.size))
            clear HDV
            have HDV := HDV2
            clear HDV2
            clear hbv635
            refine hK0.out _ _ HDB.out (fun _ => ?_)
            clear hK0 K0 hHeld
            have hHeld := HDB.out
            refine wpAnyH_ready (rs := [48]) (by kernel_rfl) (by simp) ?_
            refine AllReadyH.cons (by simp; rfl) (fun K0 hK0 => ?_) AllReadyH.nil
            go_simp
            refine (resize_none (HZV.out _ HDB.out) 1 1 ⟨p, f, gg, bb⟩).mono ?_
            rintro e v745 ⟨rfl, hx⟩
            have hbv745 : Below v635.heap.size v635 v745 := hx
            clear hx
            have HDB2 := Lib.hid (HDB.out.trans (hbv745.mono HDB.out.size))
            clear HDB
            have HDB := HDB2
            clear HDB2
            have HDV2 := Lib.hid (HDV.out.trans (hbv745.mono HDV.out.size))
            clear HDV
            have HDV := HDV2
            clear HDV2
            clear hbv745
            refine hK0.out _ _ HDB.out (fun _ => ?_)
            clear hK0 K0 hHeld
            have hHeld := HDB.out
            refine wpAnyH_take (i := 49) (v := ?_) (by simp; rfl) (by kernel_rfl) (by kernel_rfl) (by kernel_rfl) (by exact fun _ _ _ h => h) (Or.inl ⟨by rfl, fun wx hSx => ?_⟩) hHeld ?_
            rotate_left
            · clear hSx; go_simp; (try with_reducible rfl)
            simp only [Act.put, List.setIfInBounds_toArray, setF]; try simp only [List.set_cons_zero, List.set_cons_succ]
            refine wpAnyH_ready (rs := [51]) (by kernel_rfl) (by simp) ?_
            refine AllReadyH.cons (by simp; rfl) (fun K0 hK0 => ?_) AllReadyH.nil
            have hrow := (HDV.out.block (g6) HT9.out.2.2).trans HT9.out.1
            refine step_store_row rfl 62 (.tmp 9) (.tmp 79) rfl (g6) #[.int .i64 6, .int .i64 6, .int .i64 6, .int .i64 6, .int .i64 6, .int .i64 6] rfl rfl 62 #[.int .i64 0, .int .i64 0, .int .i64 0, .int .i64 0, .int .i64 0, .int .i64 0] hrow (by kernel_rfl) rfl (by simp [Value.oneCell']) ?_
            simp only [Act.put, List.setIfInBounds_toArray, setF]; try simp only [List.set_cons_zero, List.set_cons_succ]
            have HSB := below_setRow HDB.out HT9.out.2.1 #[.int .i64 6, .int .i64 6, .int .i64 6, .int .i64 6, .int .i64 6, .int .i64 6]
            have HEND := Lib.hid (And.intro (setRow_heap _ _ _ #[.int .i64 6, .int .i64 6, .int .i64 6, .int .i64 6, .int .i64 6, .int .i64 6] _ _ hrow) HSB)
            refine hK0.out _ _ HSB (fun _ => ?_)
            clear hK0 K0 HSB hrow
            refine wpAnyH_done (by kernel_rfl) ?_ _
            go_wp2
            go_meet
            exact ⟨_, rfl, HEND⟩
        · go_simp
          have hbV : Below v27.heap.size v27 (v27.alloc (.cells #[.int .i64 0, .int .i64 0, .int .i64 0, .int .i64 0, .int .i64 0, .int .i64 0] 62)) := (Below.refl _ _).alloc (Nat.le_refl _) _
          have HT9 := Lib.hid (show (v27.alloc (.cells #[.int .i64 0, .int .i64 0, .int .i64 0, .int .i64 0, .int .i64 0, .int .i64 0] 62)).heap[v27.heap.size]? = some (.cells #[.int .i64 0, .int .i64 0, .int .i64 0, .int .i64 0, .int .i64 0, .int .i64 0] 62 (0, 0)) ∧ UD.heap.size ≤ v27.heap.size ∧ v27.heap.size < (v27.alloc (.cells #[.int .i64 0, .int .i64 0, .int .i64 0, .int .i64 0, .int .i64 0, .int .i64 0] 62)).heap.size from ⟨heap_alloc_new v27 _, HDB.out.size, by simp⟩)
          have HDB2 := Lib.hid (HDB.out.trans (hbV.mono HDB.out.size))
          clear HDB
          have HDB := HDB2
          clear HDB2 hbV
          refine hK0.out _ _ HDB.out (fun _ => ?_)
          clear hK0 K0 hHeld
          obtain ⟨g6, hg6⟩ : ∃ g, v27.heap.size = g := ⟨_, rfl⟩
          rw [hg6] at HT9 ⊢
          generalize (v27.alloc (.cells #[.int .i64 0, .int .i64 0, .int .i64 0, .int .i64 0, .int .i64 0, .int .i64 0] 62)) = v350 at HT9 HDB ⊢
          have hHeld := HDB.out
          have HDV := Lib.hid (Below.refl v350.heap.size v350)
          clear hg6
          refine wpAnyH_ready (rs := [26]) (by kernel_rfl) (by simp) ?_
          refine AllReadyH.cons (by simp; rfl) (fun K0 hK0 => ?_) AllReadyH.nil
          go_simp
          refine (up_none (.nil _) oa ob on ⟨p, f, gg, bb⟩).mono ?_
          rintro e v450 ⟨rfl, hx⟩
          have hbv450 : Below v350.heap.size v350 v450 := hx
          clear hx
          have HDB2 := Lib.hid (HDB.out.trans (hbv450.mono HDB.out.size))
          clear HDB
          have HDB := HDB2
          clear HDB2
          have HDV2 := Lib.hid (HDV.out.trans (hbv450.mono HDV.out.size))
          clear HDV
          have HDV := HDV2
          clear HDV2
          clear hbv450
          refine hK0.out _ _ HDB.out (fun _ => ?_)
          clear hK0 K0 hHeld
          have hHeld := HDB.out
          refine wpAnyH_ready (rs := [35]) (by kernel_rfl) (by simp) ?_
          refine AllReadyH.cons (by simp; rfl) (fun K0 hK0 => ?_) AllReadyH.nil
          go_simp
          refine (down_none (HZV.out _ HDB.out) oa ob on ⟨p, f, gg, bb⟩).mono ?_
          rintro e v526 ⟨rfl, hx⟩
          have hbv526 : Below v450.heap.size v450 v526 := hx
          clear hx
          have HDB2 := Lib.hid (HDB.out.trans (hbv526.mono HDB.out.size))
          clear HDB
          have HDB := HDB2
          clear HDB2
          have HDV2 := Lib.hid (HDV.out.trans (hbv526.mono HDV.out.size))
          clear HDV
          have HDV := HDV2
          clear HDV2
          clear hbv526
          refine hK0.out _ _ HDB.out (fun _ => ?_)
          clear hK0 K0 hHeld
          have hHeld := HDB.out
          refine wpAnyH_ready (rs := [45]) (by kernel_rfl) (by simp) ?_
          refine AllReadyH.cons (by simp; rfl) (fun K0 hK0 => ?_) AllReadyH.nil
          go_simp
          refine (ins_none (.nil _) oa ob on ⟨p, f, gg, bb⟩).mono ?_
          rintro e v635 ⟨rfl, hx⟩
          have hbv635 : Below v526.heap.size v526 v635 := hx
          clear hx
          have HDB2 := Lib.hid (HDB.out.trans (hbv635.mono HDB.out.size))
          clear HDB
          have HDB := HDB2
          clear HDB2
          have HDV2 := Lib.hid (HDV.out.trans (hbv635.mono HDV.out.size))
          clear HDV
          have HDV := HDV2
          clear HDV2
          clear hbv635
          refine hK0.out _ _ HDB.out (fun _ => ?_)
          clear hK0 K0 hHeld
          have hHeld := HDB.out
          refine wpAnyH_ready (rs := [48]) (by kernel_rfl) (by simp) ?_
          refine AllReadyH.cons (by simp; rfl) (fun K0 hK0 => ?_) AllReadyH.nil
          go_simp
          refine (resize_none (HZV.out _ HDB.out) 1 1 ⟨p, f, gg, bb⟩).mono ?_
          rintro e v745 ⟨rfl, hx⟩
          have hbv745 : Below v635.heap.size v635 v745 := hx
          clear hx
          have HDB2 := Lib.hid (HDB.out.trans (hbv745.mono HDB.out.size))
          clear HDB
          have HDB := HDB2
          clear HDB2
          have HDV2 := Lib.hid (HDV.out.trans (hbv745.mono HDV.out.size))
          clear HDV
          have HDV := HDV2
          clear HDV2
          clear hbv745
          refine hK0.out _ _ HDB.out (fun _ => ?_)
          clear hK0 K0 hHeld
          have hHeld := HDB.out
          refine wpAnyH_take (i := 49) (v := ?_) (by simp; rfl) (by kernel_rfl) (by kernel_rfl) (by kernel_rfl) (by exact fun _ _ _ h => h) (Or.inl ⟨by rfl, fun wx hSx => ?_⟩) hHeld ?_
          rotate_left
          · clear hSx; go_simp; (try with_reducible rfl)
          simp only [Act.put, List.setIfInBounds_toArray, setF]; try simp only [List.set_cons_zero, List.set_cons_succ]
          refine wpAnyH_ready (rs := [51]) (by kernel_rfl) (by simp) ?_
          refine AllReadyH.cons (by simp; rfl) (fun K0 hK0 => ?_) AllReadyH.nil
          have hrow := (HDV.out.block (g6) HT9.out.2.2).trans HT9.out.1
          refine step_store_row rfl 62 (.tmp 9) (.tmp 79) rfl (g6) #[.int .i64 6, .int .i64 6, .int .i64 6, .int .i64 6, .int .i64 6, .int .i64 6] rfl rfl 62 #[.int .i64 0, .int .i64 0, .int .i64 0, .int .i64 0, .int .i64 0, .int .i64 0] hrow (by kernel_rfl) rfl (by simp [Value.oneCell']) ?_
          simp only [Act.put, List.setIfInBounds_toArray, setF]; try simp only [List.set_cons_zero, List.set_cons_succ]
          have HSB := below_setRow HDB.out HT9.out.2.1 #[.int .i64 6, .int .i64 6, .int .i64 6, .int .i64 6, .int .i64 6, .int .i64 6]
          have HEND := Lib.hid (And.intro (setRow_heap _ _ _ #[.int .i64 6, .int .i64 6, .int .i64 6, .int .i64 6, .int .i64 6, .int .i64 6] _ _ hrow) HSB)
          refine hK0.out _ _ HSB (fun _ => ?_)
          clear hK0 K0 HSB hrow
          refine wpAnyH_done (by kernel_rfl) ?_ _
          go_wp2
          go_meet
          exact ⟨_, rfl, HEND⟩
      · go_simp
        have hbV : Below v1.heap.size v1 (v1.alloc (.cells #[.int .i64 0, .int .i64 0, .int .i64 0, .int .i64 0, .int .i64 0, .int .i64 0] 62)) := (Below.refl _ _).alloc (Nat.le_refl _) _
        have HT9 := Lib.hid (show (v1.alloc (.cells #[.int .i64 0, .int .i64 0, .int .i64 0, .int .i64 0, .int .i64 0, .int .i64 0] 62)).heap[v1.heap.size]? = some (.cells #[.int .i64 0, .int .i64 0, .int .i64 0, .int .i64 0, .int .i64 0, .int .i64 0] 62 (0, 0)) ∧ UD.heap.size ≤ v1.heap.size ∧ v1.heap.size < (v1.alloc (.cells #[.int .i64 0, .int .i64 0, .int .i64 0, .int .i64 0, .int .i64 0, .int .i64 0] 62)).heap.size from ⟨heap_alloc_new v1 _, HDB.out.size, by simp⟩)
        have HDB2 := Lib.hid (HDB.out.trans (hbV.mono HDB.out.size))
        clear HDB
        have HDB := HDB2
        clear HDB2 hbV
        refine hK0.out _ _ HDB.out (fun _ => ?_)
        clear hK0 K0 hHeld
        obtain ⟨g6, hg6⟩ : ∃ g, v1.heap.size = g := ⟨_, rfl⟩
        rw [hg6] at HT9 ⊢
        generalize (v1.alloc (.cells #[.int .i64 0, .int .i64 0, .int .i64 0, .int .i64 0, .int .i64 0, .int .i64 0] 62)) = v250 at HT9 HDB ⊢
        have hHeld := HDB.out
        have HDV := Lib.hid (Below.refl v250.heap.size v250)
        clear hg6
        refine wpAnyH_ready (rs := [16]) (by kernel_rfl) (by simp) ?_
        refine AllReadyH.cons (by simp; rfl) (fun K0 hK0 => ?_) AllReadyH.nil
        go_simp
        refine (fill_none (HZV.out _ HDB.out) oa ob on ⟨p, f, gg, bb⟩).mono ?_
        rintro e v350 ⟨rfl, hx⟩
        have hbv350 : Below v250.heap.size v250 v350 := hx
        clear hx
        have HDB2 := Lib.hid (HDB.out.trans (hbv350.mono HDB.out.size))
        clear HDB
        have HDB := HDB2
        clear HDB2
        have HDV2 := Lib.hid (HDV.out.trans (hbv350.mono HDV.out.size))
        clear HDV
        have HDV := HDV2
        clear HDV2
        clear hbv350
        refine hK0.out _ _ HDB.out (fun _ => ?_)
        clear hK0 K0 hHeld
        have hHeld := HDB.out
        refine wpAnyH_ready (rs := [26]) (by kernel_rfl) (by simp) ?_
        refine AllReadyH.cons (by simp; rfl) (fun K0 hK0 => ?_) AllReadyH.nil
        go_simp
        refine (up_none (.nil _) oa ob on ⟨p, f, gg, bb⟩).mono ?_
        rintro e v416 ⟨rfl, hx⟩
        have hbv416 : Below v350.heap.size v350 v416 := hx
        clear hx
        have HDB2 := Lib.hid (HDB.out.trans (hbv416.mono HDB.out.size))
        clear HDB
        have HDB := HDB2
        clear HDB2
        have HDV2 := Lib.hid (HDV.out.trans (hbv416.mono HDV.out.size))
        clear HDV
        have HDV := HDV2
        clear HDV2
        clear hbv416
        refine hK0.out _ _ HDB.out (fun _ => ?_)
        clear hK0 K0 hHeld
        have hHeld := HDB.out
        refine wpAnyH_ready (rs := [35]) (by kernel_rfl) (by simp) ?_
        refine AllReadyH.cons (by simp; rfl) (fun K0 hK0 => ?_) AllReadyH.nil
        go_simp
        refine (down_none (HZV.out _ HDB.out) oa ob on ⟨p, f, gg, bb⟩).mono ?_
        rintro e v526 ⟨rfl, hx⟩
        have hbv526 : Below v416.heap.size v416 v526 := hx
        clear hx
        have HDB2 := Lib.hid (HDB.out.trans (hbv526.mono HDB.out.size))
        clear HDB
        have HDB := HDB2
        clear HDB2
        have HDV2 := Lib.hid (HDV.out.trans (hbv526.mono HDV.out.size))
        clear HDV
        have HDV := HDV2
        clear HDV2
        clear hbv526
        refine hK0.out _ _ HDB.out (fun _ => ?_)
        clear hK0 K0 hHeld
        have hHeld := HDB.out
        refine wpAnyH_ready (rs := [45]) (by kernel_rfl) (by simp) ?_
        refine AllReadyH.cons (by simp; rfl) (fun K0 hK0 => ?_) AllReadyH.nil
        go_simp
        refine (ins_none (.nil _) oa ob on ⟨p, f, gg, bb⟩).mono ?_
        rintro e v635 ⟨rfl, hx⟩
        have hbv635 : Below v526.heap.size v526 v635 := hx
        clear hx
        have HDB2 := Lib.hid (HDB.out.trans (hbv635.mono HDB.out.size))
        clear HDB
        have HDB := HDB2
        clear HDB2
        have HDV2 := Lib.hid (HDV.out.trans (hbv635.mono HDV.out.size))
        clear HDV
        have HDV := HDV2
        clear HDV2
        clear hbv635
        refine hK0.out _ _ HDB.out (fun _ => ?_)
        clear hK0 K0 hHeld
        have hHeld := HDB.out
        refine wpAnyH_ready (rs := [48]) (by kernel_rfl) (by simp) ?_
        refine AllReadyH.cons (by simp; rfl) (fun K0 hK0 => ?_) AllReadyH.nil
        go_simp
        refine (resize_none (HZV.out _ HDB.out) 1 1 ⟨p, f, gg, bb⟩).mono ?_
        rintro e v745 ⟨rfl, hx⟩
        have hbv745 : Below v635.heap.size v635 v745 := hx
        clear hx
        have HDB2 := Lib.hid (HDB.out.trans (hbv745.mono HDB.out.size))
        clear HDB
        have HDB := HDB2
        clear HDB2
        have HDV2 := Lib.hid (HDV.out.trans (hbv745.mono HDV.out.size))
        clear HDV
        have HDV := HDV2
        clear HDV2
        clear hbv745
        refine hK0.out _ _ HDB.out (fun _ => ?_)
        clear hK0 K0 hHeld
        have hHeld := HDB.out
        refine wpAnyH_take (i := 49) (v := ?_) (by simp; rfl) (by kernel_rfl) (by kernel_rfl) (by kernel_rfl) (by exact fun _ _ _ h => h) (Or.inl ⟨by rfl, fun wx hSx => ?_⟩) hHeld ?_
        rotate_left
        · clear hSx; go_simp; (try with_reducible rfl)
        simp only [Act.put, List.setIfInBounds_toArray, setF]; try simp only [List.set_cons_zero, List.set_cons_succ]
        refine wpAnyH_ready (rs := [51]) (by kernel_rfl) (by simp) ?_
        refine AllReadyH.cons (by simp; rfl) (fun K0 hK0 => ?_) AllReadyH.nil
        have hrow := (HDV.out.block (g6) HT9.out.2.2).trans HT9.out.1
        refine step_store_row rfl 62 (.tmp 9) (.tmp 79) rfl (g6) #[.int .i64 6, .int .i64 6, .int .i64 6, .int .i64 6, .int .i64 6, .int .i64 6] rfl rfl 62 #[.int .i64 0, .int .i64 0, .int .i64 0, .int .i64 0, .int .i64 0, .int .i64 0] hrow (by kernel_rfl) rfl (by simp [Value.oneCell']) ?_
        simp only [Act.put, List.setIfInBounds_toArray, setF]; try simp only [List.set_cons_zero, List.set_cons_succ]
        have HSB := below_setRow HDB.out HT9.out.2.1 #[.int .i64 6, .int .i64 6, .int .i64 6, .int .i64 6, .int .i64 6, .int .i64 6]
        have HEND := Lib.hid (And.intro (setRow_heap _ _ _ #[.int .i64 6, .int .i64 6, .int .i64 6, .int .i64 6, .int .i64 6, .int .i64 6] _ _ hrow) HSB)
        refine hK0.out _ _ HSB (fun _ => ?_)
        clear hK0 K0 HSB hrow
        refine wpAnyH_done (by kernel_rfl) ?_ _
        go_wp2
        go_meet
        exact ⟨_, rfl, HEND⟩
    · go_simp
      have hbV : Below UD.heap.size UD (UD.alloc (.cells #[.int .i64 0, .int .i64 0, .int .i64 0, .int .i64 0, .int .i64 0, .int .i64 0] 62)) := (Below.refl _ _).alloc (Nat.le_refl _) _
      have HT9 := Lib.hid (show (UD.alloc (.cells #[.int .i64 0, .int .i64 0, .int .i64 0, .int .i64 0, .int .i64 0, .int .i64 0] 62)).heap[UD.heap.size]? = some (.cells #[.int .i64 0, .int .i64 0, .int .i64 0, .int .i64 0, .int .i64 0, .int .i64 0] 62 (0, 0)) ∧ UD.heap.size ≤ UD.heap.size ∧ UD.heap.size < (UD.alloc (.cells #[.int .i64 0, .int .i64 0, .int .i64 0, .int .i64 0, .int .i64 0, .int .i64 0] 62)).heap.size from ⟨heap_alloc_new UD _, HDB.out.size, by simp⟩)
      have HDB2 := Lib.hid (HDB.out.trans (hbV.mono HDB.out.size))
      clear HDB
      have HDB := HDB2
      clear HDB2 hbV
      refine hK0.out _ _ HDB.out (fun _ => ?_)
      clear hK0 K0 hHeld
      generalize (UD.alloc (.cells #[.int .i64 0, .int .i64 0, .int .i64 0, .int .i64 0, .int .i64 0, .int .i64 0] 62)) = v150 at HT9 HDB ⊢
      have hHeld := HDB.out
      have HDV := Lib.hid (Below.refl v150.heap.size v150)
      refine wpAnyH_ready (rs := [7]) (by kernel_rfl) (by simp) ?_
      refine AllReadyH.cons (by simp; rfl) (fun K0 hK0 => ?_) AllReadyH.nil
      go_simp
      refine (put_none (.nil _) oa ob ⟨p, f, gg, bb⟩).mono ?_
      rintro e v250 ⟨rfl, hx⟩
      have hbv250 : Below v150.heap.size v150 v250 := hx
      clear hx
      have HDB2 := Lib.hid (HDB.out.trans (hbv250.mono HDB.out.size))
      clear HDB
      have HDB := HDB2
      clear HDB2
      have HDV2 := Lib.hid (HDV.out.trans (hbv250.mono HDV.out.size))
      clear HDV
      have HDV := HDV2
      clear HDV2
      clear hbv250
      refine hK0.out _ _ HDB.out (fun _ => ?_)
      clear hK0 K0 hHeld
      have hHeld := HDB.out
      refine wpAnyH_ready (rs := [16]) (by kernel_rfl) (by simp) ?_
      refine AllReadyH.cons (by simp; rfl) (fun K0 hK0 => ?_) AllReadyH.nil
      go_simp
      refine (fill_none (HZV.out _ HDB.out) oa ob on ⟨p, f, gg, bb⟩).mono ?_
      rintro e v37 ⟨rfl, hx⟩
      have hbv37 : Below v250.heap.size v250 v37 := hx
      clear hx
      have HDB2 := Lib.hid (HDB.out.trans (hbv37.mono HDB.out.size))
      clear HDB
      have HDB := HDB2
      clear HDB2
      have HDV2 := Lib.hid (HDV.out.trans (hbv37.mono HDV.out.size))
      clear HDV
      have HDV := HDV2
      clear HDV2
      clear hbv37
      refine hK0.out _ _ HDB.out (fun _ => ?_)
      clear hK0 K0 hHeld
      have hHeld := HDB.out
      refine wpAnyH_ready (rs := [26]) (by kernel_rfl) (by simp) ?_
      refine AllReadyH.cons (by simp; rfl) (fun K0 hK0 => ?_) AllReadyH.nil
      go_simp
      refine (up_none (.nil _) oa ob on ⟨p, f, gg, bb⟩).mono ?_
      rintro e v416 ⟨rfl, hx⟩
      have hbv416 : Below v37.heap.size v37 v416 := hx
      clear hx
      have HDB2 := Lib.hid (HDB.out.trans (hbv416.mono HDB.out.size))
      clear HDB
      have HDB := HDB2
      clear HDB2
      have HDV2 := Lib.hid (HDV.out.trans (hbv416.mono HDV.out.size))
      clear HDV
      have HDV := HDV2
      clear HDV2
      clear hbv416
      refine hK0.out _ _ HDB.out (fun _ => ?_)
      clear hK0 K0 hHeld
      have hHeld := HDB.out
      refine wpAnyH_ready (rs := [35]) (by kernel_rfl) (by simp) ?_
      refine AllReadyH.cons (by simp; rfl) (fun K0 hK0 => ?_) AllReadyH.nil
      go_simp
      refine (down_none (HZV.out _ HDB.out) oa ob on ⟨p, f, gg, bb⟩).mono ?_
      rintro e v526 ⟨rfl, hx⟩
      have hbv526 : Below v416.heap.size v416 v526 := hx
      clear hx
      have HDB2 := Lib.hid (HDB.out.trans (hbv526.mono HDB.out.size))
      clear HDB
      have HDB := HDB2
      clear HDB2
      have HDV2 := Lib.hid (HDV.out.trans (hbv526.mono HDV.out.size))
      clear HDV
      have HDV := HDV2
      clear HDV2
      clear hbv526
      refine hK0.out _ _ HDB.out (fun _ => ?_)
      clear hK0 K0 hHeld
      have hHeld := HDB.out
      refine wpAnyH_ready (rs := [45]) (by kernel_rfl) (by simp) ?_
      refine AllReadyH.cons (by simp; rfl) (fun K0 hK0 => ?_) AllReadyH.nil
      go_simp
      refine (ins_none (.nil _) oa ob on ⟨p, f, gg, bb⟩).mono ?_
      rintro e v635 ⟨rfl, hx⟩
      have hbv635 : Below v526.heap.size v526 v635 := hx
      clear hx
      have HDB2 := Lib.hid (HDB.out.trans (hbv635.mono HDB.out.size))
      clear HDB
      have HDB := HDB2
      clear HDB2
      have HDV2 := Lib.hid (HDV.out.trans (hbv635.mono HDV.out.size))
      clear HDV
      have HDV := HDV2
      clear HDV2
      clear hbv635
      refine hK0.out _ _ HDB.out (fun _ => ?_)
      clear hK0 K0 hHeld
      have hHeld := HDB.out
      refine wpAnyH_ready (rs := [48]) (by kernel_rfl) (by simp) ?_
      refine AllReadyH.cons (by simp; rfl) (fun K0 hK0 => ?_) AllReadyH.nil
      go_simp
      refine (resize_none (HZV.out _ HDB.out) 1 1 ⟨p, f, gg, bb⟩).mono ?_
      rintro e v745 ⟨rfl, hx⟩
      have hbv745 : Below v635.heap.size v635 v745 := hx
      clear hx
      have HDB2 := Lib.hid (HDB.out.trans (hbv745.mono HDB.out.size))
      clear HDB
      have HDB := HDB2
      clear HDB2
      have HDV2 := Lib.hid (HDV.out.trans (hbv745.mono HDV.out.size))
      clear HDV
      have HDV := HDV2
      clear HDV2
      clear hbv745
      refine hK0.out _ _ HDB.out (fun _ => ?_)
      clear hK0 K0 hHeld
      have hHeld := HDB.out
      refine wpAnyH_take (i := 49) (v := ?_) (by simp; rfl) (by kernel_rfl) (by kernel_rfl) (by kernel_rfl) (by exact fun _ _ _ h => h) (Or.inl ⟨by rfl, fun wx hSx => ?_⟩) hHeld ?_
      rotate_left
      · clear hSx; go_simp; (try with_reducible rfl)
      simp only [Act.put, List.setIfInBounds_toArray, setF]; try simp only [List.set_cons_zero, List.set_cons_succ]
      refine wpAnyH_ready (rs := [51]) (by kernel_rfl) (by simp) ?_
      refine AllReadyH.cons (by simp; rfl) (fun K0 hK0 => ?_) AllReadyH.nil
      have hrow := (HDV.out.block (UD.heap.size) HT9.out.2.2).trans HT9.out.1
      refine step_store_row rfl 62 (.tmp 9) (.tmp 79) rfl (UD.heap.size) #[.int .i64 6, .int .i64 6, .int .i64 6, .int .i64 6, .int .i64 6, .int .i64 6] rfl rfl 62 #[.int .i64 0, .int .i64 0, .int .i64 0, .int .i64 0, .int .i64 0, .int .i64 0] hrow (by kernel_rfl) rfl (by simp [Value.oneCell']) ?_
      simp only [Act.put, List.setIfInBounds_toArray, setF]; try simp only [List.set_cons_zero, List.set_cons_succ]
      have HSB := below_setRow HDB.out HT9.out.2.1 #[.int .i64 6, .int .i64 6, .int .i64 6, .int .i64 6, .int .i64 6, .int .i64 6]
      have HEND := Lib.hid (And.intro (setRow_heap _ _ _ #[.int .i64 6, .int .i64 6, .int .i64 6, .int .i64 6, .int .i64 6, .int .i64 6] _ _ hrow) HSB)
      refine hK0.out _ _ HSB (fun _ => ?_)
      clear hK0 K0 HSB hrow
      refine wpAnyH_done (by kernel_rfl) ?_ _
      go_wp2
      go_meet
      exact ⟨_, rfl, HEND⟩
  case rest =>
    obtain ⟨g6, rfl, HE⟩ := hcut
    have HBC := Lib.hid (HBD.out.trans (HE.out.2.mono HBD.out.size))
    have KC := Lib.hid (fun (i : Nat) (h : i < 6) => six_cell HE.out.1 h)
    have HW := Lib.hid HE.out.2
    clear HE HBD HUD
    go_wp2
    go_loopw [10] (fun iv wr => ∃ i : Nat, iv = .int .i64 i ∧ i ≤ 6 ∧ wr = wc) (fun iv _ => 6 - (intOf iv).toNat)
    case atStart => exact ⟨0, rfl, by omega, rfl⟩
    case round =>
      obtain ⟨i, rfl, hi, rfl⟩ := hrel
      by_cases h6 : i < 6
      · have kc := KC.out i h6
        have d1 : decide ((i : Int) < 6) = true := by simp; omega
        have d1' : decide (i < 6) = true := by simp; omega
        have d2 : (0 : Int) ≤ (i : Int) := by omega
        have d3 : (i : Int) < 6 := by omega
        have d4 : IntKind.i64.wrap ((i : Int) + 1) = (i : Int) + 1 := IntWalk.i64_in _ (by omega)
        clear HAL HOP HZV HBC KC HW
        go_wp2
        go_roundw
        case rel => exact ⟨i + 1, by go_num, by omega, by trivial⟩
        case measure => simp [intOf]; omega
      · have d1 : decide ((i : Int) < 6) = false := by simp; omega
        have d1' : decide (i < 6) = false := by simp; omega
        clear KC
        go_wp2_with fail
        refine (new_any 3 4 _).mono ?_
        rintro e w4 ⟨hn0, hy, hb4⟩
        obtain ⟨g, b, rfl, hg, hbb, hG⟩ := hy 3 4 rfl rfl rfl
        have HG := Lib.hid (show Gr g b 12 3 4 (rep 12 blC) w4 from hG)
        have HB4 := Lib.hid (HBC.out.trans (hb4.mono HBC.out.size))
        have HW4 := Lib.hid (HW.out.trans (hb4.mono HW.out.size))
        have k4 := (HOP.out w4 HW4.out).2.1
        clear hn0 hy hb4 hg hbb hG HBC HW d1 d1' hi h6
        rcases (show (∃ n : Nat, oa = n ∧ n < 3) ∨ oa < 0 ∨ 3 ≤ oa from by
          by_cases h0 : oa < 0
          · exact .inr (.inl h0)
          by_cases h3 : oa < 3
          · exact .inl ⟨oa.toNat, by omega, by omega⟩
          · exact .inr (.inr (by omega))) with ⟨n, rfl, hn⟩ | hn | hn
        · have HLI := Lib.hid (line_yes HG.out hn)
          have q1 : decide ((n : Int) < 3) = true := by simp; omega
          have q1' : decide (n < 3) = true := by simp; omega
          have q2 : decide ((0 : Int) ≤ (n : Int)) = true := by simp
          have q2' : decide ((n : Int) ≥ 0) = true := by simp
          clear hn
          go_wp2_with fail
          refine HLI.out.mono ?_
          rintro e w5 ⟨b2, rfl, _, _, hb5⟩
          have HG5 := Lib.hid (HG.out.below hb5)
          have HB5 := Lib.hid (HB4.out.trans (hb5.mono HB4.out.size))
          have HW5 := Lib.hid (HW4.out.trans (hb5.mono HW4.out.size))
          clear hb5 HLI HG HB4 HW4 k4
          go_wp2_with fail
          refine (HAL.out _).mono ?_
          rintro e w6 ⟨rfl, hb6⟩
          have HG6 := Lib.hid (HG5.out.below hb6)
          have HB6 := Lib.hid (HB5.out.trans (hb6.mono HB5.out.size))
          have HW6 := HW5.out.trans (hb6.mono HW5.out.size)
          have k6 := (HOP.out w6 HW6).2.1
          have R1 := Lib.hid (rows_none (.nil w6))
          have R2 := Lib.hid (cols_none (HZV.out w6 HW6))
          have R3 := Lib.hid (copy_none (.nil w6))
          have R4 := Lib.hid (same_none (.nil w6) (.pointer (some ⟨g, 0, none⟩)))
          have R5 := Lib.hid (same_no (.nil w6) HG6.out)
          clear hb6 HG5 HB5 HW5 HW6 HOP HZV HAL HG6
          go_wp2_with fail
          refine R1.out.mono ?_
          rintro e wa ⟨rfl, rfl⟩
          go_wp2_with fail
          refine R2.out.mono ?_
          rintro e wa ⟨rfl, rfl⟩
          go_wp2_with fail
          refine R3.out.mono ?_
          rintro e wa ⟨rfl, rfl⟩
          go_wp2_with fail
          refine R4.out.mono ?_
          rintro e wa ⟨rfl, rfl⟩
          go_wp2_with fail
          refine R5.out.mono ?_
          rintro e wa ⟨rfl, rfl⟩
          clear R1 R2 R3 R4 R5
          go_wp2
          go_ret
          exact ⟨rfl, HB6.out⟩
        · have HLI := Lib.hid (line_no HG.out (row := oa) (by unfold hasR; simp; omega))
          have q1 : decide ((0 : Int) ≤ oa) = false := by simp; omega
          have q1' : decide (oa ≥ 0) = false := by simp; omega
          clear hn
          go_wp2_with fail
          refine HLI.out.mono ?_
          rintro e w5 ⟨rfl, rfl⟩
          have hb5 := Below.refl w4.heap.size w4
          have HG5 := Lib.hid (HG.out.below hb5)
          have HB5 := Lib.hid (HB4.out.trans (hb5.mono HB4.out.size))
          have HW5 := Lib.hid (HW4.out.trans (hb5.mono HW4.out.size))
          clear hb5 HLI HG HB4 HW4 k4
          go_wp2_with fail
          refine (HAL.out _).mono ?_
          rintro e w6 ⟨rfl, hb6⟩
          have HG6 := Lib.hid (HG5.out.below hb6)
          have HB6 := Lib.hid (HB5.out.trans (hb6.mono HB5.out.size))
          have HW6 := HW5.out.trans (hb6.mono HW5.out.size)
          have k6 := (HOP.out w6 HW6).2.1
          have R1 := Lib.hid (rows_none (.nil w6))
          have R2 := Lib.hid (cols_none (HZV.out w6 HW6))
          have R3 := Lib.hid (copy_none (.nil w6))
          have R4 := Lib.hid (same_none (.nil w6) (.pointer (some ⟨g, 0, none⟩)))
          have R5 := Lib.hid (same_no (.nil w6) HG6.out)
          clear hb6 HG5 HB5 HW5 HW6 HOP HZV HAL HG6
          go_wp2_with fail
          refine R1.out.mono ?_
          rintro e wa ⟨rfl, rfl⟩
          go_wp2_with fail
          refine R2.out.mono ?_
          rintro e wa ⟨rfl, rfl⟩
          go_wp2_with fail
          refine R3.out.mono ?_
          rintro e wa ⟨rfl, rfl⟩
          go_wp2_with fail
          refine R4.out.mono ?_
          rintro e wa ⟨rfl, rfl⟩
          go_wp2_with fail
          refine R5.out.mono ?_
          rintro e wa ⟨rfl, rfl⟩
          clear R1 R2 R3 R4 R5
          go_wp2
          go_ret
          exact ⟨rfl, HB6.out⟩
        · have HLI := Lib.hid (line_no HG.out (row := oa) (by unfold hasR; simp; omega))
          have q1 : decide ((0 : Int) ≤ oa) = true := by simp; omega
          have q1' : decide (oa ≥ 0) = true := by simp; omega
          have q2 : decide (oa < 3) = false := by simp; omega
          clear hn
          go_wp2_with fail
          refine HLI.out.mono ?_
          rintro e w5 ⟨rfl, rfl⟩
          have hb5 := Below.refl w4.heap.size w4
          have HG5 := Lib.hid (HG.out.below hb5)
          have HB5 := Lib.hid (HB4.out.trans (hb5.mono HB4.out.size))
          have HW5 := Lib.hid (HW4.out.trans (hb5.mono HW4.out.size))
          clear hb5 HLI HG HB4 HW4 k4
          go_wp2_with fail
          refine (HAL.out _).mono ?_
          rintro e w6 ⟨rfl, hb6⟩
          have HG6 := Lib.hid (HG5.out.below hb6)
          have HB6 := Lib.hid (HB5.out.trans (hb6.mono HB5.out.size))
          have HW6 := HW5.out.trans (hb6.mono HW5.out.size)
          have k6 := (HOP.out w6 HW6).2.1
          have R1 := Lib.hid (rows_none (.nil w6))
          have R2 := Lib.hid (cols_none (HZV.out w6 HW6))
          have R3 := Lib.hid (copy_none (.nil w6))
          have R4 := Lib.hid (same_none (.nil w6) (.pointer (some ⟨g, 0, none⟩)))
          have R5 := Lib.hid (same_no (.nil w6) HG6.out)
          clear hb6 HG5 HB5 HW5 HW6 HOP HZV HAL HG6
          go_wp2_with fail
          refine R1.out.mono ?_
          rintro e wa ⟨rfl, rfl⟩
          go_wp2_with fail
          refine R2.out.mono ?_
          rintro e wa ⟨rfl, rfl⟩
          go_wp2_with fail
          refine R3.out.mono ?_
          rintro e wa ⟨rfl, rfl⟩
          go_wp2_with fail
          refine R4.out.mono ?_
          rintro e wa ⟨rfl, rfl⟩
          go_wp2_with fail
          refine R5.out.mono ?_
          rintro e wa ⟨rfl, rfl⟩
          clear R1 R2 R3 R4 R5
          go_wp2
          go_ret
          exact ⟨rfl, HB6.out⟩
end Go.Proofs.Ytahmnipcdkcpiaa
