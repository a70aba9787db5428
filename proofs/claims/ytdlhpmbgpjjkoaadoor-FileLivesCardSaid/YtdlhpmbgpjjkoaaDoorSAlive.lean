/-
  Proved here, where the table of constants is as the program lays it: the fixed calls of 'alive' come out as they must (the sum of abc is reckoned by the kernel), and nothing that was there is changed; and how two arrays of bytes are compared.
-/
import Derived.Test.YtdlhpmbgpjjkoaaDoorSOf
import Derived.ChangeKeysEq
import Derived.Lib.SlBytesConst
namespace Go.Proofs.YtdlhpmbgpjjkoaaDoor
open Go.RowKit
theorem abc4 : (sumS [97, 98, 99]).take 4 = [186, 120, 22, 191] := by decide +kernel
theorem all_range : ∀ (xs ys : List Nat), xs.length = ys.length → ((List.range xs.length).all fun i => xs.getD i 0 == ys.getD i 0) = (xs == ys)
  | [], [], _ => rfl
  | x :: xs, y :: ys, h => by
    have ih := all_range xs ys (by simpa using h)
    rw [List.length_cons, List.range_succ_eq_map, List.all_cons, List.all_map]
    simp only [List.getD_cons_zero, Function.comp_def, List.getD_cons_succ, ih]
    simp [List.cons_beq_cons]
  | [], _ :: _, h => by simp at h
  | _ :: _, [], h => by simp at h
section
variable {P : Program}
theorem run_items (w : World) (d : Nat) (e : TypeId) (he : P.underlying e = some (.int .u8)) (ha : ∀ w, (isAgg e).run P w = .ok false w) (xs ys : List Nat) (n : Nat) (hx : xs.length = n) (hy : ys.length = n) :
    ∀ is : List Nat, (∀ i ∈ is, i < n) → (Op.eqItems (d + 1) e 1 (V8 xs).toArray (V8 ys).toArray is).run P w = .ok (is.all fun i => xs.getD i 0 == ys.getD i 0) w
  | [], _ => by simp [Op.eqItems]
  | i :: is, h => by
    have hi : i < n := h i (by simp)
    have ih := run_items w d e he ha xs ys n hx hy is fun j hj => h j (by simp [hj])
    have px : (part e (V8 xs).toArray (i * 1)).run P w = .ok (.int .u8 (xs.getD i 0 : Nat)) w := by
      simp only [part, Sem.run_bind, ha, Result.andThen_ok, Nat.mul_one, List.getElem?_toArray, V8_get (show i < xs.length by omega)]
      simp
    have py : (part e (V8 ys).toArray (i * 1)).run P w = .ok (.int .u8 (ys.getD i 0 : Nat)) w := by
      simp only [part, Sem.run_bind, ha, Result.andThen_ok, Nat.mul_one, List.getElem?_toArray, V8_get (show i < ys.length by omega)]
      simp
    have pe : (Op.equalIn (d + 1) e (.int .u8 (xs.getD i 0 : Nat)) (.int .u8 (ys.getD i 0 : Nat))).run P w = .ok (xs.getD i 0 == ys.getD i 0) w := by
      rw [run_equalIn_int w d e .u8 .u8 _ _ he]
      congr 1
      rw [Bool.eq_iff_iff]
      simp
      omega
    simp only [Op.eqItems, Sem.run_bind, px, py, pe, Result.andThen_ok, List.all_cons]
    cases hb : (xs.getD i 0 == ys.getD i 0)
    · simp
    · simpa using ih
theorem run_eqV8 (w : World) (t e : TypeId) (n : Nat) (i : TypeInfo) (ht : P.underlying t = some (.array n e)) (hi : P.info? e = some i) (hc : P.cellsOf e = 1) (he : P.underlying e = some (.int .u8)) (ha : ∀ w, (isAgg e).run P w = .ok false w)
    (xs ys : List Nat) (hx : xs.length = n) (hy : ys.length = n) : (Op.equalIn 10000 t (.agg (V8 xs).toArray) (.agg (V8 ys).toArray)).run P w = .ok (xs == ys) w := by
  rw [run_equalIn_array w 9999 (V8 xs).toArray (V8 ys).toArray ht hi, hc, run_items w 9998 e he ha xs ys n hx hy (List.range n) (by simp), ← all_range xs ys (hx.trans hy.symm), hx]
theorem wpList_wanted {ops : Array Oper} {Q : Exit → Act → World → Prop} {a : Act} {w : World} {rest : List Oper} {o : Oper} (hw : Region.wanted o (yielded ops a.tmps) = true)
    (h : ∀ K : Act → World → Prop, (∀ a w, wpList P ops Q rest a w → K a w) → o.wp P a w K Q) : wpList P ops Q (o :: rest) a w :=
  wpList_step fun K hK => by rw [if_pos hw]; exact h K hK
/-- A guarded read of a whole array. -/
theorem wpList_load_row_w {ops : Array Oper} {rest : List Oper} {o : Oper} {a : Act} {w : World} {Q : Exit → Act → World → Prop} (hw : Region.wanted o (yielded ops a.tmps) = true) (ty : TypeId) (x : Operand) (ho : o.op = .load ty x)
    (g : Nat) (hx : a.eval x = .pointer (some ⟨g, 0, none⟩)) (t : TypeId) (cs : Array Value) (fr : Nat × Nat) (d : TypeDesc) (hg : w.heap[g]? = some (.cells cs t fr))
    (hu : P.underlying ty = some d) (hd : (match d with | .struct _ | .array _ _ => true | _ => false) = true) (hi : (P.info? ty).map (·.size) = some cs.size)
    (h : wpList P ops Q rest (a.put o.dst (.agg cs)) w) : wpList P ops Q (o :: rest) a w :=
  wpList_wanted hw fun _ hK => wp_load_row ty x ho g hx t cs fr d hg hu hd hi (hK _ _ h)
end
theorem infoB : ∃ i, Tryd.prog.info? 5 = some i := by
  obtain ⟨i0, hi, _⟩ := info_parts infoByte
  exact ⟨i0, hi⟩
theorem cells5 : Tryd.prog.cellsOf 5 = 1 := by kernel_rfl
theorem eqSum (xs ys : List Nat) (hx : xs.length = 32) (hy : ys.length = 32) (w : World) : (Op.equalIn 10000 32 (.agg (V8 xs).toArray) (.agg (V8 ys).toArray)).run Tryd.prog w = .ok (xs == ys) w := by
  obtain ⟨i, hi⟩ := infoB
  exact run_eqV8 w 32 5 32 i Tryd.underlying32 hi cells5 Tryd.underlying5 agg5 xs ys hx hy

theorem R0.block {w : World} {g : Nat} {bs : List Nat} {t : TypeId} {fr : Nat × Nat} (h : w.heap[g]? = some (.cells (V8 bs).toArray t fr)) : R0 w (some ⟨g, 0, none⟩) bs := fun _ =>
  ⟨g, 0, rfl, (Array.getElem?_eq_some_iff.1 h).1, fun i hi => by rw [Nat.zero_add, cell_of_row w g i _ _ _ h]; simpa using V8_get hi⟩
theorem R0.nil (w : World) (A : Option Addr) : R0 w A [] := fun h => by simp at h
/-- One slice in a block of its own. -/
theorem RS.one {w : World} {g : Nat} {A : Option Addr} {bs : List Nat} {c : Nat} {t : TypeId} (h : w.heap[g]? = some (.cells #[.slice A bs.length c] t (0, 0))) (hr : R0 w A bs) (hc : bs.length ≤ c) (hm : c ≤ maxLen) : RS w (some ⟨g, 0, none⟩) [bs] := fun _ =>
  ⟨g, 0, rfl, (Array.getElem?_eq_some_iff.1 h).1, fun i hi => by
    obtain rfl : i = 0 := by simpa using hi
    exact ⟨A, c, by rw [cell_of_row w g 0 _ _ _ h]; rfl, hr, hc, hm⟩⟩
theorem RS.three {w : World} {g : Nat} {A1 A2 A3 : Option Addr} {b1 b2 b3 : List Nat} {c1 c2 c3 : Nat} {t : TypeId} (h : w.heap[g]? = some (.cells #[.slice A1 b1.length c1, .slice A2 b2.length c2, .slice A3 b3.length c3] t (0, 0))) (h1 : R0 w A1 b1) (h2 : R0 w A2 b2) (h3 : R0 w A3 b3) (hc1 : b1.length ≤ c1) (hc2 : b2.length ≤ c2) (hc3 : b3.length ≤ c3) (hm1 : c1 ≤ maxLen) (hm2 : c2 ≤ maxLen) (hm3 : c3 ≤ maxLen) : RS w (some ⟨g, 0, none⟩) [b1, b2, b3] := fun _ =>
  ⟨g, 0, rfl, (Array.getElem?_eq_some_iff.1 h).1, fun i hi => by
    have hi' : i = 0 ∨ i = 1 ∨ i = 2 := by simp at hi; omega
    rcases hi' with rfl | rfl | rfl
    · exact ⟨A1, c1, by rw [cell_of_row w g 0 _ _ _ h]; rfl, h1, hc1, hm1⟩
    · exact ⟨A2, c2, by rw [cell_of_row w g (0 + 1) _ _ _ h]; rfl, h2, hc2, hm2⟩
    · exact ⟨A3, c3, by rw [cell_of_row w g (0 + 2) _ _ _ h]; rfl, h3, hc3, hm3⟩⟩

theorem conv_at (w : World) (N : Nat) (hN : w.heap.size = N) (C : Array Value) (n c : Nat) : (convert 23 23 (.slice (some ⟨N, 0, none⟩) n c)).run Tryd.prog (w.alloc (.cells C 5)) = .ok (.slice (some ⟨N, 0, none⟩) n c) (w.alloc (.cells C 5 (C.size, C.size + 1))) := by
  subst hN
  exact Lib.run_convert_bytes_const (P := Tryd.prog) w 23 5 C n c Tryd.underlying23 Tryd.underlying5
theorem of_abc (w : World) (hT : Tab w) : Calls Tryd.prog 25 #[.slice (some ⟨w.heap.size + 1, 0, none⟩) 1 1] ((w.alloc (.cells #[.int .u8 97, .int .u8 98, .int .u8 99] 5 (3, 4))).alloc (.cells #[.slice (some ⟨w.heap.size, 0, none⟩) 3 3] 23)) fun e w' => e = .returned (.agg (V8 (sumS [97, 98, 99])).toArray) ∧ Below w.heap.size w w' := by
  have hb : Below w.heap.size w ((w.alloc (.cells #[.int .u8 97, .int .u8 98, .int .u8 99] 5 (3, 4))).alloc (.cells #[.slice (some ⟨w.heap.size, 0, none⟩) 3 3] 23)) := ((Below.refl _ _).alloc (Nat.le_refl _) _).alloc (by simp) _
  refine (of_any [[97, 98, 99]] _ 1 _ (RS.one (A := some ⟨w.heap.size, 0, none⟩) (c := 3) (new_block _ _ _ (by simp)) (R0.block ((old_block _ _ _ (by simp)).trans (heap_alloc_new _ _))) (by simp) (by unfold maxLen; omega)) (by simp) (by unfold maxLen; omega) (hT.to hb) (by simp)).mono ?_
  rintro e w' ⟨rfl, h⟩
  exact ⟨rfl, hb.trans (h.mono hb.size)⟩
theorem of_a_bc (w : World) (hT : Tab w) : Calls Tryd.prog 25 #[.slice (some ⟨w.heap.size + 1 + 1, 0, none⟩) 3 3] (((w.alloc (.cells #[.int .u8 97] 5 (1, 2))).alloc (.cells #[.int .u8 98, .int .u8 99] 5 (2, 3))).alloc (.cells #[.slice (some ⟨w.heap.size, 0, none⟩) 1 1, .slice none 0 0, .slice (some ⟨w.heap.size + 1, 0, none⟩) 2 2] 23)) fun e w' => e = .returned (.agg (V8 (sumS [97, 98, 99])).toArray) ∧ Below w.heap.size w w' := by
  have hb : Below w.heap.size w (((w.alloc (.cells #[.int .u8 97] 5 (1, 2))).alloc (.cells #[.int .u8 98, .int .u8 99] 5 (2, 3))).alloc (.cells #[.slice (some ⟨w.heap.size, 0, none⟩) 1 1, .slice none 0 0, .slice (some ⟨w.heap.size + 1, 0, none⟩) 2 2] 23)) := (((Below.refl _ _).alloc (Nat.le_refl _) _).alloc (by simp) _).alloc (by simp; omega) _
  refine (of_any [[97], [], [98, 99]] _ 3 _ (RS.three (A1 := some ⟨w.heap.size, 0, none⟩) (A2 := none) (A3 := some ⟨w.heap.size + 1, 0, none⟩) (c1 := 1) (c2 := 0) (c3 := 2) (new_block _ _ _ (by simp)) (R0.block ((old_block _ _ _ (by simp; omega)).trans ((old_block _ _ _ (by simp)).trans (heap_alloc_new _ _)))) (R0.nil _ _) (R0.block ((old_block _ _ _ (by simp)).trans (new_block _ _ _ (by simp)))) (by simp) (by simp) (by simp) (by unfold maxLen; omega) (by unfold maxLen; omega) (by unfold maxLen; omega)) (by simp) (by unfold maxLen; omega) (hT.to hb) (by simp)).mono ?_
  rintro e w' ⟨rfl, h⟩
  exact ⟨rfl, hb.trans (h.mono hb.size)⟩

theorem of_a_bc_n (w : World) (N : Nat) (hN : w.heap.size = N) (hT : Tab w) : Calls Tryd.prog 25 #[.slice (some ⟨N + 1 + 1, 0, none⟩) 3 3] (((w.alloc (.cells #[.int .u8 97] 5 (1, 2))).alloc (.cells #[.int .u8 98, .int .u8 99] 5 (2, 3))).alloc (.cells #[.slice (some ⟨N, 0, none⟩) 1 1, .slice none 0 0, .slice (some ⟨N + 1, 0, none⟩) 2 2] 23)) fun e w' => e = .returned (.agg (V8 (sumS [97, 98, 99])).toArray) ∧ Below N w w' := by
  subst hN
  exact of_a_bc w hT

end Go.Proofs.YtdlhpmbgpjjkoaaDoor
