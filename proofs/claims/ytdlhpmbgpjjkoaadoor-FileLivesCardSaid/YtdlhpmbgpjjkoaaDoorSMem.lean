/-
  Proved here, over any program: an array that is a value is read at an index; cells side by side are read as one array and written as one, wherever they lie in their block. And how lists of bytes and of words lie in memory.
-/
import Derived.Test.YtdlhpmbgpjjkoaaDoorSOps
import Derived.Laws.Rows
import Derived.Laws.CopyRow
import Derived.Lib.Hide
import Derived.Below
namespace Go.Proofs.YtdlhpmbgpjjkoaaDoor
open Go.RowKit

/-- Bytes, and words, as the model's values. -/
def V8 (l : List Nat) : List Value := l.map fun n : Nat => .int .u8 (n : Int)
def V32 (l : List Nat) : List Value := l.map fun n : Nat => .int .u32 (n : Int)
@[simp] theorem length_V8 (l : List Nat) : (V8 l).length = l.length := by simp [V8]
@[simp] theorem length_V32 (l : List Nat) : (V32 l).length = l.length := by simp [V32]
theorem V8_get {l : List Nat} {i : Nat} (h : i < l.length) : (V8 l)[i]? = some (.int .u8 (l.getD i 0 : Nat)) := by simp [V8, List.getD, h]
theorem V32_get {l : List Nat} {i : Nat} (h : i < l.length) : (V32 l)[i]? = some (.int .u32 (l.getD i 0 : Nat)) := by simp [V32, List.getD, h]
theorem one_V8 (l : List Nat) : ∀ u ∈ V8 l, u.oneCell' = true := by
  intro u hu
  obtain ⟨x, _, rfl⟩ := List.mem_map.1 hu
  rfl
theorem one_V32 (l : List Nat) : ∀ u ∈ V32 l, u.oneCell' = true := by
  intro u hu
  obtain ⟨x, _, rfl⟩ := List.mem_map.1 hu
  rfl
theorem V8_append (a b : List Nat) : V8 (a ++ b) = V8 a ++ V8 b := by simp [V8]
theorem V32_set (l : List Nat) (i v : Nat) : (V32 l).set i (.int .u32 (v : Int)) = V32 (l.set i v) := by
  simp [V32]
theorem V8_set (l : List Nat) (i v : Nat) : (V8 l).set i (.int .u8 (v : Int)) = V8 (l.set i v) := by
  simp [V8]

variable {P : Program}

theorem ix_agg (w : World) (t e : TypeId) (n : Nat) (cs : Array Value) (i : Nat) (v : Value) (h : P.underlying t = some (.array n e)) (he : ∀ w, (isAgg e).run P w = .ok false w) (hs : ∀ w, (sizeOf e).run P w = .ok 1 w) (hi : i < n) (hv : cs[i]? = some v) :
    (Instr.index t (.agg cs) (.int .i64 (i : Int))).run P w = .ok v w := by
  simp [Instr.index, run_underlying h, asIntOf, hs, part, he, hv, go_sem]
  intro h'
  omega

/-- Cells side by side, read as one array. -/
theorem run_loadVar_at (w : World) (g o : Nat) (ty : TypeId) (cs : List Value) (d : TypeDesc) (hc : ∀ j v, cs[j]? = some v → w.cell? ⟨g, o + j, none⟩ = some v)
    (hu : P.underlying ty = some d) (hd : (match d with | .struct _ | .array _ _ => true | _ => false) = true) (hi : (P.info? ty).map (·.size) = some cs.length) :
    (loadVar ty ⟨g, o, none⟩).run P w = .ok (.agg cs.toArray) w := by
  have hl : (loadCells ⟨g, o, none⟩ cs.length).run P w = .ok cs.toArray w :=
    run_loadCells_list (P := P) w ⟨g, o, none⟩ cs (fun j v hv => by
      have hadd : (⟨g, o, none⟩ : Addr).add j = ⟨g, o + j, none⟩ := by unfold Addr.add; split <;> simp_all
      rw [hadd]
      exact hc j v hv)
  cases hq : P.info? ty with
  | none => simp [hq] at hi
  | some i =>
    have hs : i.size = cs.length := by simpa [hq] using hi
    have hagg : (isAgg ty).run P w = .ok true w := by
      unfold isAgg
      rw [Sem.run_bind, run_underlying hu w]
      cases d <;> simp_all
    simp [loadVar, Sem.run_bind, hagg, sizeOf, typeInfo, hq, hs, hl]

theorem wpList_load_at {ops : Array Oper} {rest : List Oper} {o : Oper} {a : Act} {w : World} {Q : Exit → Act → World → Prop} (hgd : o.guard = none) (ty : TypeId) (x : Operand) (ho : o.op = .load ty x)
    (g off : Nat) (hx : a.eval x = .pointer (some ⟨g, off, none⟩)) (cs : List Value) (d : TypeDesc) (hc : ∀ j v, cs[j]? = some v → w.cell? ⟨g, off + j, none⟩ = some v)
    (hu : P.underlying ty = some d) (hd : (match d with | .struct _ | .array _ _ => true | _ => false) = true) (hi : (P.info? ty).map (·.size) = some cs.length)
    (h : wpList P ops Q rest (a.put o.dst (.agg cs.toArray)) w) : wpList P ops Q (o :: rest) a w :=
  wpList_plain hgd fun _ hK => by
    unfold Oper.wp execOp
    simp only [ho, hx, Instr.loadAt, Instr.sureAddr, Sem.run_bind, Sem.run_pure, Result.andThen_ok, run_loadVar_at w g off ty cs d hc hu hd hi]
    exact hK _ _ h

/-- An array written into cells side by side. -/
theorem run_storeVar_at (w : World) (g o : Nat) (t ty : TypeId) (cur : Array Value) (cells : List Value) (hg : w.heap[g]? = some (.cells cur t (0, 0))) (hi : (P.info? ty).map (·.size) = some cells.length)
    (hf : o + cells.length ≤ cur.size) (h1 : ∀ v ∈ cells, v.oneCell' = true) :
    (storeVar ty ⟨g, o, none⟩ (.agg cells.toArray)).run P w = .ok () (w.setRow g (cur.toList.take o ++ cells ++ cur.toList.drop (o + cells.length)).toArray) := by
  have := run_storeCells_at (P := P) g o t cells 0 cur w hg (by simpa using hf) h1
  cases hq : P.info? ty with
  | none => simp [hq] at hi
  | some i =>
    have hs : cells.length = i.size := by simp [hq] at hi; omega
    simp only [Nat.add_zero] at this
    simp [storeVar, sizeOf, typeInfo, hq, Value.cells, ← hs, this]

theorem wpList_store_at {ops : Array Oper} {rest : List Oper} {o : Oper} {a : Act} {w : World} {Q : Exit → Act → World → Prop} (hgd : o.guard = none) (ty : TypeId) (x y : Operand) (ho : o.op = .store ty x y)
    (g off : Nat) (cells : List Value) (hx : a.eval x = .pointer (some ⟨g, off, none⟩)) (hy : a.eval y = .agg cells.toArray)
    (t : TypeId) (cur : Array Value) (hg : w.heap[g]? = some (.cells cur t (0, 0))) (hi : (P.info? ty).map (·.size) = some cells.length)
    (hf : off + cells.length ≤ cur.size) (h1 : ∀ v ∈ cells, v.oneCell' = true)
    (h : wpList P ops Q rest (a.put o.dst undef) (w.setRow g (cur.toList.take off ++ cells ++ cur.toList.drop (off + cells.length)).toArray)) : wpList P ops Q (o :: rest) a w :=
  wpList_plain hgd fun _ hK => by
    unfold Oper.wp execOp
    simp only [ho, hx, hy, Instr.storeAt, Instr.sureAddr, Sem.run_bind, Sem.run_pure, Result.andThen_ok, run_storeVar_at w g off t ty cur cells hg hi hf h1]
    exact hK _ _ h
end Go.Proofs.YtdlhpmbgpjjkoaaDoor
