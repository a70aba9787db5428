/-
  Kept here: a description is equal to itself; loads and builds of descriptions in whatever order; what a sender that no call made holds.
-/
import Derived.Test.YtdlhpmbgpjjkoaaDoorFri
set_option linter.unusedSimpArgs false
set_option linter.unusedVariables false
namespace Go.Proofs.YtdlhpmbgpjjkoaaDoor
open Go.RowKit
theorem run_eqV8' {P : Program} (w : World) (d : Nat) (t e : TypeId) (n : Nat) (i : TypeInfo) (ht : P.underlying t = some (.array n e)) (hi : P.info? e = some i) (hc : P.cellsOf e = 1) (he : P.underlying e = some (.int .u8)) (ha : ∀ w, (isAgg e).run P w = .ok false w)
    (xs ys : List Nat) (hx : xs.length = n) (hy : ys.length = n) : (Op.equalIn (d + 2) t (.agg (V8 xs).toArray) (.agg (V8 ys).toArray)).run P w = .ok (xs == ys) w := by
  rw [run_equalIn_array w (d + 1) (V8 xs).toArray (V8 ys).toArray ht hi, hc, run_items w d e he ha xs ys n hx hy (List.range n) (by simp), ← all_range xs ys (hx.trans hy.symm), hx]
theorem infFields : Tryd.prog.underlying 34 = some (.struct (Tryd.prog.fieldsOf 34)) := by kernel_rfl
theorem infStood : Tryd.prog.stoodInHeld 34 = false := by kernel_rfl
theorem infList : (Tryd.prog.fieldsOf 34).toList = [{ name := "ID", type := 22, offset := 0, embedded := false, tag := "", pkgPath := "", byteOffset := 0 }, { name := "Name", type := 9, offset := 1, embedded := false, tag := "", pkgPath := "", byteOffset := 8 }, { name := "Size", type := 3, offset := 2, embedded := false, tag := "", pkgPath := "", byteOffset := 24 }, { name := "Sum", type := 32, offset := 3, embedded := false, tag := "", pkgPath := "", byteOffset := 32 }] := by kernel_rfl
theorem partSum {id n : Nat} {nm : ByteArray} {X : List Nat} (hX : X.length = 32) (W : World) : (part 32 (infL id nm n X).toArray 3).run Tryd.prog W = .ok (.agg (V8 X).toArray) W := by
  obtain ⟨x0, x1, x2, x3, x4, x5, x6, x7, x8, x9, x10, x11, x12, x13, x14, x15, x16, x17, x18, x19, x20, x21, x22, x23, x24, x25, x26, x27, x28, x29, x30, x31, rfl⟩ := list32 hX
  kernel_rfl
theorem partID {id n : Nat} {nm : ByteArray} {X : List Nat} (W : World) : (part 22 (infL id nm n X).toArray 0).run Tryd.prog W = .ok (.int .u64 id) W := by kernel_rfl
theorem partName {id n : Nat} {nm : ByteArray} {X : List Nat} (W : World) : (part 9 (infL id nm n X).toArray 1).run Tryd.prog W = .ok (.string nm) W := by kernel_rfl
theorem partSize {id n : Nat} {nm : ByteArray} {X : List Nat} (W : World) : (part 3 (infL id nm n X).toArray 2).run Tryd.prog W = .ok (.int .i64 n) W := by kernel_rfl
theorem eqInf {id n : Nat} {nm : ByteArray} {X : List Nat} (hX : X.length = 32) (W : World) : (Op.equalIn 10000 34 (.agg (infL id nm n X).toArray) (.agg (infL id nm n X).toArray)).run Tryd.prog W = .ok true W := by
  obtain ⟨i, hi⟩ := infoB
  have e4 : ∀ W : World, (Op.equalIn 9999 32 (.agg (V8 X).toArray) (.agg (V8 X).toArray)).run Tryd.prog W = .ok (X == X) W := fun W => run_eqV8' W 9997 32 5 32 i Tryd.underlying32 hi cells5 Tryd.underlying5 agg5 X X hX hX
  have e1 := fun W => run_equalIn_int (P := Tryd.prog) W 9998 22 .u64 .u64 (id : Int) (id : Int) Tryd.underlying22
  have e2 := fun W => run_equalIn_string (P := Tryd.prog) W 9998 9 nm nm Tryd.underlying9
  have e3 := fun W => run_equalIn_int (P := Tryd.prog) W 9998 3 .i64 .i64 (n : Int) (n : Int) Tryd.underlying3
  rw [show (10000 : Nat) = 9999 + 1 from rfl, run_equalIn_struct W 9999 _ _ _ infFields infStood, infList]
  simp [Op.eqFields, Sem.run_bind, partID, partName, partSize, partSum hX, e4, e1, e2, e3]
theorem exec_load_at {P : Program} {ρ : Operand → Value} {o : Oper} {w : World} (ty : TypeId) (x : Operand) (ho : o.op = .load ty x)
    (g off : Nat) (hx : ρ x = .pointer (some ⟨g, off, none⟩)) (cs : List Value) (d : TypeDesc) (hc : ∀ j v, cs[j]? = some v → w.cell? ⟨g, off + j, none⟩ = some v)
    (hu : P.underlying ty = some d) (hd : (match d with | .struct _ | .array _ _ => true | _ => false) = true) (hi : (P.info? ty).map (·.size) = some cs.length) : (execOp ρ o).run P w = .ok (.value (.agg cs.toArray)) w := by
  unfold execOp
  simp only [ho, hx, Instr.loadAt, Instr.sureAddr, Sem.run_bind, Sem.run_pure, Result.andThen_ok, run_loadVar_at w g off ty cs d hc hu hd hi]
theorem exec_build {P : Program} {ρ : Operand → Value} {o : Oper} {w : World} (t : TypeId) (parts : Array (Nat × Operand)) (ho : o.op = .build t parts) (cells : Array Value)
    (hf : P.built t (parts.map fun (i, x) => (i, ρ x)).toList = some cells) : (execOp ρ o).run P w = .ok (.value (.agg cells)) w := by
  unfold execOp
  simp only [ho, Sem.run_bind, run_build w t _ cells hf, Result.andThen_ok]
  rfl
set_option maxRecDepth 100000 in
theorem built_inf (id : Nat) (nm : ByteArray) (n : Nat) {X : List Nat} (h : X.length = 32) : Tryd.prog.built 34 [(0, .int .u64 id), (1, .string nm), (2, .int .i64 n), (3, .agg (V8 X).toArray)] = some (infL id nm n X).toArray := by
  obtain ⟨x0, x1, x2, x3, x4, x5, x6, x7, x8, x9, x10, x11, x12, x13, x14, x15, x16, x17, x18, x19, x20, x21, x22, x23, x24, x25, x26, x27, x28, x29, x30, x31, rfl⟩ := list32 h
  kernel_rfl
theorem built_map : Tryd.prog.built 38 [] = some #[.int .i64 0, .int .u64 0] := by kernel_rfl
theorem cancel_nil_b (w : World) : Calls Tryd.prog 18 #[.pointer none] w fun e w' => e = .returned (.int .i64 6) ∧ Below w.heap.size w w' := (cancel_nil w).mono fun _ _ ⟨h, e⟩ => ⟨h, e ▸ Below.refl _ _⟩
theorem left_nil_b (w : World) : Calls Tryd.prog 20 #[.pointer none] w fun e w' => e = .returned (.int .i64 0) ∧ Below w.heap.size w w' := (left_nil w).mono fun _ _ ⟨h, e⟩ => ⟨h, e ▸ Below.refl _ _⟩
theorem state_nil_b (w : World) : Calls Tryd.prog 22 #[.pointer none] w fun e w' => e = .returned (.int .i64 0) ∧ Below w.heap.size w w' := (state_nil w).mono fun _ _ ⟨h, e⟩ => ⟨h, e ▸ Below.refl _ _⟩
theorem state_zero_b {w : World} {g : Nat} (h : w.cell? ⟨g, 0, none⟩ = some (.int .u64 0)) : Calls Tryd.prog 22 #[.pointer (some ⟨g, 0, none⟩)] w fun e w' => e = .returned (.int .i64 0) ∧ Below w.heap.size w w' := (state_zero h).mono fun _ _ ⟨h, e⟩ => ⟨h, e ▸ Below.refl _ _⟩
end Go.Proofs.YtdlhpmbgpjjkoaaDoor
