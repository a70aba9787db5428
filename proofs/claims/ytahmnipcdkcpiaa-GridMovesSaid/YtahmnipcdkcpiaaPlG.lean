/-
  Proved here: what is known of what is done to a grid, as an argument.
-/
import Derived.Test.YtahmnipcdkcpiaaPlC
import Derived.Lib.SmallJoins
set_option linter.unusedVariables false
set_option linter.unusedSimpArgs false
namespace Go.Proofs.Ytahmnipcdkcpiaa
open Go.ChangeShapes Go.WideShapes Go.ChangeAt Go.RowKit
theorem cellsOp : Try.prog.cellsOf 41 = 8 := by kernel_rfl
theorem cellsCe : Try.prog.cellsOf 39 = 4 := by kernel_rfl
theorem cellsSt : Try.prog.cellsOf 37 = 3 := by kernel_rfl
theorem cellsI : Try.prog.cellsOf 3 = 1 := by kernel_rfl
theorem cellsI32 : Try.prog.cellsOf 21 = 1 := by kernel_rfl
theorem cellsU8 : Try.prog.cellsOf 5 = 1 := by kernel_rfl
theorem cellsU32 : Try.prog.cellsOf 35 = 1 := by kernel_rfl
theorem array8 {α : Type} {cs : Array α} (h : cs.size = 8) : ∃ c0 c1 c2 c3 c4 c5 c6 c7, cs = #[c0, c1, c2, c3, c4, c5, c6, c7] := by
  obtain ⟨l⟩ := cs
  match l, h with
  | [c0, c1, c2, c3, c4, c5, c6, c7], _ => exact ⟨c0, c1, c2, c3, c4, c5, c6, c7, rfl⟩
/-- What is done to a grid, as a value. -/
def OpV (v : Value) : Prop := ∃ (kd a b n p f g k : Int), v = .agg #[.int .i64 kd, .int .i64 a, .int .i64 b, .int .i64 n, .int .i32 p, .int .u8 f, .int .u32 g, .int .u32 k] ∧
  ((-9223372036854775808 ≤ kd ∧ kd ≤ 9223372036854775807) ∧ (-9223372036854775808 ≤ a ∧ a ≤ 9223372036854775807) ∧ (-9223372036854775808 ≤ b ∧ b ≤ 9223372036854775807) ∧ (-9223372036854775808 ≤ n ∧ n ≤ 9223372036854775807))
set_option maxRecDepth 100000 in
theorem open_op {H : Type} {enc : TypeId × Value → H} {W : World} {r : Reach} {b0 base : Nat} {sp : Nat → Bool} {held : Bool} {v : Value} {dd : DataW H} {pl : List MemPlace} (hv : Value.okWide Try.prog W r b0 41 v) (h : DataW.Trod enc Try.prog W base sp held 41 v dd pl) :
    ∃ u : Unit, OpV v := by
  obtain ⟨cs, rfl, hsz⟩ := okWide_struct Try.underlying41 hv
  obtain ⟨c0, c1, c2, c3, c4, c5, c6, c7, rfl⟩ := array8 (hsz.trans cellsOp)
  obtain ⟨fuel, hf⟩ := h
  obtain ⟨ys, n, _, _, _, hyl, hF⟩ := DataW.trod_struct Try.underlying41 hf
  match ys, hyl with
  | [y0, y1, y2, y3, y4], _ =>
    have f0 := hF 0 _ rfl
    have f1 := hF 1 _ rfl
    have f2 := hF 2 _ rfl
    have f3 := hF 3 _ rfl
    have f4 := hF 4 _ rfl
    simp [Value.cells, cellsI, cellsI32, cellsU8, cellsU32, cellsCe, cellsSt] at f0 f1 f2 f3 f4
    obtain ⟨t0, e0, _, w0⟩ := DataW.trod_int Try.underlying3 f0
    obtain ⟨t1, e1, _, w1⟩ := DataW.trod_int Try.underlying3 f1
    obtain ⟨t2, e2, _, w2⟩ := DataW.trod_int Try.underlying3 f2
    obtain ⟨t3, e3, _, w3⟩ := DataW.trod_int Try.underlying3 f3
    obtain ⟨zs, n', _, _, _, hzl, hG⟩ := DataW.trod_struct Try.underlying39 f4
    match zs, hzl with
    | [z0, z1], _ =>
      have g0 := hG 0 _ rfl
      have g1 := hG 1 _ rfl
      simp [cellsI, cellsI32, cellsU8, cellsU32, cellsCe, cellsSt] at g0 g1
      obtain ⟨t4, e4, _, w4⟩ := DataW.trod_int Try.underlying21 g0
      obtain ⟨qs, n'', _, _, _, hql, hQ⟩ := DataW.trod_struct Try.underlying37 g1
      match qs, hql with
      | [q0, q1, q2], _ =>
        have k0 := hQ 0 _ rfl
        have k1 := hQ 1 _ rfl
        have k2 := hQ 2 _ rfl
        simp [cellsI, cellsI32, cellsU8, cellsU32, cellsCe, cellsSt] at k0 k1 k2
        obtain ⟨t5, e5, _, w5⟩ := DataW.trod_int Try.underlying5 k0
        obtain ⟨t6, e6, _, w6⟩ := DataW.trod_int Try.underlying35 k1
        obtain ⟨t7, e7, _, w7⟩ := DataW.trod_int Try.underlying35 k2
        simp at e0 e1 e2 e3 e4 e5 e6 e7
        subst e0 e1 e2 e3 e4 e5 e6 e7
        exact ⟨(), t0, t1, t2, t3, t4, t5, t6, t7, rfl, bounds_i64 w0, bounds_i64 w1, bounds_i64 w2, bounds_i64 w3⟩
end Go.Proofs.Ytahmnipcdkcpiaa
