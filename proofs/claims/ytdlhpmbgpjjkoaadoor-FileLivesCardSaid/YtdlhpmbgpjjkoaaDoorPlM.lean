/-
  Proved here: what is known of a map of chunks as an argument.
-/
import Derived.Test.YtdlhpmbgpjjkoaaDoorPlC
import Derived.Test.YtdlhpmbgpjjkoaaDoorMa
import Derived.Lib.SmallJoins
set_option linter.unusedVariables false
set_option linter.unusedSimpArgs false
namespace Go.Proofs.YtdlhpmbgpjjkoaaDoor
open Go.ChangeShapes Go.WideShapes Go.ChangeAt Go.RowKit
theorem cellsMap : Tryd.prog.cellsOf 38 = 2 := by kernel_rfl
theorem cellsInt : Tryd.prog.cellsOf 3 = 1 := by kernel_rfl
theorem cellsU64 : Tryd.prog.cellsOf 22 = 1 := by kernel_rfl
theorem array2 {α : Type} {cs : Array α} (h : cs.size = 2) : ∃ c0 c1, cs = #[c0, c1] := by
  obtain ⟨l⟩ := cs
  match l, h with
  | [c0, c1], _ => exact ⟨c0, c1, rfl⟩
/-- A map of chunks, as a value. -/
def MapV (v : Value) : Prop := ∃ (n : Int) (b : Nat), v = mV n b ∧ b < 18446744073709551616 ∧ -9223372036854775808 ≤ n ∧ n ≤ 9223372036854775807
set_option maxRecDepth 100000 in
theorem open_map {H : Type} {enc : TypeId × Value → H} {W : World} {r : Reach} {b0 base : Nat} {sp : Nat → Bool} {held : Bool} {v : Value} {dd : DataW H} {pl : List MemPlace} (hv : Value.okWide Tryd.prog W r b0 38 v) (h : DataW.Trod enc Tryd.prog W base sp held 38 v dd pl) : ∃ u : Unit, MapV v := by
  obtain ⟨cs, rfl, hsz⟩ := okWide_struct Tryd.underlying38 hv
  obtain ⟨c0, c1, rfl⟩ := array2 (hsz.trans cellsMap)
  obtain ⟨fuel, hf⟩ := h
  obtain ⟨ys, n, _, _, _, hyl, hF⟩ := DataW.trod_struct Tryd.underlying38 hf
  match ys, hyl with
  | [y0, y1], _ =>
    have f0 := hF 0 _ rfl
    have f1 := hF 1 _ rfl
    simp [Value.cells, cellsInt, cellsU64] at f0 f1
    obtain ⟨t0, e0, _, w0⟩ := DataW.trod_int Tryd.underlying3 f0
    obtain ⟨t1, e1, _, w1⟩ := DataW.trod_int Tryd.underlying22 f1
    simp at e0 e1
    subst e0 e1
    have b0 := bounds_i64 w0
    have b1 := bounds_u64 w1
    refine ⟨(), t0, t1.toNat, ?_, by omega, by omega, by omega⟩
    unfold mV
    rw [show ((t1.toNat : Nat) : Int) = t1 by omega]
end Go.Proofs.YtdlhpmbgpjjkoaaDoor
