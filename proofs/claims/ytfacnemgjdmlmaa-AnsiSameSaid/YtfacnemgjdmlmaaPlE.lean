/-
  Proved here: what is known of an event, as an argument.
-/
import Derived.Test.YtfacnemgjdmlmaaPlC
import Derived.Lib.SmallJoins
set_option linter.unusedVariables false
set_option linter.unusedSimpArgs false
namespace Go.Proofs.Ytfacnemgjdmlmaa
open Go.ChangeShapes Go.WideShapes Go.ChangeAt Go.RowKit
theorem cellsEv : Try.prog.cellsOf 40 = 7 := by kernel_rfl
theorem cellsI : Try.prog.cellsOf 3 = 1 := by kernel_rfl
theorem cellsI32 : Try.prog.cellsOf 21 = 1 := by kernel_rfl
theorem cellsU8 : Try.prog.cellsOf 5 = 1 := by kernel_rfl
theorem cellsIs : Try.prog.cellsOf 36 = 1 := by kernel_rfl
theorem cellsStr : Try.prog.cellsOf 9 = 1 := by kernel_rfl
theorem array7 {α : Type} {cs : Array α} (h : cs.size = 7) : ∃ c0 c1 c2 c3 c4 c5 c6, cs = #[c0, c1, c2, c3, c4, c5, c6] := by
  obtain ⟨l⟩ := cs
  match l, h with
  | [c0, c1, c2, c3, c4, c5, c6], _ => exact ⟨c0, c1, c2, c3, c4, c5, c6, rfl⟩
/-- An event, as a value. -/
def EvV (W : World) (v : Value) : Prop := ∃ (a0 a1 a2 a3 a4 : Int) (A : Option Addr) (n c : Nat) (s : ByteArray) (L : List Int), v = .agg #[.int .i64 a0, .int .i32 a1, .int .u8 a2, .int .u8 a3, .int .u8 a4, .slice A n c, .string s] ∧ SlI .i64 W A n c L
set_option maxRecDepth 100000 in
theorem open_ev {H : Type} {enc : TypeId × Value → H} {W : World} {r : Reach} {b0 base : Nat} {sp : Nat → Bool} {held : Bool} {v : Value} {dd : DataW H} {pl : List MemPlace} (hv : Value.okWide Try.prog W r b0 40 v) (h : DataW.Trod enc Try.prog W base sp held 40 v dd pl) :
    ∃ u : Unit, EvV W v := by
  obtain ⟨cs, rfl, hsz⟩ := okWide_struct Try.underlying40 hv
  obtain ⟨c0, c1, c2, c3, c4, c5, c6, rfl⟩ := array7 (hsz.trans cellsEv)
  obtain ⟨fuel, hf⟩ := h
  obtain ⟨ys, n, _, _, _, hyl, hF⟩ := DataW.trod_struct Try.underlying40 hf
  match ys, hyl with
  | [y0, y1, y2, y3, y4, y5, y6], _ =>
    have f0 := hF 0 _ rfl
    have f1 := hF 1 _ rfl
    have f2 := hF 2 _ rfl
    have f3 := hF 3 _ rfl
    have f4 := hF 4 _ rfl
    have f5 := hF 5 _ rfl
    have f6 := hF 6 _ rfl
    simp [Value.cells, cellsI, cellsI32, cellsU8, cellsIs, cellsStr] at f0 f1 f2 f3 f4 f5 f6
    obtain ⟨t0, e0, _, w0⟩ := DataW.trod_int Try.underlying3 f0
    obtain ⟨t1, e1, _, w1⟩ := DataW.trod_int Try.underlying21 f1
    obtain ⟨t2, e2, _, w2⟩ := DataW.trod_int Try.underlying5 f2
    obtain ⟨t3, e3, _, w3⟩ := DataW.trod_int Try.underlying5 f3
    obtain ⟨t4, e4, _, w4⟩ := DataW.trod_int Try.underlying5 f4
    obtain ⟨A, l, c, e5⟩ := Go.Joins.slice_form Try.underlying36 f5
    obtain ⟨s, e6, _, hm⟩ := DataW.trod_string Try.underlying9 f6
    simp at e0 e1 e2 e3 e4 e5 e6
    subst e0 e1 e2 e3 e4 e5 e6
    obtain ⟨zs, hs⟩ := open_slI Try.underlying36 Try.underlying3 (by kernel_rfl) f5
    exact ⟨(), t0, t1, t2, t3, t4, A, l, c, s, zs, rfl, hs⟩
end Go.Proofs.Ytfacnemgjdmlmaa
