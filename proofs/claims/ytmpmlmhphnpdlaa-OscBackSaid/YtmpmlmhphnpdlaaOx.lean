/-
  Proved here: what is known of what is asked, as an argument.
-/
import Derived.Test.YtmpmlmhphnpdlaaPlC
import Derived.Test.YtmpmlmhphnpdlaaBs
import Derived.Lib.SmallJoins
set_option linter.unusedVariables false
namespace Go.Proofs.Ytmpmlmhphnpdlaa
open Go.ChangeShapes Go.WideShapes Go.ChangeAt Go.RowKit
theorem cellsAsk : Try.prog.cellsOf 72 = 2 := by kernel_rfl
/-- What is asked, as a value. -/
def AskV (v : Value) (k : Int) (d : List Int) : Prop := v = .agg #[.int .i64 k, .string (strOfNums d)] ∧ IsBytes d ∧ d.length ≤ 9223372036854775807 ∧ (-9223372036854775808 ≤ k ∧ k < 9223372036854775808)
set_option maxRecDepth 100000 in
theorem open_ask {H : Type} {enc : TypeId × Value → H} {W : World} {r : Reach} {b0 base : Nat} {sp : Nat → Bool} {held : Bool} {v : Value} {dd : DataW H} {pl : List MemPlace} (hv : Value.okWide Try.prog W r b0 72 v) (h : DataW.Trod enc Try.prog W base sp held 72 v dd pl) :
    ∃ kd : Int × List Int, AskV v kd.1 kd.2 := by
  obtain ⟨c0, c1, y0, y1, n, rfl, _, _, hy0, hy1⟩ := Go.Joins.open_agg2 Try.underlying72 (by kernel_rfl) cellsAsk hv h
  obtain ⟨t0, e0, _, w0⟩ := DataW.trod_int Try.underlying3 hy0
  have hc0 : c0 = .int .i64 t0 := by simpa using e0
  subst hc0
  obtain ⟨s, e1, _, hm⟩ := DataW.trod_string Try.underlying9 hy1
  have hc1 : c1 = .string s := by simpa using e1
  subst hc1
  have hb := bounds_i64 w0
  refine ⟨(t0, numsOf s), by rw [← str_list s], str_bytes s, ?_, by dsimp only; omega⟩
  unfold maxLen at hm
  have hl : (numsOf s).length = s.size := by simp [numsOf]
  rw [hl]; exact hm
/-- A text that comes in, as a list. -/
theorem text_len (s : ByteArray) : (numsOf s).length = s.size := by simp [numsOf]
end Go.Proofs.Ytmpmlmhphnpdlaa
