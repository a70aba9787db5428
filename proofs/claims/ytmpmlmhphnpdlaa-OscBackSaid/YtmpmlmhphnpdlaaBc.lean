/-
  Proved here: of the program's base: Size, number, mayPad; and strings.IndexByte.
-/
import Derived.Test.YtmpmlmhphnpdlaaBw
import Derived.Lib.Bytealg
import Derived.Laws.Twins
import Derived.BigQuiet
set_option linter.unusedSimpArgs false
set_option linter.unusedVariables false
namespace Go.Proofs.Ytmpmlmhphnpdlaa
open Go.RowKit
theorem slIndexByte (s : ByteArray) (c : Int) (w : World) : Calls Try.prog 85 #[.string s, .int .u8 c] w fun e w' => e = .returned (.int .i64 (Lib.indexByte s.data.toList c.toNat.toUInt8)) ∧ w = w' := by
  go_enter Try.func85, Try.ntmps85
  go_wp2
  rw [run_callFunc_extern Try.func90 (by kernel_rfl) (by kernel_rfl) (by kernel_rfl) (e := Extern.BytealgIndexByte.indexByte) (by kernel_rfl), Lib.run_indexByteString]
  simp only [Result.andThen]
  rw [Oper.upon_value]
  go_wp2
  go_ret
  exact ⟨rfl, rfl⟩
theorem stIndexByte (s : ByteArray) (c : Int) (w : World) : Calls Try.prog 92 #[.string s, .int .u8 c] w fun e w' => e = .returned (.int .i64 (Lib.indexByte s.data.toList c.toNat.toUInt8)) ∧ w = w' := by
  go_enter Try.func92, Try.ntmps92
  go_wp2_with fail
  refine (slIndexByte s c w).mono ?_
  rintro e w' ⟨rfl, rfl⟩
  go_wp2
  go_ret
  exact ⟨rfl, rfl⟩
theorem alpha_idx : ∀ v : Fin 128, Lib.indexByte alphaT.data.toList (UInt8.ofNat v.1) = valL v.1 := by decide +kernel
theorem alpha_hi : ∀ v : Fin 256, 128 ≤ v.1 → Lib.indexByte (alphaT.data.toList.drop 1) (UInt8.ofNat v.1) = -1 := by decide +kernel
/-- May a pad stand there? -/
def mayS (place before : Int) (padded : Bool) : Bool := if place = 2 then decide (before % 16 = 0) else if place = 3 then padded || decide (before % 4 = 0) else false
theorem mayPad_any (place before : Int) (padded : Bool) (w : World) (hb : 0 ≤ before) (hb2 : before < 64) : Calls Try.prog 83 #[.int .i64 place, .int .i64 before, .bool padded] w fun e w' => e = .returned (.bool (mayS place before padded)) ∧ w = w' := by
  have a15 : bits .and .i64 before 15 = before % 16 := bits_mask .i64 7 (by decide) (fun n h1 h2 => IntWalk.i64_in _ (by omega)) 4 (by decide) before (by omega) (by omega)
  have a3 : bits .and .i64 before 3 = before % 4 := bits_mask .i64 7 (by decide) (fun n h1 h2 => IntWalk.i64_in _ (by omega)) 2 (by decide) before (by omega) (by omega)
  by_cases h2 : place = 2
  · have e : mayS place before padded = (before % 16 == 0) := by unfold mayS; rw [if_pos h2]; exact Bool.eq_iff_iff.2 (by simp)
    rw [e]
    subst h2
    clear e
    go_enter Try.func83, Try.ntmps83
    go_wp2
    go_ret
    exact ⟨rfl, rfl⟩
  by_cases h3 : place = 3
  · have e : mayS place before padded = (padded || (before % 4 == 0)) := by unfold mayS; rw [if_neg h2, if_pos h3]; exact Bool.eq_iff_iff.2 (by simp)
    rw [e]
    subst h3
    clear e
    cases padded
    · go_enter Try.func83, Try.ntmps83
      go_wp2
      go_ret
      exact ⟨ret_bool (by simp), rfl⟩
    · go_enter Try.func83, Try.ntmps83
      go_wp2
      go_ret
      exact ⟨rfl, rfl⟩
  · have e : mayS place before padded = false := by unfold mayS; rw [if_neg h2, if_neg h3]
    rw [e]
    have z2 : (place == 2) = false := by simpa using h2
    have z3 : (place == 3) = false := by simpa using h3
    clear e
    go_enter Try.func83, Try.ntmps83
    go_wp2
    go_ret
    exact ⟨rfl, rfl⟩
theorem valid_any (c : Int) (w : World) (h : (0 ≤ c ∧ c < 55296) ∨ (57343 < c ∧ c < 1114112)) : Calls Try.prog 93 #[.int .i32 c] w fun e w' => e = .returned (.bool true) ∧ w = w' := by
  by_cases h1 : c < 55296
  · have d1 : decide (0 ≤ c) = true := by simp; omega
    go_enter Try.func93, Try.ntmps93
    go_wp2
    go_ret
    exact ⟨rfl, rfl⟩
  · have d1 : decide (0 ≤ c) = true := by simp; omega
    have d2 : decide (c < 55296) = false := by simp; omega
    have d3 : decide (57343 < c) = true := by simp; omega
    have d4 : decide (c ≤ 1114111) = true := by simp; omega
    go_enter Try.func93, Try.ntmps93
    go_wp2
    go_ret
    exact ⟨rfl, rfl⟩
set_option maxRecDepth 1000000 in
set_option maxHeartbeats 2000000 in
theorem indexRune_lo (c : Int) (w : World) (h0 : 0 ≤ c) (h1 : c < 128) : Calls Try.prog 89 #[.string alphaT, .int .i32 c] w fun e w' => e = .returned (.int .i64 (valL c)) ∧ w = w' := by
  have hx : Lib.indexByte alphaT.data.toList c.toNat.toUInt8 = valL c := by
    have := alpha_idx ⟨c.toNat, by omega⟩
    simp only at this
    rw [show ((c.toNat : Nat) : Int) = c by omega] at this
    exact this
  have HIB := Lib.hid (fun W : World => hx ▸ stIndexByte alphaT c W)
  clear hx
  go_enter Try.func89, Try.ntmps89
  go_wp2_with fail
  refine (HIB.out _).mono ?_
  rintro e w' ⟨rfl, rfl⟩
  go_wp2
  go_ret
  exact ⟨rfl, rfl⟩
theorem number_lo (c : Int) (w : World) (h0 : 0 ≤ c) (h1 : c < 128) : Calls Try.prog 84 #[.int .i32 c] w fun e w' => e = .returned (.int .i64 (valL c)) ∧ w = w' := by
  go_enter Try.func84, Try.ntmps84
  go_wp2_with fail
  refine (indexRune_lo c w h0 h1).mono ?_
  rintro e w' ⟨rfl, rfl⟩
  go_wp2
  go_ret
  exact ⟨rfl, rfl⟩
end Go.Proofs.Ytmpmlmhphnpdlaa
