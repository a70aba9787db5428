/-
  Proved here: of the document's styles: Right, tell.
-/
import Derived.Test.YtohhmpkmcodoeaaDoorYb
import Derived.Test.YtohhmpkmcodoeaaDoorOwI
set_option linter.unusedSimpArgs false
set_option linter.unusedVariables false
namespace Go.Proofs.YtohhmpkmcodoeaaDoor
open Go.RowKit
/-- A style that may stand in memory. -/
structure Good (s : Sty) : Prop where
  len : s.fs.length = 8
  fg : 0 ≤ s.fg ∧ s.fg < 4294967296
  bg : 0 ≤ s.bg ∧ s.bg < 4294967296
abbrev styV (s : Sty) : Value := .agg (styL s).toArray
theorem eight {l : List Bool} (h : l.length = 8) : ∃ a b c d e f g i, l = [a, b, c, d, e, f, g, i] := by
  match l, h with
  | [a, b, c, d, e, f, g, i], _ => exact ⟨a, b, c, d, e, f, g, i, rfl⟩
theorem ry_right (s : Sty) (w : World) (hs : Good s) : Calls Tryd.prog 13 #[styV s] w fun e w' => e = .returned (.bool (rightS s)) ∧ Below w.heap.size w w' := by
  obtain ⟨fs, fg, bg⟩ := s
  obtain ⟨f0, f1, f2, f3, f4, f5, f6, f7, rfl⟩ := eight hs.len
  obtain ⟨a, ha⟩ : ∃ a, colB fg = a := ⟨_, rfl⟩
  obtain ⟨b, hb⟩ : ∃ b, colB bg = b := ⟨_, rfl⟩
  have H1 := Lib.hid (fun W : World => ha ▸ ry_colour fg W hs.fg.1 hs.fg.2)
  have H2 := Lib.hid (fun W : World => hb ▸ ry_colour bg W hs.bg.1 hs.bg.2)
  have e : rightS ⟨[f0, f1, f2, f3, f4, f5, f6, f7], fg, bg⟩ = (a && b) := by rw [← ha, ← hb]; rfl
  rw [e]
  clear e ha hb hs
  show Calls Tryd.prog 13 #[.agg #[.bool f0, .bool f1, .bool f2, .bool f3, .bool f4, .bool f5, .bool f6, .bool f7, .int .u32 fg, .int .u32 bg]] w _
  cases a
  · go_enter Tryd.func13, Tryd.ntmps13
    go_wp2_with fail
    refine (H1.out _).mono ?_
    rintro e wx ⟨rfl, rfl⟩
    go_wp2
    go_ret
    exact ⟨rfl, (Below.refl _ _).alloc (Nat.le_refl _) _⟩
  · go_enter Tryd.func13, Tryd.ntmps13
    go_wp2_with fail
    refine (H1.out _).mono ?_
    rintro e wx ⟨rfl, rfl⟩
    go_wp2_with fail
    refine (H2.out _).mono ?_
    rintro e wx ⟨rfl, rfl⟩
    go_wp2
    go_ret
    exact ⟨ret_bool (by simp), (Below.refl _ _).alloc (Nat.le_refl _) _⟩
theorem ry_tell (a c : Int) (w : World) (h0 : 0 ≤ c) (h1 : c < 4294967296) : Calls Tryd.prog 22 #[.int .i64 a, .int .u32 c] w fun e w' => ∃ v, e = .returned v ∧ OwnI w v (tellS a c) w' := by
  obtain ⟨q, hq⟩ : ∃ q, c / 16777216 = q := ⟨_, rfl⟩
  by_cases a1 : q = 1
  · obtain ⟨x, hx⟩ : ∃ x, c % 256 = x := ⟨_, rfl⟩
    have e : tellS a c = [a, 5, x] := by unfold tellS; rw [hq, if_pos a1, hx]
    rw [e]
    subst a1
    have HO := Lib.hid (OwnI.lit w [a, 5, x] 3 rfl (by omega))
    have x0 : 0 ≤ x := by omega
    have x1 : x < 256 := by omega
    clear e
    go_enter Tryd.func22, Tryd.ntmps22
    go_wp2
    go_ret
    exact ⟨_, rfl, HO.out⟩
  have z1 : (q == 1) = false := by simpa using a1
  by_cases a2 : q = 2
  · obtain ⟨x, hx⟩ : ∃ x, c / 65536 % 256 = x := ⟨_, rfl⟩
    obtain ⟨y, hy⟩ : ∃ y, c / 256 % 256 = y := ⟨_, rfl⟩
    obtain ⟨z, hz⟩ : ∃ z, c % 256 = z := ⟨_, rfl⟩
    have e : tellS a c = [a, 2, x, y, z] := by unfold tellS; rw [hq, if_neg a1, if_pos a2, hx, hy, hz]
    rw [e]
    have HO := Lib.hid (OwnI.lit w [a, 2, x, y, z] 5 rfl (by omega))
    have x0 : 0 ≤ x := by omega
    have x1 : x < 256 := by omega
    have y0 : 0 ≤ y := by omega
    have y1 : y < 256 := by omega
    have u0 : 0 ≤ z := by omega
    have u1 : z < 256 := by omega
    subst a2
    clear e a1
    go_enter Tryd.func22, Tryd.ntmps22
    go_wp2
    go_ret
    exact ⟨_, rfl, HO.out⟩
  · have e : tellS a c = [] := by unfold tellS; rw [hq, if_neg a1, if_neg a2]
    rw [e]
    have z2 : (q == 2) = false := by simpa using a2
    clear e a1 a2
    go_enter Tryd.func22, Tryd.ntmps22
    go_wp2
    go_ret
    exact ⟨_, rfl, OwnI.new w⟩
end Go.Proofs.YtohhmpkmcodoeaaDoor
