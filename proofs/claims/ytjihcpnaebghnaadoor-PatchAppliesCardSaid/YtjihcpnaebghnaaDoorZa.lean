/-
  Proved here: of the program's styles: isColour, Right, isByte; flags as numbers.
-/
import Derived.Test.YtjihcpnaebghnaaDoorYg
set_option linter.unusedSimpArgs false
set_option linter.unusedVariables false
namespace Go.Proofs.YtjihcpnaebghnaaDoor
open Go.RowKit
/-- The number of a place's flag. -/
def flT (n : Int) : Int := if n = 1 then 1 else if n = 2 then 2 else if n = 3 then 4 else if n = 4 then 8 else if n = 5 then 16 else if n = 7 then 32 else if n = 8 then 64 else if n = 9 then 128 else 0
/-- A style as the program has it. -/
abbrev pV (s : Sty) : Value := .agg #[.int .u8 (flagsF s.fs), .int .u32 s.fg, .int .u32 s.bg]
theorem colB_def (c : Int) (h0 : 0 ≤ c) : colB c = (c == 0 || (decide (16777216 ≤ c) && decide (c ≤ 16777471)) || (decide (33554432 ≤ c) && decide (c ≤ 50331647))) := by
  unfold colB
  rcases Int.lt_trichotomy (c / 16777216) 1 with h | h | h
  · have e : (c / 16777216 == 1) = false := by simp; omega
    have e2 : (c / 16777216 == 2) = false := by simp; omega
    have e3 : decide (16777216 ≤ c) = false := by simp; omega
    have e4 : decide (33554432 ≤ c) = false := by simp; omega
    simp [e, e2, e3, e4]
  · have e : (c / 16777216 == 1) = true := by simp; omega
    have e2 : (c / 16777216 == 2) = false := by simp; omega
    have e3 : decide (16777216 ≤ c) = true := by simp; omega
    have e4 : decide (33554432 ≤ c) = false := by simp; omega
    have e5 : decide (c % 16777216 < 256) = decide (c ≤ 16777471) := by rw [decide_eq_decide]; omega
    simp [e, e2, e3, e4, e5]
  · have e : (c / 16777216 == 1) = false := by simp; omega
    have e3 : decide (c ≤ 16777471) = false := by simp; omega
    have e2 : (c / 16777216 == 2) = (decide (33554432 ≤ c) && decide (c ≤ 50331647)) := by
      by_cases hh : c / 16777216 = 2
      · have a1 : decide (33554432 ≤ c) = true := by simp; omega
        have a2 : decide (c ≤ 50331647) = true := by simp; omega
        simp [hh, a1, a2]
      · have a2 : decide (c ≤ 50331647) = false := by simp; omega
        simp [hh, a2]
    rw [e, e2, e3]
    simp
theorem p_colour (c : Int) (w : World) (h0 : 0 ≤ c) : Calls Tryd.prog 88 #[.int .u64 c] w fun e w' => e = .returned (.bool (colB c)) ∧ w = w' := by
  rw [colB_def c h0]
  obtain ⟨a, ha⟩ : ∃ a, (c == 0) = a := ⟨_, rfl⟩
  obtain ⟨b, hb⟩ : ∃ a, decide (16777216 ≤ c) = a := ⟨_, rfl⟩
  obtain ⟨d, hd⟩ : ∃ a, decide (c ≤ 16777471) = a := ⟨_, rfl⟩
  obtain ⟨f, hf⟩ : ∃ a, decide (33554432 ≤ c) = a := ⟨_, rfl⟩
  obtain ⟨g, hg⟩ : ∃ a, decide (c ≤ 50331647) = a := ⟨_, rfl⟩
  rw [ha, hb, hd, hf, hg]
  clear h0
  go_enter Tryd.func88, Tryd.ntmps88
  cases a <;> cases b <;> cases d <;> cases f <;> cases g
  all_goals go_wp2
  all_goals go_ret
  all_goals exact ⟨rfl, rfl⟩
theorem p_right (s : Sty) (w : World) (hs : Good s) : Calls Tryd.prog 83 #[pV s] w fun e w' => e = .returned (.bool (rightS s)) ∧ Below w.heap.size w w' := by
  obtain ⟨fs, fg, bg⟩ := s
  have hf0 := hs.fg.1
  have hf1 := hs.fg.2
  have hb0 := hs.bg.1
  have hb1 := hs.bg.2
  dsimp only at hf0 hf1 hb0 hb1
  obtain ⟨a, ha⟩ : ∃ a, colB fg = a := ⟨_, rfl⟩
  obtain ⟨b, hb⟩ : ∃ b, colB bg = b := ⟨_, rfl⟩
  have H1 := Lib.hid (fun W : World => ha ▸ p_colour fg W hf0)
  have H2 := Lib.hid (fun W : World => hb ▸ p_colour bg W hb0)
  have e : rightS ⟨fs, fg, bg⟩ = (a && b) := by rw [← ha, ← hb]; rfl
  rw [e]
  obtain ⟨f, hf⟩ : ∃ f, flagsF fs = f := ⟨_, rfl⟩
  show Calls Tryd.prog 83 #[.agg #[.int .u8 (flagsF fs), .int .u32 fg, .int .u32 bg]] w _
  rw [hf]
  clear e ha hb hs hf
  cases a
  · go_enter Tryd.func83, Tryd.ntmps83
    go_wp2_with fail
    refine (H1.out _).mono ?_
    rintro e wx ⟨rfl, rfl⟩
    go_wp2
    go_ret
    exact ⟨rfl, (Below.refl _ _).alloc (Nat.le_refl _) _⟩
  · go_enter Tryd.func83, Tryd.ntmps83
    go_wp2_with fail
    refine (H1.out _).mono ?_
    rintro e wx ⟨rfl, rfl⟩
    go_wp2_with fail
    refine (H2.out _).mono ?_
    rintro e wx ⟨rfl, rfl⟩
    go_wp2
    go_ret
    exact ⟨ret_bool (by simp), (Below.refl _ _).alloc (Nat.le_refl _) _⟩
/-- Flags as numbers: one is set, one or two are taken away. -/
theorem flag_or (fs : List Bool) (h : fs.length = 8) (p : Nat) (hp : p < 8) : bits .or .u8 (flagsF fs) ((2 : Int) ^ p) = flagsF (fs.set p true) := by
  obtain ⟨a, b, c, d, e, f, g, i, rfl⟩ := eight h
  have H : ∀ p : Fin 8, ∀ a b c d e f g i : Bool, bits .or .u8 (flagsF [a, b, c, d, e, f, g, i]) ((2 : Int) ^ p.1) = flagsF ([a, b, c, d, e, f, g, i].set p.1 true) := by decide +kernel
  exact H ⟨p, hp⟩ a b c d e f g i
theorem flag_not (fs : List Bool) (h : fs.length = 8) (p : Nat) (hp : p < 8) : bits .andNot .u8 (flagsF fs) ((2 : Int) ^ p) = flagsF (fs.set p false) := by
  obtain ⟨a, b, c, d, e, f, g, i, rfl⟩ := eight h
  have H : ∀ p : Fin 8, ∀ a b c d e f g i : Bool, bits .andNot .u8 (flagsF [a, b, c, d, e, f, g, i]) ((2 : Int) ^ p.1) = flagsF ([a, b, c, d, e, f, g, i].set p.1 false) := by decide +kernel
  exact H ⟨p, hp⟩ a b c d e f g i
theorem flag_not3 (fs : List Bool) (h : fs.length = 8) : bits .andNot .u8 (flagsF fs) 3 = flagsF ((fs.set 0 false).set 1 false) := by
  obtain ⟨a, b, c, d, e, f, g, i, rfl⟩ := eight h
  have H : ∀ a b c d e f g i : Bool, bits .andNot .u8 (flagsF [a, b, c, d, e, f, g, i]) 3 = flagsF (([a, b, c, d, e, f, g, i].set 0 false).set 1 false) := by decide +kernel
  exact H a b c d e f g i
theorem flag_none (fs : List Bool) (h : fs.length = 8) : bits .or .u8 (flagsF fs) 0 = flagsF fs ∧ bits .andNot .u8 (flagsF fs) 0 = flagsF fs := by
  obtain ⟨a, b, c, d, e, f, g, i, rfl⟩ := eight h
  have H : ∀ a b c d e f g i : Bool, bits .or .u8 (flagsF [a, b, c, d, e, f, g, i]) 0 = flagsF [a, b, c, d, e, f, g, i] ∧ bits .andNot .u8 (flagsF [a, b, c, d, e, f, g, i]) 0 = flagsF [a, b, c, d, e, f, g, i] := by decide +kernel
  exact H a b c d e f g i
end Go.Proofs.YtjihcpnaebghnaaDoor
