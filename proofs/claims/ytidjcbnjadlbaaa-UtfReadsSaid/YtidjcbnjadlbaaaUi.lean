/-
  Proved here, of a Reader of points in memory: follow and begin.
-/
import Derived.Test.YtidjcbnjadlbaaaUh
import Derived.Test.YtidjcbnjadlbaaaUg
set_option linter.unusedSimpArgs false
set_option linter.unusedVariables false
namespace Go.Proofs.Ytidjcbnjadlbaaa
open Go.RowKit
theorem follow_no (g : Nat) (W N P L H c : Int) (w : World) (h : Rd w g W N P L H) (hc : ¬ (L ≤ c ∧ c ≤ H)) : Calls Try.prog 32 #[.pointer (some ⟨g, 0, none⟩), .int .u8 c] w fun e w' => e = .returned (.bool false) ∧ w = w' := by
  have c4 := h.c4
  have c5 := h.c5
  clear h
  by_cases h1 : c < L
  · go_enter Try.func32, Try.ntmps32
    go_wp2
    go_ret
    exact ⟨rfl, rfl⟩
  · have h2 : H < c := by omega
    go_enter Try.func32, Try.ntmps32
    go_wp2
    go_ret
    exact ⟨rfl, rfl⟩
theorem follow_yes (g : Nat) (W N P L H c : Int) (w : World) (h : Rd w g W N P L H) (hc : L ≤ c ∧ c ≤ H) (hL : 128 ≤ L) (hH : H ≤ 191) (hW : 0 ≤ W ∧ W ≤ 3) (hN : 1 ≤ N ∧ N ≤ 3) (hP : 0 ≤ P ∧ P < 131072) :
    Calls Try.prog 32 #[.pointer (some ⟨g, 0, none⟩), .int .u8 c] w fun e w' => e = .returned (.bool true) ∧ Rd w' g (W + 1) (N - 1) (64 * P + c - 128) 128 191 ∧ Only g w w' := by
  have HH := Lib.hid h
  have c1 := h.c1
  have c2 := h.c2
  have c3 := h.c3
  have c4 := h.c4
  have c5 := h.c5
  have f1 := h.free 1
  have f2 := h.free 2
  have f3 := h.free 3
  have f4 := h.free 4
  have f5 := h.free 5
  obtain ⟨k1, k2⟩ := hc
  have d1 : decide (c < L) = false := by simp; omega
  have d2 : decide (H < c) = false := by simp; omega
  have E := Lib.hid (fun (_ : Unit) => show P * 64 + c % 64 = 64 * P + c - 128 by omega)
  clear h
  go_enter Try.func32, Try.ntmps32
  go_wp2
  go_ret
  rw [E.out ()]
  exact ⟨rfl, (((((HH.out.s3 _).s1 _).s2 _).s4 _).s5 _), (((((Only.refl g w).setCell 3 _).setCell 1 _).setCell 2 _).setCell 4 _).setCell 5 _⟩
theorem fol0_lo {c : Int} (h : c ≤ 193) : fol c = 0 := by unfold fol; (repeat' split) <;> omega
theorem fol0_hi {c : Int} (h : 245 ≤ c) : fol c = 0 := by unfold fol; (repeat' split) <;> omega
theorem begin_lo (g : Nat) (c : Int) (w : World) (h : c ≤ 193) : Calls Try.prog 34 #[.pointer (some ⟨g, 0, none⟩), .int .u8 c] w fun e w' => e = .returned (.bool false) ∧ w = w' := by
  have e1 : (c == 224) = false := by simp; omega
  have e2 : (c == 237) = false := by simp; omega
  have e3 : (c == 240) = false := by simp; omega
  have e4 : (c == 244) = false := by simp; omega
  have d1 : decide (194 ≤ c) = false := by simp; omega
  have d2 : decide (224 ≤ c) = false := by simp; omega
  have d3 : decide (240 ≤ c) = false := by simp; omega
  go_enter Try.func34, Try.ntmps34
  go_wp2
  go_ret
  exact ⟨rfl, rfl⟩
theorem begin_hi (g : Nat) (c : Int) (w : World) (h : 245 ≤ c) : Calls Try.prog 34 #[.pointer (some ⟨g, 0, none⟩), .int .u8 c] w fun e w' => e = .returned (.bool false) ∧ w = w' := by
  have e1 : (c == 224) = false := by simp; omega
  have e2 : (c == 237) = false := by simp; omega
  have e3 : (c == 240) = false := by simp; omega
  have e4 : (c == 244) = false := by simp; omega
  have d1 : decide (c ≤ 223) = false := by simp; omega
  have d2 : decide (c ≤ 239) = false := by simp; omega
  have d3 : decide (c ≤ 244) = false := by simp; omega
  go_enter Try.func34, Try.ntmps34
  go_wp2
  go_ret
  exact ⟨rfl, rfl⟩
theorem begin_no (g : Nat) (c : Int) (w : World) (h : fol c = 0) : Calls Try.prog 34 #[.pointer (some ⟨g, 0, none⟩), .int .u8 c] w fun e w' => e = .returned (.bool false) ∧ w = w' := by
  by_cases h1 : c ≤ 193
  · exact begin_lo g c w h1
  · refine begin_hi g c w ?_
    unfold fol at h
    (repeat' split at h) <;> omega
theorem begin_a (g : Nat) (c : Int) (W N P L H : Int) (w : World) (h : Rd w g W N P L H) (h1 : 194 ≤ c) (h2 : c ≤ 223) : Calls Try.prog 34 #[.pointer (some ⟨g, 0, none⟩), .int .u8 c] w fun e w' => e = .returned (.bool true) ∧ Rd w' g 1 1 (c - 192) 128 191 ∧ Only g w w' := by
  have c0 := h.c0
  have c1 := h.c1
  have c2 := h.c2
  have c3 := h.c3
  have c4 := h.c4
  have c5 := h.c5
  have f0 := h.free 0
  have f1 := h.free 1
  have f2 := h.free 2
  have f3 := h.free 3
  have f4 := h.free 4
  have f5 := h.free 5
  have HH := Lib.hid h
  have e1 : (c == 224) = false := by simp; omega
  have e2 : (c == 237) = false := by simp; omega
  have e3 : (c == 240) = false := by simp; omega
  have e4 : (c == 244) = false := by simp; omega
  have E := Lib.hid (fun (_ : Unit) => show c % 32 = c - 192 by omega)
  clear h
  go_enter Try.func34, Try.ntmps34
  go_wp2
  go_ret
  rw [E.out ()]
  exact ⟨rfl, (((((HH.out.s0.s1 _).s2 _).s3 _).s4 _).s5 _), ((((((Only.refl g w).setCell 0 _).setCell 1 _).setCell 2 _).setCell 3 _).setCell 4 _).setCell 5 _⟩
theorem begin_b (g : Nat) (c : Int) (W N P L H : Int) (w : World) (h : Rd w g W N P L H) (h1 : 225 ≤ c) (h2 : c ≤ 236) : Calls Try.prog 34 #[.pointer (some ⟨g, 0, none⟩), .int .u8 c] w fun e w' => e = .returned (.bool true) ∧ Rd w' g 1 2 (c - 224) 128 191 ∧ Only g w w' := by
  have c0 := h.c0
  have c1 := h.c1
  have c2 := h.c2
  have c3 := h.c3
  have c4 := h.c4
  have c5 := h.c5
  have f0 := h.free 0
  have f1 := h.free 1
  have f2 := h.free 2
  have f3 := h.free 3
  have f4 := h.free 4
  have f5 := h.free 5
  have HH := Lib.hid h
  have e1 : (c == 224) = false := by simp; omega
  have e2 : (c == 237) = false := by simp; omega
  have e3 : (c == 240) = false := by simp; omega
  have e4 : (c == 244) = false := by simp; omega
  have d1 : decide (c ≤ 223) = false := by simp; omega
  have E := Lib.hid (fun (_ : Unit) => show c % 16 = c - 224 by omega)
  clear h
  go_enter Try.func34, Try.ntmps34
  go_wp2
  go_ret
  rw [E.out ()]
  exact ⟨rfl, (((((HH.out.s0.s1 _).s2 _).s3 _).s4 _).s5 _), ((((((Only.refl g w).setCell 0 _).setCell 1 _).setCell 2 _).setCell 3 _).setCell 4 _).setCell 5 _⟩
theorem begin_c (g : Nat) (c : Int) (W N P L H : Int) (w : World) (h : Rd w g W N P L H) (h1 : 238 ≤ c) (h2 : c ≤ 239) : Calls Try.prog 34 #[.pointer (some ⟨g, 0, none⟩), .int .u8 c] w fun e w' => e = .returned (.bool true) ∧ Rd w' g 1 2 (c - 224) 128 191 ∧ Only g w w' := by
  have c0 := h.c0
  have c1 := h.c1
  have c2 := h.c2
  have c3 := h.c3
  have c4 := h.c4
  have c5 := h.c5
  have f0 := h.free 0
  have f1 := h.free 1
  have f2 := h.free 2
  have f3 := h.free 3
  have f4 := h.free 4
  have f5 := h.free 5
  have HH := Lib.hid h
  have e1 : (c == 224) = false := by simp; omega
  have e2 : (c == 237) = false := by simp; omega
  have e3 : (c == 240) = false := by simp; omega
  have e4 : (c == 244) = false := by simp; omega
  have d1 : decide (c ≤ 223) = false := by simp; omega
  have E := Lib.hid (fun (_ : Unit) => show c % 16 = c - 224 by omega)
  clear h
  go_enter Try.func34, Try.ntmps34
  go_wp2
  go_ret
  rw [E.out ()]
  exact ⟨rfl, (((((HH.out.s0.s1 _).s2 _).s3 _).s4 _).s5 _), ((((((Only.refl g w).setCell 0 _).setCell 1 _).setCell 2 _).setCell 3 _).setCell 4 _).setCell 5 _⟩
theorem begin_d (g : Nat) (W N P L H : Int) (w : World) (h : Rd w g W N P L H) : Calls Try.prog 34 #[.pointer (some ⟨g, 0, none⟩), .int .u8 224] w fun e w' => e = .returned (.bool true) ∧ Rd w' g 1 2 0 160 191 ∧ Only g w w' := by
  have c0 := h.c0
  have c1 := h.c1
  have c2 := h.c2
  have c3 := h.c3
  have c4 := h.c4
  have c5 := h.c5
  have f0 := h.free 0
  have f1 := h.free 1
  have f2 := h.free 2
  have f3 := h.free 3
  have f4 := h.free 4
  have f5 := h.free 5
  have HH := Lib.hid h
  clear h
  go_enter Try.func34, Try.ntmps34
  go_wp2
  go_ret
  exact ⟨rfl, (((((HH.out.s0.s1 _).s2 _).s3 _).s4 _).s5 _), ((((((Only.refl g w).setCell 0 _).setCell 1 _).setCell 2 _).setCell 3 _).setCell 4 _).setCell 5 _⟩
theorem begin_e (g : Nat) (W N P L H : Int) (w : World) (h : Rd w g W N P L H) : Calls Try.prog 34 #[.pointer (some ⟨g, 0, none⟩), .int .u8 237] w fun e w' => e = .returned (.bool true) ∧ Rd w' g 1 2 13 128 159 ∧ Only g w w' := by
  have c0 := h.c0
  have c1 := h.c1
  have c2 := h.c2
  have c3 := h.c3
  have c4 := h.c4
  have c5 := h.c5
  have f0 := h.free 0
  have f1 := h.free 1
  have f2 := h.free 2
  have f3 := h.free 3
  have f4 := h.free 4
  have f5 := h.free 5
  have HH := Lib.hid h
  clear h
  go_enter Try.func34, Try.ntmps34
  go_wp2
  go_ret
  exact ⟨rfl, (((((HH.out.s0.s1 _).s2 _).s3 _).s4 _).s5 _), ((((((Only.refl g w).setCell 0 _).setCell 1 _).setCell 2 _).setCell 3 _).setCell 4 _).setCell 5 _⟩
theorem begin_f (g : Nat) (c : Int) (W N P L H : Int) (w : World) (h : Rd w g W N P L H) (h1 : 241 ≤ c) (h2 : c ≤ 243) : Calls Try.prog 34 #[.pointer (some ⟨g, 0, none⟩), .int .u8 c] w fun e w' => e = .returned (.bool true) ∧ Rd w' g 1 3 (c - 240) 128 191 ∧ Only g w w' := by
  have c0 := h.c0
  have c1 := h.c1
  have c2 := h.c2
  have c3 := h.c3
  have c4 := h.c4
  have c5 := h.c5
  have f0 := h.free 0
  have f1 := h.free 1
  have f2 := h.free 2
  have f3 := h.free 3
  have f4 := h.free 4
  have f5 := h.free 5
  have HH := Lib.hid h
  have e1 : (c == 224) = false := by simp; omega
  have e2 : (c == 237) = false := by simp; omega
  have e3 : (c == 240) = false := by simp; omega
  have e4 : (c == 244) = false := by simp; omega
  have d1 : decide (c ≤ 223) = false := by simp; omega
  have d2 : decide (c ≤ 239) = false := by simp; omega
  have E := Lib.hid (fun (_ : Unit) => show c % 8 = c - 240 by omega)
  clear h
  go_enter Try.func34, Try.ntmps34
  go_wp2
  go_ret
  rw [E.out ()]
  exact ⟨rfl, (((((HH.out.s0.s1 _).s2 _).s3 _).s4 _).s5 _), ((((((Only.refl g w).setCell 0 _).setCell 1 _).setCell 2 _).setCell 3 _).setCell 4 _).setCell 5 _⟩
theorem begin_g (g : Nat) (W N P L H : Int) (w : World) (h : Rd w g W N P L H) : Calls Try.prog 34 #[.pointer (some ⟨g, 0, none⟩), .int .u8 240] w fun e w' => e = .returned (.bool true) ∧ Rd w' g 1 3 0 144 191 ∧ Only g w w' := by
  have c0 := h.c0
  have c1 := h.c1
  have c2 := h.c2
  have c3 := h.c3
  have c4 := h.c4
  have c5 := h.c5
  have f0 := h.free 0
  have f1 := h.free 1
  have f2 := h.free 2
  have f3 := h.free 3
  have f4 := h.free 4
  have f5 := h.free 5
  have HH := Lib.hid h
  clear h
  go_enter Try.func34, Try.ntmps34
  go_wp2
  go_ret
  exact ⟨rfl, (((((HH.out.s0.s1 _).s2 _).s3 _).s4 _).s5 _), ((((((Only.refl g w).setCell 0 _).setCell 1 _).setCell 2 _).setCell 3 _).setCell 4 _).setCell 5 _⟩
theorem begin_h (g : Nat) (W N P L H : Int) (w : World) (h : Rd w g W N P L H) : Calls Try.prog 34 #[.pointer (some ⟨g, 0, none⟩), .int .u8 244] w fun e w' => e = .returned (.bool true) ∧ Rd w' g 1 3 4 128 143 ∧ Only g w w' := by
  have c0 := h.c0
  have c1 := h.c1
  have c2 := h.c2
  have c3 := h.c3
  have c4 := h.c4
  have c5 := h.c5
  have f0 := h.free 0
  have f1 := h.free 1
  have f2 := h.free 2
  have f3 := h.free 3
  have f4 := h.free 4
  have f5 := h.free 5
  have HH := Lib.hid h
  clear h
  go_enter Try.func34, Try.ntmps34
  go_wp2
  go_ret
  exact ⟨rfl, (((((HH.out.s0.s1 _).s2 _).s3 _).s4 _).s5 _), ((((((Only.refl g w).setCell 0 _).setCell 1 _).setCell 2 _).setCell 3 _).setCell 4 _).setCell 5 _⟩
theorem begin_yes (g : Nat) (c W N P L H : Int) (w : World) (h : Rd w g W N P L H) (hf : fol c ≠ 0) : Calls Try.prog 34 #[.pointer (some ⟨g, 0, none⟩), .int .u8 c] w fun e w' => e = .returned (.bool true) ∧ Rd w' g 1 (fol c : Nat) (c - topB (fol c)) (lo1 c) (hi1 c) ∧ Only g w w' := by
  have hk : (194 ≤ c ∧ c ≤ 223 ∧ fol c = 1) ∨ (225 ≤ c ∧ c ≤ 236 ∧ fol c = 2) ∨ (238 ≤ c ∧ c ≤ 239 ∧ fol c = 2) ∨ c = 224 ∨ c = 237 ∨ (241 ≤ c ∧ c ≤ 243 ∧ fol c = 3) ∨ c = 240 ∨ c = 244 := by
    unfold fol at hf ⊢
    (repeat' split) <;> (repeat' split at hf) <;> omega
  rcases hk with ⟨h1, h2, h3⟩ | ⟨h1, h2, h3⟩ | ⟨h1, h2, h3⟩ | rfl | rfl | ⟨h1, h2, h3⟩ | rfl | rfl
  · have e1 : lo1 c = 128 := by unfold lo1; rw [if_neg (by omega), if_neg (by omega)]
    have e2 : hi1 c = 191 := by unfold hi1; rw [if_neg (by omega), if_neg (by omega)]
    rw [h3, e1, e2]
    exact begin_a g c W N P L H w h h1 h2
  · have e1 : lo1 c = 128 := by unfold lo1; rw [if_neg (by omega), if_neg (by omega)]
    have e2 : hi1 c = 191 := by unfold hi1; rw [if_neg (by omega), if_neg (by omega)]
    rw [h3, e1, e2]
    exact begin_b g c W N P L H w h h1 h2
  · have e1 : lo1 c = 128 := by unfold lo1; rw [if_neg (by omega), if_neg (by omega)]
    have e2 : hi1 c = 191 := by unfold hi1; rw [if_neg (by omega), if_neg (by omega)]
    rw [h3, e1, e2]
    exact begin_c g c W N P L H w h h1 h2
  · exact begin_d g W N P L H w h
  · exact begin_e g W N P L H w h
  · have e1 : lo1 c = 128 := by unfold lo1; rw [if_neg (by omega), if_neg (by omega)]
    have e2 : hi1 c = 191 := by unfold hi1; rw [if_neg (by omega), if_neg (by omega)]
    rw [h3, e1, e2]
    exact begin_f g c W N P L H w h h1 h2
  · exact begin_g g W N P L H w h
  · exact begin_h g W N P L H w h
end Go.Proofs.Ytidjcbnjadlbaaa
