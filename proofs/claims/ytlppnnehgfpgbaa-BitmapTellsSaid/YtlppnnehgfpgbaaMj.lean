/-
  Proved here: BitmapOrs.
-/
import Derived.Test.YtlppnnehgfpgbaaMi
set_option linter.unusedSimpArgs false
set_option linter.unusedVariables false
namespace Go.Proofs.Ytlppnnehgfpgbaa
open Go.RowKit
theorem set16 {α : Type} (x0 x1 x2 x3 x4 x5 x6 x7 x8 x9 x10 x11 x12 x13 x14 x15 : α) (l : List α) (n : Nat) (v : α) : (x0 :: x1 :: x2 :: x3 :: x4 :: x5 :: x6 :: x7 :: x8 :: x9 :: x10 :: x11 :: x12 :: x13 :: x14 :: x15 :: l).set (n + 16) v = x0 :: x1 :: x2 :: x3 :: x4 :: x5 :: x6 :: x7 :: x8 :: x9 :: x10 :: x11 :: x12 :: x13 :: x14 :: x15 :: l.set n v := rfl
theorem rB_or {k a b : Nat} (ha : rB k a = true) (hb : rB k b = true) : rB k (a ||| b) = true := by
  obtain ⟨h1, h2⟩ := rB_parts ha
  obtain ⟨_, h3⟩ := rB_parts hb
  rw [rB_in h1]
  exact decide_eq_true (Nat.or_lt_two_pow h2 h3)
theorem rB_zero {k : Nat} (h : k ≤ 64) : rB k 0 = true := by
  rw [rB_in h]
  exact decide_eq_true (Nat.two_pow_pos k)
theorem cnt_or_ge : ∀ n a b : Nat, cntB n a ≤ cntB n (a ||| b)
  | 0, _, _ => Nat.le_refl _
  | n + 1, a, b => by
    have := cnt_or_ge n a b
    unfold cntB
    rw [Nat.testBit_or]
    cases a.testBit n <;> cases b.testBit n <;> simp <;> omega
theorem cnt_or_le : ∀ n a b : Nat, cntB n (a ||| b) ≤ cntB n a + cntB n b
  | 0, _, _ => by unfold cntB; omega
  | n + 1, a, b => by
    have := cnt_or_le n a b
    unfold cntB
    rw [Nat.testBit_or]
    cases a.testBit n <;> cases b.testBit n <;> simp <;> omega
set_option maxRecDepth 100000 in
theorem ors_1 {na nb nc : Int} {a b c : Nat} (ha : a < 18446744073709551616) (hb : b < 18446744073709551616) (hc : c < 18446744073709551616) (h1 : rB na a = false) (w : World) : Calls Try.prog 9 #[mV na a, mV nb b, mV nc c] w fun e w' => e = .returned (.bool true) ∧ Below w.heap.size w w' := by
  have HRa := Lib.hid (fun W => right_any na ha W)
  rw [h1] at HRa
  clear h1
  have HBX := Lib.hid (Bal (Bal (Bal (Below.refl w.heap.size w) (.cells #[.int .i64 na, .int .u64 a] 56)) (.cells #[.int .i64 nb, .int .u64 b] 56)) (.cells #[.int .i64 nc, .int .u64 c] 56))
  have HMa := Lib.hid (((MB.new w na a).alloc (.cells #[.int .i64 nb, .int .u64 b] 56)).alloc (.cells #[.int .i64 nc, .int .u64 c] 56))
  have HMb := Lib.hid (show MB (((w.alloc (.cells #[.int .i64 na, .int .u64 a] 56)).alloc (.cells #[.int .i64 nb, .int .u64 b] 56)).alloc (.cells #[.int .i64 nc, .int .u64 c] 56)) (w.heap.size + 1) nb b from by
    have := (MB.new (w.alloc (.cells #[.int .i64 na, .int .u64 a] 56)) nb b).alloc (.cells #[.int .i64 nc, .int .u64 c] 56)
    rwa [show (w.alloc (.cells #[.int .i64 na, .int .u64 a] 56)).heap.size = w.heap.size + 1 by simp] at this)
  have HMc := Lib.hid (show MB (((w.alloc (.cells #[.int .i64 na, .int .u64 a] 56)).alloc (.cells #[.int .i64 nb, .int .u64 b] 56)).alloc (.cells #[.int .i64 nc, .int .u64 c] 56)) (w.heap.size + 2) nc c from by
    have := MB.new ((w.alloc (.cells #[.int .i64 na, .int .u64 a] 56)).alloc (.cells #[.int .i64 nb, .int .u64 b] 56)) nc c
    rwa [show ((w.alloc (.cells #[.int .i64 na, .int .u64 a] 56)).alloc (.cells #[.int .i64 nb, .int .u64 b] 56)).heap.size = w.heap.size + 2 by simp] at this)
  unfold mV at HRa
  unfold mV
  clear ha hb hc
  go_enter Try.func9, Try.ntmps9
  go_upto_region 1 with fail
  obtain ⟨X, hX⟩ : ∃ X, ((w.alloc (.cells #[.int .i64 na, .int .u64 a] 56)).alloc (.cells #[.int .i64 nb, .int .u64 b] 56)).alloc (.cells #[.int .i64 nc, .int .u64 c] 56) = X := ⟨_, rfl⟩
  rw [hX] at HBX HMa HMb HMc ⊢
  clear hX
  have a0 := HMa.out.c0
  have a1 := HMa.out.c1
  have b0 := HMb.out.c0
  have b1 := HMb.out.c1
  have c0 := HMc.out.c0
  have c1 := HMc.out.c1
  go_wp2_with fail
  refine (HRa.out _).mono ?_
  rintro e ra ⟨rfl, ha⟩
  have HBX := Lib.hid (Bto HBX.out ha)
  have HMa := Lib.hid (HMa.out.below ha)
  have HMb := Lib.hid (HMb.out.below ha)
  have HMc := Lib.hid (HMc.out.below ha)
  clear ha a0 a1 b0 b1 c0 c1
  have a0 := HMa.out.c0
  have a1 := HMa.out.c1
  have b0 := HMb.out.c0
  have b1 := HMb.out.c1
  have c0 := HMc.out.c0
  have c1 := HMc.out.c1
  go_wp2_with fail
  refine (alive_any _).mono ?_
  rintro e wz ⟨rfl, hz⟩
  have HBX := Lib.hid (Bto HBX.out hz)
  clear hz a0 a1 b0 b1 c0 c1
  go_wp2
  go_ret
  exact ⟨rfl, HBX.out⟩
set_option maxRecDepth 100000 in
theorem ors_2 {na nb nc : Int} {a b c : Nat} (ha : a < 18446744073709551616) (hb : b < 18446744073709551616) (hc : c < 18446744073709551616) (h1 : rB na a = true) (h2 : rB nb b = false) (w : World) : Calls Try.prog 9 #[mV na a, mV nb b, mV nc c] w fun e w' => e = .returned (.bool true) ∧ Below w.heap.size w w' := by
  have HRa := Lib.hid (fun W => right_any na ha W)
  have HRb := Lib.hid (fun W => right_any nb hb W)
  rw [h1] at HRa
  rw [h2] at HRb
  clear h1 h2
  have HBX := Lib.hid (Bal (Bal (Bal (Below.refl w.heap.size w) (.cells #[.int .i64 na, .int .u64 a] 56)) (.cells #[.int .i64 nb, .int .u64 b] 56)) (.cells #[.int .i64 nc, .int .u64 c] 56))
  have HMa := Lib.hid (((MB.new w na a).alloc (.cells #[.int .i64 nb, .int .u64 b] 56)).alloc (.cells #[.int .i64 nc, .int .u64 c] 56))
  have HMb := Lib.hid (show MB (((w.alloc (.cells #[.int .i64 na, .int .u64 a] 56)).alloc (.cells #[.int .i64 nb, .int .u64 b] 56)).alloc (.cells #[.int .i64 nc, .int .u64 c] 56)) (w.heap.size + 1) nb b from by
    have := (MB.new (w.alloc (.cells #[.int .i64 na, .int .u64 a] 56)) nb b).alloc (.cells #[.int .i64 nc, .int .u64 c] 56)
    rwa [show (w.alloc (.cells #[.int .i64 na, .int .u64 a] 56)).heap.size = w.heap.size + 1 by simp] at this)
  have HMc := Lib.hid (show MB (((w.alloc (.cells #[.int .i64 na, .int .u64 a] 56)).alloc (.cells #[.int .i64 nb, .int .u64 b] 56)).alloc (.cells #[.int .i64 nc, .int .u64 c] 56)) (w.heap.size + 2) nc c from by
    have := MB.new ((w.alloc (.cells #[.int .i64 na, .int .u64 a] 56)).alloc (.cells #[.int .i64 nb, .int .u64 b] 56)) nc c
    rwa [show ((w.alloc (.cells #[.int .i64 na, .int .u64 a] 56)).alloc (.cells #[.int .i64 nb, .int .u64 b] 56)).heap.size = w.heap.size + 2 by simp] at this)
  unfold mV at HRa
  unfold mV at HRb
  unfold mV
  clear ha hb hc
  go_enter Try.func9, Try.ntmps9
  go_upto_region 1 with fail
  obtain ⟨X, hX⟩ : ∃ X, ((w.alloc (.cells #[.int .i64 na, .int .u64 a] 56)).alloc (.cells #[.int .i64 nb, .int .u64 b] 56)).alloc (.cells #[.int .i64 nc, .int .u64 c] 56) = X := ⟨_, rfl⟩
  rw [hX] at HBX HMa HMb HMc ⊢
  clear hX
  have a0 := HMa.out.c0
  have a1 := HMa.out.c1
  have b0 := HMb.out.c0
  have b1 := HMb.out.c1
  have c0 := HMc.out.c0
  have c1 := HMc.out.c1
  go_wp2_with fail
  refine (HRa.out _).mono ?_
  rintro e ra ⟨rfl, ha⟩
  have HBX := Lib.hid (Bto HBX.out ha)
  have HMa := Lib.hid (HMa.out.below ha)
  have HMb := Lib.hid (HMb.out.below ha)
  have HMc := Lib.hid (HMc.out.below ha)
  clear ha a0 a1 b0 b1 c0 c1
  have a0 := HMa.out.c0
  have a1 := HMa.out.c1
  have b0 := HMb.out.c0
  have b1 := HMb.out.c1
  have c0 := HMc.out.c0
  have c1 := HMc.out.c1
  go_wp2_with fail
  refine (HRb.out _).mono ?_
  rintro e rb ⟨rfl, hb⟩
  have HBX := Lib.hid (Bto HBX.out hb)
  have HMa := Lib.hid (HMa.out.below hb)
  have HMb := Lib.hid (HMb.out.below hb)
  have HMc := Lib.hid (HMc.out.below hb)
  clear hb a0 a1 b0 b1 c0 c1
  have a0 := HMa.out.c0
  have a1 := HMa.out.c1
  have b0 := HMb.out.c0
  have b1 := HMb.out.c1
  have c0 := HMc.out.c0
  have c1 := HMc.out.c1
  go_wp2_with fail
  refine (alive_any _).mono ?_
  rintro e wz ⟨rfl, hz⟩
  have HBX := Lib.hid (Bto HBX.out hz)
  clear hz a0 a1 b0 b1 c0 c1
  go_wp2
  go_ret
  exact ⟨rfl, HBX.out⟩
set_option maxRecDepth 100000 in
theorem ors_3 {na nb nc : Int} {a b c : Nat} (ha : a < 18446744073709551616) (hb : b < 18446744073709551616) (hc : c < 18446744073709551616) (h1 : rB na a = true) (h2 : rB nb b = true) (h3 : rB nc c = false) (w : World) : Calls Try.prog 9 #[mV na a, mV nb b, mV nc c] w fun e w' => e = .returned (.bool true) ∧ Below w.heap.size w w' := by
  have HRa := Lib.hid (fun W => right_any na ha W)
  have HRb := Lib.hid (fun W => right_any nb hb W)
  have HRc := Lib.hid (fun W => right_any nc hc W)
  rw [h1] at HRa
  rw [h2] at HRb
  rw [h3] at HRc
  clear h1 h2 h3
  have HBX := Lib.hid (Bal (Bal (Bal (Below.refl w.heap.size w) (.cells #[.int .i64 na, .int .u64 a] 56)) (.cells #[.int .i64 nb, .int .u64 b] 56)) (.cells #[.int .i64 nc, .int .u64 c] 56))
  have HMa := Lib.hid (((MB.new w na a).alloc (.cells #[.int .i64 nb, .int .u64 b] 56)).alloc (.cells #[.int .i64 nc, .int .u64 c] 56))
  have HMb := Lib.hid (show MB (((w.alloc (.cells #[.int .i64 na, .int .u64 a] 56)).alloc (.cells #[.int .i64 nb, .int .u64 b] 56)).alloc (.cells #[.int .i64 nc, .int .u64 c] 56)) (w.heap.size + 1) nb b from by
    have := (MB.new (w.alloc (.cells #[.int .i64 na, .int .u64 a] 56)) nb b).alloc (.cells #[.int .i64 nc, .int .u64 c] 56)
    rwa [show (w.alloc (.cells #[.int .i64 na, .int .u64 a] 56)).heap.size = w.heap.size + 1 by simp] at this)
  have HMc := Lib.hid (show MB (((w.alloc (.cells #[.int .i64 na, .int .u64 a] 56)).alloc (.cells #[.int .i64 nb, .int .u64 b] 56)).alloc (.cells #[.int .i64 nc, .int .u64 c] 56)) (w.heap.size + 2) nc c from by
    have := MB.new ((w.alloc (.cells #[.int .i64 na, .int .u64 a] 56)).alloc (.cells #[.int .i64 nb, .int .u64 b] 56)) nc c
    rwa [show ((w.alloc (.cells #[.int .i64 na, .int .u64 a] 56)).alloc (.cells #[.int .i64 nb, .int .u64 b] 56)).heap.size = w.heap.size + 2 by simp] at this)
  unfold mV at HRa
  unfold mV at HRb
  unfold mV at HRc
  unfold mV
  clear ha hb hc
  go_enter Try.func9, Try.ntmps9
  go_upto_region 1 with fail
  obtain ⟨X, hX⟩ : ∃ X, ((w.alloc (.cells #[.int .i64 na, .int .u64 a] 56)).alloc (.cells #[.int .i64 nb, .int .u64 b] 56)).alloc (.cells #[.int .i64 nc, .int .u64 c] 56) = X := ⟨_, rfl⟩
  rw [hX] at HBX HMa HMb HMc ⊢
  clear hX
  have a0 := HMa.out.c0
  have a1 := HMa.out.c1
  have b0 := HMb.out.c0
  have b1 := HMb.out.c1
  have c0 := HMc.out.c0
  have c1 := HMc.out.c1
  go_wp2_with fail
  refine (HRa.out _).mono ?_
  rintro e ra ⟨rfl, ha⟩
  have HBX := Lib.hid (Bto HBX.out ha)
  have HMa := Lib.hid (HMa.out.below ha)
  have HMb := Lib.hid (HMb.out.below ha)
  have HMc := Lib.hid (HMc.out.below ha)
  clear ha a0 a1 b0 b1 c0 c1
  have a0 := HMa.out.c0
  have a1 := HMa.out.c1
  have b0 := HMb.out.c0
  have b1 := HMb.out.c1
  have c0 := HMc.out.c0
  have c1 := HMc.out.c1
  go_wp2_with fail
  refine (HRb.out _).mono ?_
  rintro e rb ⟨rfl, hb⟩
  have HBX := Lib.hid (Bto HBX.out hb)
  have HMa := Lib.hid (HMa.out.below hb)
  have HMb := Lib.hid (HMb.out.below hb)
  have HMc := Lib.hid (HMc.out.below hb)
  clear hb a0 a1 b0 b1 c0 c1
  have a0 := HMa.out.c0
  have a1 := HMa.out.c1
  have b0 := HMb.out.c0
  have b1 := HMb.out.c1
  have c0 := HMc.out.c0
  have c1 := HMc.out.c1
  go_wp2_with fail
  refine (HRc.out _).mono ?_
  rintro e rc ⟨rfl, hc⟩
  have HBX := Lib.hid (Bto HBX.out hc)
  have HMa := Lib.hid (HMa.out.below hc)
  have HMb := Lib.hid (HMb.out.below hc)
  have HMc := Lib.hid (HMc.out.below hc)
  clear hc a0 a1 b0 b1 c0 c1
  have a0 := HMa.out.c0
  have a1 := HMa.out.c1
  have b0 := HMb.out.c0
  have b1 := HMb.out.c1
  have c0 := HMc.out.c0
  have c1 := HMc.out.c1
  go_wp2_with fail
  refine (alive_any _).mono ?_
  rintro e wz ⟨rfl, hz⟩
  have HBX := Lib.hid (Bto HBX.out hz)
  clear hz a0 a1 b0 b1 c0 c1
  go_wp2
  go_ret
  exact ⟨rfl, HBX.out⟩
set_option maxRecDepth 100000 in
theorem ors_4 {na nb nc : Int} {a b c : Nat} (ha : a < 18446744073709551616) (hb : b < 18446744073709551616) (hc : c < 18446744073709551616) (h1 : rB na a = true) (h2 : rB nb b = true) (h3 : rB nc c = true) (h4 : na ≠ nb) (w : World) : Calls Try.prog 9 #[mV na a, mV nb b, mV nc c] w fun e w' => e = .returned (.bool true) ∧ Below w.heap.size w w' := by
  have HRa := Lib.hid (fun W => right_any na ha W)
  have HRb := Lib.hid (fun W => right_any nb hb W)
  have HRc := Lib.hid (fun W => right_any nc hc W)
  rw [h1] at HRa
  rw [h2] at HRb
  rw [h3] at HRc
  have q1 : (na != nb) = true := by simpa using h4
  clear h1 h2 h3 h4
  have HBX := Lib.hid (Bal (Bal (Bal (Below.refl w.heap.size w) (.cells #[.int .i64 na, .int .u64 a] 56)) (.cells #[.int .i64 nb, .int .u64 b] 56)) (.cells #[.int .i64 nc, .int .u64 c] 56))
  have HMa := Lib.hid (((MB.new w na a).alloc (.cells #[.int .i64 nb, .int .u64 b] 56)).alloc (.cells #[.int .i64 nc, .int .u64 c] 56))
  have HMb := Lib.hid (show MB (((w.alloc (.cells #[.int .i64 na, .int .u64 a] 56)).alloc (.cells #[.int .i64 nb, .int .u64 b] 56)).alloc (.cells #[.int .i64 nc, .int .u64 c] 56)) (w.heap.size + 1) nb b from by
    have := (MB.new (w.alloc (.cells #[.int .i64 na, .int .u64 a] 56)) nb b).alloc (.cells #[.int .i64 nc, .int .u64 c] 56)
    rwa [show (w.alloc (.cells #[.int .i64 na, .int .u64 a] 56)).heap.size = w.heap.size + 1 by simp] at this)
  have HMc := Lib.hid (show MB (((w.alloc (.cells #[.int .i64 na, .int .u64 a] 56)).alloc (.cells #[.int .i64 nb, .int .u64 b] 56)).alloc (.cells #[.int .i64 nc, .int .u64 c] 56)) (w.heap.size + 2) nc c from by
    have := MB.new ((w.alloc (.cells #[.int .i64 na, .int .u64 a] 56)).alloc (.cells #[.int .i64 nb, .int .u64 b] 56)) nc c
    rwa [show ((w.alloc (.cells #[.int .i64 na, .int .u64 a] 56)).alloc (.cells #[.int .i64 nb, .int .u64 b] 56)).heap.size = w.heap.size + 2 by simp] at this)
  unfold mV at HRa
  unfold mV at HRb
  unfold mV at HRc
  unfold mV
  clear ha hb hc
  go_enter Try.func9, Try.ntmps9
  go_upto_region 1 with fail
  obtain ⟨X, hX⟩ : ∃ X, ((w.alloc (.cells #[.int .i64 na, .int .u64 a] 56)).alloc (.cells #[.int .i64 nb, .int .u64 b] 56)).alloc (.cells #[.int .i64 nc, .int .u64 c] 56) = X := ⟨_, rfl⟩
  rw [hX] at HBX HMa HMb HMc ⊢
  clear hX
  have a0 := HMa.out.c0
  have a1 := HMa.out.c1
  have b0 := HMb.out.c0
  have b1 := HMb.out.c1
  have c0 := HMc.out.c0
  have c1 := HMc.out.c1
  go_wp2_with fail
  refine (HRa.out _).mono ?_
  rintro e ra ⟨rfl, ha⟩
  have HBX := Lib.hid (Bto HBX.out ha)
  have HMa := Lib.hid (HMa.out.below ha)
  have HMb := Lib.hid (HMb.out.below ha)
  have HMc := Lib.hid (HMc.out.below ha)
  clear ha a0 a1 b0 b1 c0 c1
  have a0 := HMa.out.c0
  have a1 := HMa.out.c1
  have b0 := HMb.out.c0
  have b1 := HMb.out.c1
  have c0 := HMc.out.c0
  have c1 := HMc.out.c1
  go_wp2_with fail
  refine (HRb.out _).mono ?_
  rintro e rb ⟨rfl, hb⟩
  have HBX := Lib.hid (Bto HBX.out hb)
  have HMa := Lib.hid (HMa.out.below hb)
  have HMb := Lib.hid (HMb.out.below hb)
  have HMc := Lib.hid (HMc.out.below hb)
  clear hb a0 a1 b0 b1 c0 c1
  have a0 := HMa.out.c0
  have a1 := HMa.out.c1
  have b0 := HMb.out.c0
  have b1 := HMb.out.c1
  have c0 := HMc.out.c0
  have c1 := HMc.out.c1
  go_wp2_with fail
  refine (HRc.out _).mono ?_
  rintro e rc ⟨rfl, hc⟩
  have HBX := Lib.hid (Bto HBX.out hc)
  have HMa := Lib.hid (HMa.out.below hc)
  have HMb := Lib.hid (HMb.out.below hc)
  have HMc := Lib.hid (HMc.out.below hc)
  clear hc a0 a1 b0 b1 c0 c1
  have a0 := HMa.out.c0
  have a1 := HMa.out.c1
  have b0 := HMb.out.c0
  have b1 := HMb.out.c1
  have c0 := HMc.out.c0
  have c1 := HMc.out.c1
  go_wp2_with fail
  refine (alive_any _).mono ?_
  rintro e wz ⟨rfl, hz⟩
  have HBX := Lib.hid (Bto HBX.out hz)
  clear hz a0 a1 b0 b1 c0 c1
  go_wp2
  go_ret
  exact ⟨rfl, HBX.out⟩
set_option maxRecDepth 100000 in
theorem ors_5 {na nb nc : Int} {a b c : Nat} (ha : a < 18446744073709551616) (hb : b < 18446744073709551616) (hc : c < 18446744073709551616) (h1 : rB na a = true) (h2 : rB nb b = true) (h3 : rB nc c = true) (h4 : na = nb) (h5 : nb ≠ nc) (w : World) : Calls Try.prog 9 #[mV na a, mV nb b, mV nc c] w fun e w' => e = .returned (.bool true) ∧ Below w.heap.size w w' := by
  have HRa := Lib.hid (fun W => right_any na ha W)
  have HRb := Lib.hid (fun W => right_any nb hb W)
  have HRc := Lib.hid (fun W => right_any nc hc W)
  rw [h1] at HRa
  rw [h2] at HRb
  rw [h3] at HRc
  have q1 : (na != nb) = false := by simpa using h4
  have q2 : (nb != nc) = true := by simpa using h5
  clear h1 h2 h3 h4 h5
  have HBX := Lib.hid (Bal (Bal (Bal (Below.refl w.heap.size w) (.cells #[.int .i64 na, .int .u64 a] 56)) (.cells #[.int .i64 nb, .int .u64 b] 56)) (.cells #[.int .i64 nc, .int .u64 c] 56))
  have HMa := Lib.hid (((MB.new w na a).alloc (.cells #[.int .i64 nb, .int .u64 b] 56)).alloc (.cells #[.int .i64 nc, .int .u64 c] 56))
  have HMb := Lib.hid (show MB (((w.alloc (.cells #[.int .i64 na, .int .u64 a] 56)).alloc (.cells #[.int .i64 nb, .int .u64 b] 56)).alloc (.cells #[.int .i64 nc, .int .u64 c] 56)) (w.heap.size + 1) nb b from by
    have := (MB.new (w.alloc (.cells #[.int .i64 na, .int .u64 a] 56)) nb b).alloc (.cells #[.int .i64 nc, .int .u64 c] 56)
    rwa [show (w.alloc (.cells #[.int .i64 na, .int .u64 a] 56)).heap.size = w.heap.size + 1 by simp] at this)
  have HMc := Lib.hid (show MB (((w.alloc (.cells #[.int .i64 na, .int .u64 a] 56)).alloc (.cells #[.int .i64 nb, .int .u64 b] 56)).alloc (.cells #[.int .i64 nc, .int .u64 c] 56)) (w.heap.size + 2) nc c from by
    have := MB.new ((w.alloc (.cells #[.int .i64 na, .int .u64 a] 56)).alloc (.cells #[.int .i64 nb, .int .u64 b] 56)) nc c
    rwa [show ((w.alloc (.cells #[.int .i64 na, .int .u64 a] 56)).alloc (.cells #[.int .i64 nb, .int .u64 b] 56)).heap.size = w.heap.size + 2 by simp] at this)
  unfold mV at HRa
  unfold mV at HRb
  unfold mV at HRc
  unfold mV
  clear ha hb hc
  go_enter Try.func9, Try.ntmps9
  go_upto_region 1 with fail
  obtain ⟨X, hX⟩ : ∃ X, ((w.alloc (.cells #[.int .i64 na, .int .u64 a] 56)).alloc (.cells #[.int .i64 nb, .int .u64 b] 56)).alloc (.cells #[.int .i64 nc, .int .u64 c] 56) = X := ⟨_, rfl⟩
  rw [hX] at HBX HMa HMb HMc ⊢
  clear hX
  have a0 := HMa.out.c0
  have a1 := HMa.out.c1
  have b0 := HMb.out.c0
  have b1 := HMb.out.c1
  have c0 := HMc.out.c0
  have c1 := HMc.out.c1
  go_wp2_with fail
  refine (HRa.out _).mono ?_
  rintro e ra ⟨rfl, ha⟩
  have HBX := Lib.hid (Bto HBX.out ha)
  have HMa := Lib.hid (HMa.out.below ha)
  have HMb := Lib.hid (HMb.out.below ha)
  have HMc := Lib.hid (HMc.out.below ha)
  clear ha a0 a1 b0 b1 c0 c1
  have a0 := HMa.out.c0
  have a1 := HMa.out.c1
  have b0 := HMb.out.c0
  have b1 := HMb.out.c1
  have c0 := HMc.out.c0
  have c1 := HMc.out.c1
  go_wp2_with fail
  refine (HRb.out _).mono ?_
  rintro e rb ⟨rfl, hb⟩
  have HBX := Lib.hid (Bto HBX.out hb)
  have HMa := Lib.hid (HMa.out.below hb)
  have HMb := Lib.hid (HMb.out.below hb)
  have HMc := Lib.hid (HMc.out.below hb)
  clear hb a0 a1 b0 b1 c0 c1
  have a0 := HMa.out.c0
  have a1 := HMa.out.c1
  have b0 := HMb.out.c0
  have b1 := HMb.out.c1
  have c0 := HMc.out.c0
  have c1 := HMc.out.c1
  go_wp2_with fail
  refine (HRc.out _).mono ?_
  rintro e rc ⟨rfl, hc⟩
  have HBX := Lib.hid (Bto HBX.out hc)
  have HMa := Lib.hid (HMa.out.below hc)
  have HMb := Lib.hid (HMb.out.below hc)
  have HMc := Lib.hid (HMc.out.below hc)
  clear hc a0 a1 b0 b1 c0 c1
  have a0 := HMa.out.c0
  have a1 := HMa.out.c1
  have b0 := HMb.out.c0
  have b1 := HMb.out.c1
  have c0 := HMc.out.c0
  have c1 := HMc.out.c1
  go_wp2_with fail
  refine (alive_any _).mono ?_
  rintro e wz ⟨rfl, hz⟩
  have HBX := Lib.hid (Bto HBX.out hz)
  clear hz a0 a1 b0 b1 c0 c1
  go_wp2
  go_ret
  exact ⟨rfl, HBX.out⟩
set_option maxRecDepth 100000 in
set_option maxHeartbeats 16000000 in
theorem ors_in {k a b c : Nat} (h1 : rB k a = true) (h2 : rB k b = true) (h3 : rB k c = true) (w : World) : Calls Try.prog 9 #[mV k a, mV k b, mV k c] w fun e w' => e = .returned (.bool true) ∧ Below w.heap.size w w' := by
  have ha := rB_lt h1
  have hb := rB_lt h2
  have hc := rB_lt h3
  have hk : k ≤ 64 := (rB_parts h1).1
  obtain ⟨x, hx⟩ : ∃ x, a ||| b = x := ⟨_, rfl⟩
  obtain ⟨z, hz⟩ : ∃ z, b ||| c = z := ⟨_, rfl⟩
  obtain ⟨p, hp⟩ : ∃ p, x ||| c = p := ⟨_, rfl⟩
  have hX : rB k x = true := by rw [← hx]; exact rB_or h1 h2
  have hZ : rB k z = true := by rw [← hz]; exact rB_or h2 h3
  have HN := Lib.hid (show ∀ W : World, Calls Try.prog 37 #[.int .i64 k] W fun e w' => e = .returned (.tuple #[.agg #[.int .i64 k, .int .u64 0], .int .i64 0]) ∧ Below W.heap.size W w' from fun W => (new_yes (n := k) ⟨by omega, by omega⟩ W).mono fun _ _ h => h)
  have HX := Lib.hid (show ∀ W : World, Calls Try.prog 25 #[.agg #[.int .i64 k, .int .u64 a], .agg #[.int .i64 k, .int .u64 b]] W fun e w' => e = .returned (.tuple #[.agg #[.int .i64 k, .int .u64 x], .int .i64 0]) ∧ Below W.heap.size W w' from fun W => (or_in ha hb h1 h2 W).mono fun _ _ h => by rw [hx] at h; exact h)
  have HY := Lib.hid (show ∀ W : World, Calls Try.prog 25 #[.agg #[.int .i64 k, .int .u64 b], .agg #[.int .i64 k, .int .u64 a]] W fun e w' => e = .returned (.tuple #[.agg #[.int .i64 k, .int .u64 x], .int .i64 0]) ∧ Below W.heap.size W w' from fun W => (or_in hb ha h2 h1 W).mono fun _ _ h => by rw [Nat.or_comm, hx] at h; exact h)
  have HP := Lib.hid (show ∀ W : World, Calls Try.prog 25 #[.agg #[.int .i64 k, .int .u64 x], .agg #[.int .i64 k, .int .u64 c]] W fun e w' => e = .returned (.tuple #[.agg #[.int .i64 k, .int .u64 p], .int .i64 0]) ∧ Below W.heap.size W w' from fun W => (or_in (rB_lt hX) hc hX h3 W).mono fun _ _ h => by rw [hp] at h; exact h)
  have HZ := Lib.hid (show ∀ W : World, Calls Try.prog 25 #[.agg #[.int .i64 k, .int .u64 b], .agg #[.int .i64 k, .int .u64 c]] W fun e w' => e = .returned (.tuple #[.agg #[.int .i64 k, .int .u64 z], .int .i64 0]) ∧ Below W.heap.size W w' from fun W => (or_in hb hc h2 h3 W).mono fun _ _ h => by rw [hz] at h; exact h)
  have HQ := Lib.hid (show ∀ W : World, Calls Try.prog 25 #[.agg #[.int .i64 k, .int .u64 a], .agg #[.int .i64 k, .int .u64 z]] W fun e w' => e = .returned (.tuple #[.agg #[.int .i64 k, .int .u64 p], .int .i64 0]) ∧ Below W.heap.size W w' from fun W => (or_in ha (rB_lt hZ) h1 hZ W).mono fun _ _ h => by rw [← hz, ← Nat.or_assoc, hx, hp] at h; exact h)
  have HS := Lib.hid (show ∀ W : World, Calls Try.prog 25 #[.agg #[.int .i64 k, .int .u64 a], .agg #[.int .i64 k, .int .u64 a]] W fun e w' => e = .returned (.tuple #[.agg #[.int .i64 k, .int .u64 a], .int .i64 0]) ∧ Below W.heap.size W w' from fun W => (or_in ha ha h1 h1 W).mono fun _ _ h => by rw [Nat.or_self] at h; exact h)
  have HT := Lib.hid (show ∀ W : World, Calls Try.prog 25 #[.agg #[.int .i64 k, .int .u64 0], .agg #[.int .i64 k, .int .u64 a]] W fun e w' => e = .returned (.tuple #[.agg #[.int .i64 k, .int .u64 a], .int .i64 0]) ∧ Below W.heap.size W w' from fun W => (or_in (a := 0) (by omega) ha (rB_zero hk) h1 W).mono fun _ _ h => by rw [Nat.zero_or] at h; exact h)
  obtain ⟨ca, hca⟩ : ∃ m, cntB k a = m := ⟨_, rfl⟩
  obtain ⟨cb, hcb⟩ : ∃ m, cntB k b = m := ⟨_, rfl⟩
  obtain ⟨cx, hcx⟩ : ∃ m, cntB k x = m := ⟨_, rfl⟩
  have HCa := Lib.hid (show ∀ W : World, Calls Try.prog 27 #[.agg #[.int .i64 k, .int .u64 a]] W fun e w' => e = .returned (.int .i64 ca) ∧ Below W.heap.size W w' from fun W => (mcount_any k ha W).mono fun _ _ h => by rw [cntS_in h1, hca] at h; exact h)
  have HCb := Lib.hid (show ∀ W : World, Calls Try.prog 27 #[.agg #[.int .i64 k, .int .u64 b]] W fun e w' => e = .returned (.int .i64 cb) ∧ Below W.heap.size W w' from fun W => (mcount_any k hb W).mono fun _ _ h => by rw [cntS_in h2, hcb] at h; exact h)
  have HCx := Lib.hid (show ∀ W : World, Calls Try.prog 27 #[.agg #[.int .i64 k, .int .u64 x]] W fun e w' => e = .returned (.int .i64 cx) ∧ Below W.heap.size W w' from fun W => (mcount_any k (rB_lt hX) W).mono fun _ _ h => by rw [cntS_in hX, hcx] at h; exact h)
  have g1 : ca ≤ cx := by rw [← hca, ← hcx, ← hx]; exact cnt_or_ge k a b
  have g2 : cx ≤ ca + cb := by rw [← hca, ← hcb, ← hcx, ← hx]; exact cnt_or_le k a b
  have g3 : ca ≤ 64 := by have := cntB_le k a; omega
  have g4 : cb ≤ 64 := by have := cntB_le k b; omega
  have g5 : (ca : Int) ≤ (cx : Int) := by omega
  have g6 : (cx : Int) ≤ (ca : Int) + (cb : Int) := by omega
  have g7 : IntKind.i64.wrap ((ca : Int) + (cb : Int)) = (ca : Int) + (cb : Int) := IntWalk.i64_in _ (by omega)
  have HRa := Lib.hid (fun W => right_any k ha W)
  have HRb := Lib.hid (fun W => right_any k hb W)
  have HRc := Lib.hid (fun W => right_any k hc W)
  rw [h1] at HRa
  rw [h2] at HRb
  rw [h3] at HRc
  have q1 : ((k : Int) != (k : Int)) = false := by simp
  clear hX hZ hx hz hp hca hcb hcx ha hb hc h1 h2 h3
  unfold mV at HRa HRb HRc ⊢
  have HBX := Lib.hid (Bal (Bal (Bal (Below.refl w.heap.size w) (.cells #[.int .i64 k, .int .u64 a] 56)) (.cells #[.int .i64 k, .int .u64 b] 56)) (.cells #[.int .i64 k, .int .u64 c] 56))
  have HMa := Lib.hid (((MB.new w k a).alloc (.cells #[.int .i64 k, .int .u64 b] 56)).alloc (.cells #[.int .i64 k, .int .u64 c] 56))
  have HMb := Lib.hid (show MB (((w.alloc (.cells #[.int .i64 k, .int .u64 a] 56)).alloc (.cells #[.int .i64 k, .int .u64 b] 56)).alloc (.cells #[.int .i64 k, .int .u64 c] 56)) (w.heap.size + 1) k b from by
    have := (MB.new (w.alloc (.cells #[.int .i64 k, .int .u64 a] 56)) k b).alloc (.cells #[.int .i64 k, .int .u64 c] 56)
    rwa [show (w.alloc (.cells #[.int .i64 k, .int .u64 a] 56)).heap.size = w.heap.size + 1 by simp] at this)
  have HMc := Lib.hid (show MB (((w.alloc (.cells #[.int .i64 k, .int .u64 a] 56)).alloc (.cells #[.int .i64 k, .int .u64 b] 56)).alloc (.cells #[.int .i64 k, .int .u64 c] 56)) (w.heap.size + 2) k c from by
    have := MB.new ((w.alloc (.cells #[.int .i64 k, .int .u64 a] 56)).alloc (.cells #[.int .i64 k, .int .u64 b] 56)) k c
    rwa [show ((w.alloc (.cells #[.int .i64 k, .int .u64 a] 56)).alloc (.cells #[.int .i64 k, .int .u64 b] 56)).heap.size = w.heap.size + 2 by simp] at this)
  go_enter Try.func9, Try.ntmps9
  go_upto_region 1 with fail
  obtain ⟨X, hX⟩ : ∃ X, ((w.alloc (.cells #[.int .i64 k, .int .u64 a] 56)).alloc (.cells #[.int .i64 k, .int .u64 b] 56)).alloc (.cells #[.int .i64 k, .int .u64 c] 56) = X := ⟨_, rfl⟩
  rw [hX] at HBX HMa HMb HMc ⊢
  clear hX
  have a0 := HMa.out.c0
  have a1 := HMa.out.c1
  have b0 := HMb.out.c0
  have b1 := HMb.out.c1
  have c0 := HMc.out.c0
  have c1 := HMc.out.c1
  go_wp2_with fail
  refine (HRa.out _).mono ?_
  rintro e ra ⟨rfl, ha⟩
  have HBX := Lib.hid (Bto HBX.out ha)
  have HMa := Lib.hid (HMa.out.below ha)
  have HMb := Lib.hid (HMb.out.below ha)
  have HMc := Lib.hid (HMc.out.below ha)
  clear ha a0 a1 b0 b1 c0 c1
  have a0 := HMa.out.c0
  have a1 := HMa.out.c1
  have b0 := HMb.out.c0
  have b1 := HMb.out.c1
  have c0 := HMc.out.c0
  have c1 := HMc.out.c1
  go_wp2_with fail
  refine (HRb.out _).mono ?_
  rintro e rb ⟨rfl, hb⟩
  have HBX := Lib.hid (Bto HBX.out hb)
  have HMa := Lib.hid (HMa.out.below hb)
  have HMb := Lib.hid (HMb.out.below hb)
  have HMc := Lib.hid (HMc.out.below hb)
  clear hb a0 a1 b0 b1 c0 c1
  have a0 := HMa.out.c0
  have a1 := HMa.out.c1
  have b0 := HMb.out.c0
  have b1 := HMb.out.c1
  have c0 := HMc.out.c0
  have c1 := HMc.out.c1
  go_wp2_with fail
  refine (HRc.out _).mono ?_
  rintro e rc ⟨rfl, hc⟩
  have HBX := Lib.hid (Bto HBX.out hc)
  have HMa := Lib.hid (HMa.out.below hc)
  have HMb := Lib.hid (HMb.out.below hc)
  have HMc := Lib.hid (HMc.out.below hc)
  clear hc a0 a1 b0 b1 c0 c1
  have a0 := HMa.out.c0
  have a1 := HMa.out.c1
  have b0 := HMb.out.c0
  have b1 := HMb.out.c1
  have c0 := HMc.out.c0
  have c1 := HMc.out.c1
  go_wp2_with fail
  refine (HN.out _).mono ?_
  rintro e w1 ⟨rfl, hw1⟩
  have hal := Below.alloc (Below.refl w1.heap.size w1) (Nat.le_refl _) (.cells #[.int .i64 k, .int .u64 0] 56)
  have HBX := Lib.hid (Bto (Bto HBX.out hw1) hal)
  have HMa := Lib.hid ((HMa.out.below hw1).below hal)
  have HMb := Lib.hid ((HMb.out.below hw1).below hal)
  have HMc := Lib.hid ((HMc.out.below hw1).below hal)
  have HMn := Lib.hid (MB.new w1 k 0)
  clear hw1 hal a0 a1 b0 b1 c0 c1
  go_upto_region 4 with fail
  obtain ⟨X0, hX0⟩ : ∃ X, w1.alloc (.cells #[.int .i64 k, .int .u64 0] 56) = X := ⟨_, rfl⟩
  rw [hX0] at HBX HMa HMb HMc HMn ⊢
  clear hX0
  have a0 := HMa.out.c0
  have a1 := HMa.out.c1
  have b0 := HMb.out.c0
  have b1 := HMb.out.c1
  have c0 := HMc.out.c0
  have c1 := HMc.out.c1
  have n0 := HMn.out.c0
  have n1 := HMn.out.c1
  go_wp2_with fail
  refine (HX.out _).mono ?_
  rintro e w2 ⟨rfl, hw2⟩
  have hal := Below.alloc (Below.refl w2.heap.size w2) (Nat.le_refl _) (.cells #[.int .i64 k, .int .u64 x] 56)
  have HBX := Lib.hid (Bto (Bto HBX.out hw2) hal)
  have HMa := Lib.hid ((HMa.out.below hw2).below hal)
  have HMb := Lib.hid ((HMb.out.below hw2).below hal)
  have HMc := Lib.hid ((HMc.out.below hw2).below hal)
  have HMn := Lib.hid ((HMn.out.below hw2).below hal)
  have HMx := Lib.hid (MB.new w2 k x)
  clear hw2 hal a0 a1 b0 b1 c0 c1 n0 n1
  go_upto_region 5 with fail
  obtain ⟨X1, hX1⟩ : ∃ X, w2.alloc (.cells #[.int .i64 k, .int .u64 x] 56) = X := ⟨_, rfl⟩
  rw [hX1] at HBX HMa HMb HMc HMn HMx ⊢
  clear hX1
  have a0 := HMa.out.c0
  have a1 := HMa.out.c1
  have b0 := HMb.out.c0
  have b1 := HMb.out.c1
  have c0 := HMc.out.c0
  have c1 := HMc.out.c1
  have n0 := HMn.out.c0
  have n1 := HMn.out.c1
  have x0 := HMx.out.c0
  have x1 := HMx.out.c1
  go_wp2_with fail
  refine (HY.out _).mono ?_
  rintro e w3 ⟨rfl, hw3⟩
  have hal := Below.alloc (Below.refl w3.heap.size w3) (Nat.le_refl _) (.cells #[.int .i64 k, .int .u64 x] 56)
  have HBX := Lib.hid (Bto (Bto HBX.out hw3) hal)
  have HMa := Lib.hid ((HMa.out.below hw3).below hal)
  have HMb := Lib.hid ((HMb.out.below hw3).below hal)
  have HMc := Lib.hid ((HMc.out.below hw3).below hal)
  have HMn := Lib.hid ((HMn.out.below hw3).below hal)
  have HMx := Lib.hid ((HMx.out.below hw3).below hal)
  have HMy := Lib.hid (MB.new w3 k x)
  clear hw3 hal a0 a1 b0 b1 c0 c1 n0 n1 x0 x1
  go_upto_region 6 with fail
  obtain ⟨X2, hX2⟩ : ∃ X, w3.alloc (.cells #[.int .i64 k, .int .u64 x] 56) = X := ⟨_, rfl⟩
  rw [hX2] at HBX HMa HMb HMc HMn HMx HMy ⊢
  clear hX2
  have a0 := HMa.out.c0
  have a1 := HMa.out.c1
  have b0 := HMb.out.c0
  have b1 := HMb.out.c1
  have c0 := HMc.out.c0
  have c1 := HMc.out.c1
  have n0 := HMn.out.c0
  have n1 := HMn.out.c1
  have x0 := HMx.out.c0
  have x1 := HMx.out.c1
  have y0 := HMy.out.c0
  have y1 := HMy.out.c1
  go_wp2_with fail
  refine (HP.out _).mono ?_
  rintro e w4 ⟨rfl, hw4⟩
  have hal := Below.alloc (Below.refl w4.heap.size w4) (Nat.le_refl _) (.cells #[.int .i64 k, .int .u64 p] 56)
  have HBX := Lib.hid (Bto (Bto HBX.out hw4) hal)
  have HMa := Lib.hid ((HMa.out.below hw4).below hal)
  have HMb := Lib.hid ((HMb.out.below hw4).below hal)
  have HMc := Lib.hid ((HMc.out.below hw4).below hal)
  have HMn := Lib.hid ((HMn.out.below hw4).below hal)
  have HMx := Lib.hid ((HMx.out.below hw4).below hal)
  have HMy := Lib.hid ((HMy.out.below hw4).below hal)
  have HMp := Lib.hid (MB.new w4 k p)
  clear hw4 hal a0 a1 b0 b1 c0 c1 n0 n1 x0 x1 y0 y1
  go_upto_region 7 with fail
  obtain ⟨X3, hX3⟩ : ∃ X, w4.alloc (.cells #[.int .i64 k, .int .u64 p] 56) = X := ⟨_, rfl⟩
  rw [hX3] at HBX HMa HMb HMc HMn HMx HMy HMp ⊢
  clear hX3
  have a0 := HMa.out.c0
  have a1 := HMa.out.c1
  have b0 := HMb.out.c0
  have b1 := HMb.out.c1
  have c0 := HMc.out.c0
  have c1 := HMc.out.c1
  have n0 := HMn.out.c0
  have n1 := HMn.out.c1
  have x0 := HMx.out.c0
  have x1 := HMx.out.c1
  have y0 := HMy.out.c0
  have y1 := HMy.out.c1
  have p0 := HMp.out.c0
  have p1 := HMp.out.c1
  go_wp2_with fail
  refine (HZ.out _).mono ?_
  rintro e w5 ⟨rfl, hw5⟩
  have hal := Below.alloc (Below.refl w5.heap.size w5) (Nat.le_refl _) (.cells #[.int .i64 k, .int .u64 z] 56)
  have HBX := Lib.hid (Bto (Bto HBX.out hw5) hal)
  have HMa := Lib.hid ((HMa.out.below hw5).below hal)
  have HMb := Lib.hid ((HMb.out.below hw5).below hal)
  have HMc := Lib.hid ((HMc.out.below hw5).below hal)
  have HMn := Lib.hid ((HMn.out.below hw5).below hal)
  have HMx := Lib.hid ((HMx.out.below hw5).below hal)
  have HMy := Lib.hid ((HMy.out.below hw5).below hal)
  have HMp := Lib.hid ((HMp.out.below hw5).below hal)
  have HMz := Lib.hid (MB.new w5 k z)
  clear hw5 hal a0 a1 b0 b1 c0 c1 n0 n1 x0 x1 y0 y1 p0 p1
  go_upto_region 8 with fail
  obtain ⟨X4, hX4⟩ : ∃ X, w5.alloc (.cells #[.int .i64 k, .int .u64 z] 56) = X := ⟨_, rfl⟩
  rw [hX4] at HBX HMa HMb HMc HMn HMx HMy HMp HMz ⊢
  clear hX4
  have a0 := HMa.out.c0
  have a1 := HMa.out.c1
  have b0 := HMb.out.c0
  have b1 := HMb.out.c1
  have c0 := HMc.out.c0
  have c1 := HMc.out.c1
  have n0 := HMn.out.c0
  have n1 := HMn.out.c1
  have x0 := HMx.out.c0
  have x1 := HMx.out.c1
  have y0 := HMy.out.c0
  have y1 := HMy.out.c1
  have p0 := HMp.out.c0
  have p1 := HMp.out.c1
  have z0 := HMz.out.c0
  have z1 := HMz.out.c1
  go_wp2_with fail
  refine (HQ.out _).mono ?_
  rintro e w6 ⟨rfl, hw6⟩
  have hal := Below.alloc (Below.refl w6.heap.size w6) (Nat.le_refl _) (.cells #[.int .i64 k, .int .u64 p] 56)
  have HBX := Lib.hid (Bto (Bto HBX.out hw6) hal)
  have HMa := Lib.hid ((HMa.out.below hw6).below hal)
  have HMb := Lib.hid ((HMb.out.below hw6).below hal)
  have HMn := Lib.hid ((HMn.out.below hw6).below hal)
  have HMx := Lib.hid ((HMx.out.below hw6).below hal)
  have HMy := Lib.hid ((HMy.out.below hw6).below hal)
  have HMp := Lib.hid ((HMp.out.below hw6).below hal)
  have HMz := Lib.hid ((HMz.out.below hw6).below hal)
  have HMq := Lib.hid (MB.new w6 k p)
  clear hw6 hal a0 a1 b0 b1 c0 c1 n0 n1 x0 x1 y0 y1 p0 p1 z0 z1
  go_upto_region 9 with fail
  obtain ⟨X5, hX5⟩ : ∃ X, w6.alloc (.cells #[.int .i64 k, .int .u64 p] 56) = X := ⟨_, rfl⟩
  rw [hX5] at HBX HMa HMb HMn HMx HMy HMp HMz HMq ⊢
  clear hX5
  have a0 := HMa.out.c0
  have a1 := HMa.out.c1
  have b0 := HMb.out.c0
  have b1 := HMb.out.c1
  have n0 := HMn.out.c0
  have n1 := HMn.out.c1
  have x0 := HMx.out.c0
  have x1 := HMx.out.c1
  have y0 := HMy.out.c0
  have y1 := HMy.out.c1
  have p0 := HMp.out.c0
  have p1 := HMp.out.c1
  have z0 := HMz.out.c0
  have z1 := HMz.out.c1
  have q0 := HMq.out.c0
  have q1 := HMq.out.c1
  go_wp2_with fail
  refine (HS.out _).mono ?_
  rintro e w7 ⟨rfl, hw7⟩
  have hal := Below.alloc (Below.refl w7.heap.size w7) (Nat.le_refl _) (.cells #[.int .i64 k, .int .u64 a] 56)
  have HBX := Lib.hid (Bto (Bto HBX.out hw7) hal)
  have HMa := Lib.hid ((HMa.out.below hw7).below hal)
  have HMb := Lib.hid ((HMb.out.below hw7).below hal)
  have HMn := Lib.hid ((HMn.out.below hw7).below hal)
  have HMx := Lib.hid ((HMx.out.below hw7).below hal)
  have HMy := Lib.hid ((HMy.out.below hw7).below hal)
  have HMp := Lib.hid ((HMp.out.below hw7).below hal)
  have HMq := Lib.hid ((HMq.out.below hw7).below hal)
  have HMs := Lib.hid (MB.new w7 k a)
  clear hw7 hal a0 a1 b0 b1 n0 n1 x0 x1 y0 y1 p0 p1 z0 z1 q0 q1
  go_upto_region 10 with fail
  obtain ⟨X6, hX6⟩ : ∃ X, w7.alloc (.cells #[.int .i64 k, .int .u64 a] 56) = X := ⟨_, rfl⟩
  rw [hX6] at HBX HMa HMb HMn HMx HMy HMp HMq HMs ⊢
  clear hX6
  have a0 := HMa.out.c0
  have a1 := HMa.out.c1
  have b0 := HMb.out.c0
  have b1 := HMb.out.c1
  have n0 := HMn.out.c0
  have n1 := HMn.out.c1
  have x0 := HMx.out.c0
  have x1 := HMx.out.c1
  have y0 := HMy.out.c0
  have y1 := HMy.out.c1
  have p0 := HMp.out.c0
  have p1 := HMp.out.c1
  have q0 := HMq.out.c0
  have q1 := HMq.out.c1
  have s0 := HMs.out.c0
  have s1 := HMs.out.c1
  go_wp2_with fail
  refine (HT.out _).mono ?_
  rintro e w8 ⟨rfl, hw8⟩
  have hal := Below.alloc (Below.refl w8.heap.size w8) (Nat.le_refl _) (.cells #[.int .i64 k, .int .u64 a] 56)
  have HBX := Lib.hid (Bto (Bto HBX.out hw8) hal)
  have HMa := Lib.hid ((HMa.out.below hw8).below hal)
  have HMb := Lib.hid ((HMb.out.below hw8).below hal)
  have HMx := Lib.hid ((HMx.out.below hw8).below hal)
  have HMy := Lib.hid ((HMy.out.below hw8).below hal)
  have HMp := Lib.hid ((HMp.out.below hw8).below hal)
  have HMq := Lib.hid ((HMq.out.below hw8).below hal)
  have HMs := Lib.hid ((HMs.out.below hw8).below hal)
  have HMt := Lib.hid (MB.new w8 k a)
  clear hw8 hal a0 a1 b0 b1 n0 n1 x0 x1 y0 y1 p0 p1 q0 q1 s0 s1
  go_upto_region 11 with fail
  obtain ⟨X7, hX7⟩ : ∃ X, w8.alloc (.cells #[.int .i64 k, .int .u64 a] 56) = X := ⟨_, rfl⟩
  rw [hX7] at HBX HMa HMb HMx HMy HMp HMq HMs HMt ⊢
  clear hX7
  have a0 := HMa.out.c0
  have a1 := HMa.out.c1
  have b0 := HMb.out.c0
  have b1 := HMb.out.c1
  have x0 := HMx.out.c0
  have x1 := HMx.out.c1
  have y0 := HMy.out.c0
  have y1 := HMy.out.c1
  have p0 := HMp.out.c0
  have p1 := HMp.out.c1
  have q0 := HMq.out.c0
  have q1 := HMq.out.c1
  have s0 := HMs.out.c0
  have s1 := HMs.out.c1
  have t0 := HMt.out.c0
  have t1 := HMt.out.c1
  clear a0 a1 b0 b1 x0 x1 y0 y1 p0 p1 q0 q1 s0 s1 t0 t1
  go_upto_region 12 with fail
  refine wp_region_held_drew (S := fun W => Below X7.heap.size X7 W) (by kernel_rfl) (belowN (Below.refl X7.heap.size X7) 1) (fun hHeld => ?_)
  refine wpAnyH_ready (rs := [0]) (by kernel_rfl) (by simp) ?_
  refine AllReadyH.cons (by simp; rfl) (fun K0 hK0 => ?_) AllReadyH.nil
  go_simp
  refine (alive_any _).mono ?_
  rintro e v1 ⟨rfl, hy⟩
  have HBv1 := Lib.hid (Below.trans hHeld (hy.mono hHeld.size))
  clear hy
  refine hK0.out _ _ HBv1.out (fun _ => ?_)
  clear hK0 K0 hHeld
  have hHeld := HBv1.out
  refine wpAnyH_take (i := 1) (v := ?_) (by simp; rfl) (by kernel_rfl) (by kernel_rfl) (by kernel_rfl) (by exact fun _ _ _ h => h) (Or.inl ⟨by rfl, fun wx hSx => ?_⟩) hHeld ?_
  rotate_left
  · clear hSx; go_simp; (try with_reducible rfl)
  simp only [Act.put, List.setIfInBounds_toArray, set16]; try simp only [List.set_cons_zero, List.set_cons_succ]
  refine wpAnyH_take (i := 2) (v := ?_) (by simp; rfl) (by kernel_rfl) (by kernel_rfl) (by kernel_rfl) (by exact fun _ _ _ h => h) (Or.inl ⟨by rfl, fun wx hSx => ?_⟩) hHeld ?_
  rotate_left
  · clear hSx; go_simp; (try with_reducible rfl)
  simp only [Act.put, List.setIfInBounds_toArray, set16]; try simp only [List.set_cons_zero, List.set_cons_succ]
  refine wpAnyH_take (i := 3) (v := ?_) (by simp; rfl) (by kernel_rfl) (by kernel_rfl) (by kernel_rfl) (by exact fun _ _ _ h => h) (Or.inl ⟨by rfl, fun wx hSx => ?_⟩) hHeld ?_
  rotate_left
  · clear hSx; go_simp; (try with_reducible rfl)
  simp only [Act.put, List.setIfInBounds_toArray, set16]; try simp only [List.set_cons_zero, List.set_cons_succ]
  refine wpAnyH_take (i := 4) (v := ?_) (by simp; rfl) (by kernel_rfl) (by kernel_rfl) (by kernel_rfl) (by exact fun _ _ _ h => h) (Or.inl ⟨by rfl, fun wx hSx => ?_⟩) hHeld ?_
  rotate_left
  · clear hSx; go_simp; (try with_reducible rfl)
  simp only [Act.put, List.setIfInBounds_toArray, set16]; try simp only [List.set_cons_zero, List.set_cons_succ]
  refine wpAnyH_take (i := 5) (v := ?_) (by simp; rfl) (by kernel_rfl) (by kernel_rfl) (by kernel_rfl) (by exact fun _ _ _ h => h) (Or.inl ⟨by rfl, fun wx hSx => ?_⟩) hHeld ?_
  rotate_left
  · obtain ⟨e0, e1⟩ := And.intro (HMx.out.below hSx).c0 (HMx.out.below hSx).c1; clear hSx; go_simp; (try with_reducible rfl)
  simp only [Act.put, List.setIfInBounds_toArray, set16]; try simp only [List.set_cons_zero, List.set_cons_succ]
  refine wpAnyH_take (i := 6) (v := ?_) (by simp; rfl) (by kernel_rfl) (by kernel_rfl) (by kernel_rfl) (by exact fun _ _ _ h => h) (Or.inl ⟨by rfl, fun wx hSx => ?_⟩) hHeld ?_
  rotate_left
  · obtain ⟨e0, e1⟩ := And.intro (HMy.out.below hSx).c0 (HMy.out.below hSx).c1; clear hSx; go_simp; (try with_reducible rfl)
  simp only [Act.put, List.setIfInBounds_toArray, set16]; try simp only [List.set_cons_zero, List.set_cons_succ]
  refine wpAnyH_take (i := 7) (v := ?_) (by simp; rfl) (by kernel_rfl) (by kernel_rfl) (by kernel_rfl) (by exact fun _ _ _ h => h) (Or.inl ⟨by rfl, fun wx hSx => ?_⟩) hHeld ?_
  rotate_left
  · clear hSx; go_simp; (try with_reducible rfl)
  simp only [Act.put, List.setIfInBounds_toArray, set16]; try simp only [List.set_cons_zero, List.set_cons_succ]
  refine wpAnyH_take (i := 8) (v := ?_) (by simp; rfl) (by kernel_rfl) (by kernel_rfl) (by kernel_rfl) (by exact fun _ _ _ h => h) (Or.inl ⟨by rfl, fun wx hSx => ?_⟩) hHeld ?_
  rotate_left
  · clear hSx; go_simp; (try with_reducible rfl)
  simp only [Act.put, List.setIfInBounds_toArray, set16]; try simp only [List.set_cons_zero, List.set_cons_succ]
  refine wpAnyH_take (i := 9) (v := ?_) (by simp; rfl) (by kernel_rfl) (by kernel_rfl) (by kernel_rfl) (by exact fun _ _ _ h => h) (Or.inl ⟨by rfl, fun wx hSx => ?_⟩) hHeld ?_
  rotate_left
  · clear hSx; go_simp; (try with_reducible rfl)
  simp only [Act.put, List.setIfInBounds_toArray, set16]; try simp only [List.set_cons_zero, List.set_cons_succ]
  refine wpAnyH_take (i := 10) (v := ?_) (by simp; rfl) (by kernel_rfl) (by kernel_rfl) (by kernel_rfl) (by exact fun _ _ _ h => h) (Or.inl ⟨by rfl, fun wx hSx => ?_⟩) hHeld ?_
  rotate_left
  · obtain ⟨e0, e1⟩ := And.intro (HMp.out.below hSx).c0 (HMp.out.below hSx).c1; clear hSx; go_simp; (try with_reducible rfl)
  simp only [Act.put, List.setIfInBounds_toArray, set16]; try simp only [List.set_cons_zero, List.set_cons_succ]
  refine wpAnyH_take (i := 11) (v := ?_) (by simp; rfl) (by kernel_rfl) (by kernel_rfl) (by kernel_rfl) (by exact fun _ _ _ h => h) (Or.inl ⟨by rfl, fun wx hSx => ?_⟩) hHeld ?_
  rotate_left
  · obtain ⟨e0, e1⟩ := And.intro (HMq.out.below hSx).c0 (HMq.out.below hSx).c1; clear hSx; go_simp; (try with_reducible rfl)
  simp only [Act.put, List.setIfInBounds_toArray, set16]; try simp only [List.set_cons_zero, List.set_cons_succ]
  refine wpAnyH_take (i := 12) (v := ?_) (by simp; rfl) (by kernel_rfl) (by kernel_rfl) (by kernel_rfl) (by exact fun _ _ _ h => h) (Or.inl ⟨by rfl, fun wx hSx => ?_⟩) hHeld ?_
  rotate_left
  · clear hSx; go_simp; (try with_reducible rfl)
  simp only [Act.put, List.setIfInBounds_toArray, set16]; try simp only [List.set_cons_zero, List.set_cons_succ]
  refine wpAnyH_take (i := 13) (v := ?_) (by simp; rfl) (by kernel_rfl) (by kernel_rfl) (by kernel_rfl) (by exact fun _ _ _ h => h) (Or.inl ⟨by rfl, fun wx hSx => ?_⟩) hHeld ?_
  rotate_left
  · clear hSx; go_simp; (try with_reducible rfl)
  simp only [Act.put, List.setIfInBounds_toArray, set16]; try simp only [List.set_cons_zero, List.set_cons_succ]
  refine wpAnyH_take (i := 14) (v := ?_) (by simp; rfl) (by kernel_rfl) (by kernel_rfl) (by kernel_rfl) (by exact fun _ _ _ h => h) (Or.inl ⟨by rfl, fun wx hSx => ?_⟩) hHeld ?_
  rotate_left
  · clear hSx; go_simp; (try with_reducible rfl)
  simp only [Act.put, List.setIfInBounds_toArray, set16]; try simp only [List.set_cons_zero, List.set_cons_succ]
  refine wpAnyH_take (i := 15) (v := ?_) (by simp; rfl) (by kernel_rfl) (by kernel_rfl) (by kernel_rfl) (by exact fun _ _ _ h => h) (Or.inl ⟨by rfl, fun wx hSx => ?_⟩) hHeld ?_
  rotate_left
  · obtain ⟨e0, e1⟩ := And.intro (HMs.out.below hSx).c0 (HMs.out.below hSx).c1; clear hSx; go_simp; (try with_reducible rfl)
  simp only [Act.put, List.setIfInBounds_toArray, set16]; try simp only [List.set_cons_zero, List.set_cons_succ]
  refine wpAnyH_take (i := 16) (v := ?_) (by simp; rfl) (by kernel_rfl) (by kernel_rfl) (by kernel_rfl) (by exact fun _ _ _ h => h) (Or.inl ⟨by rfl, fun wx hSx => ?_⟩) hHeld ?_
  rotate_left
  · obtain ⟨e0, e1⟩ := And.intro (HMa.out.below hSx).c0 (HMa.out.below hSx).c1; clear hSx; go_simp; (try with_reducible rfl)
  simp only [Act.put, List.setIfInBounds_toArray, set16]; try simp only [List.set_cons_zero, List.set_cons_succ]
  refine wpAnyH_take (i := 17) (v := ?_) (by simp; rfl) (by kernel_rfl) (by kernel_rfl) (by kernel_rfl) (by exact fun _ _ _ h => h) (Or.inl ⟨by rfl, fun wx hSx => ?_⟩) hHeld ?_
  rotate_left
  · clear hSx; go_simp; (try with_reducible rfl)
  simp only [Act.put, List.setIfInBounds_toArray, set16]; try simp only [List.set_cons_zero, List.set_cons_succ]
  refine wpAnyH_take (i := 18) (v := ?_) (by simp; rfl) (by kernel_rfl) (by kernel_rfl) (by kernel_rfl) (by exact fun _ _ _ h => h) (Or.inl ⟨by rfl, fun wx hSx => ?_⟩) hHeld ?_
  rotate_left
  · clear hSx; go_simp; (try with_reducible rfl)
  simp only [Act.put, List.setIfInBounds_toArray, set16]; try simp only [List.set_cons_zero, List.set_cons_succ]
  refine wpAnyH_take (i := 19) (v := ?_) (by simp; rfl) (by kernel_rfl) (by kernel_rfl) (by kernel_rfl) (by exact fun _ _ _ h => h) (Or.inl ⟨by rfl, fun wx hSx => ?_⟩) hHeld ?_
  rotate_left
  · clear hSx; go_simp; (try with_reducible rfl)
  simp only [Act.put, List.setIfInBounds_toArray, set16]; try simp only [List.set_cons_zero, List.set_cons_succ]
  refine wpAnyH_take (i := 20) (v := ?_) (by simp; rfl) (by kernel_rfl) (by kernel_rfl) (by kernel_rfl) (by exact fun _ _ _ h => h) (Or.inl ⟨by rfl, fun wx hSx => ?_⟩) hHeld ?_
  rotate_left
  · obtain ⟨e0, e1⟩ := And.intro (HMt.out.below hSx).c0 (HMt.out.below hSx).c1; clear hSx; go_simp; (try with_reducible rfl)
  simp only [Act.put, List.setIfInBounds_toArray, set16]; try simp only [List.set_cons_zero, List.set_cons_succ]
  refine wpAnyH_take (i := 21) (v := ?_) (by simp; rfl) (by kernel_rfl) (by kernel_rfl) (by kernel_rfl) (by exact fun _ _ _ h => h) (Or.inl ⟨by rfl, fun wx hSx => ?_⟩) hHeld ?_
  rotate_left
  · obtain ⟨e0, e1⟩ := And.intro (HMa.out.below hSx).c0 (HMa.out.below hSx).c1; clear hSx; go_simp; (try with_reducible rfl)
  simp only [Act.put, List.setIfInBounds_toArray, set16]; try simp only [List.set_cons_zero, List.set_cons_succ]
  refine wpAnyH_take (i := 22) (v := ?_) (by simp; rfl) (by kernel_rfl) (by kernel_rfl) (by kernel_rfl) (by exact fun _ _ _ h => h) (Or.inl ⟨by rfl, fun wx hSx => ?_⟩) hHeld ?_
  rotate_left
  · clear hSx; go_simp; (try with_reducible rfl)
  simp only [Act.put, List.setIfInBounds_toArray, set16]; try simp only [List.set_cons_zero, List.set_cons_succ]
  refine wpAnyH_take (i := 23) (v := ?_) (by simp; rfl) (by kernel_rfl) (by kernel_rfl) (by kernel_rfl) (by exact fun _ _ _ h => h) (Or.inl ⟨by rfl, fun wx hSx => ?_⟩) hHeld ?_
  rotate_left
  · clear hSx; go_simp; (try with_reducible rfl)
  simp only [Act.put, List.setIfInBounds_toArray, set16]; try simp only [List.set_cons_zero, List.set_cons_succ]
  refine wpAnyH_take (i := 24) (v := ?_) (by simp; rfl) (by kernel_rfl) (by kernel_rfl) (by kernel_rfl) (by exact fun _ _ _ h => h) (Or.inl ⟨by rfl, fun wx hSx => ?_⟩) hHeld ?_
  rotate_left
  · clear hSx; go_simp; (try with_reducible rfl)
  simp only [Act.put, List.setIfInBounds_toArray, set16]; try simp only [List.set_cons_zero, List.set_cons_succ]
  refine wpAnyH_take (i := 25) (v := ?_) (by simp; rfl) (by kernel_rfl) (by kernel_rfl) (by kernel_rfl) (by exact fun _ _ _ h => h) (Or.inl ⟨by rfl, fun wx hSx => ?_⟩) hHeld ?_
  rotate_left
  · obtain ⟨e0, e1⟩ := And.intro (HMx.out.below hSx).c0 (HMx.out.below hSx).c1; clear hSx; go_simp; (try with_reducible rfl)
  simp only [Act.put, List.setIfInBounds_toArray, set16]; try simp only [List.set_cons_zero, List.set_cons_succ]
  refine wpAnyH_take (i := 27) (v := ?_) (by simp; rfl) (by kernel_rfl) (by kernel_rfl) (by kernel_rfl) (by exact fun _ _ _ h => h) (Or.inl ⟨by rfl, fun wx hSx => ?_⟩) hHeld ?_
  rotate_left
  · obtain ⟨e0, e1⟩ := And.intro (HMa.out.below hSx).c0 (HMa.out.below hSx).c1; clear hSx; go_simp; (try with_reducible rfl)
  simp only [Act.put, List.setIfInBounds_toArray, set16]; try simp only [List.set_cons_zero, List.set_cons_succ]
  refine wpAnyH_ready (rs := [26]) (by kernel_rfl) (by simp) ?_
  refine AllReadyH.cons (by simp; rfl) (fun K0 hK0 => ?_) AllReadyH.nil
  go_simp
  refine (HCx.out _).mono ?_
  rintro e v2 ⟨rfl, hy⟩
  have HBv2 := Lib.hid (Below.trans hHeld (hy.mono hHeld.size))
  clear hy
  refine hK0.out _ _ HBv2.out (fun _ => ?_)
  clear hK0 K0 hHeld
  have hHeld := HBv2.out
  refine wpAnyH_ready (rs := [28]) (by kernel_rfl) (by simp) ?_
  refine AllReadyH.cons (by simp; rfl) (fun K0 hK0 => ?_) AllReadyH.nil
  go_simp
  refine (HCa.out _).mono ?_
  rintro e v3 ⟨rfl, hy⟩
  have HBv3 := Lib.hid (Below.trans hHeld (hy.mono hHeld.size))
  clear hy
  refine hK0.out _ _ HBv3.out (fun _ => ?_)
  clear hK0 K0 hHeld
  have hHeld := HBv3.out
  refine wpAnyH_take (i := 29) (v := ?_) (by simp; rfl) (by kernel_rfl) (by kernel_rfl) (by kernel_rfl) (by exact fun _ _ _ h => h) (Or.inl ⟨by rfl, fun wx hSx => ?_⟩) hHeld ?_
  rotate_left
  · clear hSx; go_simp; (try with_reducible rfl)
  simp only [Act.put, List.setIfInBounds_toArray, set16]; try simp only [List.set_cons_zero, List.set_cons_succ]
  refine wpAnyH_take (i := 30) (v := ?_) (by simp; rfl) (by kernel_rfl) (by kernel_rfl) (by kernel_rfl) (by exact fun _ _ _ h => h) (Or.inl ⟨by rfl, fun wx hSx => ?_⟩) hHeld ?_
  rotate_left
  · clear hSx; go_simp; (try with_reducible rfl)
  simp only [Act.put, List.setIfInBounds_toArray, set16]; try simp only [List.set_cons_zero, List.set_cons_succ]
  refine wpAnyH_take (i := 31) (v := ?_) (by simp; rfl) (by kernel_rfl) (by kernel_rfl) (by kernel_rfl) (by exact fun _ _ _ h => h) (Or.inl ⟨by rfl, fun wx hSx => ?_⟩) hHeld ?_
  rotate_left
  · clear hSx; go_simp; (try with_reducible rfl)
  simp only [Act.put, List.setIfInBounds_toArray, set16]; try simp only [List.set_cons_zero, List.set_cons_succ]
  refine wpAnyH_take (i := 32) (v := ?_) (by simp; rfl) (by kernel_rfl) (by kernel_rfl) (by kernel_rfl) (by exact fun _ _ _ h => h) (Or.inl ⟨by rfl, fun wx hSx => ?_⟩) hHeld ?_
  rotate_left
  · obtain ⟨e0, e1⟩ := And.intro (HMx.out.below hSx).c0 (HMx.out.below hSx).c1; clear hSx; go_simp; (try with_reducible rfl)
  simp only [Act.put, List.setIfInBounds_toArray, set16]; try simp only [List.set_cons_zero, List.set_cons_succ]
  refine wpAnyH_take (i := 34) (v := ?_) (by simp; rfl) (by kernel_rfl) (by kernel_rfl) (by kernel_rfl) (by exact fun _ _ _ h => h) (Or.inl ⟨by rfl, fun wx hSx => ?_⟩) hHeld ?_
  rotate_left
  · obtain ⟨e0, e1⟩ := And.intro (HMa.out.below hSx).c0 (HMa.out.below hSx).c1; clear hSx; go_simp; (try with_reducible rfl)
  simp only [Act.put, List.setIfInBounds_toArray, set16]; try simp only [List.set_cons_zero, List.set_cons_succ]
  refine wpAnyH_take (i := 36) (v := ?_) (by simp; rfl) (by kernel_rfl) (by kernel_rfl) (by kernel_rfl) (by exact fun _ _ _ h => h) (Or.inl ⟨by rfl, fun wx hSx => ?_⟩) hHeld ?_
  rotate_left
  · obtain ⟨e0, e1⟩ := And.intro (HMb.out.below hSx).c0 (HMb.out.below hSx).c1; clear hSx; go_simp; (try with_reducible rfl)
  simp only [Act.put, List.setIfInBounds_toArray, set16]; try simp only [List.set_cons_zero, List.set_cons_succ]
  refine wpAnyH_ready (rs := [33]) (by kernel_rfl) (by simp) ?_
  refine AllReadyH.cons (by simp; rfl) (fun K0 hK0 => ?_) AllReadyH.nil
  go_simp
  refine (HCx.out _).mono ?_
  rintro e v4 ⟨rfl, hy⟩
  have HBv4 := Lib.hid (Below.trans hHeld (hy.mono hHeld.size))
  clear hy
  refine hK0.out _ _ HBv4.out (fun _ => ?_)
  clear hK0 K0 hHeld
  have hHeld := HBv4.out
  refine wpAnyH_ready (rs := [35]) (by kernel_rfl) (by simp) ?_
  refine AllReadyH.cons (by simp; rfl) (fun K0 hK0 => ?_) AllReadyH.nil
  go_simp
  refine (HCa.out _).mono ?_
  rintro e v5 ⟨rfl, hy⟩
  have HBv5 := Lib.hid (Below.trans hHeld (hy.mono hHeld.size))
  clear hy
  refine hK0.out _ _ HBv5.out (fun _ => ?_)
  clear hK0 K0 hHeld
  have hHeld := HBv5.out
  refine wpAnyH_ready (rs := [37]) (by kernel_rfl) (by simp) ?_
  refine AllReadyH.cons (by simp; rfl) (fun K0 hK0 => ?_) AllReadyH.nil
  go_simp
  refine (HCb.out _).mono ?_
  rintro e v6 ⟨rfl, hy⟩
  have HBv6 := Lib.hid (Below.trans hHeld (hy.mono hHeld.size))
  clear hy
  refine hK0.out _ _ HBv6.out (fun _ => ?_)
  clear hK0 K0 hHeld
  have hHeld := HBv6.out
  refine wpAnyH_take (i := 38) (v := ?_) (by simp; rfl) (by kernel_rfl) (by kernel_rfl) (by kernel_rfl) (by exact fun _ _ _ h => h) (Or.inl ⟨by rfl, fun wx hSx => ?_⟩) hHeld ?_
  rotate_left
  · clear hSx; go_simp; (try with_reducible rfl)
  simp only [Act.put, List.setIfInBounds_toArray, set16]; try simp only [List.set_cons_zero, List.set_cons_succ]
  refine wpAnyH_take (i := 39) (v := ?_) (by simp; rfl) (by kernel_rfl) (by kernel_rfl) (by kernel_rfl) (by exact fun _ _ _ h => h) (Or.inl ⟨by rfl, fun wx hSx => ?_⟩) hHeld ?_
  rotate_left
  · clear hSx; go_simp; (try with_reducible rfl)
  simp only [Act.put, List.setIfInBounds_toArray, set16]; try simp only [List.set_cons_zero, List.set_cons_succ]
  refine wpAnyH_take (i := 40) (v := ?_) (by simp; rfl) (by kernel_rfl) (by kernel_rfl) (by kernel_rfl) (by exact fun _ _ _ h => h) (Or.inl ⟨by rfl, fun wx hSx => ?_⟩) hHeld ?_
  rotate_left
  · clear hSx; go_simp; (try with_reducible rfl)
  simp only [Act.put, List.setIfInBounds_toArray, set16]; try simp only [List.set_cons_zero, List.set_cons_succ]
  refine wpAnyH_take (i := 41) (v := ?_) (by simp; rfl) (by kernel_rfl) (by kernel_rfl) (by kernel_rfl) (by exact fun _ _ _ h => h) (Or.inl ⟨by rfl, fun wx hSx => ?_⟩) hHeld ?_
  rotate_left
  · clear hSx; go_simp; (try with_reducible rfl)
  simp only [Act.put, List.setIfInBounds_toArray, set16]; try simp only [List.set_cons_zero, List.set_cons_succ]
  refine wpAnyH_done (by kernel_rfl) ?_ _
  go_wp2
  go_ret
  exact ⟨rfl, Bto HBX.out HBv6.out⟩
theorem ors_any {na nb nc : Int} {a b c : Nat} (ha : a < 18446744073709551616) (hb : b < 18446744073709551616) (hc : c < 18446744073709551616) (w : World) : Calls Try.prog 9 #[mV na a, mV nb b, mV nc c] w fun e w' => e = .returned (.bool true) ∧ Below w.heap.size w w' := by
  cases h1 : rB na a
  · exact ors_1 ha hb hc h1 w
  cases h2 : rB nb b
  · exact ors_2 ha hb hc h1 h2 w
  cases h3 : rB nc c
  · exact ors_3 ha hb hc h1 h2 h3 w
  by_cases h4 : na = nb
  · by_cases h5 : nb = nc
    · subst h4 h5
      obtain ⟨k, rfl, _, _⟩ := rB_yes h1
      exact ors_in h1 h2 h3 w
    · exact ors_5 ha hb hc h1 h2 h3 h4 h5 w
  · exact ors_4 ha hb hc h1 h2 h3 h4 w
end Go.Proofs.Ytlppnnehgfpgbaa
