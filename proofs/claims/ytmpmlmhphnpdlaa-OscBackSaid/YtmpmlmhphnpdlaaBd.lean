/-
  Proved here: of the program's base: number of what is no ASCII (strings.IndexRune over the letters).
-/
import Derived.Test.YtmpmlmhphnpdlaaBm
import Derived.Laws.RangeAny
import Derived.Deep.QuietTactic
import Derived.Laws.Runes
set_option linter.unusedSimpArgs false
set_option linter.unusedVariables false
namespace Go.Proofs.Ytmpmlmhphnpdlaa
open Go.RowKit
theorem alpha_h1 : ∀ v : Fin 256, 128 ≤ v.1 → Lib.indexByte ((alphaT.extract 2 64).data.toList) (UInt8.ofNat v.1) = -1 := by decide +kernel
theorem alpha_h2 : ∀ v : Fin 256, 128 ≤ v.1 → Lib.indexByte ((alphaT.extract 3 64).data.toList) (UInt8.ofNat v.1) = -1 := by decide +kernel
theorem alpha_h3 : ∀ v : Fin 256, 128 ≤ v.1 → Lib.indexByte ((alphaT.extract 4 64).data.toList) (UInt8.ofNat v.1) = -1 := by decide +kernel
theorem valid_no (c : Int) (w : World) (h : (55296 ≤ c ∧ c ≤ 57343) ∨ 1114112 ≤ c) : Calls Try.prog 93 #[.int .i32 c] w fun e w' => e = .returned (.bool false) ∧ w = w' := by
  rcases h with h1 | h1
  · have d1 : decide (0 ≤ c) = true := by simp; omega
    have d2 : decide (c < 55296) = false := by simp; omega
    have d3 : decide (57343 < c) = false := by simp; omega
    go_enter Try.func93, Try.ntmps93
    go_wp2
    go_ret
    exact ⟨rfl, rfl⟩
  · have d1 : decide (0 ≤ c) = true := by simp; omega
    have d2 : decide (c < 55296) = false := by simp; omega
    have d3 : decide (57343 < c) = true := by simp; omega
    have d4 : decide (c ≤ 1114111) = false := by simp; omega
    go_enter Try.func93, Try.ntmps93
    go_wp2
    go_ret
    exact ⟨rfl, rfl⟩
set_option maxRecDepth 1000000 in
set_option maxHeartbeats 2000000 in
theorem indexRune_no (c : Int) (w : World) (h : (55296 ≤ c ∧ c ≤ 57343) ∨ 1114112 ≤ c) : Calls Try.prog 89 #[.string alphaT, .int .i32 c] w fun e w' => e = .returned (.int .i64 (-1)) ∧ w = w' := by
  have d1 : decide (0 ≤ c) = true := by simp; omega
  have d2 : decide (c < 128) = false := by simp; omega
  have d3 : (c == 65533) = false := by simp; omega
  have HV := Lib.hid (fun W : World => valid_no c W h)
  clear h
  go_enter Try.func89, Try.ntmps89
  go_wp2_with fail
  refine (HV.out _).mono ?_
  rintro e w' ⟨rfl, rfl⟩
  go_wp2
  go_ret
  exact ⟨rfl, rfl⟩
theorem quiet_add_left {P : Program} {f : FuncId} {args : Array Value} {w : World} {a n : Nat} {v : Value}
    (h : Calls P f args (w.drewN (a + n)) fun e w' => e = .returned v ∧ w.drewN (a + n) = w') :
    Calls P f args (w.drewN (a + n)) fun e w'' => e = .returned v ∧ ∃ m, w'' = w.drewN (a + m) :=
  h.mono fun _ _ ⟨he, hm⟩ => ⟨he, n, hm.symm⟩
theorem alpha_size : alphaT.size = 64 := rfl
theorem alpha_1 : (alphaT[1]'(by decide)).toNat = 66 := by decide +kernel
theorem alpha_2 : (alphaT[2]'(by decide)).toNat = 67 := by decide +kernel
theorem alpha_3 : (alphaT[3]'(by decide)).toNat = 68 := by decide +kernel
set_option maxRecDepth 1000000 in
set_option maxHeartbeats 2000000 in
theorem indexRune_1 (c : Int) (S : ByteArray) (b : Nat) (w : World) (h0 : 128 ≤ c) (h65 : c ≠ 65533) (hv : (0 ≤ c ∧ c < 55296) ∨ (57343 < c ∧ c < 1114112))
    (hsz : S.size = 2) (hb : ∀ h : 1 < S.size, ((S[1]'h).toNat : Nat) = b) (b0 : 128 ≤ b) (b1 : b < 256) (hconv : Utf8.encode c = S) :
    Calls Try.prog 89 #[.string alphaT, .int .i32 c] w fun e w' => e = .returned (.int .i64 (-1)) ∧ ∃ k, w' = w.drewN k := by
  have d1 : decide (0 ≤ c) = true := by simp; omega
  have d2 : decide (c < 128) = false := by simp; omega
  have d3 : (c == 65533) = false := by simp; omega
  have HV := Lib.hid (fun W : World => valid_any c W hv)
  have HX := Lib.hid (fun W : World => alpha_h1 ⟨b, b1⟩ b0 ▸ stIndexByte (alphaT.extract 2 64) b W)
  have hb' := hb (by omega)
  have ne1 : ((66 : Int) != (b : Int)) = true := by simp; omega
  have a1 := alpha_1
  have az := alpha_size
  clear hv hb
  go_enter Try.func89, Try.ntmps89
  go_wp2_with fail
  refine (HV.out _).mono ?_
  rintro e w' ⟨rfl, rfl⟩
  go_wp2
  go_step3
  go_wp2
  go_loop [9, 10, 11] (fun i f _ => i = .int .i64 1 ∧ f = .int .i64 0) (fun _ _ _ => 0)
  case atStart => exact ⟨rfl, rfl⟩
  case round =>
    obtain ⟨rfl, rfl⟩ := hrel
    go_wp2
    go_step3
    go_wp2
    go_quiet (fail)
    go_wp2
    go_quiet ((go_at_call 92; exact quiet_add_left (HX.out _)))
    go_wp2
    rw [Exit.noGoto_ret]
    go_wp2
    try rw [Exit.noGoto_ret]
    go_ret
    exact ⟨rfl, _, rfl⟩
set_option maxRecDepth 1000000 in
set_option maxHeartbeats 2000000 in
theorem indexRune_2 (c : Int) (S : ByteArray) (b : Nat) (w : World) (h0 : 128 ≤ c) (h65 : c ≠ 65533) (hv : (0 ≤ c ∧ c < 55296) ∨ (57343 < c ∧ c < 1114112))
    (hsz : S.size = 3) (hb : ∀ h : 2 < S.size, ((S[2]'h).toNat : Nat) = b) (b0 : 128 ≤ b) (b1 : b < 256) (hconv : Utf8.encode c = S) :
    Calls Try.prog 89 #[.string alphaT, .int .i32 c] w fun e w' => e = .returned (.int .i64 (-1)) ∧ ∃ k, w' = w.drewN k := by
  have d1 : decide (0 ≤ c) = true := by simp; omega
  have d2 : decide (c < 128) = false := by simp; omega
  have d3 : (c == 65533) = false := by simp; omega
  have HV := Lib.hid (fun W : World => valid_any c W hv)
  have HX := Lib.hid (fun W : World => alpha_h2 ⟨b, b1⟩ b0 ▸ stIndexByte (alphaT.extract 3 64) b W)
  have hb' := hb (by omega)
  have ne1 : ((67 : Int) != (b : Int)) = true := by simp; omega
  have a1 := alpha_2
  have az := alpha_size
  clear hv hb
  go_enter Try.func89, Try.ntmps89
  go_wp2_with fail
  refine (HV.out _).mono ?_
  rintro e w' ⟨rfl, rfl⟩
  go_wp2
  go_step3
  go_wp2
  go_loop [9, 10, 11] (fun i f _ => i = .int .i64 2 ∧ f = .int .i64 0) (fun _ _ _ => 0)
  case atStart => exact ⟨rfl, rfl⟩
  case round =>
    obtain ⟨rfl, rfl⟩ := hrel
    go_wp2
    go_step3
    go_wp2
    go_quiet (fail)
    go_wp2
    go_quiet ((go_at_call 92; exact quiet_add_left (HX.out _)))
    go_wp2
    rw [Exit.noGoto_ret]
    go_wp2
    try rw [Exit.noGoto_ret]
    go_ret
    exact ⟨rfl, _, rfl⟩
set_option maxRecDepth 1000000 in
set_option maxHeartbeats 2000000 in
theorem indexRune_3 (c : Int) (S : ByteArray) (b : Nat) (w : World) (h0 : 128 ≤ c) (h65 : c ≠ 65533) (hv : (0 ≤ c ∧ c < 55296) ∨ (57343 < c ∧ c < 1114112))
    (hsz : S.size = 4) (hb : ∀ h : 3 < S.size, ((S[3]'h).toNat : Nat) = b) (b0 : 128 ≤ b) (b1 : b < 256) (hconv : Utf8.encode c = S) :
    Calls Try.prog 89 #[.string alphaT, .int .i32 c] w fun e w' => e = .returned (.int .i64 (-1)) ∧ ∃ k, w' = w.drewN k := by
  have d1 : decide (0 ≤ c) = true := by simp; omega
  have d2 : decide (c < 128) = false := by simp; omega
  have d3 : (c == 65533) = false := by simp; omega
  have HV := Lib.hid (fun W : World => valid_any c W hv)
  have HX := Lib.hid (fun W : World => alpha_h3 ⟨b, b1⟩ b0 ▸ stIndexByte (alphaT.extract 4 64) b W)
  have hb' := hb (by omega)
  have ne1 : ((68 : Int) != (b : Int)) = true := by simp; omega
  have a1 := alpha_3
  have az := alpha_size
  clear hv hb
  go_enter Try.func89, Try.ntmps89
  go_wp2_with fail
  refine (HV.out _).mono ?_
  rintro e w' ⟨rfl, rfl⟩
  go_wp2
  go_step3
  go_wp2
  go_loop [9, 10, 11] (fun i f _ => i = .int .i64 3 ∧ f = .int .i64 0) (fun _ _ _ => 0)
  case atStart => exact ⟨rfl, rfl⟩
  case round =>
    obtain ⟨rfl, rfl⟩ := hrel
    go_wp2
    go_step3
    go_wp2
    go_quiet (fail)
    go_wp2
    go_quiet ((go_at_call 92; exact quiet_add_left (HX.out _)))
    go_wp2
    rw [Exit.noGoto_ret]
    go_wp2
    try rw [Exit.noGoto_ret]
    go_ret
    exact ⟨rfl, _, rfl⟩
theorem two_at (x y : UInt8) (b : Nat) (h : y.toNat = b) : ∀ h : 1 < (⟨#[x, y]⟩ : ByteArray).size, (((⟨#[x, y]⟩ : ByteArray)[1]'h).toNat : Nat) = b := fun _ => h
theorem three_at (x y z : UInt8) (b : Nat) (h : z.toNat = b) : ∀ h : 2 < (⟨#[x, y, z]⟩ : ByteArray).size, (((⟨#[x, y, z]⟩ : ByteArray)[2]'h).toNat : Nat) = b := fun _ => h
theorem four_at (x y z u : UInt8) (b : Nat) (h : u.toNat = b) : ∀ h : 3 < (⟨#[x, y, z, u]⟩ : ByteArray).size, (((⟨#[x, y, z, u]⟩ : ByteArray)[3]'h).toNat : Nat) = b := fun _ => h
theorem enc2 {k : Nat} (v : Utf8.valid (k : Int) = true) (h1 : ¬ k < 128) (h2 : k < 2048) : Utf8.encode (k : Int) = ⟨#[UInt8.ofNat (192 + k / 64), UInt8.ofNat (128 + k % 64)]⟩ := by simp [Utf8.encode, v, h1, h2]
theorem enc3 {k : Nat} (v : Utf8.valid (k : Int) = true) (h1 : ¬ k < 128) (h2 : ¬ k < 2048) (h3 : k < 65536) : Utf8.encode (k : Int) = ⟨#[UInt8.ofNat (224 + k / 4096), UInt8.ofNat (128 + k / 64 % 64), UInt8.ofNat (128 + k % 64)]⟩ := by simp [Utf8.encode, v, h1, h2, h3]
theorem enc4 {k : Nat} (v : Utf8.valid (k : Int) = true) (h1 : ¬ k < 128) (h2 : ¬ k < 2048) (h3 : ¬ k < 65536) : Utf8.encode (k : Int) = ⟨#[UInt8.ofNat (240 + k / 262144), UInt8.ofNat (128 + k / 4096 % 64), UInt8.ofNat (128 + k / 64 % 64), UInt8.ofNat (128 + k % 64)]⟩ := by simp [Utf8.encode, v, h1, h2, h3]
theorem ofNat_small {n : Nat} (h : n < 256) : (UInt8.ofNat n).toNat = n := by rw [UInt8.toNat_ofNat']; omega
def EncHi (S : ByteArray) : Prop := ∃ n b : Nat, (n = 1 ∨ n = 2 ∨ n = 3) ∧ S.size = n + 1 ∧ (∀ h : n < S.size, ((S[n]'h).toNat : Nat) = b) ∧ 128 ≤ b ∧ b < 256
theorem encode_hi {c : Int} (h0 : 128 ≤ c) (hv : (0 ≤ c ∧ c < 55296) ∨ (57343 < c ∧ c < 1114112)) : EncHi (Utf8.encode c) := by
  have v : Utf8.valid c = true := by simp [Utf8.valid]; omega
  obtain ⟨k, rfl⟩ : ∃ k : Nat, c = k := ⟨c.toNat, by omega⟩
  have h1 : ¬ k < 128 := by omega
  have hz : (UInt8.ofNat (128 + k % 64)).toNat = 128 + k % 64 := ofNat_small (by omega)
  by_cases h2 : k < 2048
  · rw [enc2 v h1 h2]
    exact ⟨1, 128 + k % 64, .inl rfl, rfl, two_at _ _ _ hz, by omega, by omega⟩
  · by_cases h3 : k < 65536
    · rw [enc3 v h1 h2 h3]
      exact ⟨2, 128 + k % 64, .inr (.inl rfl), rfl, three_at _ _ _ _ hz, by omega, by omega⟩
    · rw [enc4 v h1 h2 h3]
      exact ⟨3, 128 + k % 64, .inr (.inr rfl), rfl, four_at _ _ _ _ _ hz, by omega, by omega⟩
theorem alpha_lo : ∀ v : Fin 64, ((alphaT[v.1]'(by have := v.2; exact this)).toNat < 128) := by decide +kernel
theorem alpha_lo2 {pos : Nat} (hp : pos < alphaT.size) : (alphaT[pos]'hp).toNat < 128 := alpha_lo ⟨pos, hp⟩
set_option maxRecDepth 1000000 in
set_option maxHeartbeats 2000000 in
theorem indexRune_bad (w : World) : Calls Try.prog 89 #[.string alphaT, .int .i32 65533] w fun e w' => e = .returned (.int .i64 (-1)) ∧ ∃ p, w' = w.iter alphaT p := by
  have az := alpha_size
  go_enter Try.func89, Try.ntmps89
  go_wp2
  go_loopw [5, 6] (fun _ _ w' => ∃ (pos : Nat), w' = w.iter alphaT pos) (fun _ _ w' => alphaT.size - w'.iterPos w.heap.size)
  case atStart => exact ⟨0, rfl⟩
  case round =>
    obtain ⟨pos, rfl⟩ := hrel
    by_cases hp : pos < alphaT.size
    · have ha := alpha_lo ⟨pos, hp⟩
      have hnx : ∀ ty, (Instr.next (.pointer (some ⟨w.heap.size, 0, none⟩)) true ty).run Try.prog (w.iter alphaT pos) = _ := fun ty => run_next_ascii w alphaT pos ty hp ha
      obtain ⟨x, hx⟩ : ∃ x : Nat, (alphaT[pos]'hp).toNat = x := ⟨_, rfl⟩
      simp only [hx] at ha
      simp only [hx] at hnx
      have ne1 : ((x : Int) == 65533) = false := by simp; omega
      clear hx
      go_wp2
      go_roundw
      case rel => exact ⟨pos + 1, rfl⟩
      case measure => simp; omega
    · have hnx : ∀ ty, (Instr.next (.pointer (some ⟨w.heap.size, 0, none⟩)) true ty).run Try.prog (w.iter alphaT pos) = _ := fun ty => run_next_end w alphaT pos ty hp
      go_wp2
      go_ret
      exact ⟨rfl, _, rfl⟩
theorem below_iter (w : World) (s : ByteArray) (p : Nat) : Below w.heap.size w (w.iter s p) := (Below.refl _ _).alloc (Nat.le_refl _) _
theorem indexRune_hi (c : Int) (w : World) (h0 : 128 ≤ c) : Calls Try.prog 89 #[.string alphaT, .int .i32 c] w fun e w' => e = .returned (.int .i64 (-1)) ∧ Below w.heap.size w w' := by
  by_cases h65 : c = 65533
  · subst h65
    refine (indexRune_bad w).mono ?_
    rintro e w' ⟨rfl, p, rfl⟩
    exact ⟨rfl, below_iter w _ p⟩
  · by_cases hv : (0 ≤ c ∧ c < 55296) ∨ (57343 < c ∧ c < 1114112)
    · obtain ⟨n, b, hn, hsz, hb, b0, b1⟩ := encode_hi h0 hv
      have fin : ∀ (e : Ending) (w' : World), (e = .returned (.int .i64 (-1)) ∧ ∃ k, w' = w.drewN k) → e = .returned (.int .i64 (-1)) ∧ Below w.heap.size w w' := fun e w' h => by
        obtain ⟨h1, k, rfl⟩ := h
        exact ⟨h1, belowN (Below.refl _ _) k⟩
      rcases hn with rfl | rfl | rfl
      · exact (indexRune_1 c _ b w h0 h65 hv hsz hb b0 b1 rfl).mono fin
      · exact (indexRune_2 c _ b w h0 h65 hv hsz hb b0 b1 rfl).mono fin
      · exact (indexRune_3 c _ b w h0 h65 hv hsz hb b0 b1 rfl).mono fin
    · refine (indexRune_no c w (by omega)).mono ?_
      rintro e w' ⟨rfl, rfl⟩
      exact ⟨rfl, Below.refl _ _⟩
theorem number_hi (c : Int) (w : World) (h0 : 128 ≤ c) : Calls Try.prog 84 #[.int .i32 c] w fun e w' => e = .returned (.int .i64 (-1)) ∧ Below w.heap.size w w' := by
  go_enter Try.func84, Try.ntmps84
  go_wp2_with fail
  refine (indexRune_hi c w h0).mono ?_
  rintro e w' ⟨rfl, hb⟩
  go_wp2
  go_ret
  exact ⟨rfl, hb⟩
end Go.Proofs.Ytmpmlmhphnpdlaa
