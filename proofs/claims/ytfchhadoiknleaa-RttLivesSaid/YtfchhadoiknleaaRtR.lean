/-
  Proved here, for every meter of the document's that holds what may stand there: the document's own Back, Measure and Wait answer as the program's do.
-/
import Derived.Test.YtfchhadoiknleaaRtA
namespace Go.Proofs.Ytfchhadoiknleaa
open Go.RowKit
abbrev XV (a s b : Int) (K : Bool) : Value := .agg #[.int .i64 a, .int .i64 s, .int .i64 b, .bool K]
set_option maxHeartbeats 1000000 in
theorem rback_any (a s b c : Int) (K : Bool) (w : World) (b0 : 0 ≤ b) (b1 : b ≤ 6) (hc : min (b + 1) 6 = c) :
    Calls Try.prog 7 #[XV a s b K] w fun e w' => e = .returned (XV a s c K) ∧ Below w.heap.size w w' := by
  by_cases h : b < 6
  · obtain rfl : b + 1 = c := by omega
    clear hc
    go_enter Try.func7, Try.ntmps7
    go_wp2
    exact bodyPost_ret (v := XV a s (b + 1) K) (by simp [results, Try.results7, go_sem]) rfl ⟨rfl, by go_grown⟩
  · obtain rfl : b = c := by omega
    have h' : 6 ≤ b := by omega
    clear hc h
    go_enter Try.func7, Try.ntmps7
    go_wp2
    exact bodyPost_ret (v := XV a s b K) (by simp [results, Try.results7, go_sem]) rfl ⟨rfl, by go_grown⟩
set_option maxHeartbeats 1000000 in
theorem rmeasure_new (a s b n : Int) (w : World) (n0 : 0 ≤ n) (n1 : n ≤ 65536) :
    Calls Try.prog 10 #[XV a s b false, .int .i64 n] w fun e w' => e = .returned (XV (8 * n) (2 * n) 0 true) ∧ Below w.heap.size w w' := by
  go_enter Try.func10, Try.ntmps10
  go_wp2
  exact bodyPost_ret (v := XV (8 * n) (2 * n) 0 true) (by simp [results, Try.results10, go_sem]) rfl ⟨rfl, by go_grown⟩
set_option maxHeartbeats 1000000 in
theorem rmeasure_old (a s b n d q : Int) (w : World) (hd : n - a / 8 = d) (hq : s / 4 = q) (a0 : 0 ≤ a) (a1 : a ≤ 524288) (s0 : 0 ≤ s) (s1 : s ≤ 262144) (d0 : -65536 ≤ d) (d1 : d ≤ 65536) (n0 : 0 ≤ n) (n1 : n ≤ 65536) :
    Calls Try.prog 10 #[XV a s b true, .int .i64 n] w fun e w' => e = .returned (XV (a + d) (s - q + absI d) 0 true) ∧ Below w.heap.size w w' := by
  by_cases h : d < 0
  · have e : absI d = -d := by unfold absI; rw [if_pos h]; omega
    rw [e]
    clear e
    go_enter Try.func10, Try.ntmps10
    go_wp2
    exact bodyPost_ret (v := XV (a + d) (s - q + -d) 0 true) (by simp [results, Try.results10, go_sem]) rfl ⟨rfl, by go_grown⟩
  · have e : absI d = d := by unfold absI; rw [if_neg h]
    have h' : 0 ≤ d := by omega
    rw [e]
    clear e h
    go_enter Try.func10, Try.ntmps10
    go_wp2
    exact bodyPost_ret (v := XV (a + d) (s - q + d) 0 true) (by simp [results, Try.results10, go_sem]) rfl ⟨rfl, by go_grown⟩
theorem rmeasure_any (K : Bool) (a s b n a' s' : Int) (w : World) (hF : Fit K a s b) (n0 : 0 ≤ n) (n1 : n ≤ 65536) (ha : mA K a n = a') (hs : mS K a s n = s') :
    Calls Try.prog 10 #[XV a s b K, .int .i64 n] w fun e w' => e = .returned (XV a' s' 0 true) ∧ Below w.heap.size w w' := by
  obtain ⟨a0, a1, s0, s1, b0, b1⟩ := hF
  subst ha hs
  cases K
  · exact rmeasure_new a s b n w n0 n1
  · exact rmeasure_old a s b n _ _ w rfl rfl a0 a1 s0 s1 (by omega) (by omega) n0 n1
theorem ret_int {k : IntKind} {a b : Int} (h : a = b) : Ending.returned (.int k a) = .returned (.int k b) := by rw [h]
/-- v, doubled k times. -/
def dbl (v : Int) (k : Nat) : Int := v * 2 ^ k
theorem dbl_succ (v : Int) (k : Nat) : dbl v (k + 1) = 2 * dbl v k := by unfold dbl; rw [Int.pow_succ]; rw [← Int.mul_assoc, Int.mul_comm]
theorem dbl_le {v : Int} (h : 1 ≤ v) {i j : Nat} (hij : i ≤ j) : dbl v i ≤ dbl v j := by
  induction hij with
  | refl => exact Int.le_refl _
  | step _ ih => rw [dbl_succ]; have : 0 ≤ dbl v i := (by unfold dbl; exact Int.mul_nonneg (by omega) (Int.pow_nonneg (by omega))); omega
theorem dbl_pos {v : Int} (h : 1 ≤ v) (k : Nat) : 1 ≤ dbl v k := by
  have := dbl_le h (Nat.zero_le k)
  have e : dbl v 0 = v := by simp [dbl]
  omega
theorem clamp_end {v c : Int} {k B : Nat} (h : 1 ≤ v) (hc : max 2 (min (dbl v B) 64) = c) (hk : k ≤ B) (he : k = B ∨ 64 ≤ dbl v k) : max 2 (min (dbl v k) 64) = c := by
  rcases he with rfl | he
  · exact hc
  · have := dbl_le h hk
    omega
set_option maxHeartbeats 2000000 in
theorem rwait_any (K : Bool) (a s c : Int) (B : Nat) (w : World) (hF : Fit K a s B) (hc : waitS K a s B = c) :
    Calls Try.prog 12 #[XV a s B K] w fun e w' => e = .returned (.int .i64 c) ∧ Below w.heap.size w w' := by
  obtain ⟨v, hv⟩ : ∃ v, w0 K a s = v := ⟨_, rfl⟩
  obtain ⟨a0, a1, s0, s1, _, b1⟩ := hF
  have v1 : 1 ≤ v := by rw [← hv]; cases K <;> simp [w0] <;> omega
  have v2 : v ≤ 400000 := by rw [← hv]; cases K <;> simp [w0] <;> omega
  have hcc : max 2 (min (dbl v B) 64) = c := by rw [← hc, waitS, hv]; simp [dbl]
  have HC := Lib.hid hcc
  have hB : B ≤ 6 := by omega
  clear hc hcc b1
  have H0 := Lib.hid (show dbl v 0 = v by simp [dbl])
  cases K
  · obtain rfl : 4 = v := hv
    have H0 := Lib.hid (show dbl 4 0 = 4 by simp [dbl])
    go_enter Try.func12, Try.ntmps12
    go_wp2
    go_loop [3, 4] (fun x i => ∃ k : Nat, k ≤ B ∧ i = .int .i64 k ∧ x = .int .i64 (dbl 4 k) ∧ dbl 4 k ≤ 400000) (fun _ i => B - (intOf i).toNat)
    case atStart => exact ⟨0, by omega, rfl, by rw [H0.out], by rw [H0.out]; omega⟩
    case round =>
      obtain ⟨k, hk, rfl, rfl, hx⟩ := hrel
      have hp := dbl_pos v1 k
      have HE := Lib.hid (fun he => clamp_end (k := k) v1 HC.out hk he)
      have HS := Lib.hid (dbl_succ 4 k)
      obtain ⟨X, hX⟩ : ∃ X, dbl 4 k = X := ⟨_, rfl⟩
      rw [hX] at hx hp HE HS ⊢
      clear hX
      have ex : k = B ∨ 64 ≤ X → (64 < X → c = 64) ∧ (X < 2 → c = 2) ∧ (2 ≤ X → X ≤ 64 → c = X) := fun he => by have := HE.out he; omega
      have EX := Lib.hid ex
      clear ex HE
      by_cases hlt : k < B
      · by_cases h64 : X < 64
        · go_wp2
          go_round
          case rel => exact ⟨k + 1, by omega, by go_num, by rw [HS.out], by rw [HS.out]; omega⟩
          case measure => simp [intOf]; omega
        · have h64' : 64 ≤ X := by omega
          clear h64
          by_cases hq : 64 < X
          · go_wp2
            go_ret
            exact ⟨ret_int ((EX.out (.inr h64')).1 hq).symm, by go_grown⟩
          · have hq' : X ≤ 64 := by omega
            clear hq
            go_wp2
            go_ret
            exact ⟨ret_int ((EX.out (.inr h64')).2.2 (by omega) hq').symm, by go_grown⟩
      · have hkB : k = B := by omega
        have hge : B ≤ k := by omega
        have HK := Lib.hid hkB
        clear hkB hlt
        by_cases hq : 64 < X
        · go_wp2
          go_ret
          exact ⟨ret_int ((EX.out (.inl HK.out)).1 hq).symm, by go_grown⟩
        · have hq' : X ≤ 64 := by omega
          clear hq
          by_cases hr : X < 2
          · go_wp2
            go_ret
            exact ⟨ret_int ((EX.out (.inl HK.out)).2.1 hr).symm, by go_grown⟩
          · have hr' : 2 ≤ X := by omega
            clear hr
            go_wp2
            go_ret
            exact ⟨ret_int ((EX.out (.inl HK.out)).2.2 hr' hq').symm, by go_grown⟩
  · by_cases hs1 : 1 < s
    · have hv' : a / 8 + s = v := by rw [← hv]; simp only [w0, if_true]; omega
      clear hv
      go_enter Try.func12, Try.ntmps12
      go_wp2
      go_loop [3, 4] (fun x i => ∃ k : Nat, k ≤ B ∧ i = .int .i64 k ∧ x = .int .i64 (dbl v k) ∧ dbl v k ≤ 400000) (fun _ i => B - (intOf i).toNat)
      case atStart => exact ⟨0, by omega, rfl, by rw [H0.out], by rw [H0.out]; omega⟩
      case round =>
        obtain ⟨k, hk, rfl, rfl, hx⟩ := hrel
        have hp := dbl_pos v1 k
        have HE := Lib.hid (fun he => clamp_end (k := k) v1 HC.out hk he)
        have HS := Lib.hid (dbl_succ v k)
        obtain ⟨X, hX⟩ : ∃ X, dbl v k = X := ⟨_, rfl⟩
        rw [hX] at hx hp HE HS ⊢
        clear hX
        have ex : k = B ∨ 64 ≤ X → (64 < X → c = 64) ∧ (X < 2 → c = 2) ∧ (2 ≤ X → X ≤ 64 → c = X) := fun he => by have := HE.out he; omega
        have EX := Lib.hid ex
        clear ex HE
        by_cases hlt : k < B
        · by_cases h64 : X < 64
          · go_wp2
            go_round
            case rel => exact ⟨k + 1, by omega, by go_num, by rw [HS.out], by rw [HS.out]; omega⟩
            case measure => simp [intOf]; omega
          · have h64' : 64 ≤ X := by omega
            clear h64
            by_cases hq : 64 < X
            · go_wp2
              go_ret
              exact ⟨ret_int ((EX.out (.inr h64')).1 hq).symm, by go_grown⟩
            · have hq' : X ≤ 64 := by omega
              clear hq
              go_wp2
              go_ret
              exact ⟨ret_int ((EX.out (.inr h64')).2.2 (by omega) hq').symm, by go_grown⟩
        · have hkB : k = B := by omega
          have hge : B ≤ k := by omega
          have HK := Lib.hid hkB
          clear hkB hlt
          by_cases hq : 64 < X
          · go_wp2
            go_ret
            exact ⟨ret_int ((EX.out (.inl HK.out)).1 hq).symm, by go_grown⟩
          · have hq' : X ≤ 64 := by omega
            clear hq
            by_cases hr : X < 2
            · go_wp2
              go_ret
              exact ⟨ret_int ((EX.out (.inl HK.out)).2.1 hr).symm, by go_grown⟩
            · have hr' : 2 ≤ X := by omega
              clear hr
              go_wp2
              go_ret
              exact ⟨ret_int ((EX.out (.inl HK.out)).2.2 hr' hq').symm, by go_grown⟩
    · have hs2 : s ≤ 1 := by omega
      have hv' : a / 8 + 1 = v := by rw [← hv]; simp only [w0, if_true]; omega
      clear hv hs1
      go_enter Try.func12, Try.ntmps12
      go_wp2
      go_loop [3, 4] (fun x i => ∃ k : Nat, k ≤ B ∧ i = .int .i64 k ∧ x = .int .i64 (dbl v k) ∧ dbl v k ≤ 400000) (fun _ i => B - (intOf i).toNat)
      case atStart => exact ⟨0, by omega, rfl, by rw [H0.out], by rw [H0.out]; omega⟩
      case round =>
        obtain ⟨k, hk, rfl, rfl, hx⟩ := hrel
        have hp := dbl_pos v1 k
        have HE := Lib.hid (fun he => clamp_end (k := k) v1 HC.out hk he)
        have HS := Lib.hid (dbl_succ v k)
        obtain ⟨X, hX⟩ : ∃ X, dbl v k = X := ⟨_, rfl⟩
        rw [hX] at hx hp HE HS ⊢
        clear hX
        have ex : k = B ∨ 64 ≤ X → (64 < X → c = 64) ∧ (X < 2 → c = 2) ∧ (2 ≤ X → X ≤ 64 → c = X) := fun he => by have := HE.out he; omega
        have EX := Lib.hid ex
        clear ex HE
        by_cases hlt : k < B
        · by_cases h64 : X < 64
          · go_wp2
            go_round
            case rel => exact ⟨k + 1, by omega, by go_num, by rw [HS.out], by rw [HS.out]; omega⟩
            case measure => simp [intOf]; omega
          · have h64' : 64 ≤ X := by omega
            clear h64
            by_cases hq : 64 < X
            · go_wp2
              go_ret
              exact ⟨ret_int ((EX.out (.inr h64')).1 hq).symm, by go_grown⟩
            · have hq' : X ≤ 64 := by omega
              clear hq
              go_wp2
              go_ret
              exact ⟨ret_int ((EX.out (.inr h64')).2.2 (by omega) hq').symm, by go_grown⟩
        · have hkB : k = B := by omega
          have hge : B ≤ k := by omega
          have HK := Lib.hid hkB
          clear hkB hlt
          by_cases hq : 64 < X
          · go_wp2
            go_ret
            exact ⟨ret_int ((EX.out (.inl HK.out)).1 hq).symm, by go_grown⟩
          · have hq' : X ≤ 64 := by omega
            clear hq
            by_cases hr : X < 2
            · go_wp2
              go_ret
              exact ⟨ret_int ((EX.out (.inl HK.out)).2.1 hr).symm, by go_grown⟩
            · have hr' : 2 ≤ X := by omega
              clear hr
              go_wp2
              go_ret
              exact ⟨ret_int ((EX.out (.inl HK.out)).2.2 hr' hq').symm, by go_grown⟩
end Go.Proofs.Ytfchhadoiknleaa
