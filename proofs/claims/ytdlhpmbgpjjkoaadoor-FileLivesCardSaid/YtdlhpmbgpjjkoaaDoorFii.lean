/-
  Proved here, where sha's table lies as the program lays it: FileCancels holds of all bytes and of every map.
-/
import Derived.Test.YtdlhpmbgpjjkoaaDoorFih
set_option linter.unusedSimpArgs false
set_option linter.unusedVariables false
namespace Go.Proofs.YtdlhpmbgpjjkoaaDoor
open Go.RowKit
theorem cnt_all {b : Nat} : ∀ i : Nat, (∀ k, k < i → b.testBit k = true) → cntB i b = i
  | 0, _ => rfl
  | i + 1, h => by
    unfold cntB
    rw [cnt_all i (fun k hk => h k (by omega)), h i (by omega)]
    rfl
theorem all_cnt {b : Nat} : ∀ i : Nat, cntB i b = i → ∀ k, k < i → b.testBit k = true
  | 0, _, k, hk => absurd hk (by omega)
  | i + 1, h, k, hk => by
    have hle := cntB_le i b
    unfold cntB at h
    by_cases hb : b.testBit i = true
    · rw [if_pos hb] at h
      rcases Nat.lt_or_ge k i with h1 | h1
      · exact all_cnt i (by omega) k h1
      · rw [show k = i by omega]; exact hb
    · rw [if_neg hb] at h
      omega
theorem left_none {N b : Nat} (hr : rB N b = true) : lfS false N b = 0 ↔ b = 2 ^ N - 1 := by
  have hle := cntB_le N b
  unfold lfS
  rw [if_neg (by decide)]
  constructor
  · intro h
    exact all_whole hr (all_cnt N (by omega))
  · intro h
    rw [cnt_all N (fun k hk => by rw [h, testBit_whole]; exact decide_eq_true hk)]
    omega
theorem st_gone {N b : Nat} : stS true N b ≠ 0 := by
  unfold stS
  rw [if_pos rfl]
  decide
theorem MB.only {w w' : World} {k g : Nat} {n c : Int} (h : MB w k n c) (hk : k ≠ g) (ho : Only g w w') : MB w' k n c := (ho.block k h.lt hk).trans h
section
variable {w : World} {g : Nat} {id : Nat} {nm : ByteArray} {sum : List Nat} {bs : List Int} {N b p : Nat} {z : Bool}
theorem know_both (h : Sd w g id nm sum bs N 0 0 false) {n : Int} {c : Nat} (hc : c < 18446744073709551616) : Calls Tryd.prog 15 #[.pointer (some ⟨g, 0, none⟩), .agg #[.int .i64 n, .int .u64 c]] w fun e w' => ∃ b', Sd w' g id nm sum bs N b' 0 false ∧ Only g w w' ∧ ((e = .returned (.int .i64 0) ∧ rfS true N n c = 41) ∨ (e = .returned (.int .i64 1) ∧ b' = 0 ∧ rfS true N n c = 1)) := by
  by_cases hr : rB n c = true ∧ n = N
  · obtain ⟨hr, rfl⟩ := hr
    refine (know_yes h hr).mono ?_
    rintro e w' ⟨rfl, hs, ho⟩
    exact ⟨_, hs, ho, .inl ⟨rfl, by unfold rfS; rw [if_pos ⟨hr, rfl⟩]; rfl⟩⟩
  · have e1 : rfS false N n c = 1 := by unfold rfS; rw [if_neg hr]
    refine (know_no h hc (by rw [e1]; decide)).mono ?_
    rintro e w' ⟨rfl, hb⟩
    exact ⟨_, h.below hb, Only.of hb, .inr ⟨by rw [e1], rfl, by unfold rfS; rw [if_neg hr]⟩⟩
theorem rf_gone {N c : Nat} {n : Int} : rfS true N n c ≠ 0 := by
  unfold rfS
  split
  · decide
  · decide
theorem know_gone (h : Sd w g id nm sum bs N b p true) {n : Int} {c : Nat} (hc : c < 18446744073709551616) : Calls Tryd.prog 15 #[.pointer (some ⟨g, 0, none⟩), .agg #[.int .i64 n, .int .u64 c]] w fun e w' => e = .returned (.int .i64 (rfS true N n c)) ∧ Below w.heap.size w w' := know_no h hc rf_gone
theorem anew_gone (h : Sd w g id nm sum bs N b p true) {n : Int} {c : Nat} (hc : c < 18446744073709551616) : Calls Tryd.prog 17 #[.pointer (some ⟨g, 0, none⟩), .agg #[.int .i64 n, .int .u64 c]] w fun e w' => e = .returned (.int .i64 (rfS true N n c)) ∧ Below w.heap.size w w' := anew_no h hc rf_gone
end
theorem cancels_great {n c : Nat} {A : Option Addr} (h : 4096 < n) (nn : Int) (cc : Nat) (w : World) (hT : Tab w) : Calls Tryd.prog 4 #[.slice A n c, mV nn cc] w fun e w' => e = .returned (.bool true) ∧ Below w.heap.size w w' := by
  have d0 : decide ((4096 : Int) < (n : Int)) = true := by simp; omega
  have d1 : (4096 : Int) < (n : Int) := by omega
  have HB := Lib.hid ((Below.refl _ w).alloc (Nat.le_refl _) (.cells #[.int .i64 nn, .int .u64 cc] 38))
  have HA := Lib.hid (alive_any _ (hT.to HB.out))
  unfold mV
  clear h hT
  go_enter Tryd.func4, Tryd.ntmps4
  go_wp2_with fail
  refine HA.out.mono ?_
  rintro e w1 ⟨rfl, hb⟩
  have HX := Lib.hid (HB.out.trans (hb.mono HB.out.size))
  clear hb
  go_wp2
  go_ret
  exact ⟨rfl, HX.out⟩
set_option maxRecDepth 100000 in
set_option maxHeartbeats 4000000 in
theorem cancels_small {bs : List Int} {n c : Nat} {A : Option Addr} (hn : bs.length = n) (h : n ≤ 4096) (hb : ∀ i, 0 ≤ bs.getD i 0) (hc : n ≤ c) (hm : c ≤ maxLen) (hz : A = none → c = 0) (nn : Int) (cc : Nat) (hcc : cc < 18446744073709551616) (w : World) (hr : RI .u8 w A bs) (hT : Tab w) :
    Calls Tryd.prog 4 #[.slice A n c, mV nn cc] w fun e w' => e = .returned (.bool true) ∧ Below w.heap.size w w' := by
  have d0 : decide ((4096 : Int) < (n : Int)) = false := by simp; omega
  have d1 : ¬ (4096 : Int) < (n : Int) := by omega
  have HB0 := Lib.hid ((Below.refl _ w).alloc (Nat.le_refl _) (.cells #[.int .i64 nn, .int .u64 cc] 38))
  have HM0 := Lib.hid (MB.new w nn cc)
  obtain ⟨X, hX⟩ : ∃ X, sumB bs = X := ⟨_, rfl⟩
  have HTT := Lib.hid hT
  have HCC := Lib.hid hcc
  have HNN := Lib.hid hn
  have HNEW := Lib.hid (hX ▸ fnew_yes (id := 1) (nm := ⟨#[102]⟩) hn (by decide) (by unfold rI; rw [decide_eq_true h]; decide) hb hc hm hz _ (hr.below HB0.out) (hT.to HB0.out))
  clear hT hX hcc hn hb hc hm hz hr
  unfold mV
  go_enter Tryd.func4, Tryd.ntmps4
  go_wp2_with fail
  refine HNEW.out.mono ?_
  rintro e w1 ⟨g, rfl, hg, hs, hb⟩
  have HB1 := Lib.hid (HB0.out.trans (hb.mono HB0.out.size))
  have HG := Lib.hid (show w.heap.size < g from by
    have h1 : (w.alloc (.cells #[.int .i64 nn, .int .u64 cc] 38)).heap.size = w.heap.size + 1 := by simp
    omega)
  have HM1 := Lib.hid (HM0.out.below hb)
  obtain ⟨k0, hk0⟩ : ∃ k, w.heap.size = k := ⟨_, rfl⟩
  rw [hk0] at HG HM1 ⊢
  have HK0 := Lib.hid hk0
  obtain ⟨N, hN⟩ : ∃ N, (n + 63) / 64 = N := ⟨_, rfl⟩
  rw [hN] at hs
  have HN := Lib.hid hN
  have HS1 := Lib.hid hs
  clear HB0 HNEW HM0 hg hs hb hk0 hN
  have c0 := HM1.out.c0
  have c1 := HM1.out.c1
  go_wp2_with fail
  refine (know_both HS1.out HCC.out).mono ?_
  rintro e w2 ⟨b, hs, ho, hcase⟩
  have HB2 := Lib.hid (OnlyBelow ho HB1.out (by rw [HK0.out]; have := HG.out; omega))
  have HM2 := Lib.hid (HM1.out.only (by have := HG.out; omega) ho)
  have HS2 := Lib.hid hs
  have HLN := Lib.hid (left_none hs.right)
  clear hs ho HB1 HM1 HS1 c0 c1
  rcases hcase with ⟨rfl, hrf⟩ | ⟨rfl, hb0, hrf⟩
  · have HRF := Lib.hid hrf
    clear hrf
    by_cases hfull : b = 2 ^ N - 1
    · have HL0 := Lib.hid (HLN.out.2 hfull)
      have HST := Lib.hid (show stS false N b = 2 from by unfold stS; rw [if_neg (by decide), if_pos hfull])
      have HLW := Lib.hid (left_sd HS2.out)
      rw [HL0.out] at HLW
      clear HL0 HLN hfull
      go_wp2_with fail
      refine HLW.out.mono ?_
      rintro e w3 ⟨rfl, hb⟩
      have HB3 := Lib.hid (HB2.out.trans (hb.mono HB2.out.size))
      have HS3 := Lib.hid (HS2.out.below hb)
      clear hb HB2 HS2 HLW HM2
      go_wp2_with fail
      refine (cancel_no HS3.out (by rw [HST.out]; decide)).mono ?_
      rintro e w4 ⟨rfl, hb⟩
      have HB4 := Lib.hid (HB3.out.trans (hb.mono HB3.out.size))
      have HS4 := Lib.hid (HS3.out.below hb)
      clear hb HB3 HS3
      have HAL := Lib.hid (alive_any w4 (HTT.out.to HB4.out))
      go_wp2_with fail
      refine HAL.out.mono ?_
      rintro e w5 ⟨rfl, hb⟩
      have HB5 := Lib.hid (HB4.out.trans (hb.mono HB4.out.size))
      have HSS := Lib.hid (HST.out ▸ state_sd (HS4.out.below hb))
      clear hb HB4 HS4 HAL
      go_wp2_with fail
      refine HSS.out.mono ?_
      rintro e w6 ⟨rfl, hb⟩
      have HB6 := Lib.hid (HB5.out.trans (hb.mono HB5.out.size))
      clear hb HB5 HSS
      go_wp2
      go_ret
      exact ⟨rfl, HB6.out⟩
    · have HL0 := Lib.hid (fun e => hfull (HLN.out.1 e))
      clear HLN
      obtain ⟨l, hl⟩ : ∃ l, lfS false N b = l := ⟨_, rfl⟩
      have HLW := Lib.hid (left_sd HS2.out)
      rw [hl] at HLW HL0
      have hl0 : l ≠ 0 := HL0.out
      have q0 : ((l : Int) == 0) = false := by simp; omega
      have HF := Lib.hid hfull
      clear hl HL0 hl0 hfull
      go_wp2_with fail
      refine HLW.out.mono ?_
      rintro e w3 ⟨rfl, hb⟩
      have HB3 := Lib.hid (HB2.out.trans (hb.mono HB2.out.size))
      have HS3 := Lib.hid (HS2.out.below hb)
      have HM3 := Lib.hid (HM2.out.below hb)
      clear hb HB2 HS2 HLW HM2
      go_wp2_with fail
      refine (cancel_yes HS3.out HF.out).mono ?_
      rintro e w4 ⟨rfl, hs, ho⟩
      have HB4 := Lib.hid (OnlyBelow ho HB3.out (by rw [HK0.out]; have := HG.out; omega))
      have HM4 := Lib.hid (HM3.out.only (by have := HG.out; omega) ho)
      have HS4 := Lib.hid hs
      clear hs ho HB3 HM3 HS3
      go_wp2_with fail
      refine (pnext_stop HS4.out st_gone).mono ?_
      rintro e w5 ⟨rfl, hb⟩
      have HB5 := Lib.hid (HB4.out.trans (hb.mono HB4.out.size))
      have HS5 := Lib.hid (HS4.out.below hb)
      have HM5 := Lib.hid (HM4.out.below hb)
      clear hb HB4 HS4 HM4
      go_wp2_with fail
      refine (peek_stop HS5.out st_gone).mono ?_
      rintro e w6 ⟨rfl, hb⟩
      have HB6 := Lib.hid (HB5.out.trans (hb.mono HB5.out.size))
      have HS6 := Lib.hid (HS5.out.below hb)
      have HM6 := Lib.hid (HM5.out.below hb)
      clear hb HB5 HS5 HM5
      have c0 := HM6.out.c0
      have c1 := HM6.out.c1
      have HKN := Lib.hid (HRF.out ▸ know_gone HS6.out (n := nn) HCC.out)
      go_wp2_with fail
      refine HKN.out.mono ?_
      rintro e w7 ⟨rfl, hb⟩
      have HB7 := Lib.hid (HB6.out.trans (hb.mono HB6.out.size))
      have HS7 := Lib.hid (HS6.out.below hb)
      have HM7 := Lib.hid (HM6.out.below hb)
      clear hb HB6 HS6 HM6 HKN c0 c1
      have c0 := HM7.out.c0
      have c1 := HM7.out.c1
      have HKN := Lib.hid (HRF.out ▸ anew_gone HS7.out (n := nn) HCC.out)
      go_wp2_with fail
      refine HKN.out.mono ?_
      rintro e w8 ⟨rfl, hb⟩
      have HB8 := Lib.hid (HB7.out.trans (hb.mono HB7.out.size))
      have HS8 := Lib.hid (HS7.out.below hb)
      clear hb HB7 HS7 HM7 HKN c0 c1
      have HAL := Lib.hid (alive_any w8 (HTT.out.to HB8.out))
      go_wp2_with fail
      refine HAL.out.mono ?_
      rintro e w9 ⟨rfl, hb⟩
      have HB9 := Lib.hid (HB8.out.trans (hb.mono HB8.out.size))
      have HS9 := Lib.hid (HS8.out.below hb)
      clear hb HB8 HS8 HAL
      go_wp2_with fail
      refine (state_gone HS9.out).mono ?_
      rintro e w10 ⟨rfl, hb⟩
      have HB10 := Lib.hid (HB9.out.trans (hb.mono HB9.out.size))
      have HS10 := Lib.hid (HS9.out.below hb)
      clear hb HB9 HS9
      go_wp2_with fail
      refine (costs_stop HS10.out st_gone 9).mono ?_
      rintro e w11 ⟨rfl, hb⟩
      have HB11 := Lib.hid (HB10.out.trans (hb.mono HB10.out.size))
      have HS11 := Lib.hid (HS10.out.below hb)
      clear hb HB10 HS10
      go_wp2_with fail
      refine (left_gone HS11.out).mono ?_
      rintro e w12 ⟨rfl, hb⟩
      have HB12 := Lib.hid (HB11.out.trans (hb.mono HB11.out.size))
      have HS12 := Lib.hid (HS11.out.below hb)
      clear hb HB11 HS11
      go_wp2_with fail
      refine (cancel_no HS12.out st_gone).mono ?_
      rintro e w13 ⟨rfl, hb⟩
      have HB13 := Lib.hid (HB12.out.trans (hb.mono HB12.out.size))
      clear hb HB12 HS12
      go_wp2
      go_ret
      exact ⟨rfl, HB13.out⟩
  · have HRF := Lib.hid hrf
    clear hrf
    by_cases hfull : b = 2 ^ N - 1
    · have HL0 := Lib.hid (HLN.out.2 hfull)
      subst hb0
      have hn0 : n = 0 := by
        have h1 : N = 0 := by
          rcases Nat.eq_zero_or_pos N with h0 | h0
          · exact h0
          · have : 2 ^ 1 ≤ 2 ^ N := Nat.pow_le_pow_right (by omega) h0
            omega
        have := HN.out
        omega
      subst hn0
      have HST := Lib.hid (show stS false N 0 = 2 from by unfold stS; rw [if_neg (by decide), if_pos hfull])
      have HLW := Lib.hid (left_sd HS2.out)
      rw [HL0.out] at HLW
      clear HL0 HLN hfull
      go_wp2_with fail
      refine HLW.out.mono ?_
      rintro e w3 ⟨rfl, hb⟩
      have HB3 := Lib.hid (HB2.out.trans (hb.mono HB2.out.size))
      have HS3 := Lib.hid (HS2.out.below hb)
      clear hb HB2 HS2 HLW HM2
      go_wp2_with fail
      refine (cancel_no HS3.out (by rw [HST.out]; decide)).mono ?_
      rintro e w4 ⟨rfl, hb⟩
      have HB4 := Lib.hid (HB3.out.trans (hb.mono HB3.out.size))
      have HS4 := Lib.hid (HS3.out.below hb)
      clear hb HB3 HS3
      have HAL := Lib.hid (alive_any w4 (HTT.out.to HB4.out))
      go_wp2_with fail
      refine HAL.out.mono ?_
      rintro e w5 ⟨rfl, hb⟩
      have HB5 := Lib.hid (HB4.out.trans (hb.mono HB4.out.size))
      have HSS := Lib.hid (HST.out ▸ state_sd (HS4.out.below hb))
      clear hb HB4 HS4 HAL
      go_wp2_with fail
      refine HSS.out.mono ?_
      rintro e w6 ⟨rfl, hb⟩
      have HB6 := Lib.hid (HB5.out.trans (hb.mono HB5.out.size))
      clear hb HB5 HSS
      go_wp2
      go_ret
      exact ⟨rfl, HB6.out⟩
    · have HL0 := Lib.hid (fun e => hfull (HLN.out.1 e))
      subst hb0
      obtain ⟨l, hl⟩ : ∃ l, lfS false N 0 = l := ⟨_, rfl⟩
      have HLW := Lib.hid (left_sd HS2.out)
      rw [hl] at HLW HL0
      have hl0 : l ≠ 0 := HL0.out
      have q0 : ((l : Int) == 0) = false := by simp; omega
      have HF := Lib.hid hfull
      clear hl HL0 hl0 hfull
      go_wp2_with fail
      refine HLW.out.mono ?_
      rintro e w3 ⟨rfl, hb⟩
      have HB3 := Lib.hid (HB2.out.trans (hb.mono HB2.out.size))
      have HS3 := Lib.hid (HS2.out.below hb)
      have HM3 := Lib.hid (HM2.out.below hb)
      clear hb HB2 HS2 HLW HM2
      go_wp2_with fail
      refine (cancel_yes HS3.out HF.out).mono ?_
      rintro e w4 ⟨rfl, hs, ho⟩
      have HB4 := Lib.hid (OnlyBelow ho HB3.out (by rw [HK0.out]; have := HG.out; omega))
      have HM4 := Lib.hid (HM3.out.only (by have := HG.out; omega) ho)
      have HS4 := Lib.hid hs
      clear hs ho HB3 HM3 HS3
      go_wp2_with fail
      refine (pnext_stop HS4.out st_gone).mono ?_
      rintro e w5 ⟨rfl, hb⟩
      have HB5 := Lib.hid (HB4.out.trans (hb.mono HB4.out.size))
      have HS5 := Lib.hid (HS4.out.below hb)
      have HM5 := Lib.hid (HM4.out.below hb)
      clear hb HB4 HS4 HM4
      go_wp2_with fail
      refine (peek_stop HS5.out st_gone).mono ?_
      rintro e w6 ⟨rfl, hb⟩
      have HB6 := Lib.hid (HB5.out.trans (hb.mono HB5.out.size))
      have HS6 := Lib.hid (HS5.out.below hb)
      have HM6 := Lib.hid (HM5.out.below hb)
      clear hb HB5 HS5 HM5
      have c0 := HM6.out.c0
      have c1 := HM6.out.c1
      have HKN := Lib.hid (HRF.out ▸ know_gone HS6.out (n := nn) HCC.out)
      go_wp2_with fail
      refine HKN.out.mono ?_
      rintro e w7 ⟨rfl, hb⟩
      have HB7 := Lib.hid (HB6.out.trans (hb.mono HB6.out.size))
      have HS7 := Lib.hid (HS6.out.below hb)
      have HM7 := Lib.hid (HM6.out.below hb)
      clear hb HB6 HS6 HM6 HKN c0 c1
      have c0 := HM7.out.c0
      have c1 := HM7.out.c1
      have HKN := Lib.hid (HRF.out ▸ anew_gone HS7.out (n := nn) HCC.out)
      go_wp2_with fail
      refine HKN.out.mono ?_
      rintro e w8 ⟨rfl, hb⟩
      have HB8 := Lib.hid (HB7.out.trans (hb.mono HB7.out.size))
      have HS8 := Lib.hid (HS7.out.below hb)
      clear hb HB7 HS7 HM7 HKN c0 c1
      have HAL := Lib.hid (alive_any w8 (HTT.out.to HB8.out))
      go_wp2_with fail
      refine HAL.out.mono ?_
      rintro e w9 ⟨rfl, hb⟩
      have HB9 := Lib.hid (HB8.out.trans (hb.mono HB8.out.size))
      have HS9 := Lib.hid (HS8.out.below hb)
      clear hb HB8 HS8 HAL
      go_wp2_with fail
      refine (state_gone HS9.out).mono ?_
      rintro e w10 ⟨rfl, hb⟩
      have HB10 := Lib.hid (HB9.out.trans (hb.mono HB9.out.size))
      have HS10 := Lib.hid (HS9.out.below hb)
      clear hb HB9 HS9
      go_wp2_with fail
      refine (costs_stop HS10.out st_gone 9).mono ?_
      rintro e w11 ⟨rfl, hb⟩
      have HB11 := Lib.hid (HB10.out.trans (hb.mono HB10.out.size))
      have HS11 := Lib.hid (HS10.out.below hb)
      clear hb HB10 HS10
      go_wp2_with fail
      refine (left_gone HS11.out).mono ?_
      rintro e w12 ⟨rfl, hb⟩
      have HB12 := Lib.hid (HB11.out.trans (hb.mono HB11.out.size))
      have HS12 := Lib.hid (HS11.out.below hb)
      clear hb HB11 HS11
      go_wp2_with fail
      refine (cancel_no HS12.out st_gone).mono ?_
      rintro e w13 ⟨rfl, hb⟩
      have HB13 := Lib.hid (HB12.out.trans (hb.mono HB12.out.size))
      clear hb HB12 HS12
      go_wp2
      go_ret
      exact ⟨rfl, HB13.out⟩
theorem cancels_any {bs : List Int} {n c : Nat} {A : Option Addr} (hn : bs.length = n) (hb : ∀ i, 0 ≤ bs.getD i 0) (hc : n ≤ c) (hm : c ≤ maxLen) (hz : A = none → c = 0) (nn : Int) (cc : Nat) (hcc : cc < 18446744073709551616) (w : World) (hr : RI .u8 w A bs) (hT : Tab w) :
    Calls Tryd.prog 4 #[.slice A n c, mV nn cc] w fun e w' => e = .returned (.bool true) ∧ Below w.heap.size w w' := by
  rcases Nat.lt_or_ge 4096 n with h | h
  · exact cancels_great h nn cc w hT
  · exact cancels_small hn h hb hc hm hz nn cc hcc w hr hT
end Go.Proofs.YtdlhpmbgpjjkoaaDoor
