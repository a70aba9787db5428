/-
  Proved here: BitmapBytes.
-/
import Derived.Test.YtlppnnehgfpgbaaMn
set_option linter.unusedSimpArgs false
set_option linter.unusedVariables false
namespace Go.Proofs.Ytlppnnehgfpgbaa
open Go.RowKit
set_option maxRecDepth 100000 in
set_option maxHeartbeats 8000000 in
theorem bytes_long {n : Int} {b : Nat} {A : Option Addr} {N cap : Nat} (h : 100 < N) (w : World) : Calls Try.prog 7 #[mV n b, .slice A N cap] w fun e w' => e = .returned (.bool true) ∧ Below w.heap.size w w' := by
  have HB0 := Lib.hid (Bal (Below.refl w.heap.size w) (.cells #[.int .i64 n, .int .u64 b] 56))
  have d1 : decide ((100 : Int) < (N : Int)) = true := by simp; omega
  have d2 : (100 : Int) < (N : Int) := by omega
  unfold mV
  go_enter Try.func7, Try.ntmps7
  go_wp2_with fail
  refine (alive_any _).mono ?_
  rintro e w6 ⟨rfl, hb6⟩
  have HB6 := Lib.hid (Bto HB0.out hb6)
  clear hb6
  go_wp2
  go_ret
  exact ⟨rfl, HB6.out⟩
set_option maxRecDepth 100000 in
set_option maxHeartbeats 16000000 in
theorem bytes_bad {n : Int} {b : Nat} (hb : b < 18446744073709551616) {zs : List Int} (hz8 : isB8 zs) {A : Option Addr} {N cap : Nat} (hl : zs.length = N) (hc : N ≤ cap) (hcm : cap ≤ maxLen) (h100 : N ≤ 100) (hr : rB n b = false) (w : World) (hR : RI .u8 w A zs) : Calls Try.prog 7 #[mV n b, .slice A N cap] w fun e w' => e = .returned (.bool true) ∧ Below w.heap.size w w' := by
  have HM0 := Lib.hid (MB.new w n b)
  have HB0 := Lib.hid (Bal (Below.refl w.heap.size w) (.cells #[.int .i64 n, .int .u64 b] 56))
  have HOF := Lib.hid (fun W => rof_any n hb W)
  rw [hr] at HOF
  have HWT := Lib.hid (fun W => write_bad hr hb W)
  have HNL := Lib.hid (fun (l : List Bool) => (rfl : l = l))
  have d1 : decide ((100 : Int) < (N : Int)) = false := by simp; omega
  have d2 : ¬ (100 : Int) < (N : Int) := by omega
  have HRI := Lib.hid hR
  have HZ := Lib.hid hz8
  have HL := Lib.hid hl
  have HC := Lib.hid (And.intro hc hcm)
  unfold mV at HWT ⊢
  clear hr hb hR hz8 hl hc hcm
  go_enter Try.func7, Try.ntmps7
  go_upto_region 3 with fail
  obtain ⟨U, hU⟩ : ∃ U, w.alloc (.cells #[.int .i64 n, .int .u64 b] 56) = U := ⟨_, rfl⟩
  rw [hU] at HM0 HB0 ⊢
  clear hU
  have c0 := HM0.out.c0
  have c1 := HM0.out.c1
  go_wp2_with fail
  refine (HOF.out _).mono ?_
  rintro e w1 ⟨v1, rfl, h1⟩
  have HB1 := Lib.hid (Bto HB0.out h1.below)
  have HM1 := Lib.hid (HM0.out.below h1.below)
  clear HNL
  clear h1 c0 c1 HM0 HOF
  have c0 := HM1.out.c0
  have c1 := HM1.out.c1
  go_wp2_with fail
  refine (HWT.out _).mono ?_
  rintro e w2 ⟨v2, rfl, h2⟩
  obtain ⟨Aw, cw, hv2, _, _, _⟩ := own8 h2
  subst hv2
  have HB2 := Lib.hid (Bto HB1.out h2.below)
  clear h2 c0 c1 HWT
  have HRD := Lib.hid (read_any HZ.out HL.out (show N ≤ 100000 by omega) HC.out.1 HC.out.2 w2 (HRI.out.below HB2.out))
  go_wp2_with fail
  refine HRD.out.mono ?_
  rintro e w3 ⟨hb3, h3⟩
  clear HRD
  rcases h3 with ⟨m, c, hm, rfl⟩ | ⟨hno, rfl⟩
  · have HMM := Lib.hid hm
    unfold mV
    have hal := (Below.refl w3.heap.size w3).alloc (Nat.le_refl _) (.cells #[.int .i64 m, .int .u64 c] 56)
    have HB3 := Lib.hid (Bto (Bto HB2.out hb3) hal)
    have HMB := Lib.hid (MB.new w3 m c)
    clear hm hb3 hal
    go_upto_region 6 with fail
    obtain ⟨X3, hX3⟩ : ∃ X, w3.alloc (.cells #[.int .i64 m, .int .u64 c] 56) = X := ⟨_, rfl⟩
    rw [hX3] at HB3 HMB ⊢
    clear hX3
    have HRR := Lib.hid (rread_any (cap := cap) HZ.out HL.out (show N ≤ 100000 by omega) X3 (HRI.out.below HB3.out))
    go_wp2_with fail
    refine HRR.out.mono ?_
    rintro e w4 ⟨hb4, h4⟩
    clear HRR
    obtain ⟨v4, rfl, h5⟩ : ∃ v4 : Value, e = .returned (.tuple #[v4, .bool true]) ∧ OwnB X3 v4 (bitsL m c) w4 := by
      rcases h4 with ⟨m', c', v4, hm', he, ho⟩ | ⟨hno, _⟩
      · obtain ⟨rfl, rfl⟩ := one_map hm' HMM.out
        exact ⟨v4, he, ho⟩
      · exact absurd HMM.out (hno _ _)
    obtain ⟨A4, c4, hv4, _, ht4⟩ := h5.ti
    rw [bitsL_len] at hv4
    subst hv4
    have HSA := Lib.hid (fun W (hb : Below w4.heap.size w4 W) => same_true (c := c4) HMM.out.1 W (ht4.below hb))
    unfold mV at HSA
    clear ht4 h4 h5
    have HB4 := Lib.hid (Bto HB3.out hb4)
    have HMB4 := Lib.hid (HMB.out.below hb4)
    clear hb4 HMB HB3
    have c0 := HMB4.out.c0
    have c1 := HMB4.out.c1
    go_wp2_with fail
    refine (HSA.out _ (Below.refl _ _)).mono ?_
    rintro e w5 ⟨rfl, hb5⟩
    have HB5 := Lib.hid (Bto HB4.out hb5)
    clear hb5 c0 c1 HSA HB4
    go_wp2_with fail
    refine (alive_any _).mono ?_
    rintro e w6 ⟨rfl, hb6⟩
    have HB6 := Lib.hid (Bto HB5.out hb6)
    clear hb6
    go_wp2
    go_ret
    exact ⟨rfl, HB6.out⟩
  · have HMM := Lib.hid hno
    unfold mV
    have hal := (Below.refl w3.heap.size w3).alloc (Nat.le_refl _) (.cells #[.int .i64 0, .int .u64 0] 56)
    have HB3 := Lib.hid (Bto (Bto HB2.out hb3) hal)
    have HMB := Lib.hid (MB.new w3 0 0)
    clear hno hb3 hal
    go_upto_region 6 with fail
    obtain ⟨X3, hX3⟩ : ∃ X, w3.alloc (.cells #[.int .i64 0, .int .u64 0] 56) = X := ⟨_, rfl⟩
    rw [hX3] at HB3 HMB ⊢
    clear hX3
    have HRR := Lib.hid (rread_any (cap := cap) HZ.out HL.out (show N ≤ 100000 by omega) X3 (HRI.out.below HB3.out))
    go_wp2_with fail
    refine HRR.out.mono ?_
    rintro e w4 ⟨hb4, h4⟩
    clear HRR
    obtain ⟨v4, rfl⟩ : ∃ v4 : Value, e = .returned (.tuple #[v4, .bool false]) := by
      rcases h4 with ⟨m', c', v4, hm', he, ho⟩ | ⟨_, h⟩
      · exact absurd hm' (HMM.out _ _)
      · exact h
    clear h4
    have HB4 := Lib.hid (Bto HB3.out hb4)
    have HMB4 := Lib.hid (HMB.out.below hb4)
    clear hb4 HMB HB3
    have c0 := HMB4.out.c0
    have c1 := HMB4.out.c1
    have HB5 := HB4
    go_wp2_with fail
    refine (alive_any _).mono ?_
    rintro e w6 ⟨rfl, hb6⟩
    have HB6 := Lib.hid (Bto HB5.out hb6)
    clear hb6
    go_wp2
    go_ret
    exact ⟨rfl, HB6.out⟩
set_option maxRecDepth 100000 in
set_option maxHeartbeats 16000000 in
theorem bytes_in {n : Int} {b : Nat} (hb : b < 18446744073709551616) {zs : List Int} (hz8 : isB8 zs) {A : Option Addr} {N cap : Nat} (hl : zs.length = N) (hc : N ≤ cap) (hcm : cap ≤ maxLen) (h100 : N ≤ 100) (hr : rB n b = true) (w : World) (hR : RI .u8 w A zs) : Calls Try.prog 7 #[mV n b, .slice A N cap] w fun e w' => e = .returned (.bool true) ∧ Below w.heap.size w w' := by
  have HM0 := Lib.hid (MB.new w n b)
  have HB0 := Lib.hid (Bal (Below.refl w.heap.size w) (.cells #[.int .i64 n, .int .u64 b] 56))
  have HOF := Lib.hid (fun W => rof_any n hb W)
  rw [hr] at HOF
  obtain ⟨k, rfl, hk, _⟩ := rB_yes hr
  have hblt := (rB_parts hr).2
  rw [ofL_in hk] at HOF
  have HWT := Lib.hid (fun W => write_in hr W)
  have HWR := Lib.hid (fun (c : Nat) (X : Option Addr) W (hT : TI W X (bitsL k b)) => rwrite_any (c := c) hk hblt W hT)
  obtain ⟨X, hX⟩ : ∃ X, wrB k b = X := ⟨_, rfl⟩
  rw [hX] at HWT HWR
  obtain ⟨nX, hnX⟩ : ∃ m, X.length = m := ⟨_, rfl⟩
  have HNX := Lib.hid hnX
  obtain ⟨S1, hS1⟩ : ∃ S, strOfNums X = S := ⟨_, rfl⟩
  have HS1 := Lib.hid hS1
  have ss : (S1.toList == S1.toList) = true := by simp
  clear hX hnX hS1 hblt
  have d1 : decide ((100 : Int) < (N : Int)) = false := by simp; omega
  have d2 : ¬ (100 : Int) < (N : Int) := by omega
  have HRI := Lib.hid hR
  have HZ := Lib.hid hz8
  have HL := Lib.hid hl
  have HC := Lib.hid (And.intro hc hcm)
  unfold mV at HWT ⊢
  clear hr hb hR hz8 hl hc hcm
  go_enter Try.func7, Try.ntmps7
  go_upto_region 3 with fail
  obtain ⟨U, hU⟩ : ∃ U, w.alloc (.cells #[.int .i64 k, .int .u64 b] 56) = U := ⟨_, rfl⟩
  rw [hU] at HM0 HB0 ⊢
  clear hU
  have c0 := HM0.out.c0
  have c1 := HM0.out.c1
  go_wp2_with fail
  refine (HOF.out _).mono ?_
  rintro e w1 ⟨v1, rfl, h1⟩
  have HB1 := Lib.hid (Bto HB0.out h1.below)
  have HM1 := Lib.hid (HM0.out.below h1.below)
  obtain ⟨Al, cl, hv1, _, ht1⟩ := h1.ti
  rw [bitsL_len] at hv1
  subst hv1
  have HT1 := Lib.hid ht1
  clear ht1
  clear h1 c0 c1 HM0 HOF
  have c0 := HM1.out.c0
  have c1 := HM1.out.c1
  go_wp2_with fail
  refine (HWT.out _).mono ?_
  rintro e w2 ⟨v2, rfl, h2⟩
  obtain ⟨Aw, cw, hv2, _, _, r2⟩ := own8 h2
  rw [HNX.out] at hv2
  subst hv2
  have HR2 := Lib.hid r2
  have HT2 := Lib.hid (HT1.out.below h2.below)
  clear r2
  have HB2 := Lib.hid (Bto HB1.out h2.below)
  clear h2 c0 c1 HWT
  have HRD := Lib.hid (read_any HZ.out HL.out (show N ≤ 100000 by omega) HC.out.1 HC.out.2 w2 (HRI.out.below HB2.out))
  go_wp2_with fail
  refine HRD.out.mono ?_
  rintro e w3 ⟨hb3, h3⟩
  clear HRD
  rcases h3 with ⟨m, c, hm, rfl⟩ | ⟨hno, rfl⟩
  · have HMM := Lib.hid hm
    unfold mV
    have hal := (Below.refl w3.heap.size w3).alloc (Nat.le_refl _) (.cells #[.int .i64 m, .int .u64 c] 56)
    have HB3 := Lib.hid (Bto (Bto HB2.out hb3) hal)
    have HMB := Lib.hid (MB.new w3 m c)
    have HR3 := Lib.hid ((HR2.out.below hb3).below hal)
    have HT3 := Lib.hid ((HT2.out.below hb3).below hal)
    clear HR2 HT2
    clear hm hb3 hal
    go_upto_region 6 with fail
    obtain ⟨X3, hX3⟩ : ∃ X, w3.alloc (.cells #[.int .i64 m, .int .u64 c] 56) = X := ⟨_, rfl⟩
    rw [hX3] at HB3 HMB HR3 HT3 ⊢
    clear hX3
    have HRR := Lib.hid (rread_any (cap := cap) HZ.out HL.out (show N ≤ 100000 by omega) X3 (HRI.out.below HB3.out))
    go_wp2_with fail
    refine HRR.out.mono ?_
    rintro e w4 ⟨hb4, h4⟩
    clear HRR
    obtain ⟨v4, rfl, h5⟩ : ∃ v4 : Value, e = .returned (.tuple #[v4, .bool true]) ∧ OwnB X3 v4 (bitsL m c) w4 := by
      rcases h4 with ⟨m', c', v4, hm', he, ho⟩ | ⟨hno, _⟩
      · obtain ⟨rfl, rfl⟩ := one_map hm' HMM.out
        exact ⟨v4, he, ho⟩
      · exact absurd HMM.out (hno _ _)
    obtain ⟨A4, c4, hv4, _, ht4⟩ := h5.ti
    rw [bitsL_len] at hv4
    subst hv4
    have HSA := Lib.hid (fun W (hb : Below w4.heap.size w4 W) => same_true (c := c4) HMM.out.1 W (ht4.below hb))
    unfold mV at HSA
    clear ht4 h4 h5
    have HB4 := Lib.hid (Bto HB3.out hb4)
    have HMB4 := Lib.hid (HMB.out.below hb4)
    have HR4 := Lib.hid (HR3.out.below hb4)
    have HT4 := Lib.hid (HT3.out.below hb4)
    clear hb4 HMB HB3
    have c0 := HMB4.out.c0
    have c1 := HMB4.out.c1
    go_wp2_with fail
    refine (HSA.out _ (Below.refl _ _)).mono ?_
    rintro e w5 ⟨rfl, hb5⟩
    have HB5 := Lib.hid (Bto HB4.out hb5)
    have HR4 := Lib.hid (HR4.out.below hb5)
    have HT4 := Lib.hid (HT4.out.below hb5)
    clear hb5 c0 c1 HSA HB4
    go_upto_region 11 with fail
    obtain ⟨Z, hZ⟩ : ∃ W, w5 = W := ⟨_, rfl⟩
    rw [hZ] at HB5 HR4 HT4 ⊢
    clear hZ
    have HTI := HT4
    have HWR := Lib.hid (fun W hT => HWR.out cl Al W hT)
    have HCB : Hid (∀ wx : World, Below Z.heap.size Z wx → (convert 28 9 (.slice Aw nX cw)).run Try.prog wx = .ok (.string S1) wx) := Lib.hid (fun wx hbz => by rw [← HS1.out]; exact conv_text HNX.out cw (HR4.out.below hbz))
    have HEND := Lib.hid (fun W (hb : Below Z.heap.size Z W) => Bto HB5.out hb)
    refine wp_region_held_drew (S := fun W => Below Z.heap.size Z W) (by kernel_rfl) (belowN (Below.refl Z.heap.size Z) 1) (fun hHeld => ?_)
    refine wpAnyH_ready (rs := [0]) (by kernel_rfl) (by simp) ?_
    refine AllReadyH.cons (by simp; rfl) (fun K0 hK0 => ?_) AllReadyH.nil
    go_simp
    refine (alive_any _).mono ?_
    rintro e V1 ⟨rfl, hy⟩
    have HB1 := Lib.hid (Below.trans hHeld (hy.mono hHeld.size))
    clear hy
    refine hK0.out _ _ HB1.out (fun _ => ?_)
    clear hK0 K0 hHeld
    have hHeld := HB1.out
    refine wpAnyH_take (i := 1) (v := ?_) (by simp; rfl) (by kernel_rfl) (by kernel_rfl) (by kernel_rfl) (by exact fun _ _ _ h => h) (Or.inl ⟨by rfl, fun wx hSx => ?_⟩) hHeld ?_
    rotate_left
    · clear hSx; go_simp; (try with_reducible rfl)
    simp only [Act.put, List.setIfInBounds_toArray, List.set_cons_zero, List.set_cons_succ]
    refine wpAnyH_take (i := 2) (v := ?_) (by simp; rfl) (by kernel_rfl) (by kernel_rfl) (by kernel_rfl) (by exact fun _ _ _ h => h) (Or.inl ⟨by rfl, fun wx hSx => ?_⟩) hHeld ?_
    rotate_left
    · clear hSx; go_simp; (try with_reducible rfl)
    simp only [Act.put, List.setIfInBounds_toArray, List.set_cons_zero, List.set_cons_succ]
    refine wpAnyH_take (i := 3) (v := ?_) (by simp; rfl) (by kernel_rfl) (by kernel_rfl) (by kernel_rfl) (by exact fun _ _ _ h => h) (Or.inl ⟨by rfl, fun wx hSx => ?_⟩) hHeld ?_
    rotate_left
    · clear hSx; go_simp; (try with_reducible rfl)
    simp only [Act.put, List.setIfInBounds_toArray, List.set_cons_zero, List.set_cons_succ]
    refine wpAnyH_take (i := 4) (v := ?_) (by simp; rfl) (by kernel_rfl) (by kernel_rfl) (by kernel_rfl) (by exact fun _ _ _ h => h) (Or.inl ⟨by rfl, fun wx hSx => ?_⟩) hHeld ?_
    rotate_left
    · clear hSx; go_simp; (try with_reducible rfl)
    simp only [Act.put, List.setIfInBounds_toArray, List.set_cons_zero, List.set_cons_succ]
    refine wpAnyH_take (i := 5) (v := ?_) (by simp; rfl) (by kernel_rfl) (by kernel_rfl) (by kernel_rfl) (by exact fun _ _ _ h => h) (Or.inl ⟨by rfl, fun wx hSx => ?_⟩) hHeld ?_
    rotate_left
    · clear hSx; go_simp; (try with_reducible rfl)
    simp only [Act.put, List.setIfInBounds_toArray, List.set_cons_zero, List.set_cons_succ]
    refine wpAnyH_take (i := 6) (v := ?_) (by simp; rfl) (by kernel_rfl) (by kernel_rfl) (by kernel_rfl) (by exact fun _ _ _ h => h) (Or.inl ⟨by rfl, fun wx hSx => ?_⟩) hHeld ?_
    rotate_left
    · clear hSx; go_simp; (try with_reducible rfl)
    simp only [Act.put, List.setIfInBounds_toArray, List.set_cons_zero, List.set_cons_succ]
    refine wpAnyH_take (i := 7) (v := ?_) (by simp; rfl) (by kernel_rfl) (by kernel_rfl) (by kernel_rfl) (by exact fun _ _ _ h => h) (Or.inl ⟨by rfl, fun wx hSx => ?_⟩) hHeld ?_
    rotate_left
    · have e0 := HCB.out _ hSx; clear hSx; go_simp; (try with_reducible rfl)
    simp only [Act.put, List.setIfInBounds_toArray, List.set_cons_zero, List.set_cons_succ]
    refine wpAnyH_take (i := 8) (v := ?_) (by simp; rfl) (by kernel_rfl) (by kernel_rfl) (by kernel_rfl) (by exact fun _ _ _ h => h) (Or.inl ⟨by rfl, fun wx hSx => ?_⟩) hHeld ?_
    rotate_left
    · clear hSx; go_simp; (try with_reducible rfl)
    simp only [Act.put, List.setIfInBounds_toArray, List.set_cons_zero, List.set_cons_succ]
    refine wpAnyH_ready (rs := [9]) (by kernel_rfl) (by simp) ?_
    refine AllReadyH.cons (by simp; rfl) (fun K0 hK0 => ?_) AllReadyH.nil
    go_simp
    refine (HWR.out _ (HTI.out.below hHeld)).mono ?_
    rintro e V2 ⟨v2, rfl, hO⟩
    obtain ⟨A1, c1, rfl, _, _, r1⟩ := own8 hO
    rw [HNX.out]
    have hcv := fun (wx : World) (hb : Below V2.heap.size V2 wx) => conv_text (n := nX) HNX.out c1 (r1.below hb)
    rw [HS1.out] at hcv
    have HCV := Lib.hid hcv
    have hb1 := hO.below
    have HBV := Lib.hid (Below.trans hHeld (hb1.mono hHeld.size))
    refine hK0.out _ _ HBV.out (fun _ => ?_)
    clear hK0 K0 hHeld hcv r1 hO hb1
    refine heldMono (S' := fun W => Below V2.heap.size V2 W) (fun _ h => HBV.out.trans (h.mono HBV.out.size)) _ _ _ _ ?_
    have hHeld := Below.refl V2.heap.size V2
    refine wpAnyH_take (i := 10) (v := ?_) (by simp; rfl) (by kernel_rfl) (by kernel_rfl) (by kernel_rfl) (by exact fun _ _ _ h => h) (Or.inl ⟨by rfl, fun wx hSx => ?_⟩) hHeld ?_
    rotate_left
    · have e0 := HCV.out _ hSx; clear hSx; go_simp; (try with_reducible rfl)
    simp only [Act.put, List.setIfInBounds_toArray, List.set_cons_zero, List.set_cons_succ]
    refine wpAnyH_take (i := 11) (v := ?_) (by simp; rfl) (by kernel_rfl) (by kernel_rfl) (by kernel_rfl) (by exact fun _ _ _ h => h) (Or.inl ⟨by rfl, fun wx hSx => ?_⟩) hHeld ?_
    rotate_left
    · clear hSx; go_simp; (try with_reducible rfl)
    simp only [Act.put, List.setIfInBounds_toArray, List.set_cons_zero, List.set_cons_succ]
    refine wpAnyH_take (i := 12) (v := ?_) (by simp; rfl) (by kernel_rfl) (by kernel_rfl) (by kernel_rfl) (by exact fun _ _ _ h => h) (Or.inl ⟨by rfl, fun wx hSx => ?_⟩) hHeld ?_
    rotate_left
    · clear hSx; go_simp; (try with_reducible rfl)
    simp only [Act.put, List.setIfInBounds_toArray, List.set_cons_zero, List.set_cons_succ]
    refine wpAnyH_take (i := 13) (v := ?_) (by simp; rfl) (by kernel_rfl) (by kernel_rfl) (by kernel_rfl) (by exact fun _ _ _ h => h) (Or.inl ⟨by rfl, fun wx hSx => ?_⟩) hHeld ?_
    rotate_left
    · clear hSx; go_simp; (try with_reducible rfl)
    simp only [Act.put, List.setIfInBounds_toArray, List.set_cons_zero, List.set_cons_succ]
    refine wpAnyH_done (by kernel_rfl) ?_ _
    go_wp2
    go_ret
    exact ⟨rfl, HEND.out _ HBV.out⟩
  · have HMM := Lib.hid hno
    unfold mV
    have hal := (Below.refl w3.heap.size w3).alloc (Nat.le_refl _) (.cells #[.int .i64 0, .int .u64 0] 56)
    have HB3 := Lib.hid (Bto (Bto HB2.out hb3) hal)
    have HMB := Lib.hid (MB.new w3 0 0)
    have HR3 := Lib.hid ((HR2.out.below hb3).below hal)
    have HT3 := Lib.hid ((HT2.out.below hb3).below hal)
    clear HR2 HT2
    clear hno hb3 hal
    go_upto_region 6 with fail
    obtain ⟨X3, hX3⟩ : ∃ X, w3.alloc (.cells #[.int .i64 0, .int .u64 0] 56) = X := ⟨_, rfl⟩
    rw [hX3] at HB3 HMB HR3 HT3 ⊢
    clear hX3
    have HRR := Lib.hid (rread_any (cap := cap) HZ.out HL.out (show N ≤ 100000 by omega) X3 (HRI.out.below HB3.out))
    go_wp2_with fail
    refine HRR.out.mono ?_
    rintro e w4 ⟨hb4, h4⟩
    clear HRR
    obtain ⟨v4, rfl⟩ : ∃ v4 : Value, e = .returned (.tuple #[v4, .bool false]) := by
      rcases h4 with ⟨m', c', v4, hm', he, ho⟩ | ⟨_, h⟩
      · exact absurd hm' (HMM.out _ _)
      · exact h
    clear h4
    have HB4 := Lib.hid (Bto HB3.out hb4)
    have HMB4 := Lib.hid (HMB.out.below hb4)
    have HR4 := Lib.hid (HR3.out.below hb4)
    have HT4 := Lib.hid (HT3.out.below hb4)
    clear hb4 HMB HB3
    have c0 := HMB4.out.c0
    have c1 := HMB4.out.c1
    have HB5 := HB4
    go_upto_region 11 with fail
    obtain ⟨Z, hZ⟩ : ∃ W, w4 = W := ⟨_, rfl⟩
    rw [hZ] at HB5 HR4 HT4 ⊢
    clear hZ c0 c1
    have HTI := HT4
    have HWR := Lib.hid (fun W hT => HWR.out cl Al W hT)
    have HCB : Hid (∀ wx : World, Below Z.heap.size Z wx → (convert 28 9 (.slice Aw nX cw)).run Try.prog wx = .ok (.string S1) wx) := Lib.hid (fun wx hbz => by rw [← HS1.out]; exact conv_text HNX.out cw (HR4.out.below hbz))
    have HEND := Lib.hid (fun W (hb : Below Z.heap.size Z W) => Bto HB5.out hb)
    refine wp_region_held_drew (S := fun W => Below Z.heap.size Z W) (by kernel_rfl) (belowN (Below.refl Z.heap.size Z) 1) (fun hHeld => ?_)
    refine wpAnyH_ready (rs := [0]) (by kernel_rfl) (by simp) ?_
    refine AllReadyH.cons (by simp; rfl) (fun K0 hK0 => ?_) AllReadyH.nil
    go_simp
    refine (alive_any _).mono ?_
    rintro e V1 ⟨rfl, hy⟩
    have HB1 := Lib.hid (Below.trans hHeld (hy.mono hHeld.size))
    clear hy
    refine hK0.out _ _ HB1.out (fun _ => ?_)
    clear hK0 K0 hHeld
    have hHeld := HB1.out
    refine wpAnyH_take (i := 1) (v := ?_) (by simp; rfl) (by kernel_rfl) (by kernel_rfl) (by kernel_rfl) (by exact fun _ _ _ h => h) (Or.inl ⟨by rfl, fun wx hSx => ?_⟩) hHeld ?_
    rotate_left
    · clear hSx; go_simp; (try with_reducible rfl)
    simp only [Act.put, List.setIfInBounds_toArray, List.set_cons_zero, List.set_cons_succ]
    refine wpAnyH_take (i := 2) (v := ?_) (by simp; rfl) (by kernel_rfl) (by kernel_rfl) (by kernel_rfl) (by exact fun _ _ _ h => h) (Or.inl ⟨by rfl, fun wx hSx => ?_⟩) hHeld ?_
    rotate_left
    · clear hSx; go_simp; (try with_reducible rfl)
    simp only [Act.put, List.setIfInBounds_toArray, List.set_cons_zero, List.set_cons_succ]
    refine wpAnyH_take (i := 3) (v := ?_) (by simp; rfl) (by kernel_rfl) (by kernel_rfl) (by kernel_rfl) (by exact fun _ _ _ h => h) (Or.inl ⟨by rfl, fun wx hSx => ?_⟩) hHeld ?_
    rotate_left
    · clear hSx; go_simp; (try with_reducible rfl)
    simp only [Act.put, List.setIfInBounds_toArray, List.set_cons_zero, List.set_cons_succ]
    refine wpAnyH_take (i := 4) (v := ?_) (by simp; rfl) (by kernel_rfl) (by kernel_rfl) (by kernel_rfl) (by exact fun _ _ _ h => h) (Or.inl ⟨by rfl, fun wx hSx => ?_⟩) hHeld ?_
    rotate_left
    · clear hSx; go_simp; (try with_reducible rfl)
    simp only [Act.put, List.setIfInBounds_toArray, List.set_cons_zero, List.set_cons_succ]
    refine wpAnyH_take (i := 5) (v := ?_) (by simp; rfl) (by kernel_rfl) (by kernel_rfl) (by kernel_rfl) (by exact fun _ _ _ h => h) (Or.inl ⟨by rfl, fun wx hSx => ?_⟩) hHeld ?_
    rotate_left
    · clear hSx; go_simp; (try with_reducible rfl)
    simp only [Act.put, List.setIfInBounds_toArray, List.set_cons_zero, List.set_cons_succ]
    refine wpAnyH_take (i := 6) (v := ?_) (by simp; rfl) (by kernel_rfl) (by kernel_rfl) (by kernel_rfl) (by exact fun _ _ _ h => h) (Or.inl ⟨by rfl, fun wx hSx => ?_⟩) hHeld ?_
    rotate_left
    · clear hSx; go_simp; (try with_reducible rfl)
    simp only [Act.put, List.setIfInBounds_toArray, List.set_cons_zero, List.set_cons_succ]
    refine wpAnyH_take (i := 7) (v := ?_) (by simp; rfl) (by kernel_rfl) (by kernel_rfl) (by kernel_rfl) (by exact fun _ _ _ h => h) (Or.inl ⟨by rfl, fun wx hSx => ?_⟩) hHeld ?_
    rotate_left
    · have e0 := HCB.out _ hSx; clear hSx; go_simp; (try with_reducible rfl)
    simp only [Act.put, List.setIfInBounds_toArray, List.set_cons_zero, List.set_cons_succ]
    refine wpAnyH_take (i := 8) (v := ?_) (by simp; rfl) (by kernel_rfl) (by kernel_rfl) (by kernel_rfl) (by exact fun _ _ _ h => h) (Or.inl ⟨by rfl, fun wx hSx => ?_⟩) hHeld ?_
    rotate_left
    · clear hSx; go_simp; (try with_reducible rfl)
    simp only [Act.put, List.setIfInBounds_toArray, List.set_cons_zero, List.set_cons_succ]
    refine wpAnyH_ready (rs := [9]) (by kernel_rfl) (by simp) ?_
    refine AllReadyH.cons (by simp; rfl) (fun K0 hK0 => ?_) AllReadyH.nil
    go_simp
    refine (HWR.out _ (HTI.out.below hHeld)).mono ?_
    rintro e V2 ⟨v2, rfl, hO⟩
    obtain ⟨A1, c1, rfl, _, _, r1⟩ := own8 hO
    rw [HNX.out]
    have hcv := fun (wx : World) (hb : Below V2.heap.size V2 wx) => conv_text (n := nX) HNX.out c1 (r1.below hb)
    rw [HS1.out] at hcv
    have HCV := Lib.hid hcv
    have hb1 := hO.below
    have HBV := Lib.hid (Below.trans hHeld (hb1.mono hHeld.size))
    refine hK0.out _ _ HBV.out (fun _ => ?_)
    clear hK0 K0 hHeld hcv r1 hO hb1
    refine heldMono (S' := fun W => Below V2.heap.size V2 W) (fun _ h => HBV.out.trans (h.mono HBV.out.size)) _ _ _ _ ?_
    have hHeld := Below.refl V2.heap.size V2
    refine wpAnyH_take (i := 10) (v := ?_) (by simp; rfl) (by kernel_rfl) (by kernel_rfl) (by kernel_rfl) (by exact fun _ _ _ h => h) (Or.inl ⟨by rfl, fun wx hSx => ?_⟩) hHeld ?_
    rotate_left
    · have e0 := HCV.out _ hSx; clear hSx; go_simp; (try with_reducible rfl)
    simp only [Act.put, List.setIfInBounds_toArray, List.set_cons_zero, List.set_cons_succ]
    refine wpAnyH_take (i := 11) (v := ?_) (by simp; rfl) (by kernel_rfl) (by kernel_rfl) (by kernel_rfl) (by exact fun _ _ _ h => h) (Or.inl ⟨by rfl, fun wx hSx => ?_⟩) hHeld ?_
    rotate_left
    · clear hSx; go_simp; (try with_reducible rfl)
    simp only [Act.put, List.setIfInBounds_toArray, List.set_cons_zero, List.set_cons_succ]
    refine wpAnyH_take (i := 12) (v := ?_) (by simp; rfl) (by kernel_rfl) (by kernel_rfl) (by kernel_rfl) (by exact fun _ _ _ h => h) (Or.inl ⟨by rfl, fun wx hSx => ?_⟩) hHeld ?_
    rotate_left
    · clear hSx; go_simp; (try with_reducible rfl)
    simp only [Act.put, List.setIfInBounds_toArray, List.set_cons_zero, List.set_cons_succ]
    refine wpAnyH_take (i := 13) (v := ?_) (by simp; rfl) (by kernel_rfl) (by kernel_rfl) (by kernel_rfl) (by exact fun _ _ _ h => h) (Or.inl ⟨by rfl, fun wx hSx => ?_⟩) hHeld ?_
    rotate_left
    · clear hSx; go_simp; (try with_reducible rfl)
    simp only [Act.put, List.setIfInBounds_toArray, List.set_cons_zero, List.set_cons_succ]
    refine wpAnyH_done (by kernel_rfl) ?_ _
    go_wp2
    go_ret
    exact ⟨rfl, HEND.out _ HBV.out⟩
theorem bytes_any {n : Int} {b : Nat} (hb : b < 18446744073709551616) {zs : List Int} (hz8 : isB8 zs) {A : Option Addr} {N cap : Nat} (hl : zs.length = N) (hc : N ≤ cap) (hcm : cap ≤ maxLen) (w : World) (hR : RI .u8 w A zs) : Calls Try.prog 7 #[mV n b, .slice A N cap] w fun e w' => e = .returned (.bool true) ∧ Below w.heap.size w w' := by
  by_cases h : 100 < N
  · exact bytes_long h w
  · cases hr : rB n b
    · exact bytes_bad hb hz8 hl hc hcm (by omega) hr w hR
    · exact bytes_in hb hz8 hl hc hcm (by omega) hr w hR
end Go.Proofs.Ytlppnnehgfpgbaa
