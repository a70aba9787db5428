/-
  Proved here: RttBounds walked: it returns true, whatever the numbers, and nothing that was there is changed.
-/
import Derived.Test.YtfchhadoiknleaaRtA
import Derived.Test.YtfchhadoiknleaaPlC
namespace Go.Proofs.Ytfchhadoiknleaa
open Go.RowKit
theorem wait_lo (K : Bool) (a s b : Int) : 2 ≤ waitS K a s b ∧ waitS K a s b ≤ 64 := by unfold waitS; omega
theorem w0_pos {K : Bool} {a s b : Int} (h : Fit K a s b) : 1 ≤ w0 K a s := by
  have := h.a0
  cases K <;> simp [w0] <;> omega
theorem wait_up {K : Bool} {a s b : Int} (h : Fit K a s b) : waitS K a s b ≤ waitS K a s (min (b + 1) 6) := by
  have hw := w0_pos h
  have h0 := h.b0
  have h1 := h.b1
  unfold waitS
  generalize w0 K a s = v at hw
  have : b = 0 ∨ b = 1 ∨ b = 2 ∨ b = 3 ∨ b = 4 ∨ b = 5 ∨ b = 6 := by omega
  rcases this with rfl | rfl | rfl | rfl | rfl | rfl | rfl
  · rw [show min ((0 : Int) + 1) 6 = 1 by decide]; show max 2 (min (v * 1) 64) ≤ max 2 (min (v * 2) 64); omega
  · rw [show min ((1 : Int) + 1) 6 = 2 by decide]; show max 2 (min (v * 2) 64) ≤ max 2 (min (v * 4) 64); omega
  · rw [show min ((2 : Int) + 1) 6 = 3 by decide]; show max 2 (min (v * 4) 64) ≤ max 2 (min (v * 8) 64); omega
  · rw [show min ((3 : Int) + 1) 6 = 4 by decide]; show max 2 (min (v * 8) 64) ≤ max 2 (min (v * 16) 64); omega
  · rw [show min ((4 : Int) + 1) 6 = 5 by decide]; show max 2 (min (v * 16) 64) ≤ max 2 (min (v * 32) 64); omega
  · rw [show min ((5 : Int) + 1) 6 = 6 by decide]; show max 2 (min (v * 32) 64) ≤ max 2 (min (v * 64) 64); omega
  · rw [show min ((6 : Int) + 1) 6 = 6 by decide]; show max 2 (min (v * 64) 64) ≤ max 2 (min (v * 64) 64); omega
theorem wait_6 {K : Bool} {a s : Int} (h : Fit K a s 6) : waitS K a s 6 = 64 := by
  have hw := w0_pos h
  unfold waitS
  generalize w0 K a s = v at hw
  simp
  omega
def cap6 (j : Nat) : Int := min (j : Int) 6
def SomeM (w : World) (b : Int) (W : World) : Prop := ∃ K a s, Mw w w.heap.size K a s b W
theorem SomeM.below {w : World} {b : Int} {W : World} (h : SomeM w b W) : Below w.heap.size w W := by obtain ⟨K, a, s, h⟩ := h; exact h.below
set_option maxRecDepth 100000 in
set_option maxHeartbeats 4000000 in
theorem bounds_any (zs : List Int) (A : Option Addr) (n cap : Nat) (t : Int) (w : World) (hs : SlI .u16 w A n cap zs) (t0 : 0 ≤ t) (t1 : t < 256) :
    Calls Try.prog 4 #[.slice A n cap, .int .u8 t] w fun e w' => e = .returned (.bool true) ∧ Below w.heap.size w w' := by
  obtain ⟨hlen, hr, hwf, hle, hmx⟩ := hs
  subst hlen
  have hmx' : zs.length ≤ 9223372036854775807 := by unfold maxLen at hmx; omega
  have HR := Lib.hid hr
  have HW := Lib.hid hwf
  clear hr hwf hmx hle
  go_enter Try.func4, Try.ntmps4
  go_wp2_with fail
  refine (new_mw w).mono ?_
  rintro e w1 ⟨rfl, h1⟩
  have H0 := Lib.hid (show SomeM w 0 w1 from ⟨_, _, _, h1.out⟩)
  clear h1
  go_wp2
  go_loopw [6] (fun i wr => ∃ k : Nat, k ≤ zs.length ∧ k ≤ 200 ∧ i = .int .i64 k ∧ Hid (SomeM w 0 wr)) (fun i _ => 200 - (intOf i).toNat)
  case atStart => exact ⟨0, by omega, by omega, rfl, H0⟩
  case round =>
    obtain ⟨k, hk, hk2, rfl, HK⟩ := hrel
    by_cases hlt : k < zs.length ∧ k < 200
    · obtain ⟨hlt, h200⟩ := hlt
      obtain ⟨b, off, rfl, hb, hc⟩ := HR.out (by omega)
      have hz := bounds_u16 (HW.out k hlt)
      have hcell : wr.cell? ⟨b, off + k, none⟩ = some (.int .u16 (zs.getD k 0)) := (HK.out.below.cell (p := ⟨b, off + k, none⟩) hb).trans (hc k hlt)
      clear hc
      obtain ⟨z, hzz⟩ : ∃ z, zs.getD k 0 = z := ⟨_, rfl⟩
      rw [hzz] at hz hcell
      clear hzz
      obtain ⟨z0, z1⟩ := hz
      obtain ⟨K, a, s, hM⟩ := HK.out
      have HM := Lib.hid hM
      clear hM HK
      have hd : decide ((k : Int) < 200) = true := by simp; omega
      go_wp2_with fail
      refine (measure_mw w _ K a s 0 z _ _ wr HM.out (by omega) (by omega) rfl rfl).mono ?_
      rintro e w2 ⟨rfl, h2⟩
      obtain ⟨c, hc⟩ : ∃ c, waitS true (mA K a z) (mS K a s z) 0 = c := ⟨_, rfl⟩
      have hcb := wait_lo true (mA K a z) (mS K a s z) 0
      have HC := Lib.hid hc
      rw [hc] at hcb
      obtain ⟨q0, q1⟩ := hcb
      clear hc HM hcell
      go_wp2_with fail
      refine (wait_mw w _ _ _ _ _ c _ h2.out HC.out).mono ?_
      rintro e w3 ⟨rfl, h3⟩
      go_wp2_with fail
      refine (wait_mw w _ _ _ _ _ c _ h3.out HC.out).mono ?_
      rintro e w4 ⟨rfl, h4⟩
      have H4 := Lib.hid (show SomeM w 0 w4 from ⟨_, _, _, h4.out⟩)
      clear h4 h3 h2 HC
      go_wp2
      go_roundw
      case rel => exact ⟨k + 1, by omega, by omega, by go_num, H4⟩
      case measure => simp [intOf]; omega
    · by_cases hl : k < zs.length
      · have h200 : 200 ≤ k := by omega
        clear hlt
        go_wp2
        obtain ⟨wo, rfl⟩ : ∃ wo : World, wo = wr := ⟨_, rfl⟩
        go_loopw [7] (fun i wr => ∃ j : Nat, (j : Int) ≤ t % 16 ∧ i = .int .i64 j ∧ Hid (SomeM w (cap6 j) wr)) (fun i _ => 256 - (intOf i).toNat)
        case atStart => exact ⟨0, by omega, rfl, HK⟩
        case round =>
          obtain ⟨j, hj, rfl, HJ⟩ := hrel
          clear HK H0 HR HW
          have hb6 : cap6 j = min (j : Int) 6 := rfl
          have hb7 : min (min (j : Int) 6 + 1) 6 = (cap6 (j + 1)) := by unfold cap6; omega
          have HB7 := Lib.hid hb7
          rw [hb6] at HJ
          clear hb6 hb7
          by_cases hlt : (j : Int) < t % 16
          · obtain ⟨K, a, s, hM⟩ := HJ.out
            have HM := Lib.hid hM
            obtain ⟨b, hb⟩ : ∃ b : Int, min (j : Int) 6 = b := ⟨_, rfl⟩
            rw [hb] at HM HB7
            rw [hb] at hM
            obtain ⟨b', hb'⟩ : ∃ b' : Int, min (b + 1) 6 = b' := ⟨_, rfl⟩
            obtain ⟨c, hc⟩ : ∃ c, waitS K a s b = c := ⟨_, rfl⟩
            obtain ⟨c', hc'⟩ : ∃ c', waitS K a s b' = c' := ⟨_, rfl⟩
            have q1 : c ≤ c' := by rw [← hc, ← hc', ← hb']; exact wait_up hM.fit
            have q2 : c' ≤ 64 := by rw [← hc']; exact (wait_lo _ _ _ _).2
            have HC := Lib.hid hc
            have HC' := Lib.hid hc'
            have HB' := Lib.hid hb'
            clear hb hb' hc hc' hM HJ
            go_wp2_with fail
            refine (wait_mw w _ _ _ _ _ c _ HM.out HC.out).mono ?_
            rintro e w2 ⟨rfl, h2⟩
            go_wp2_with fail
            refine (back_mw w _ _ _ _ _ b' _ h2.out HB'.out).mono ?_
            rintro e w3 ⟨rfl, h3⟩
            go_wp2_with fail
            refine (wait_mw w _ _ _ _ _ c' _ h3.out HC'.out).mono ?_
            rintro e w4 ⟨rfl, h4⟩
            go_wp2_with fail
            refine (wait_mw w _ _ _ _ _ c' _ h4.out HC'.out).mono ?_
            rintro e w5 ⟨rfl, h5⟩
            have H5 := Lib.hid (show SomeM w (cap6 (j + 1)) w5 from by rw [← HB7.out, HB'.out]; exact ⟨_, _, _, h5.out⟩)
            clear h5 h4 h3 h2 HC HC' HB' HB7 HM
            go_wp2
            go_roundw
            case rel => exact ⟨j + 1, by omega, by go_num, H5⟩
            case measure => simp [intOf]; omega
          · have hje : t % 16 ≤ (j : Int) := by omega
            clear hlt
            have HJ' := Lib.hid HJ.out
            by_cases h6 : t % 16 < 6
            · go_wp2_with fail
              refine (alive_any _).mono ?_
              rintro e w2 ⟨rfl, h2⟩
              have H2 := Lib.hid h2
              clear h2
              go_wp2
              go_ret
              exact ⟨rfl, HJ'.out.below.trans (H2.out.mono HJ'.out.below.size)⟩
            · have h6' : 6 ≤ t % 16 := by omega
              clear h6
              obtain ⟨K, a, s, hM⟩ := HJ'.out
              have hb : min (j : Int) 6 = 6 := by omega
              rw [hb] at hM
              have HM := Lib.hid hM
              have HS := Lib.hid hM.size
              clear hM hb HJ HJ' HB7
              go_wp2_with fail
              refine (alive_any _).mono ?_
              rintro e w2 ⟨rfl, h2⟩
              have HM2 := Lib.hid (show Mw w w.heap.size K a s 6 w2 from ⟨HM.out.mt.below h2, HM.out.fit, HM.out.below.trans (h2.mono HS.out), HM.out.own⟩)
              clear h2 HM HS
              go_wp2_with fail
              refine (wait_mw w _ _ _ _ _ 64 _ HM2.out (wait_6 HM2.out.fit)).mono ?_
              rintro e w3 ⟨rfl, h3⟩
              go_wp2
              go_ret
              exact ⟨rfl, h3.out.below⟩
      · have hge : zs.length ≤ k := by omega
        clear hlt
        go_wp2
        obtain ⟨wo, rfl⟩ : ∃ wo : World, wo = wr := ⟨_, rfl⟩
        go_loopw [7] (fun i wr => ∃ j : Nat, (j : Int) ≤ t % 16 ∧ i = .int .i64 j ∧ Hid (SomeM w (cap6 j) wr)) (fun i _ => 256 - (intOf i).toNat)
        case atStart => exact ⟨0, by omega, rfl, HK⟩
        case round =>
          obtain ⟨j, hj, rfl, HJ⟩ := hrel
          clear HK H0 HR HW
          have hb6 : cap6 j = min (j : Int) 6 := rfl
          have hb7 : min (min (j : Int) 6 + 1) 6 = (cap6 (j + 1)) := by unfold cap6; omega
          have HB7 := Lib.hid hb7
          rw [hb6] at HJ
          clear hb6 hb7
          by_cases hlt : (j : Int) < t % 16
          · obtain ⟨K, a, s, hM⟩ := HJ.out
            have HM := Lib.hid hM
            obtain ⟨b, hb⟩ : ∃ b : Int, min (j : Int) 6 = b := ⟨_, rfl⟩
            rw [hb] at HM HB7
            rw [hb] at hM
            obtain ⟨b', hb'⟩ : ∃ b' : Int, min (b + 1) 6 = b' := ⟨_, rfl⟩
            obtain ⟨c, hc⟩ : ∃ c, waitS K a s b = c := ⟨_, rfl⟩
            obtain ⟨c', hc'⟩ : ∃ c', waitS K a s b' = c' := ⟨_, rfl⟩
            have q1 : c ≤ c' := by rw [← hc, ← hc', ← hb']; exact wait_up hM.fit
            have q2 : c' ≤ 64 := by rw [← hc']; exact (wait_lo _ _ _ _).2
            have HC := Lib.hid hc
            have HC' := Lib.hid hc'
            have HB' := Lib.hid hb'
            clear hb hb' hc hc' hM HJ
            go_wp2_with fail
            refine (wait_mw w _ _ _ _ _ c _ HM.out HC.out).mono ?_
            rintro e w2 ⟨rfl, h2⟩
            go_wp2_with fail
            refine (back_mw w _ _ _ _ _ b' _ h2.out HB'.out).mono ?_
            rintro e w3 ⟨rfl, h3⟩
            go_wp2_with fail
            refine (wait_mw w _ _ _ _ _ c' _ h3.out HC'.out).mono ?_
            rintro e w4 ⟨rfl, h4⟩
            go_wp2_with fail
            refine (wait_mw w _ _ _ _ _ c' _ h4.out HC'.out).mono ?_
            rintro e w5 ⟨rfl, h5⟩
            have H5 := Lib.hid (show SomeM w (cap6 (j + 1)) w5 from by rw [← HB7.out, HB'.out]; exact ⟨_, _, _, h5.out⟩)
            clear h5 h4 h3 h2 HC HC' HB' HB7 HM
            go_wp2
            go_roundw
            case rel => exact ⟨j + 1, by omega, by go_num, H5⟩
            case measure => simp [intOf]; omega
          · have hje : t % 16 ≤ (j : Int) := by omega
            clear hlt
            have HJ' := Lib.hid HJ.out
            by_cases h6 : t % 16 < 6
            · go_wp2_with fail
              refine (alive_any _).mono ?_
              rintro e w2 ⟨rfl, h2⟩
              have H2 := Lib.hid h2
              clear h2
              go_wp2
              go_ret
              exact ⟨rfl, HJ'.out.below.trans (H2.out.mono HJ'.out.below.size)⟩
            · have h6' : 6 ≤ t % 16 := by omega
              clear h6
              obtain ⟨K, a, s, hM⟩ := HJ'.out
              have hb : min (j : Int) 6 = 6 := by omega
              rw [hb] at hM
              have HM := Lib.hid hM
              have HS := Lib.hid hM.size
              clear hM hb HJ HJ' HB7
              go_wp2_with fail
              refine (alive_any _).mono ?_
              rintro e w2 ⟨rfl, h2⟩
              have HM2 := Lib.hid (show Mw w w.heap.size K a s 6 w2 from ⟨HM.out.mt.below h2, HM.out.fit, HM.out.below.trans (h2.mono HS.out), HM.out.own⟩)
              clear h2 HM HS
              go_wp2_with fail
              refine (wait_mw w _ _ _ _ _ 64 _ HM2.out (wait_6 HM2.out.fit)).mono ?_
              rintro e w3 ⟨rfl, h3⟩
              go_wp2
              go_ret
              exact ⟨rfl, h3.out.below⟩
end Go.Proofs.Ytfchhadoiknleaa
