/-
  Proved here: FragSizes walked: it returns true, whatever comes in, and nothing that was there is changed.
-/
import Derived.Test.YtmklcghoeapfbaaDoorFa
namespace Go.Proofs.YtmklcghoeapfbaaDoor
open Go.RowKit

def Tru (w : World) (e : Ending) (w' : World) : Prop := e = .returned (.bool true) ∧ Below w.heap.size w w'
theorem minS (n k : Nat) : min (480 * k) n + lenS n k = min (480 * (k + 1)) n := by unfold lenS; omega
theorem lenS_full {n k : Nat} (h : k + 1 < cntS n) : lenS n k = 480 := by have := cntS_not_last h; unfold lenS; omega
theorem cntI_le {n m : Int} (h0 : 0 ≤ n) (h1 : n ≤ m) (h2 : m ≤ 24000) : cntI n ≤ cntI m ∧ m ≤ cntI m * 480 ∧ 0 ≤ cntI m ∧ cntI m ≤ 50 := by
  obtain ⟨a, rfl⟩ : ∃ a : Nat, n = a := ⟨n.toNat, by omega⟩
  obtain ⟨b, rfl⟩ : ∃ b : Nat, m = b := ⟨m.toNat, by omega⟩
  rw [cntI_in (by omega), cntI_in (by omega)]
  have := cntS_mono (show a ≤ b by omega)
  have := cntS_all b
  have := cntS_le (show b ≤ 24000 by omega)
  omega

set_option maxRecDepth 100000 in
set_option maxHeartbeats 1000000 in
theorem sizes_guard (id : Int) (A : Option Addr) (l cap : Nat) (n m : Int) (w : World) (hT : Tab w) (h : 24000 < l ∨ id < 1 ∨ 4611686018427387903 < id) (_h0 : 0 ≤ id) :
    Calls Tryd.prog 6 #[.int .u64 id, .slice A l cap, .int .i64 n, .int .i64 m] w (Tru w) := by
  by_cases h1 : 24000 < l
  · have d1 : decide ((24000 : Int) < (l : Int)) = true := by simp; omega
    go_enter Tryd.func6, Tryd.ntmps6
    go_wp2_with fail
    refine (alive_any _ hT).mono ?_
    rintro e w1 ⟨rfl, hb1⟩
    go_wp2
    go_ret
    exact ⟨rfl, hb1⟩
  · have d1 : decide ((24000 : Int) < (l : Int)) = false := by simp; omega
    by_cases h2 : id < 1
    · go_enter Tryd.func6, Tryd.ntmps6
      go_wp2_with fail
      refine (alive_any _ hT).mono ?_
      rintro e w1 ⟨rfl, hb1⟩
      go_wp2
      go_ret
      exact ⟨rfl, hb1⟩
    · have h3 : 4611686018427387903 < id := by omega
      go_enter Tryd.func6, Tryd.ntmps6
      go_wp2_with fail
      refine (alive_any _ hT).mono ?_
      rintro e w1 ⟨rfl, hb1⟩
      go_wp2
      go_ret
      exact ⟨rfl, hb1⟩

set_option maxRecDepth 100000 in
set_option maxHeartbeats 4000000 in
theorem sizes_in (id : Int) (bs : List Int) (A : Option Addr) (l cap : Nat) (n m : Int) (w : World) (hT : Tab w) (hl : bs.length = l) (h : l ≤ 24000) (h0 : 1 ≤ id) (h1 : id ≤ 4611686018427387903) (hR : RB w w.heap.size A bs) (hA : A = none → cap = 0) :
    Calls Tryd.prog 6 #[.int .u64 id, .slice A l cap, .int .i64 n, .int .i64 m] w (Tru w) := by
  have d1 : decide ((24000 : Int) < (l : Int)) = false := by simp; omega
  have HS := Lib.hid (split_good id bs l hl A cap w h0 h1 h hR hA)
  have HL := Lib.hid hl
  have hK0 := cntS_le h
  have hK1 := cntS_pos l
  have HLN := Lib.hid (splitS_length id bs)
  have HAT := Lib.hid (fun i (hi : i < cntS bs.length) => splitS_at (id := id) hi)
  have HPL := Lib.hid (fun i (hi : i < cntS bs.length) => partS_length (id := id) (K := cntS bs.length) hi)
  rw [hl] at HLN HAT HPL
  have HFU := Lib.hid (fun k (hk : k + 1 < cntS l) => lenS_full hk)
  have HAL := Lib.hid (cntS_all l)
  obtain ⟨K, hK⟩ : ∃ K, cntS l = K := ⟨_, rfl⟩
  rw [hK] at hK0 hK1 HLN HAT HPL HFU HAL
  have HK := Lib.hid hK
  clear hK hl
  go_enter Tryd.func6, Tryd.ntmps6
  go_wp2_with fail
  refine HS.out.mono ?_
  rintro e w2 ⟨A2, rfl, hP2, hb2⟩
  rw [HL.out, HK.out]
  have HP := Lib.hid hP2
  have HB2 := Lib.hid hb2
  clear hP2 hb2
  go_wp2
  go_loop [11, 12] (fun all i => ∃ k : Nat, k ≤ K ∧ i = .int .i64 k ∧ all = .int .i64 ((min (480 * k) l : Nat) : Int)) (fun _ i => K - (intOf i).toNat)
  case atStart => exact ⟨0, by omega, rfl, by simp⟩
  case round =>
    obtain ⟨k, hk, rfl, rfl⟩ := hrel
    by_cases hlt : k < K
    · obtain ⟨b, off, hAe, hb, hc⟩ := HP.out (by rw [HLN.out]; omega)
      subst hAe
      obtain ⟨c0, c1, c2, A', c', c3, _⟩ := hc k (by rw [HLN.out]; omega)
      clear hc
      rw [HAT.out k hlt] at c0 c1 c2 c3
      rw [HPL.out k hlt] at c3
      simp only [partS] at c0 c1 c2
      have HMN := Lib.hid (minS l k)
      have HFL := Lib.hid (HFU.out k)
      obtain ⟨L, hL⟩ : ∃ L, lenS l k = L := ⟨_, rfl⟩
      rw [hL] at c3 HMN HFL
      clear hL
      obtain ⟨M, hM⟩ : ∃ M, min (480 * k) l = M := ⟨_, rfl⟩
      rw [hM] at HMN
      have hM2 : M + L ≤ 24000 := by rw [HMN.out]; omega
      rw [hM]
      clear hM
      have g3 : (0 : Int) ≤ (k : Int) := by omega
      have g4 : (k : Int) < (K : Int) := by omega
      have e1 : (id != id) = false := by simp
      have e2 : ((k : Int) != (k : Int)) = false := by simp
      have e3 : ((K : Int) != (K : Int)) = false := by simp
      by_cases hl2 : k + 1 < K
      · have hL := HFL.out hl2
        subst hL
        have e4 : decide ((k : Int) < (K : Int) - 1) = true := by simp; omega
        go_wp2
        go_round
        case rel => exact ⟨k + 1, by omega, by go_num, by rw [← HMN.out]; go_num⟩
        case measure => simp [intOf]; omega
      · have e4 : decide ((k : Int) < (K : Int) - 1) = false := by simp; omega
        go_wp2
        go_round
        case rel => exact ⟨k + 1, by omega, by go_num, by rw [← HMN.out]; go_num⟩
        case measure => simp [intOf]; omega
    · obtain rfl : k = K := by omega
      have hmin : min (480 * k) l = l := by have := HAL.out; omega
      rw [hmin]
      clear hmin
      have d64 : decide ((k : Int) ≤ 64) = true := by simp; omega
      have HTT := Lib.hid (alive_any w2 (hT.below HB2.out hT.big))
      by_cases q1 : 0 ≤ n
      · by_cases q2 : n ≤ m
        · by_cases q3 : m ≤ 24000
          · obtain ⟨r1, r2, r3, r4⟩ := cntI_le q1 q2 q3
            have HC1 := Lib.hid (count_any n w2)
            have HC2 := Lib.hid (count_any m w2)
            obtain ⟨a, ha⟩ : ∃ a, cntI n = a := ⟨_, rfl⟩
            obtain ⟨b, hb⟩ : ∃ b, cntI m = b := ⟨_, rfl⟩
            rw [ha] at HC1 r1
            rw [hb] at HC2 r1 r2 r3 r4
            clear ha hb
            go_wp2_with fail
            refine HC1.out.mono ?_
            rintro e w' ⟨rfl, rfl⟩
            go_wp2_with fail
            refine HC2.out.mono ?_
            rintro e w' ⟨rfl, rfl⟩
            go_wp2_with fail
            refine HC2.out.mono ?_
            rintro e w' ⟨rfl, rfl⟩
            go_wp2_with fail
            refine HTT.out.mono ?_
            rintro e w3 ⟨rfl, hb3⟩
            have hfin := HB2.out.trans (hb3.mono HB2.out.size)
            go_wp2
            go_ret
            exact ⟨rfl, hfin⟩
          · go_wp2_with fail
            refine HTT.out.mono ?_
            rintro e w3 ⟨rfl, hb3⟩
            have hfin := HB2.out.trans (hb3.mono HB2.out.size)
            go_wp2
            go_ret
            exact ⟨rfl, hfin⟩
        · go_wp2_with fail
          refine HTT.out.mono ?_
          rintro e w3 ⟨rfl, hb3⟩
          have hfin := HB2.out.trans (hb3.mono HB2.out.size)
          go_wp2
          go_ret
          exact ⟨rfl, hfin⟩
      · go_wp2_with fail
        refine HTT.out.mono ?_
        rintro e w3 ⟨rfl, hb3⟩
        have hfin := HB2.out.trans (hb3.mono HB2.out.size)
        go_wp2
        go_ret
        exact ⟨rfl, hfin⟩
end Go.Proofs.YtmklcghoeapfbaaDoor
