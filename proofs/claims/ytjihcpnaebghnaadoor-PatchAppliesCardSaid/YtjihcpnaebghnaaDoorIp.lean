/-
  Proved here: of the document's views: Right, Head, Write.
-/
import Derived.Test.YtjihcpnaebghnaaDoorIo
set_option linter.unusedSimpArgs false
set_option linter.unusedVariables false
namespace Go.Proofs.YtjihcpnaebghnaaDoor
open Go.RowKit
set_option maxRecDepth 100000 in
set_option maxHeartbeats 16000000 in
theorem r_viewright {w : World} {A : Option Addr} {n cap : Nat} {L : List Ce} (h : CY w A L) (hl : L.length = n) (hn : n ≤ 1000) (ho : ∀ c ∈ L, CeOk c) (R C row col : Int) (vis : Bool) :
    Calls Tryd.prog 30 #[.agg #[.int .i64 R, .int .i64 C, .slice A n cap, .int .i64 row, .int .i64 col, .bool vis]] w fun e w' => e = .returned (.bool (rightW R C row col L)) ∧ Below w.heap.size w w' := by
  generalize hW : rightW R C row col L = W
  have HW := Lib.hid hW
  have HB0 := (Below.refl w.heap.size w).alloc (Nat.le_refl _) (.cells #[.int .i64 R, .int .i64 C, .slice A n cap, .int .i64 row, .int .i64 col, .bool vis] 34)
  have HC0 := heap_alloc_new w (.cells #[.int .i64 R, .int .i64 C, .slice A n cap, .int .i64 row, .int .i64 col, .bool vis] 34)
  obtain ⟨vb, hvb⟩ : ∃ b, w.heap.size = b := ⟨_, rfl⟩
  have HL := Lib.hid hl
  have HN6 := Lib.hid hn
  have HO := Lib.hid ho
  have HCY := Lib.hid (h.below HB0)
  clear hW h hn ho
  go_enter Tryd.func30, Tryd.ntmps30
  go_upto_region 1 with fail
  simp only [hvb] at HC0 ⊢
  generalize (w.alloc (.cells #[.int .i64 R, .int .i64 C, .slice A n cap, .int .i64 row, .int .i64 col, .bool vis] 34)) = U at HB0 HC0 HCY ⊢
  have HB := Lib.hid HB0
  have HC := Lib.hid HC0
  obtain ⟨x0, x1, x2, x3, x4, x5⟩ := six_cells HC0
  clear HB0 HC0 hvb
  by_cases h0 : R < 1
  · have p0 : decide (R < 1) = true := by simpa using h0
    have HV := Lib.hid (show W = false from by
      rw [← HW.out]
      cases hh : rightW R C row col L with
      | false => rfl
      | true =>
        obtain ⟨_, q1, _, _, _, q2⟩ := rightW_parts hh
        omega)
    clear h0 hl
    go_wp2
    go_ret
    exact ⟨by rw [HV.out]; rfl, HB.out⟩
  have p0 : decide (R < 1) = false := by simpa using h0
  by_cases h1 : 12 < R
  · have p1 : decide (12 < R) = true := by simpa using h1
    have p1' : decide (R > 12) = true := p1
    have HV := Lib.hid (show W = false from by
      rw [← HW.out]
      cases hh : rightW R C row col L with
      | false => rfl
      | true =>
        obtain ⟨_, q1, _, _, _, q2⟩ := rightW_parts hh
        omega)
    clear h0 h1 hl
    go_wp2
    go_ret
    exact ⟨by rw [HV.out]; rfl, HB.out⟩
  have p1 : decide (12 < R) = false := by simpa using h1
  have p1' : decide (R > 12) = false := p1
  by_cases h2 : C < 1
  · have p2 : decide (C < 1) = true := by simpa using h2
    have HV := Lib.hid (show W = false from by
      rw [← HW.out]
      cases hh : rightW R C row col L with
      | false => rfl
      | true =>
        obtain ⟨_, q1, _, _, _, q2⟩ := rightW_parts hh
        omega)
    clear h0 h1 h2 hl
    go_wp2
    go_ret
    exact ⟨by rw [HV.out]; rfl, HB.out⟩
  have p2 : decide (C < 1) = false := by simpa using h2
  by_cases h3 : 40 < C
  · have p3 : decide (40 < C) = true := by simpa using h3
    have p3' : decide (C > 40) = true := p3
    have HV := Lib.hid (show W = false from by
      rw [← HW.out]
      cases hh : rightW R C row col L with
      | false => rfl
      | true =>
        obtain ⟨_, q1, _, _, _, q2⟩ := rightW_parts hh
        omega)
    clear h0 h1 h2 h3 hl
    go_wp2
    go_ret
    exact ⟨by rw [HV.out]; rfl, HB.out⟩
  have p3 : decide (40 < C) = false := by simpa using h3
  have p3' : decide (C > 40) = false := p3
  obtain ⟨r, rfl⟩ : ∃ r : Nat, R = r := ⟨R.toNat, by omega⟩
  obtain ⟨c, rfl⟩ : ∃ c : Nat, C = c := ⟨C.toNat, by omega⟩
  obtain ⟨N, hN⟩ : ∃ N : Nat, r * c = N := ⟨_, rfl⟩
  have hNI : (r : Int) * (c : Int) = (N : Int) := by rw [← hN]; simp
  have hN4 : N ≤ 480 := by rw [← hN]; exact Nat.mul_le_mul (show r ≤ 12 by omega) (show c ≤ 40 by omega)
  have hw : IntKind.i64.wrap ((r : Int) * (c : Int)) = (N : Int) := by rw [hNI]; exact IntWalk.i64_in _ (by omega)
  have p2n : decide (c < 1) = false := by simp; omega
  have p0n : decide (r < 1) = false := by simp; omega
  have p1n : decide (12 < r) = false := by simp; omega
  have p3n : decide (40 < c) = false := by simp; omega
  by_cases h4 : n = N
  rotate_left
  · have z4 : ((n : Int) != (N : Int)) = true := by simp; omega
    have z4n : (n != N) = true := by simp; omega
    have z4m : (n == N) = false := by simp; omega
    have HV := Lib.hid (show W = false from by
      rw [← HW.out]
      cases hh : rightW r c row col L with
      | false => rfl
      | true =>
        obtain ⟨_, q1, _, _, _, q2⟩ := rightW_parts hh
        rw [hNI] at q1
        omega)
    clear h0 h1 h2 h3 h4 hl hN hN4 hNI
    go_wp2
    go_ret
    exact ⟨by rw [HV.out]; rfl, HB.out⟩
  have z4 : ((n : Int) != (N : Int)) = false := by simp; omega
  have z4n : (n != N) = false := by simp; omega
  have z4m : (n == N) = true := by simp; omega
  have HRC := Lib.hid (show 1 ≤ r ∧ r ≤ 12 ∧ 1 ≤ c ∧ c ≤ 40 ∧ (L.length : Int) = (r : Int) * (c : Int) ∧ n ≤ 480 from ⟨by omega, by omega, by omega, by omega, by omega, by omega⟩)
  clear h0 h1 h2 h3 h4 hl hN hN4 hNI
  obtain ⟨q, hq⟩ : ∃ q, hasC r c row col = q := ⟨_, rfl⟩
  have HHA := Lib.hid (fun W => hq ▸ rhas_any r c A n cap row col W)
  have HQ := Lib.hid (show headB r c row col = q from by
    rw [← hq]
    have hrc := HRC.out
    unfold headB hasC hasR
    rw [Bool.eq_iff_iff]
    simp
    omega)
  clear hq
  go_wp2_with fail
  refine (HHA.out _).mono ?_
  rintro e w1 ⟨rfl, b1⟩
  have HB1 := Lib.hid (HB.out.trans (b1.mono HB.out.size))
  have HSB := Lib.hid b1
  clear b1 HHA x0 x1 x2 x3 x4 x5
  cases q with
  | false =>
    have HV := Lib.hid (show W = false from by rw [← HW.out]; unfold rightW; rw [HQ.out]; rfl)
    go_wp2
    go_ret
    exact ⟨by rw [HV.out]; rfl, HB1.out⟩
  | true =>
    obtain ⟨x0, x1, x2, x3, x4, x5⟩ := six_cells ((HSB.out.block _ (lt_of_block HC.out)).trans HC.out)
    have HWA := Lib.hid (show W = L.all cellR from by rw [← HW.out]; unfold rightW; rw [HQ.out, decide_eq_true HRC.out.2.2.2.2.1]; rfl)
    have HZ := HSB
    go_wp2
    clear x0 x1 x2 x3 x4 x5
    go_loopw [3] (fun iv wr => ∃ i : Nat, iv = .int .i64 i ∧ i ≤ n ∧ Hid (Below U.heap.size U wr) ∧ Hid (∀ k, k < i → cellR (ceAt L k) = true)) (fun iv _ => n - (intOf iv).toNat)
    case atStart => exact ⟨0, rfl, by omega, HZ, Lib.hid (fun k hk => absurd hk (by omega))⟩
    case round =>
      obtain ⟨i, rfl, hi, HSB, HALL⟩ := hrel
      clear HZ
      obtain ⟨x0, x1, x2, x3, x4, x5⟩ := six_cells ((HSB.out.block _ (lt_of_block HC.out)).trans HC.out)
      by_cases hin : i < n
      · have e1 : decide ((i : Int) < (n : Int)) = true := by simp; omega
        have e1' : decide (i < n) = true := by simp; omega
        have g1 : (0 : Int) ≤ (i : Int) := by omega
        have g2 : (i : Int) < (n : Int) := by omega
        have wr1 : IntKind.i64.wrap ((i : Int) + 1) = (i : Int) + 1 := IntWalk.i64_in _ (by have := HRC.out; omega)
        obtain ⟨b, rfl, hyr⟩ := HCY.out (by rw [HL.out]; omega)
        have hcok := HO.out (ceAt L i) (ceAt_mem (by rw [HL.out]; omega))
        obtain ⟨⟨p, f, gg, bb⟩, hce⟩ : ∃ c, ceAt L i = c := ⟨_, rfl⟩
        obtain ⟨f0, f1, f2, f3, f4, f5, f6, f7, hf⟩ := eight (ofF_len 8 f)
        have hyc : yC (ceAt L i) = [.int .i32 p, .bool f0, .bool f1, .bool f2, .bool f3, .bool f4, .bool f5, .bool f6, .bool f7, .int .u32 gg, .int .u32 bb] := by rw [hce]; unfold yC styL; dsimp only; rw [hf]; rfl
        obtain ⟨ey, _⟩ := yV_st (p := p) (gg := gg) (bb := bb) hf
        obtain ⟨k0, k1, k2, k3, k4, k5, k6, k7, k8, k9, k10⟩ := (hyr.below HSB.out).eleven (by rw [HL.out]; exact hin) hyc
        rw [hce] at hcok
        have hic := fun W => r_iscell ⟨p, f, gg, bb⟩ hcok W
        rw [ey] at hic
        have HIC := Lib.hid hic
        have HCE := Lib.hid hce
        have HIN := Lib.hid hin
        clear hi hin hyr hcok hce hyc hf ey hic
        go_wp2_with fail
        refine (HIC.out _).mono ?_
        rintro e w2 ⟨rfl, b2⟩
        have HS2 := Lib.hid (HSB.out.trans (b2.mono HSB.out.size))
        clear b2 k0 k1 k2 k3 k4 k5 k6 k7 k8 k9 k10 x0 x1 x2 x3 x4 x5
        cases hc : cellR ⟨p, f, gg, bb⟩ with
        | false =>
          have HV := Lib.hid (show W = false from by
            rw [HWA.out, List.all_eq_false]
            exact ⟨ceAt L i, ceAt_mem (by rw [HL.out]; exact HIN.out), by rw [HCE.out, hc]; decide⟩)
          have HBF := Lib.hid (HB.out.trans (HS2.out.mono HB.out.size))
          clear hc
          go_wp2
          go_ret
          exact ⟨by rw [HV.out]; rfl, HBF.out⟩
        | true =>
          have HK := Lib.hid (show ∀ k, k < i + 1 → cellR (ceAt L k) = true from fun k hk => by
            rcases Nat.lt_or_ge k i with h' | h'
            · exact HALL.out k h'
            · obtain rfl : k = i := by omega
              rw [HCE.out]; exact hc)
          clear hc HSB HALL
          go_wp2
          go_roundw
          case rel => exact ⟨i + 1, by go_num, by have := HIN.out; omega, HS2, HK⟩
          case measure => have := HIN.out; simp [intOf]; omega
      · have e1 : decide ((i : Int) < (n : Int)) = false := by simp; omega
        have e1' : decide (i < n) = false := by simp; omega
        have HV := Lib.hid (show W = true from by
          rw [HWA.out, List.all_eq_true]
          intro d hd
          obtain ⟨k, hk, rfl⟩ := List.getElem_of_mem hd
          have := HALL.out k (by have := HL.out; omega)
          rwa [show ceAt L k = L[k] by simp [ceAt, List.getD, hk]] at this)
        have HBF := Lib.hid (HB.out.trans (HSB.out.mono HB.out.size))
        clear hi hin
        go_wp2
        go_ret
        exact ⟨by rw [HV.out]; rfl, HBF.out⟩
set_option maxRecDepth 100000 in
set_option maxHeartbeats 8000000 in
theorem r_head {w : World} {A : Option Addr} {n cap : Nat} {R C row col : Int} {vis : Bool} (u0 : 0 ≤ R ∧ R ≤ 255) (u1 : 0 ≤ C ∧ C ≤ 255) (u2 : 0 ≤ row ∧ row ≤ 255) (u3 : 0 ≤ col ∧ col ≤ 255) :
    Calls Tryd.prog 64 #[.agg #[.int .i64 R, .int .i64 C, .slice A n cap, .int .i64 row, .int .i64 col, .bool vis]] w fun e w' => ∃ u, e = .returned u ∧ Own8 w u [R, C, row, col, if vis = true then 1 else 0] w' := by
  have v0 : IntKind.u8.wrap R = R := IntWalk.u8_in _ u0
  have v1 : IntKind.u8.wrap C = C := IntWalk.u8_in _ u1
  have v2 : IntKind.u8.wrap row = row := IntWalk.u8_in _ u2
  have v3 : IntKind.u8.wrap col = col := IntWalk.u8_in _ u3
  have HB0 := (Below.refl w.heap.size w).alloc (Nat.le_refl _) (.cells #[.int .i64 R, .int .i64 C, .slice A n cap, .int .i64 row, .int .i64 col, .bool vis] 34)
  have HC0 := heap_alloc_new w (.cells #[.int .i64 R, .int .i64 C, .slice A n cap, .int .i64 row, .int .i64 col, .bool vis] 34)
  obtain ⟨vb, hvb⟩ : ∃ b, w.heap.size = b := ⟨_, rfl⟩
  clear u0 u1 u2 u3
  go_enter Tryd.func64, Tryd.ntmps64
  go_upto_region 1 with fail
  simp only [hvb] at HC0 ⊢
  generalize (w.alloc (.cells #[.int .i64 R, .int .i64 C, .slice A n cap, .int .i64 row, .int .i64 col, .bool vis] 34)) = U at HB0 HC0 ⊢
  have HB := Lib.hid HB0
  obtain ⟨x0, x1, x2, x3, x4, x5⟩ := six_cells HC0
  clear HB0 HC0 hvb
  cases vis with
  | false =>
    have HO := Lib.hid ((Own8.lit U [R, C, row, col, 0] 5 rfl (by omega)).from HB.out)
    go_wp2
    go_ret
    exact ⟨_, rfl, HO.out⟩
  | true =>
    have HO := Lib.hid ((Own8.lit U [R, C, row, col, 1] 5 rfl (by omega)).from HB.out)
    go_wp2
    go_ret
    exact ⟨_, rfl, HO.out⟩
end Go.Proofs.YtjihcpnaebghnaaDoor
