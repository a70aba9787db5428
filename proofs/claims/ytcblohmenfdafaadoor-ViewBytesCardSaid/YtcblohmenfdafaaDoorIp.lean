/-
  Proved here: of the document's views: Right, Head, Write.
-/
import Derived.Test.YtcblohmenfdafaaDoorIo
set_option linter.unusedSimpArgs false
set_option linter.unusedVariables false
namespace Go.Proofs.YtcblohmenfdafaaDoor
open Go.RowKit
set_option maxRecDepth 100000 in
set_option maxHeartbeats 16000000 in
theorem r_viewright {w : World} {A : Option Addr} {n cap : Nat} {L : List Ce} (h : CY w A L) (hl : L.length = n) (hn : n ≤ 1000) (ho : ∀ c ∈ L, CeOk c) (R C row col : Int) (vis : Bool) :
    Calls Tryd.prog 13 #[.agg #[.int .i64 R, .int .i64 C, .slice A n cap, .int .i64 row, .int .i64 col, .bool vis]] w fun e w' => e = .returned (.bool (rightW R C row col L)) ∧ Below w.heap.size w w' := by
  generalize hW : rightW R C row col L = W
  have HW := Lib.hid hW
  have HB0 := (Below.refl w.heap.size w).alloc (Nat.le_refl _) (.cells #[.int .i64 R, .int .i64 C, .slice A n cap, .int .i64 row, .int .i64 col, .bool vis] 31)
  have HC0 := heap_alloc_new w (.cells #[.int .i64 R, .int .i64 C, .slice A n cap, .int .i64 row, .int .i64 col, .bool vis] 31)
  obtain ⟨vb, hvb⟩ : ∃ b, w.heap.size = b := ⟨_, rfl⟩
  have HL := Lib.hid hl
  have HN6 := Lib.hid hn
  have HO := Lib.hid ho
  have HCY := Lib.hid (h.below HB0)
  clear hW h hn ho
  go_enter Tryd.func13, Tryd.ntmps13
  go_upto_region 1 with fail
  simp only [hvb] at HC0 ⊢
  generalize (w.alloc (.cells #[.int .i64 R, .int .i64 C, .slice A n cap, .int .i64 row, .int .i64 col, .bool vis] 31)) = U at HB0 HC0 HCY ⊢
  have HB := Lib.hid HB0
  have HC := Lib.hid HC0
  obtain ⟨x0, x1, x2, x3, x4, x5⟩ := six_cells HC0
  clear HB0 HC0 hvb
  by_cases h0 : R < 1
  · have p0 : decide (R < 1) = true := by simpa using h0
    have HV := Lib.hid (show W = false from by
      rw [← HW.out]
      cases hh : rightW R C row col L with
      | false => rfl
      | true =>
        obtain ⟨_, q1, _, _, _, q2⟩ := rightW_parts hh
        omega)
    clear h0 hl
    go_wp2
    go_ret
    exact ⟨by rw [HV.out]; rfl, HB.out⟩
  have p0 : decide (R < 1) = false := by simpa using h0
  by_cases h1 : 12 < R
  · have p1 : decide (12 < R) = true := by simpa using h1
    have p1' : decide (R > 12) = true := p1
    have HV := Lib.hid (show W = false from by
      rw [← HW.out]
      cases hh : rightW R C row col L with
      | false => rfl
      | true =>
        obtain ⟨_, q1, _, _, _, q2⟩ := rightW_parts hh
        omega)
    clear h0 h1 hl
    go_wp2
    go_ret
    exact ⟨by rw [HV.out]; rfl, HB.out⟩
  have p1 : decide (12 < R) = false := by simpa using h1
  have p1' : decide (R > 12) = false := p1
  by_cases h2 : C < 1
  · have p2 : decide (C < 1) = true := by simpa using h2
    have HV := Lib.hid (show W = false from by
      rw [← HW.out]
      cases hh : rightW R C row col L with
      | false => rfl
      | true =>
        obtain ⟨_, q1, _, _, _, q2⟩ := rightW_parts hh
        omega)
    clear h0 h1 h2 hl
    go_wp2
    go_ret
    exact ⟨by rw [HV.out]; rfl, HB.out⟩
  have p2 : decide (C < 1) = false := by simpa using h2
  by_cases h3 : 40 < C
  · have p3 : decide (40 < C) = true := by simpa using h3
    have p3' : decide (C > 40) = true := p3
    have HV := Lib.hid (show W = false from by
      rw [← HW.out]
      cases hh : rightW R C row col L with
      | false => rfl
      | true =>
        obtain ⟨_, q1, _, _, _, q2⟩ := rightW_parts hh
        omega)
    clear h0 h1 h2 h3 hl
    go_wp2
    go_ret
    exact ⟨by rw [HV.out]; rfl, HB.out⟩
  have p3 : decide (40 < C) = false := by simpa using h3
  have p3' : decide (C > 40) = false := p3
  obtain ⟨r, rfl⟩ : ∃ r : Nat, R = r := ⟨R.toNat, by omega⟩
  obtain ⟨c, rfl⟩ : ∃ c : Nat, C = c := ⟨C.toNat, by omega⟩
  obtain ⟨N, hN⟩ : ∃ N : Nat, r * c = N := ⟨_, rfl⟩
  have hNI : (r : Int) * (c : Int) = (N : Int) := by rw [← hN]; simp
  have hN4 : N ≤ 480 := by rw [← hN]; exact Nat.mul_le_mul (show r ≤ 12 by omega) (show c ≤ 40 by omega)
  have hw : IntKind.i64.wrap ((r : Int) * (c : Int)) = (N : Int) := by rw [hNI]; exact IntWalk.i64_in _ (by omega)
  have p2n : decide (c < 1) = false := by simp; omega
  have p0n : decide (r < 1) = false := by simp; omega
  have p1n : decide (12 < r) = false := by simp; omega
  have p3n : decide (40 < c) = false := by simp; omega
  by_cases h4 : n = N
  rotate_left
  · have z4 : ((n : Int) != (N : Int)) = true := by simp; omega
    have z4n : (n != N) = true := by simp; omega
    have z4m : (n == N) = false := by simp; omega
    have HV := Lib.hid (show W = false from by
      rw [← HW.out]
      cases hh : rightW r c row col L with
      | false => rfl
      | true =>
        obtain ⟨_, q1, _, _, _, q2⟩ := rightW_parts hh
        rw [hNI] at q1
        omega)
    clear h0 h1 h2 h3 h4 hl hN hN4 hNI
    go_wp2
    go_ret
    exact ⟨by rw [HV.out]; rfl, HB.out⟩
  have z4 : ((n : Int) != (N : Int)) = false := by simp; omega
  have z4n : (n != N) = false := by simp; omega
  have z4m : (n == N) = true := by simp; omega
  have HRC := Lib.hid (show 1 ≤ r ∧ r ≤ 12 ∧ 1 ≤ c ∧ c ≤ 40 ∧ (L.length : Int) = (r : Int) * (c : Int) ∧ n ≤ 480 from ⟨by omega, by omega, by omega, by omega, by omega, by omega⟩)
  clear h0 h1 h2 h3 h4 hl hN hN4 hNI
  obtain ⟨q, hq⟩ : ∃ q, hasC r c row col = q := ⟨_, rfl⟩
  have HHA := Lib.hid (fun W => hq ▸ rhas_any r c A n cap row col W)
  have HQ := Lib.hid (show headB r c row col = q from by
    rw [← hq]
    have hrc := HRC.out
    unfold headB hasC hasR
    rw [Bool.eq_iff_iff]
    simp
    omega)
  clear hq
  go_wp2_with fail
  refine (HHA.out _).mono ?_
  rintro e w1 ⟨rfl, b1⟩
  have HB1 := Lib.hid (HB.out.trans (b1.mono HB.out.size))
  have HSB := Lib.hid b1
  clear b1 HHA x0 x1 x2 x3 x4 x5
  cases q with
  | false =>
    have HV := Lib.hid (show W = false from by rw [← HW.out]; unfold rightW; rw [HQ.out]; rfl)
    go_wp2
    go_ret
    exact ⟨by rw [HV.out]; rfl, HB1.out⟩
  | true =>
    obtain ⟨x0, x1, x2, x3, x4, x5⟩ := six_cells ((HSB.out.block _ (lt_of_block HC.out)).trans HC.out)
    have HWA := Lib.hid (show W = L.all cellR from by rw [← HW.out]; unfold rightW; rw [HQ.out, decide_eq_true HRC.out.2.2.2.2.1]; rfl)
    have HZ := HSB
    go_wp2
    clear x0 x1 x2 x3 x4 x5
    go_loopw [3] (fun iv wr => ∃ i : Nat, iv = .int .i64 i ∧ i ≤ n ∧ Hid (Below U.heap.size U wr) ∧ Hid (∀ k, k < i → cellR (ceAt L k) = true)) (fun iv _ => n - (intOf iv).toNat)
    case atStart => exact ⟨0, rfl, by omega, HZ, Lib.hid (fun k hk => absurd hk (by omega))⟩
    case round =>
      obtain ⟨i, rfl, hi, HSB, HALL⟩ := hrel
      clear HZ
      obtain ⟨x0, x1, x2, x3, x4, x5⟩ := six_cells ((HSB.out.block _ (lt_of_block HC.out)).trans HC.out)
      by_cases hin : i < n
      · have e1 : decide ((i : Int) < (n : Int)) = true := by simp; omega
        have e1' : decide (i < n) = true := by simp; omega
        have g1 : (0 : Int) ≤ (i : Int) := by omega
        have g2 : (i : Int) < (n : Int) := by omega
        have wr1 : IntKind.i64.wrap ((i : Int) + 1) = (i : Int) + 1 := IntWalk.i64_in _ (by have := HRC.out; omega)
        obtain ⟨b, rfl, hyr⟩ := HCY.out (by rw [HL.out]; omega)
        have hcok := HO.out (ceAt L i) (ceAt_mem (by rw [HL.out]; omega))
        obtain ⟨⟨p, f, gg, bb⟩, hce⟩ : ∃ c, ceAt L i = c := ⟨_, rfl⟩
        obtain ⟨f0, f1, f2, f3, f4, f5, f6, f7, hf⟩ := eight (ofF_len 8 f)
        have hyc : yC (ceAt L i) = [.int .i32 p, .bool f0, .bool f1, .bool f2, .bool f3, .bool f4, .bool f5, .bool f6, .bool f7, .int .u32 gg, .int .u32 bb] := by rw [hce]; unfold yC styL; dsimp only; rw [hf]; rfl
        obtain ⟨ey, _⟩ := yV_st (p := p) (gg := gg) (bb := bb) hf
        obtain ⟨k0, k1, k2, k3, k4, k5, k6, k7, k8, k9, k10⟩ := (hyr.below HSB.out).eleven (by rw [HL.out]; exact hin) hyc
        rw [hce] at hcok
        have hic := fun W => r_iscell ⟨p, f, gg, bb⟩ hcok W
        rw [ey] at hic
        have HIC := Lib.hid hic
        have HCE := Lib.hid hce
        have HIN := Lib.hid hin
        clear hi hin hyr hcok hce hyc hf ey hic
        go_wp2_with fail
        refine (HIC.out _).mono ?_
        rintro e w2 ⟨rfl, b2⟩
        have HS2 := Lib.hid (HSB.out.trans (b2.mono HSB.out.size))
        clear b2 k0 k1 k2 k3 k4 k5 k6 k7 k8 k9 k10 x0 x1 x2 x3 x4 x5
        cases hc : cellR ⟨p, f, gg, bb⟩ with
        | false =>
          have HV := Lib.hid (show W = false from by
            rw [HWA.out, List.all_eq_false]
            exact ⟨ceAt L i, ceAt_mem (by rw [HL.out]; exact HIN.out), by rw [HCE.out, hc]; decide⟩)
          have HBF := Lib.hid (HB.out.trans (HS2.out.mono HB.out.size))
          clear hc
          go_wp2
          go_ret
          exact ⟨by rw [HV.out]; rfl, HBF.out⟩
        | true =>
          have HK := Lib.hid (show ∀ k, k < i + 1 → cellR (ceAt L k) = true from fun k hk => by
            rcases Nat.lt_or_ge k i with h' | h'
            · exact HALL.out k h'
            · obtain rfl : k = i := by omega
              rw [HCE.out]; exact hc)
          clear hc HSB HALL
          go_wp2
          go_roundw
          case rel => exact ⟨i + 1, by go_num, by have := HIN.out; omega, HS2, HK⟩
          case measure => have := HIN.out; simp [intOf]; omega
      · have e1 : decide ((i : Int) < (n : Int)) = false := by simp; omega
        have e1' : decide (i < n) = false := by simp; omega
        have HV := Lib.hid (show W = true from by
          rw [HWA.out, List.all_eq_true]
          intro d hd
          obtain ⟨k, hk, rfl⟩ := List.getElem_of_mem hd
          have := HALL.out k (by have := HL.out; omega)
          rwa [show ceAt L k = L[k] by simp [ceAt, List.getD, hk]] at this)
        have HBF := Lib.hid (HB.out.trans (HSB.out.mono HB.out.size))
        clear hi hin
        go_wp2
        go_ret
        exact ⟨by rw [HV.out]; rfl, HBF.out⟩
set_option maxRecDepth 100000 in
set_option maxHeartbeats 8000000 in
theorem r_head {w : World} {A : Option Addr} {n cap : Nat} {R C row col : Int} {vis : Bool} (u0 : 0 ≤ R ∧ R ≤ 255) (u1 : 0 ≤ C ∧ C ≤ 255) (u2 : 0 ≤ row ∧ row ≤ 255) (u3 : 0 ≤ col ∧ col ≤ 255) :
    Calls Tryd.prog 36 #[.agg #[.int .i64 R, .int .i64 C, .slice A n cap, .int .i64 row, .int .i64 col, .bool vis]] w fun e w' => ∃ u, e = .returned u ∧ Own8 w u [R, C, row, col, if vis = true then 1 else 0] w' := by
  have v0 : IntKind.u8.wrap R = R := IntWalk.u8_in _ u0
  have v1 : IntKind.u8.wrap C = C := IntWalk.u8_in _ u1
  have v2 : IntKind.u8.wrap row = row := IntWalk.u8_in _ u2
  have v3 : IntKind.u8.wrap col = col := IntWalk.u8_in _ u3
  have HB0 := (Below.refl w.heap.size w).alloc (Nat.le_refl _) (.cells #[.int .i64 R, .int .i64 C, .slice A n cap, .int .i64 row, .int .i64 col, .bool vis] 31)
  have HC0 := heap_alloc_new w (.cells #[.int .i64 R, .int .i64 C, .slice A n cap, .int .i64 row, .int .i64 col, .bool vis] 31)
  obtain ⟨vb, hvb⟩ : ∃ b, w.heap.size = b := ⟨_, rfl⟩
  clear u0 u1 u2 u3
  go_enter Tryd.func36, Tryd.ntmps36
  go_upto_region 1 with fail
  simp only [hvb] at HC0 ⊢
  generalize (w.alloc (.cells #[.int .i64 R, .int .i64 C, .slice A n cap, .int .i64 row, .int .i64 col, .bool vis] 31)) = U at HB0 HC0 ⊢
  have HB := Lib.hid HB0
  obtain ⟨x0, x1, x2, x3, x4, x5⟩ := six_cells HC0
  clear HB0 HC0 hvb
  cases vis with
  | false =>
    have HO := Lib.hid ((Own8.lit U [R, C, row, col, 0] 5 rfl (by omega)).from HB.out)
    go_wp2
    go_ret
    exact ⟨_, rfl, HO.out⟩
  | true =>
    have HO := Lib.hid ((Own8.lit U [R, C, row, col, 1] 5 rfl (by omega)).from HB.out)
    go_wp2
    go_ret
    exact ⟨_, rfl, HO.out⟩
set_option maxRecDepth 100000 in
set_option maxHeartbeats 32000000 in
theorem r_viewwrite {w : World} {A : Option Addr} {n cap : Nat} {L : List Ce} (h : CY w A L) (hl : L.length = n) (ho : ∀ c ∈ L, CeOk c) (R C row col : Int) (vis : Bool) (hr : rightW R C row col L = true) :
    Calls Tryd.prog 16 #[.agg #[.int .i64 R, .int .i64 C, .slice A n cap, .int .i64 row, .int .i64 col, .bool vis]] w fun e w' => ∃ u, e = .returned u ∧ Own8 w u (viewB R C row col vis L) w' := by
  obtain ⟨r1, r2, r3, r4, r5, r6⟩ := rightW_parts hr
  have HVL := Lib.hid (show (viewB R C row col vis L).length ≤ 8000 from by have := viewB_len (R := R) (C := C) (row := row) (col := col) (vis := vis) ho r3 r4; omega)
  have HHD := Lib.hid (fun W => r_head (w := W) (A := A) (n := n) (cap := cap) (R := R) (C := C) (row := row) (col := col) (vis := vis) (by omega) (by omega) (by omega) (by omega))
  have HN4 := Lib.hid (show n ≤ 480 by omega)
  have HL := Lib.hid hl
  have HOK := Lib.hid ho
  have HRK := Lib.hid r3
  have HB0 := (Below.refl w.heap.size w).alloc (Nat.le_refl _) (.cells #[.int .i64 R, .int .i64 C, .slice A n cap, .int .i64 row, .int .i64 col, .bool vis] 31)
  have HC0 := heap_alloc_new w (.cells #[.int .i64 R, .int .i64 C, .slice A n cap, .int .i64 row, .int .i64 col, .bool vis] 31)
  have HCY := Lib.hid (h.below HB0)
  obtain ⟨vb, hvb⟩ : ∃ b, w.heap.size = b := ⟨_, rfl⟩
  clear r1 r2 r3 r4 r5 r6 h hl ho hr
  go_enter Tryd.func16, Tryd.ntmps16
  go_upto_region 1 with fail
  simp only [hvb] at HC0 ⊢
  generalize (w.alloc (.cells #[.int .i64 R, .int .i64 C, .slice A n cap, .int .i64 row, .int .i64 col, .bool vis] 31)) = U at HB0 HC0 HCY ⊢
  have HB := Lib.hid HB0
  have HC := Lib.hid HC0
  obtain ⟨x0, x1, x2, x3, x4, x5⟩ := six_cells HC0
  clear HB0 HC0 hvb
  go_wp2_with fail
  refine (HHD.out _).mono ?_
  rintro e w1 ⟨u, rfl, o1⟩
  obtain ⟨A0, n0, c0, hv0⟩ : ∃ A n c, u = .slice A n c := by obtain ⟨A, c, e, _⟩ := own_slice o1.own; exact ⟨A, _, c, e⟩
  subst hv0
  have HO3 := Lib.hid o1
  clear o1 x0 x1 x2 x3 x4 x5
  go_wp2
  go_loopw [3, 4, 5] (fun bv kv iv wr => ∃ (i k : Nat) (A1 : Option Addr) (m1 c1 : Nat) (xs : List Int), bv = .slice A1 m1 c1 ∧ kv = .int .i64 k ∧ iv = .int .i64 i ∧ i ≤ n ∧ k ≤ i ∧ Hid (Own8 U (.slice A1 m1 c1) xs wr) ∧ Hid (xs ++ runsB k (L.drop i) = viewB R C row col vis L) ∧ Hid (xs.length ≤ 8000)) (fun _ _ iv _ => n - (intOf iv).toNat)
  case atStart => exact ⟨0, 0, _, _, _, _, rfl, rfl, rfl, by omega, by omega, HO3, Lib.hid (by rw [List.drop_zero]; rfl), Lib.hid (by simp)⟩
  case round =>
    obtain ⟨i, k, A1, m1, c1, xs, rfl, rfl, rfl, hi, hki, HO, HEQ, HLE⟩ := hrel
    clear HO3
    obtain ⟨x0, x1, x2, x3, x4, x5⟩ := six_cells ((HO.out.below.block _ (lt_of_block HC.out)).trans HC.out)
    by_cases hin : i < n
    · have e1 : decide ((i : Int) < (n : Int)) = true := by simp; omega
      have e1' : decide (i < n) = true := by simp; omega
      have g1 : (0 : Int) ≤ (i : Int) := by omega
      have g2 : (i : Int) < (n : Int) := by omega
      have wr1 : IntKind.i64.wrap ((i : Int) + 1) = (i : Int) + 1 := IntWalk.i64_in _ (by have := HN4.out; omega)
      have wk1 : IntKind.i64.wrap ((k : Int) + 1) = (k : Int) + 1 := IntWalk.i64_in _ (by have := HN4.out; omega)
      have wk2 : IntKind.u64.wrap ((k : Int) + 1) = (k : Int) + 1 := IntWalk.u64_in _ (by have := HN4.out; omega)
      have tn : ((i : Int) + 1).toNat = i + 1 := by omega
      obtain ⟨b, rfl, hyr⟩ := HCY.out (by rw [HL.out]; omega)
      have HYR := Lib.hid hyr
      have HIL := Lib.hid (show i < L.length by rw [HL.out]; exact hin)
      have HCK := Lib.hid (And.intro (HOK.out (ceAt L i) (ceAt_mem (by rw [HL.out]; omega))) (HRK.out (ceAt L i) (ceAt_mem (by rw [HL.out]; omega))))
      have hdrop : L.drop i = ceAt L i :: L.drop (i + 1) := by
        rw [List.drop_eq_getElem_cons (by rw [HL.out]; omega)]
        congr 1
        simp [ceAt, List.getD, show i < L.length by rw [HL.out]; omega]
      obtain ⟨⟨p, f, gg, bb⟩, hce⟩ : ∃ c, ceAt L i = c := ⟨_, rfl⟩
      obtain ⟨f0, f1, f2, f3, f4, f5, f6, f7, hf⟩ := eight (ofF_len 8 f)
      have hyc : yC (ceAt L i) = [.int .i32 p, .bool f0, .bool f1, .bool f2, .bool f3, .bool f4, .bool f5, .bool f6, .bool f7, .int .u32 gg, .int .u32 bb] := by rw [hce]; unfold yC styL; dsimp only; rw [hf]; rfl
      obtain ⟨ey, _⟩ := yV_st (p := p) (gg := gg) (bb := bb) hf
      rw [hce] at HCK hdrop
      have HDR := Lib.hid hdrop
      have HYC := Lib.hid hyc
      have HYP := Lib.hid (fun (_ : Unit) => show yC ⟨p, f, gg, bb⟩ = [.int .i32 p, .bool f0, .bool f1, .bool f2, .bool f3, .bool f4, .bool f5, .bool f6, .bool f7, .int .u32 gg, .int .u32 bb] from by rw [← hce]; exact hyc)
      have hpc := fun (W : World) => r_putcell (w := W) HCK.out.1 HCK.out.2
      rw [ey] at hpc
      obtain ⟨B3, hB3⟩ : ∃ B, cellB ⟨p, f, gg, bb⟩ = B := ⟨_, rfl⟩
      rw [hB3] at hpc
      have hb13 : B3.length ≤ 13 := by rw [← hB3]; exact (cellB_len HCK.out.1 HCK.out.2).2
      have HPC := Lib.hid hpc
      have HB3 := Lib.hid (fun (_ : Unit) => hB3)
      obtain ⟨B2, hB2⟩ : ∃ B, numB ((k : Int) + 1) = B := ⟨_, rfl⟩
      have HPU := Lib.hid (fun (W : World) => hB2 ▸ rput8 ((k : Int) + 1) W (by omega) (by have := HN4.out; omega))
      have HLB := Lib.hid (show B2.length ≤ 8 ∧ B3.length ≤ 13 from ⟨by rw [← hB2, numB_length]; exact (szN_le _).2, hb13⟩)
      have HB2 := Lib.hid (fun (_ : Unit) => hB2)
      have HLX := Lib.hid (show xs.length ≤ 8000 from HLE.out)
      have HIN := Lib.hid (show i < n ∧ k ≤ i from ⟨hin, hki⟩)
      have HOX := HO
      have hxd := HO.out.below.drew
      have hokc : OkC ⟨p, f, gg, bb⟩ := HCK.out.1.f
      clear hi hki hdrop hce hpc hB3 hb13 hB2 hf ey
      go_upto_region 7 with fail
      clear x0 x1 x2 x3 x4 x5
      obtain ⟨x0, x1, x2, x3, x4, x5⟩ := six_cells ((hxd.block _ (lt_of_block HC.out)).trans HC.out)
      obtain ⟨k0, k1, k2, k3, k4, k5, k6, k7, k8, k9, k10⟩ := (hyr.below hxd).eleven HIL.out hyc
      by_cases hlast : i + 1 < n
      · have e2 : decide ((i : Int) + 1 < (n : Int)) = true := by simp; omega
        have e2' : decide (i + 1 < n) = true := by simp; omega
        have g3 : (0 : Int) ≤ (i : Int) + 1 := by omega
        have g4 : (i : Int) + 1 < (n : Int) := by omega
        have hdrop : L.drop (i + 1) = ceAt L (i + 1) :: L.drop (i + 1 + 1) := by
          rw [List.drop_eq_getElem_cons (by rw [HL.out]; omega)]
          congr 1
          simp [ceAt, List.getD, show i + 1 < L.length by rw [HL.out]; omega]
        have hok2 := HOK.out (ceAt L (i + 1)) (ceAt_mem (by rw [HL.out]; omega))
        obtain ⟨⟨p_, f_, gg_, bb_⟩, hce_⟩ : ∃ c, ceAt L (i + 1) = c := ⟨_, rfl⟩
        obtain ⟨f0_, f1_, f2_, f3_, f4_, f5_, f6_, f7_, hf_⟩ := eight (ofF_len 8 f_)
        have hyc_ : yC (ceAt L (i + 1)) = [.int .i32 p_, .bool f0_, .bool f1_, .bool f2_, .bool f3_, .bool f4_, .bool f5_, .bool f6_, .bool f7_, .int .u32 gg_, .int .u32 bb_] := by rw [hce_]; unfold yC styL; dsimp only; rw [hf_]; rfl
        obtain ⟨ey_, _⟩ := yV_st (p := p_) (gg := gg_) (bb := bb_) hf_
        obtain ⟨l0, l1, l2, l3, l4, l5, l6, l7, l8, l9, l10⟩ := (hyr.below hxd).eleven (k := i + 1) (by rw [HL.out]; exact hlast) hyc_
        rw [hce_] at hdrop hok2
        have HEC : ∀ W, (Op.equalIn 10000 55 (.agg #[.int .i32 p_, .bool f0_, .bool f1_, .bool f2_, .bool f3_, .bool f4_, .bool f5_, .bool f6_, .bool f7_, .int .u32 gg_, .int .u32 bb_]) (.agg #[.int .i32 p, .bool f0, .bool f1, .bool f2, .bool f3, .bool f4, .bool f5, .bool f6, .bool f7, .int .u32 gg, .int .u32 bb])).run Tryd.prog W = .ok (decide ((⟨p_, f_, gg_, bb_⟩ : Ce) = ⟨p, f, gg, bb⟩)) W := fun W => by
          have hz := eq_yc (c := ⟨p_, f_, gg_, bb_⟩) (d := ⟨p, f, gg, bb⟩) hok2.f hokc W
          rw [ey_] at hz
          unfold yV at hz
          rw [HYP.out ()] at hz
          exact hz
        have HDR2 := Lib.hid hdrop
        clear hdrop hce_ hyr hxd hyc hyc_ hf_ ey_ hok2 hokc
        by_cases he : (⟨p_, f_, gg_, bb_⟩ : Ce) = ⟨p, f, gg, bb⟩
        · have HEQ2 := Lib.hid (show xs ++ runsB (k + 1) (L.drop (i + 1)) = viewB R C row col vis L from by
            have hz := HEQ.out
            rw [HDR.out, HDR2.out, runs_two, if_pos he.symm] at hz
            rw [HDR2.out]; exact hz)
          simp only [decide_eq_true he] at HEC
          clear he
          go_wp2
          go_big_region
          clear HEC x0 x1 x2 x3 x4 x5 k0 k1 k2 k3 k4 k5 k6 k7 k8 k9 k10 l0 l1 l2 l3 l4 l5 l6 l7 l8 l9 l10
          have HOE := Lib.hid (HOX.out.to (Below.refl wr.heap.size wr).drew)
          go_wp2
          go_roundw
          case rel => exact ⟨i + 1, k + 1, A1, m1, c1, xs, rfl, by go_num, by go_num, by have := HIN.out; omega, by have := HIN.out; omega, HOE, HEQ2, HLE⟩
          case measure => have := HIN.out; simp [intOf]; omega
        · have HEP := Lib.hid (show ((xs ++ B2) ++ B3) ++ runsB 0 (L.drop (i + 1)) = viewB R C row col vis L from by
            have hz := HEQ.out
            rw [HDR.out, HDR2.out, runs_two, if_neg (fun h => he h.symm)] at hz
            rw [HDR2.out, ← hz, ← HB2.out (), ← HB3.out ()]
            simp)
          simp only [decide_eq_false he] at HEC
          have HOD := Lib.hid (HOX.out.to (Below.refl wr.heap.size wr).drew)
          clear he
          go_wp2
          go_big_region
          clear HEC x0 x1 x2 x3 x4 x5 k0 k1 k2 k3 k4 k5 k6 k7 k8 k9 k10 l0 l1 l2 l3 l4 l5 l6 l7 l8 l9 l10 HOX
          have HOX := HOD
          clear HOD
          go_wp2_with fail
          refine (HPU.out _).mono ?_
          rintro e X2 ⟨u2, rfl, o2⟩
          have ox := HOX.out.to o2.below
          obtain ⟨A6, c6, W6, hrun, o6⟩ := ox.apps (ys := B2) (u := u2) (W2 := X2) o2.rit (Below.refl _ _) (by have := HLB.out; have := HLX.out; omega)
          have HRUN := Lib.hid hrun
          have HO6 := Lib.hid o6
          obtain ⟨n6, hn6⟩ : ∃ k, xs.length + B2.length = k := ⟨_, rfl⟩
          rw [hn6] at HRUN HO6
          obtain ⟨w0, w1_, w2_, w3_, w4_, w5_⟩ := six_cells ((HO6.out.below.block _ (lt_of_block HC.out)).trans HC.out)
          obtain ⟨m0, m1, m2, m3, m4, m5, m6, m7, m8, m9, m10⟩ := (HYR.out.below HO6.out.below).eleven HIL.out HYC.out
          clear o2 ox hrun o6 HPU hn6
          go_wp2_with (first | (at_builtin; refine wpList_app rfl (.tmp 41) (.tmp 44) _ rfl _ _ rfl rfl HRUN.out ?_) | fail)
          refine (HPC.out _).mono ?_
          rintro e X3 ⟨u3, rfl, o3⟩
          have ox := HO6.out.to o3.below
          obtain ⟨A8, c8, W8, hrun, o8⟩ := ox.apps (ys := B3) (u := u3) (W2 := X3) o3.rit (Below.refl _ _) (by have := HLB.out; have := HLX.out; simp; omega)
          have HRUN8 := Lib.hid hrun
          obtain ⟨n8, hn8⟩ : ∃ k, (xs ++ B2).length + B3.length = k := ⟨_, rfl⟩
          rw [hn8] at HRUN8 o8
          have HO8 := Lib.hid o8
          have HEQ2 := Lib.hid (show ((xs ++ B2) ++ B3) ++ runsB 0 (L.drop (i + 1)) = viewB R C row col vis L from HEP.out)
          have HLE2 := Lib.hid (show ((xs ++ B2) ++ B3).length ≤ 8000 from by
            have h1 := congrArg List.length HEQ2.out
            have h2 := HVL.out
            rw [List.length_append] at h1
            omega)
          clear o3 ox hrun o8 HPC hn8 HRUN w0 w1_ w2_ w3_ w4_ w5_ m0 m1 m2 m3 m4 m5 m6 m7 m8 m9 m10
          go_wp2_with (at_builtin; refine wpList_app rfl (.tmp 46) (.tmp 53) _ rfl _ _ rfl rfl HRUN8.out ?_)
          go_roundw
          case rel => exact ⟨i + 1, 0, A8, n8, c8, _, rfl, rfl, by go_num, by have := HIN.out; omega, by omega, HO8, HEQ2, HLE2⟩
          case measure => have := HIN.out; simp [intOf]; omega
      · have e2 : decide ((i : Int) + 1 < (n : Int)) = false := by simp; omega
        have e2' : decide (i + 1 < n) = false := by simp; omega
        have HEP := Lib.hid (show ((xs ++ B2) ++ B3) ++ runsB 0 (L.drop (i + 1)) = viewB R C row col vis L from by
          have hz := HEQ.out
          have hnil : L.drop (i + 1) = [] := List.drop_eq_nil_of_le (by rw [HL.out]; omega)
          rw [HDR.out, hnil, runs_one] at hz
          rw [hnil, ← hz, ← HB2.out (), ← HB3.out (), runs_nil]
          simp)
        have HOD := Lib.hid (HOX.out.to (Below.refl wr.heap.size wr).drew)
        clear hyr hxd hyc hokc
        go_wp2
        go_big_region
        clear x0 x1 x2 x3 x4 x5 k0 k1 k2 k3 k4 k5 k6 k7 k8 k9 k10 HOX
        have HOX := HOD
        clear HOD
        go_wp2_with fail
        refine (HPU.out _).mono ?_
        rintro e X2 ⟨u2, rfl, o2⟩
        have ox := HOX.out.to o2.below
        obtain ⟨A6, c6, W6, hrun, o6⟩ := ox.apps (ys := B2) (u := u2) (W2 := X2) o2.rit (Below.refl _ _) (by have := HLB.out; have := HLX.out; omega)
        have HRUN := Lib.hid hrun
        have HO6 := Lib.hid o6
        obtain ⟨n6, hn6⟩ : ∃ k, xs.length + B2.length = k := ⟨_, rfl⟩
        rw [hn6] at HRUN HO6
        obtain ⟨w0, w1_, w2_, w3_, w4_, w5_⟩ := six_cells ((HO6.out.below.block _ (lt_of_block HC.out)).trans HC.out)
        obtain ⟨m0, m1, m2, m3, m4, m5, m6, m7, m8, m9, m10⟩ := (HYR.out.below HO6.out.below).eleven HIL.out HYC.out
        clear o2 ox hrun o6 HPU hn6
        go_wp2_with (first | (at_builtin; refine wpList_app rfl (.tmp 41) (.tmp 44) _ rfl _ _ rfl rfl HRUN.out ?_) | fail)
        refine (HPC.out _).mono ?_
        rintro e X3 ⟨u3, rfl, o3⟩
        have ox := HO6.out.to o3.below
        obtain ⟨A8, c8, W8, hrun, o8⟩ := ox.apps (ys := B3) (u := u3) (W2 := X3) o3.rit (Below.refl _ _) (by have := HLB.out; have := HLX.out; simp; omega)
        have HRUN8 := Lib.hid hrun
        obtain ⟨n8, hn8⟩ : ∃ k, (xs ++ B2).length + B3.length = k := ⟨_, rfl⟩
        rw [hn8] at HRUN8 o8
        have HO8 := Lib.hid o8
        have HEQ2 := Lib.hid (show ((xs ++ B2) ++ B3) ++ runsB 0 (L.drop (i + 1)) = viewB R C row col vis L from HEP.out)
        have HLE2 := Lib.hid (show ((xs ++ B2) ++ B3).length ≤ 8000 from by
          have h1 := congrArg List.length HEQ2.out
          have h2 := HVL.out
          rw [List.length_append] at h1
          omega)
        clear o3 ox hrun o8 HPC hn8 HRUN w0 w1_ w2_ w3_ w4_ w5_ m0 m1 m2 m3 m4 m5 m6 m7 m8 m9 m10
        go_wp2_with (at_builtin; refine wpList_app rfl (.tmp 46) (.tmp 53) _ rfl _ _ rfl rfl HRUN8.out ?_)
        go_roundw
        case rel => exact ⟨i + 1, 0, A8, n8, c8, _, rfl, rfl, by go_num, by have := HIN.out; omega, by omega, HO8, HEQ2, HLE2⟩
        case measure => have := HIN.out; simp [intOf]; omega
    · have e1 : decide ((i : Int) < (n : Int)) = false := by simp; omega
      have e1' : decide (i < n) = false := by simp; omega
      have HEF := Lib.hid (show xs = viewB R C row col vis L from by
        have hz := HEQ.out
        rw [List.drop_eq_nil_of_le (by rw [HL.out]; omega), runs_nil, List.append_nil] at hz
        exact hz)
      clear hi hki hin
      go_wp2
      go_ret
      exact ⟨_, rfl, by rw [← HEF.out]; exact HO.out.from HB.out⟩
end Go.Proofs.YtcblohmenfdafaaDoor
