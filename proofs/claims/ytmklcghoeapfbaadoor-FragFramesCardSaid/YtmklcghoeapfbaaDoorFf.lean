/-
  Proved here: FragFrames walked: it returns true, whatever comes in, and nothing that was there is changed.
-/
import Derived.Test.YtmklcghoeapfbaaDoorFl
namespace Go.Proofs.YtmklcghoeapfbaaDoor
open Go.RowKit

theorem cntI_val {n : Int} (h0 : 0 ≤ n) (h1 : n ≤ 24000) : cntI n = if n % 480 ≠ 0 ∨ n = 0 then n / 480 + 1 else n / 480 := by
  obtain ⟨a, rfl⟩ : ∃ a : Nat, n = a := ⟨n.toNat, by omega⟩
  rw [cntI_in (by omega), cntS]
  split <;> split <;> omega
/-- What the test on two parts reads. -/
abbrev SZ (U : World) (g p b o : Nat) (id ix ct : Int) (A1 A2 : Option Addr) (n c1 c2 : Nat) (W : World) : Prop :=
  W.cell? ⟨g, p, none⟩ = some (.int .u64 id) ∧ W.cell? ⟨g, p + 1, none⟩ = some (.int .i64 ix) ∧ W.cell? ⟨g, p + 2, none⟩ = some (.int .i64 ct) ∧ W.cell? ⟨g, p + 3, none⟩ = some (.slice A1 n c1) ∧
  W.cell? ⟨b, o, none⟩ = some (.int .u64 id) ∧ W.cell? ⟨b, o + 1, none⟩ = some (.int .i64 ix) ∧ W.cell? ⟨b, o + 2, none⟩ = some (.int .i64 ct) ∧ W.cell? ⟨b, o + 3, none⟩ = some (.slice A2 n c2) ∧ Hid (Below U.heap.size U W)
theorem SZ.of {U : World} {g p b o : Nat} {id ix ct : Int} {A1 A2 : Option Addr} {n c1 c2 : Nat} {W : World} (hU : Hid (P4 U g p id ix ct A1 n c1 ∧ P4 U b o id ix ct A2 n c2)) (h : Hid (Below U.heap.size U W)) : SZ U g p b o id ix ct A1 A2 n c1 c2 W := by
  obtain ⟨a0, a1, a2, a3⟩ := hU.out.1.below h.out hU.out.1.lt
  obtain ⟨b0, b1, b2, b3⟩ := hU.out.2.below h.out hU.out.2.lt
  exact ⟨a0, a1, a2, a3, b0, b1, b2, b3, h⟩
theorem SZ.last {U : World} {g p b o : Nat} {id ix ct : Int} {A1 A2 : Option Addr} {n c1 c2 : Nat} {W : World} (h : SZ U g p b o id ix ct A1 A2 n c1 c2 W) : Below U.heap.size U W := h.2.2.2.2.2.2.2.2.out
theorem SZ.to {U : World} {g p b o : Nat} {id ix ct : Int} {A1 A2 : Option Addr} {n c1 c2 : Nat} {W W' : World} (hU : Hid (P4 U g p id ix ct A1 n c1 ∧ P4 U b o id ix ct A2 n c2)) (hb : Below W.heap.size W W') (h : SZ U g p b o id ix ct A1 A2 n c1 c2 W) : SZ U g p b o id ix ct A1 A2 n c1 c2 W' :=
  SZ.of hU (Lib.hid (h.last.trans (hb.mono h.last.size)))

set_option maxRecDepth 100000 in
set_option maxHeartbeats 1000000 in
theorem frames_guard (id : Int) (A L : Option Addr) (l cap ln lc : Nat) (n : Int) (w : World) (hT : Tab w) (h : (3000 < l ∧ l ≤ 24000) ∨ 24100 < l) :
    Calls Tryd.prog 4 #[.int .u64 id, .slice A l cap, .slice L ln lc, .int .i64 n] w (Tru w) := by
  have d1 : decide ((3000 : Int) < (l : Int)) = true := by simp; omega
  by_cases h1 : l ≤ 24000
  · have d2 : decide ((l : Int) ≤ 24000) = true := by simp; omega
    go_enter Tryd.func4, Tryd.ntmps4
    go_wp2_with fail
    refine (alive_any _ hT).mono ?_
    rintro e w1 ⟨rfl, hb1⟩
    go_wp2
    go_ret
    exact ⟨rfl, hb1⟩
  · have d2 : decide ((l : Int) ≤ 24000) = false := by simp; omega
    have d3 : decide ((24100 : Int) < (l : Int)) = true := by simp; omega
    go_enter Tryd.func4, Tryd.ntmps4
    go_wp2_with fail
    refine (alive_any _ hT).mono ?_
    rintro e w1 ⟨rfl, hb1⟩
    go_wp2
    go_ret
    exact ⟨rfl, hb1⟩

set_option maxRecDepth 100000 in
set_option maxHeartbeats 4000000 in
theorem frames_in (id : Int) (bs : List Int) (ps : List Prt) (A L : Option Addr) (l cap ln lc : Nat) (n : Int) (w : World) (hT : Tab w) (hl : bs.length = l) (h : ¬ ((3000 < l ∧ l ≤ 24000) ∨ 24100 < l)) (h0 : 0 ≤ id) (h1 : id < 18446744073709551616) (hR : RB w w.heap.size A bs) (hA : A = none → cap = 0)
    (hln : ps.length = ln) (hP : PS w w.heap.size L ps) (hO : POk ps) (hlm : ln ≤ maxLen) :
    Calls Tryd.prog 4 #[.int .u64 id, .slice A l cap, .slice L ln lc, .int .i64 n] w (Tru w) := by
  have hd : ((decide ((3000 : Int) < (l : Int)) = false) ∨ (decide ((3000 : Int) < (l : Int)) = true ∧ decide ((l : Int) ≤ 24000) = false)) ∧ decide ((24100 : Int) < (l : Int)) = false := by
    refine ⟨?_, by simp; omega⟩
    by_cases q : 3000 < l
    · exact .inr ⟨by simp; omega, by simp; omega⟩
    · exact .inl (by simp; omega)
  obtain ⟨hd, d3⟩ := hd
  have HL := Lib.hid hl
  have HR := Lib.hid hR
  have HLN := Lib.hid hln
  have HP := Lib.hid hP
  have HO := Lib.hid hO
  clear hl hR hln hP hO h
  have HLI := Lib.hid (list_any ps ln HLN.out L lc w HP.out hlm)
  rcases hd with d1 | ⟨d1, d2⟩
  all_goals
    go_enter Tryd.func4, Tryd.ntmps4
    go_wp2_with fail
    refine HLI.out.mono ?_
    rintro e w1 hLP
    rcases hLP with ⟨rfl, hb1⟩ | ⟨A1, c1, rfl, hn80, hsh, hP1, hb1⟩
    · have HT1 := Lib.hid (alive_any w1 (hT.below hb1 hT.big))
      go_wp2_with fail
      refine HT1.out.mono ?_
      rintro e w2 ⟨rfl, hb2⟩
      have hfin := hb1.trans (hb2.mono hb1.size)
      go_wp2
      go_ret
      exact ⟨rfl, hfin⟩
    · have HS := Lib.hid (split_all id bs l HL.out A cap w1 h0 h1 ((HR.out.below hb1).keep' hb1.size) hA)
      have HRS := Lib.hid (fun W (hb : Below w.heap.size w W) => rsplit_all id bs l HL.out A cap W h0 ((HR.out.below hb).keep' hb.size))
      have hle := splitR_le id bs
      obtain ⟨R, hRe⟩ : ∃ R, splitR id bs = R := ⟨_, rfl⟩
      rw [hRe] at HS HRS hle
      clear hRe
      obtain ⟨qs, E⟩ := R
      unfold PartsPost at HS HRS
      simp only at HS HRS hle
      obtain ⟨K, hK⟩ : ∃ K, qs.length = K := ⟨_, rfl⟩
      have HK := Lib.hid hK
      rw [hK] at HS HRS hle
      have HP1 := Lib.hid hP1
      have HB1 := Lib.hid hb1
      clear hK hP1 hb1 hsh
      go_wp2_with fail
      refine HS.out.mono ?_
      rintro e w2 ⟨A2, c2, rfl, hP2, hb2⟩
      have hbw2 := HB1.out.trans (hb2.mono HB1.out.size)
      go_wp2_with fail
      refine (HRS.out w2 hbw2).mono ?_
      rintro e w3 ⟨A3, c3, rfl, hP3, hb3⟩
      have HP2 := Lib.hid (show PS w3 w3.heap.size A2 qs from fun hp => by
        obtain ⟨b, off, e1, h2, h3⟩ := hP2 hp
        refine ⟨b, off, e1, Nat.lt_of_lt_of_le h2 hb3.size, fun i hi => ?_⟩
        obtain ⟨c0, c1, c2, A', c', c3, hr, hrest⟩ := h3 i hi
        exact ⟨(hb3.cell (p := ⟨b, off + i * 4, none⟩) h2).trans c0, (hb3.cell (p := ⟨b, off + i * 4 + 1, none⟩) h2).trans c1, (hb3.cell (p := ⟨b, off + i * 4 + 2, none⟩) h2).trans c2, A', c', (hb3.cell (p := ⟨b, off + i * 4 + 3, none⟩) h2).trans c3, (hr.below hb3).keep' hb3.size, hrest⟩)
      have HP3 := Lib.hid hP3
      have HB3 := Lib.hid (hbw2.trans (hb3.mono hbw2.size))
      have HB13 := Lib.hid (hb2.trans (hb3.mono hb2.size))
      have eE : (E != E) = false := by simp
      have eK : ((K : Int) != (K : Int)) = false := by simp
      clear hP2 hP3 hb2 hb3 hbw2
      go_wp2
      go_loopw [15] (fun i wr => ∃ k : Nat, k ≤ K ∧ i = .int .i64 k ∧ Below w3.heap.size w3 wr) (fun i _ => K - (intOf i).toNat)
      case atStart => exact ⟨0, by omega, rfl, Below.refl _ _⟩
      case round =>
        obtain ⟨k, hk, rfl, hbr⟩ := hrel
        have HBR := Lib.hid hbr
        clear hbr
        by_cases hlt : k < K
        · obtain ⟨b1, o1, hAe, hb1, hc1⟩ := HP2.out (by rw [HK.out]; omega)
          subst hAe
          obtain ⟨b2, o2, hAe, hb2, hc2⟩ := HP3.out (by rw [HK.out]; omega)
          subst hAe
          obtain ⟨x0, x1, x2, X, cx, x3, hRX, _⟩ := hc1 k (by rw [HK.out]; omega)
          obtain ⟨y0, y1, y2, Y, cy, y3, hRY, _⟩ := hc2 k (by rw [HK.out]; omega)
          clear hc1 hc2
          obtain ⟨p, hp⟩ : ∃ p, pAt qs k = p := ⟨_, rfl⟩
          rw [hp] at x0 x1 x2 x3 y0 y1 y2 y3 hRX hRY
          clear hp
          obtain ⟨m, hm⟩ : ∃ m, p.d.length = m := ⟨_, rfl⟩
          have HM := Lib.hid hm
          rw [hm] at x3 y3
          clear hm
          have HU := Lib.hid (show P4 wr b1 (o1 + k * 4) p.id p.ix p.ct X m cx ∧ P4 wr b2 (o2 + k * 4) p.id p.ix p.ct Y m cy from ⟨P4.below ⟨x0, x1, x2, x3⟩ HBR.out hb1, P4.below ⟨y0, y1, y2, y3⟩ HBR.out hb2⟩)
          have HSM := Lib.hid (fun W (hb : Below wr.heap.size wr W) => same_true p.id p.ix p.ct p.d m HM.out X Y cx cy W ((hRX.below (HBR.out.trans (hb.mono HBR.out.size))).keep' (Nat.le_trans HBR.out.size hb.size)) ((hRY.below (HBR.out.trans (hb.mono HBR.out.size))).keep' (Nat.le_trans HBR.out.size hb.size)))
          have HUD := Lib.hid (show Below wr.heap.size wr wr.drew from belowN (Below.refl _ _) 1)
          have g3 : (0 : Int) ≤ (k : Int) := by omega
          have g4 : (k : Int) < (K : Int) := by omega
          clear x0 x1 x2 x3 y0 y1 y2 y3 hRX hRY
          go_wp2
          go_region_held3 (SZ wr b1 (o1 + k * 4) b2 (o2 + k * 4) p.id p.ix p.ct X Y m cx cy)
            (first | exact SZ.of HU HUD | assumption | exact SZ.to HU (by assumption) (by assumption))
            (first | (go_at_call 8; refine (as_any _ _ _ _ _ _ _).mono ?_; rintro e wy ⟨rfl, hby⟩) | (go_at_call 14; refine (HSM.out _ (SZ.last (by assumption))).mono ?_; rintro e wy ⟨rfl, hby⟩))
          have hSB := SZ.last (U := wr) (W := wy) (by assumption)
          have HNX := Lib.hid (HBR.out.trans (hSB.mono HBR.out.size))
          clear hSB HU HSM HUD
          go_wp2
          go_roundw
          case rel => exact ⟨k + 1, by omega, by go_num, HNX.out⟩
          case measure => simp [intOf]; omega
        · have hbwr := HB3.out.trans (HBR.out.mono HB3.out.size)
          have hb1r := HB13.out.trans (HBR.out.mono HB13.out.size)
          have HJ := Lib.hid (join_any ps ln HLN.out L lc wr ((PS.keepB HP.out hbwr).more hbwr.size) HO.out hlm)
          have HRJ := Lib.hid (fun W (hb : Below w1.heap.size w1 W) => rjoin_any ps ln HLN.out A1 c1 W ((PS.keepB HP1.out hb).more hb.size) HO.out hlm)
          have HBW := Lib.hid hbwr
          have HB1R := Lib.hid hb1r
          obtain ⟨J, hJ⟩ : ∃ J, joinS ps = J := ⟨_, rfl⟩
          rw [hJ] at HJ HRJ
          clear hJ hbwr hb1r
          obtain ⟨fb, G⟩ := J
          unfold BytPost at HJ HRJ
          simp only at HJ HRJ
          go_wp2_with fail
          refine HJ.out.mono ?_
          rintro e w5 ⟨v5, rfl, hown5, hb5⟩
          have hbw5 := HBW.out.trans (hb5.mono HBW.out.size)
          have hb15 := HB1R.out.trans (hb5.mono HB1R.out.size)
          go_wp2_with fail
          refine (HRJ.out w5 hb15).mono ?_
          rintro e w6 ⟨v6, rfl, hown6, hb6⟩
          have hbw6 := hbw5.trans (hb6.mono hbw5.size)
          have hown5' := own_below hown5 hb6
          have HT6 := Lib.hid (alive_any w6 (hT.below hbw6 hT.big))
          obtain ⟨A5, c5, rfl, hR5, _⟩ := RB.of_own hown5'
          obtain ⟨A6, c6, rfl, hR6, _⟩ := RB.of_own hown6
          have HR5 := Lib.hid hR5
          have HR6 := Lib.hid hR6
          have HB6 := Lib.hid hbw6
          have ss : ((strOfNums fb).toList == (strOfNums fb).toList) = true := by simp
          have eG : (G == G) = true := by simp
          clear hown5 hb5 hbw5 hb15 hown6 hb6 hbw6 hown5' hR5 hR6
          by_cases q1 : n < 0
          · have HV := Lib.hid (show cntI n = 0 from cntI_out (.inl q1))
            go_wp2_with fail
            refine HT6.out.mono ?_
            rintro e w7 ⟨rfl, hb7⟩
            have hfin := HB6.out.trans (hb7.mono HB6.out.size)
            have k5 := conv_any c5 (HR5.out.below hb7)
            have k6 := conv_any c6 (HR6.out.below hb7)
            have HCT := Lib.hid (count_any n w7)
            rw [HV.out] at HCT
            have eV : ((0 : Int) == 0) = true := by simp
            have HF := Lib.hid hfin
            clear hb7 hfin
            go_wp2_with fail
            refine HCT.out.mono ?_
            rintro e w' ⟨rfl, rfl⟩
            go_wp2
            go_ret
            exact ⟨rfl, HF.out⟩
          · by_cases q2 : 24000 < n
            · have HV := Lib.hid (show cntI n = 0 from cntI_out (.inr q2))
              go_wp2_with fail
              refine HT6.out.mono ?_
              rintro e w7 ⟨rfl, hb7⟩
              have hfin := HB6.out.trans (hb7.mono HB6.out.size)
              have k5 := conv_any c5 (HR5.out.below hb7)
              have k6 := conv_any c6 (HR6.out.below hb7)
              have HCT := Lib.hid (count_any n w7)
              rw [HV.out] at HCT
              have eV : ((0 : Int) == 0) = true := by simp
              have HF := Lib.hid hfin
              clear hb7 hfin
              go_wp2_with fail
              refine HCT.out.mono ?_
              rintro e w' ⟨rfl, rfl⟩
              go_wp2
              go_ret
              exact ⟨rfl, HF.out⟩
            · have HVV := Lib.hid (cntI_val (n := n) (by omega) (by omega))
              by_cases q3 : n % 480 = 0
              · have b3 : (n % 480 != 0) = false := by simpa using q3
                by_cases q4 : n = 0
                · subst q4
                  have HV := Lib.hid (show cntI 0 = 1 from rfl)
                  clear q3 b3
                  go_wp2_with fail
                  refine HT6.out.mono ?_
                  rintro e w7 ⟨rfl, hb7⟩
                  have hfin := HB6.out.trans (hb7.mono HB6.out.size)
                  have k5 := conv_any c5 (HR5.out.below hb7)
                  have k6 := conv_any c6 (HR6.out.below hb7)
                  have HCT := Lib.hid (count_any 0 w7)
                  rw [HV.out] at HCT
                  have eV : ((1 : Int) == 1) = true := by simp
                  have HF := Lib.hid hfin
                  clear hb7 hfin
                  go_wp2_with fail
                  refine HCT.out.mono ?_
                  rintro e w' ⟨rfl, rfl⟩
                  go_wp2
                  go_ret
                  exact ⟨rfl, HF.out⟩
                · have b4 : (n == 0) = false := by simpa using q4
                  have HV := Lib.hid (show cntI n = n / 480 by rw [HVV.out, if_neg (by omega)])
                  clear q3 q4
                  go_wp2_with fail
                  refine HT6.out.mono ?_
                  rintro e w7 ⟨rfl, hb7⟩
                  have hfin := HB6.out.trans (hb7.mono HB6.out.size)
                  have k5 := conv_any c5 (HR5.out.below hb7)
                  have k6 := conv_any c6 (HR6.out.below hb7)
                  have HCT := Lib.hid (count_any n w7)
                  rw [HV.out] at HCT
                  have eV : ((n / 480 : Int) == n / 480) = true := by simp
                  have HF := Lib.hid hfin
                  clear hb7 hfin
                  go_wp2_with fail
                  refine HCT.out.mono ?_
                  rintro e w' ⟨rfl, rfl⟩
                  go_wp2
                  go_ret
                  exact ⟨rfl, HF.out⟩
              · have b3 : (n % 480 != 0) = true := by simpa using q3
                have HV := Lib.hid (show cntI n = n / 480 + 1 by rw [HVV.out, if_pos (.inl q3)])
                clear q3
                go_wp2_with fail
                refine HT6.out.mono ?_
                rintro e w7 ⟨rfl, hb7⟩
                have hfin := HB6.out.trans (hb7.mono HB6.out.size)
                have k5 := conv_any c5 (HR5.out.below hb7)
                have k6 := conv_any c6 (HR6.out.below hb7)
                have HCT := Lib.hid (count_any n w7)
                rw [HV.out] at HCT
                have eV : ((n / 480 + 1 : Int) == n / 480 + 1) = true := by simp
                have HF := Lib.hid hfin
                clear hb7 hfin
                go_wp2_with fail
                refine HCT.out.mono ?_
                rintro e w' ⟨rfl, rfl⟩
                go_wp2
                go_ret
                exact ⟨rfl, HF.out⟩
end Go.Proofs.YtmklcghoeapfbaaDoor
