/-
  Proved here: JoinLives walked: it returns true, whatever the parts, and nothing that was there is changed.
-/
import Derived.Test.YtikijkhblfgbpaaKi
import Derived.Deep.RegionHeld
namespace Go.Proofs.Ytikijkhblfgbpaa
open Go.RowKit Go.Maps Go.Sort

/-- What JoinLives' long test reads. -/
abbrev SL (U : World) (x b o : Nat) (fl id : Int) (A1 A2 : Option Addr) (m c1 c2 : Nat) (d : List Int) (W : World) : Prop :=
  (convert 28 9 (.slice A1 m c1)).run Try.prog W = .ok (.string (strOfNums d)) W ∧ (convert 28 9 (.slice A2 m c2)).run Try.prog W = .ok (.string (strOfNums d)) W ∧ W.cell? ⟨x, 0, none⟩ = some (.int .u64 fl) ∧ W.cell? ⟨b, o, none⟩ = some (.int .u64 id) ∧ Hid (Below U.heap.size U W)
structure UL (U : World) (x b o : Nat) (fl id : Int) (A1 A2 : Option Addr) (m : Nat) (d : List Int) : Prop where
  hn : d.length = m
  r1 : RB U U.heap.size A1 d
  r2 : RB U U.heap.size A2 d
  cx : U.cell? ⟨x, 0, none⟩ = some (.int .u64 fl)
  cb : U.cell? ⟨b, o, none⟩ = some (.int .u64 id)
theorem SL.of {U : World} {x b o : Nat} {fl id : Int} {A1 A2 : Option Addr} {m c1 c2 : Nat} {d : List Int} {W : World} (hU : Hid (UL U x b o fl id A1 A2 m d)) (h : Hid (Below U.heap.size U W)) : SL U x b o fl id A1 A2 m c1 c2 d W :=
  ⟨convN c1 (hU.out.r1.below h.out) hU.out.hn 0, convN c2 (hU.out.r2.below h.out) hU.out.hn 0, (h.out.cell (p := ⟨x, 0, none⟩) (World.block_lt_of_cell? U _ hU.out.cx)).trans hU.out.cx, (h.out.cell (p := ⟨b, o, none⟩) (World.block_lt_of_cell? U _ hU.out.cb)).trans hU.out.cb, h⟩
theorem SL.last {U : World} {x b o : Nat} {fl id : Int} {A1 A2 : Option Addr} {m c1 c2 : Nat} {d : List Int} {W : World} (h : SL U x b o fl id A1 A2 m c1 c2 d W) : Below U.heap.size U W := h.2.2.2.2.out
theorem SL.to {U : World} {x b o : Nat} {fl id : Int} {A1 A2 : Option Addr} {m c1 c2 : Nat} {d : List Int} {W W' : World} (hU : Hid (UL U x b o fl id A1 A2 m d)) (hb : Below W.heap.size W W') (h : SL U x b o fl id A1 A2 m c1 c2 d W) : SL U x b o fl id A1 A2 m c1 c2 d W' := SL.of hU (Lib.hid (h.last.trans (hb.mono h.last.size)))

set_option maxRecDepth 100000 in
set_option maxHeartbeats 4000000 in
theorem lives_any (ps : List Prt) (A : Option Addr) (n c : Nat) (w : World) (hs : SlP w A n c ps) :
    Calls Try.prog 3 #[.slice A n c] w fun e w' => e = .returned (.bool true) ∧ Below w.heap.size w w' := by
  obtain ⟨hlen, hP, hO, hB, hle, hmx, hnil⟩ := hs
  have hmx' : n ≤ 9223372036854775807 := by unfold maxLen at hmx; omega
  have HP := Lib.hid hP
  have HO := Lib.hid hO
  have HL := Lib.hid hlen
  clear hP hO hB hle hmx hnil hlen
  go_enter Try.func3, Try.ntmps3
  go_wp2_with fail
  refine (new_any w).mono ?_
  rintro e w1 ⟨t, rfl, hT, hb1⟩
  have HT := Lib.hid hT
  have HB1 := Lib.hid hb1
  have HRN := Lib.hid (rnew_any w1 w.heap.size hb1.size)
  clear hT hb1
  go_wp2_with fail
  refine HRN.out.mono ?_
  rintro e w2 ⟨x, rfl, hR, hb2⟩
  have H0 := Lib.hid (show LK w t x 0 ⟨1, []⟩ [] w2 from ⟨HT.out.keep hb2, fun y hy => absurd hy (by simp), hR, ⟨fun p hp => absurd hp (by simp), fun y hy => absurd hy (by simp), fun y hy => absurd hy (by simp), by simp, by simp⟩, by simp, HB1.out.trans (hb2.mono HB1.out.size)⟩)
  clear hR hb2
  go_wp2
  go_loopw [5] (fun iv wr => ∃ i : Nat, i ≤ n ∧ i ≤ 100 ∧ iv = .int .i64 i ∧ Hid (∃ T L, LK w t x i T L wr)) (fun iv _ => 100 - (intOf iv).toNat)
  case atStart => exact ⟨0, by omega, by omega, rfl, Lib.hid ⟨_, _, H0.out⟩⟩
  case round =>
    clear H0 HT HB1 HRN
    obtain ⟨k, hk, hk2, rfl, HX⟩ := hrel
    obtain ⟨T, L, hK⟩ := HX.out
    have HK := Lib.hid hK
    clear HX hK
    by_cases hlt : k < n ∧ k < 100
    · obtain ⟨hlt, h100⟩ := hlt
      obtain ⟨b, off, rfl, hb, hc⟩ := HP.out (by rw [HL.out]; omega)
      obtain ⟨p0, p1, p2, A', c', p3, hRp, _, _, hA⟩ := hc k (by rw [HL.out]; omega)
      have hOk : POk1 (pAt ps k) := HO.out k (by rw [HL.out]; omega)
      obtain ⟨p, hp⟩ : ∃ p, p = pAt ps k := ⟨_, rfl⟩
      rw [← hp] at p0 p1 p2 p3 hRp hOk
      have e0 := (HK.out.below.cell (p := ⟨b, off + k * 4, none⟩) hb).trans p0
      have e1 := (HK.out.below.cell (p := ⟨b, off + k * 4 + 1, none⟩) hb).trans p1
      have e2 := (HK.out.below.cell (p := ⟨b, off + k * 4 + 2, none⟩) hb).trans p2
      have e3 := (HK.out.below.cell (p := ⟨b, off + k * 4 + 3, none⟩) hb).trans p3
      obtain ⟨m, hm⟩ : ∃ m, m = p.d.length := ⟨_, rfl⟩
      rw [← hm] at e3
      rw [← hm] at p3
      have hd : decide ((k : Int) < 100) = true := by simp; omega
      have HR := Lib.hid hRp
      have HM := Lib.hid hm
      have HOk := Lib.hid hOk
      have HA := Lib.hid hA
      have HB := Lib.hid hb
      have HC0 := Lib.hid p0
      have HC1 := Lib.hid p1
      have HC2 := Lib.hid p2
      have HC3 := Lib.hid p3
      have hb' : b < wr.heap.size := Nat.lt_of_lt_of_le hb HK.out.below.size
      clear hc hp hm hRp hA hOk p0 p1 p2 p3
      by_cases h600 : 600 < m
      · go_wp2_with fail
        refine (alive_any _).mono ?_
        rintro e w2 ⟨rfl, h2⟩
        have H2 := Lib.hid h2
        clear h2
        go_wp2
        go_ret
        exact ⟨rfl, HK.out.below.trans (H2.out.mono HK.out.below.size)⟩
      · have HPU := Lib.hid (put_any HK.out.tab HK.out.good p HOk.out A' m c' HM.out.symm (by omega) HA.out ((HR.out.below HK.out.below).keep' HK.out.below.size) HK.out.below.size)
        go_wp2_with fail
        refine HPU.out.mono ?_
        rintro e w3 ⟨T', v, is, E, d, rfl, hS, hT3, hG3, hb3, hst, hv⟩
        have hbw3 := HK.out.below.trans hb3
        have HBW3 := Lib.hid hbw3
        have HS := Lib.hid hS
        have HT3 := Lib.hid hT3
        have HG3 := Lib.hid hG3
        have HB3 := Lib.hid hb3
        have HRT3 := Lib.hid (HK.out.rt.stays hst)
        have HV := Lib.hid hv
        obtain ⟨Av, cv, rfl, _, _, _⟩ := own_slice hv
        have f0 := (hbw3.cell (p := ⟨b, off + k * 4, none⟩) HB.out).trans HC0.out
        have f1 := (hbw3.cell (p := ⟨b, off + k * 4 + 1, none⟩) HB.out).trans HC1.out
        have f2 := (hbw3.cell (p := ⟨b, off + k * 4 + 2, none⟩) HB.out).trans HC2.out
        have f3 := (hbw3.cell (p := ⟨b, off + k * 4 + 3, none⟩) HB.out).trans HC3.out
        have hb3' : b < w3.heap.size := Nat.lt_of_lt_of_le HB.out hbw3.size
        clear hS hT3 hG3 hb3 hst hv hbw3 e0 e1 e2 e3 HPU hb'
        go_wp2_with fail
        refine (as_any _ _ _ _ _ _ _).mono ?_
        rintro e w4 ⟨rfl, hb4⟩
        have HBW4 := Lib.hid (HBW3.out.trans (hb4.mono HBW3.out.size))
        have HT4 := Lib.hid (HT3.out.keep hb4)
        have HRT4 := Lib.hid (HRT3.out.keep hb4)
        have HV4 := Lib.hid (own_below HV.out hb4)
        have HB34 := Lib.hid (HB3.out.trans (hb4.mono (Nat.le_trans HK.out.below.size HB3.out.size)))
        have HPD := Lib.hid (rput_any HRT4.out HBW4.out.size p HOk.out A' m c' HM.out.symm (by omega) HA.out ((HR.out.below HBW4.out).keep' HBW4.out.size) (by have := HK.out.len; omega))
        clear f0 f1 f2 f3 hb4
        go_wp2_with fail
        refine HPD.out.mono ?_
        rintro e w5 ⟨v5, rfl, hR5, hb5, hs5, hv5⟩
        obtain ⟨eb, eE, ed, L', hK5⟩ := HK.out.put HS.out HT4.out HG3.out HB34.out hb5 hs5 hR5
        rw [ed] at hv5
        rw [eb, eE]
        have HK5 := Lib.hid hK5
        have HA5 := Lib.hid (own_staysD HV4.out hs5)
        have HV5 := Lib.hid hv5
        clear eb eE ed hK5 hR5 hb5 hs5 HPD HRT4 HT4 HV4 HB34 HBW4 HRT3 HT3 HG3 HS HV HB3 HBW3 HK
        obtain ⟨m5, hm5⟩ : ∃ m5, d.length = m5 := ⟨_, rfl⟩
        have HM5 := Lib.hid hm5
        obtain ⟨Aw, cw, rfl, _, _, _⟩ := own_slice hv5
        rw [hm5]
        clear hv5 hm5
        have HW := Lib.hid (waits_any HK5.out.tab)
        go_wp2_with fail
        refine HW.out.mono ?_
        rintro e w6 ⟨v6, rfl, hrow6, _, hb6⟩
        have HK6 := Lib.hid (HK5.out.keep hb6)
        have HA6 := Lib.hid (own_below HA5.out hb6)
        have HV6 := Lib.hid (own_below HV5.out hb6)
        obtain ⟨m6, hm6⟩ : ∃ m6, (ids T').length = m6 := ⟨_, rfl⟩
        have HM6 := Lib.hid (fun (_ : Unit) => hm6)
        have hrow6' := own_cast hrow6 hm6 rfl
        have HR6 := Lib.hid hrow6'
        obtain ⟨A6, c6, rfl, _, _, _⟩ := own_slice hrow6'
        have HWD := Lib.hid (rwaits_any HK6.out.rt)
        clear hrow6 hrow6' hm6 hb6 HW HK5 HA5 HV5
        go_wp2_with fail
        refine HWD.out.mono ?_
        rintro e w7 ⟨v7, rfl, hWA⟩
        rw [HK6.out.waits] at hWA
        have HWA := Lib.hid hWA
        have hrow7 := own_cast hWA.own (HM6.out ()) rfl
        obtain ⟨A7, c7, rfl, _, _, _⟩ := own_slice hrow7
        have HK7 := Lib.hid (HK6.out.keep hWA.below)
        have HA7 := Lib.hid (own_below HA6.out hWA.below)
        have HV7 := Lib.hid (own_below HV6.out hWA.below)
        have HR7 := Lib.hid (own_below HR6.out hWA.below)
        clear hrow7 hWA HWD HK6 HA6 HV6 HR6
        obtain ⟨F, hF⟩ : ∃ F, T'.fl = F := ⟨_, rfl⟩
        have hfl := HK7.out.rt.cells.2.1
        obtain ⟨A8, c8, hv8, hR8, _⟩ := RB.of_own HA7.out
        obtain ⟨A9, c9, hv9, hR9, _⟩ := RB.of_own HV7.out
        have HU := Lib.hid (show UL w7 x b (off + k * 4) F p.id Av Aw m5 d from ⟨HM5.out, (by injection hv8 with h1 _ _; rw [h1]; exact hR8), (by injection hv9 with h1 _ _; rw [h1]; exact hR9), (by rw [← hF]; exact hfl), (HK7.out.below.cell (p := ⟨b, off + k * 4, none⟩) HB.out).trans HC0.out⟩)
        have HUD := Lib.hid (show Below w7.heap.size w7 w7.drew from belowN (Below.refl _ _) 1)
        have HFl := Lib.hid (fun W (hb : Below w7.heap.size w7 W) => floor_any (HK7.out.tab.keep hb))
        have HMi := Lib.hid (fun W (hb : Below w7.heap.size w7 W) => Missing_any (HK7.out.tab.keep hb) p.id HOk.out.1.1 HOk.out.1.2)
        have HMd := Lib.hid (fun W (hb : Below w7.heap.size w7 W) => rmissing_any (HK7.out.rt.keep hb) p.id)
        rw [hF] at HFl
        rw [HK7.out.miss] at HMd
        obtain ⟨M, hM⟩ : ∃ M, missO (getF T'.fs p.id) = M := ⟨_, rfl⟩
        rw [hM] at HMi HMd
        have q1 : (E != E) = false := by simp
        have q2 : (F != F) = false := by simp
        have q3 : ((M : Int) != (M : Int)) = false := by simp
        have q4 : ((m6 : Int) != (m6 : Int)) = false := by simp
        have q5 : (is != is) = false := by simp
        have ss : ((strOfNums d).toList == (strOfNums d).toList) = true := by simp
        have g3 : (0 : Int) ≤ (k : Int) := by omega
        have g4 : (k : Int) < (n : Int) := by omega
        clear hF hfl hv8 hR8 hv9 hR9 hM
        go_wp2
        go_region_held3 (SL w7 x b (off + k * 4) F p.id Av Aw m5 cv cw d)
          (first | exact SL.of HU HUD | assumption | exact SL.to HU (by assumption) (by assumption))
          (first | (go_at_call 14; refine (HFl.out _ (SL.last (by assumption))).mono ?_; rintro e wy ⟨rfl, rfl⟩) | (go_at_call 15; refine (HMi.out _ (SL.last (by assumption))).mono ?_; rintro e wy ⟨rfl, rfl⟩) | (go_at_call 16; refine (HMd.out _ (SL.last (by assumption))).mono ?_; rintro e wy ⟨rfl, hby⟩))
        have HSB := Lib.hid (SL.last (U := w7) (W := wy) (by assumption))
        have hm6b : m6 ≤ 4 := by
          have h1 := HK7.out.tab.few
          have h2 := HM6.out ()
          have h3 : (ids T').length = T'.fs.length := by simp [ids]
          omega
        have HKY := Lib.hid (HK7.out.keep HSB.out)
        clear HU HUD HFl HMi HMd q1 q2 q3 q5 ss
        go_wp2
        obtain ⟨wo, rfl⟩ : ∃ wo : World, wo = wy := ⟨_, rfl⟩
        go_loopw [14] (fun jv wr2 => ∃ j : Nat, j ≤ m6 ∧ jv = .int .i64 j ∧ Below w7.heap.size w7 wr2 ∧ Hid (LK w t x (k + 1) T' L' wr2)) (fun jv _ => m6 - (intOf jv).toNat)
        case atStart => exact ⟨0, by omega, rfl, HSB.out, HKY⟩
        case round =>
          clear HSB HKY
          obtain ⟨j, hj, rfl, hbj, HKJ⟩ := hrel
          have HBJ := Lib.hid hbj
          clear hbj
          by_cases hjm : j < m6
          · obtain ⟨g6, c6', hv6, _, hl6⟩ := HR7.out.form (by omega)
            injection hv6 with hA6 _ hc6
            subst hA6
            subst hc6
            obtain ⟨g7, hA7, hl7, hc7⟩ := HWA.out.cell (HM6.out ()) (by omega)
            subst hA7
            have y6 : wr.cell? ⟨g6, j, none⟩ = some (.int .u64 ((ids T').getD j 0)) := (HBJ.out.cell (p := ⟨g6, j, none⟩) hl6).trans ((HR7.out.cellAt j (by omega)).trans (UW_getElem (by rw [HM6.out ()]; exact hjm)))
            have y7 : wr.cell? ⟨g7, j, none⟩ = some (.int .u64 ((ids T').getD j 0)) := (HBJ.out.cell (p := ⟨g7, j, none⟩) hl7).trans (hc7 j hjm)
            obtain ⟨y, hy⟩ : ∃ y, (ids T').getD j 0 = y := ⟨_, rfl⟩
            rw [hy] at y6 y7
            have y8 : (y != y) = false := by simp
            have j0 : (0 : Int) ≤ (j : Int) := by omega
            have j1 : (j : Int) < (m6 : Int) := by omega
            clear hc7 hy
            go_wp2
            go_quiet (fail)
            go_wp2
            go_roundw
            case rel => exact ⟨j + 1, by omega, by go_num, belowN HBJ.out nq, Lib.hid ⟨HKJ.out.tab.drews nq, HKJ.out.good, HKJ.out.rt.drews nq, HKJ.out.tied, HKJ.out.len, belowN HKJ.out.below nq⟩⟩
            case measure => simp [intOf]; omega
          · obtain rfl : j = m6 := by omega
            go_wp2
            go_roundw
            case rel => exact ⟨k + 1, by omega, by omega, by go_num, Lib.hid ⟨T', L', HKJ.out⟩⟩
            case measure => simp [intOf]; omega
    · by_cases hl : k < n
      · have h100 : 100 ≤ k := by omega
        have HBW := Lib.hid HK.out.below
        clear hlt HK
        have hz : (wr.alloc (.cells #[.int .u64 0, .map none] 47)).cell? ⟨wr.heap.size, 0, none⟩ = some (.int .u64 0) := by simp [World.cell?_alloc_at]
        have hzl : wr.heap.size < (wr.alloc (.cells #[.int .u64 0, .map none] 47)).heap.size := by simp
        have HB0 := Lib.hid (HBW.out.alloc HBW.out.size (.cells #[.int .u64 0, .map none] 47))
        have HZ := Lib.hid (And.intro hzl hz)
        clear hz hzl
        go_wp2_with fail
        refine (put_nil _).mono ?_
        rintro e w3 ⟨rfl, hb3⟩
        have HZ3 := Lib.hid (And.intro (Nat.lt_of_lt_of_le HZ.out.1 hb3.size) ((hb3.cell (p := ⟨wr.heap.size, 0, none⟩) HZ.out.1).trans HZ.out.2))
        have HB3 := Lib.hid (HB0.out.trans (hb3.mono HB0.out.size))
        have HPZ := Lib.hid (put_zero wr.heap.size w3 HZ3.out.1 HZ3.out.2)
        clear hb3
        go_wp2_with fail
        refine HPZ.out.mono ?_
        rintro e w4 ⟨rfl, hb4⟩
        have HZ4 := Lib.hid (And.intro (Nat.lt_of_lt_of_le HZ3.out.1 hb4.size) ((hb4.cell (p := ⟨wr.heap.size, 0, none⟩) HZ3.out.1).trans HZ3.out.2))
        have HB4 := Lib.hid (HB3.out.trans (hb4.mono HB3.out.size))
        clear hb4
        go_wp2_with (first
          | (go_at_call 8; refine (alive_any _).mono ?_; rintro e w5 ⟨rfl, hb5⟩; have HB5 := Lib.hid (HB4.out.trans (hb5.mono HB4.out.size)); have HZ5 := Lib.hid ((hb5.cell (p := ⟨wr.heap.size, 0, none⟩) HZ4.out.1).trans HZ4.out.2); clear hb5)
          | (go_at_call 14; refine (floor_nil _).mono ?_; rintro e w' ⟨rfl, rfl⟩)
          | (go_at_call 12; with_reducible refine (waits_nil _).mono ?_; rintro e w' ⟨rfl, rfl⟩)
          | (go_at_call 12; with_reducible refine (waits_zero _ _ HZ5.out).mono ?_; rintro e w' ⟨rfl, rfl⟩)
          | (go_at_call 15; refine (Missing_nil _ _).mono ?_; rintro e w' ⟨rfl, rfl⟩))
        go_ret
        exact ⟨rfl, HB5.out⟩
      · have hge : n ≤ k := by omega
        have HBW := Lib.hid HK.out.below
        clear hlt HK
        have hz : (wr.alloc (.cells #[.int .u64 0, .map none] 47)).cell? ⟨wr.heap.size, 0, none⟩ = some (.int .u64 0) := by simp [World.cell?_alloc_at]
        have hzl : wr.heap.size < (wr.alloc (.cells #[.int .u64 0, .map none] 47)).heap.size := by simp
        have HB0 := Lib.hid (HBW.out.alloc HBW.out.size (.cells #[.int .u64 0, .map none] 47))
        have HZ := Lib.hid (And.intro hzl hz)
        clear hz hzl
        go_wp2_with fail
        refine (put_nil _).mono ?_
        rintro e w3 ⟨rfl, hb3⟩
        have HZ3 := Lib.hid (And.intro (Nat.lt_of_lt_of_le HZ.out.1 hb3.size) ((hb3.cell (p := ⟨wr.heap.size, 0, none⟩) HZ.out.1).trans HZ.out.2))
        have HB3 := Lib.hid (HB0.out.trans (hb3.mono HB0.out.size))
        have HPZ := Lib.hid (put_zero wr.heap.size w3 HZ3.out.1 HZ3.out.2)
        clear hb3
        go_wp2_with fail
        refine HPZ.out.mono ?_
        rintro e w4 ⟨rfl, hb4⟩
        have HZ4 := Lib.hid (And.intro (Nat.lt_of_lt_of_le HZ3.out.1 hb4.size) ((hb4.cell (p := ⟨wr.heap.size, 0, none⟩) HZ3.out.1).trans HZ3.out.2))
        have HB4 := Lib.hid (HB3.out.trans (hb4.mono HB3.out.size))
        clear hb4
        go_wp2_with (first
          | (go_at_call 8; refine (alive_any _).mono ?_; rintro e w5 ⟨rfl, hb5⟩; have HB5 := Lib.hid (HB4.out.trans (hb5.mono HB4.out.size)); have HZ5 := Lib.hid ((hb5.cell (p := ⟨wr.heap.size, 0, none⟩) HZ4.out.1).trans HZ4.out.2); clear hb5)
          | (go_at_call 14; refine (floor_nil _).mono ?_; rintro e w' ⟨rfl, rfl⟩)
          | (go_at_call 12; with_reducible refine (waits_nil _).mono ?_; rintro e w' ⟨rfl, rfl⟩)
          | (go_at_call 12; with_reducible refine (waits_zero _ _ HZ5.out).mono ?_; rintro e w' ⟨rfl, rfl⟩)
          | (go_at_call 15; refine (Missing_nil _ _).mono ?_; rintro e w' ⟨rfl, rfl⟩))
        go_ret
        exact ⟨rfl, HB5.out⟩
end Go.Proofs.Ytikijkhblfgbpaa
