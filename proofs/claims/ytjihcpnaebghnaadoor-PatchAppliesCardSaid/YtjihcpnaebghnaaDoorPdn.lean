/-
  Proved here: of the document's patches: Runs.
-/
import Derived.Test.YtjihcpnaebghnaaDoorPdk
set_option linter.unusedSimpArgs false
set_option linter.unusedVariables false
namespace Go.Proofs.YtjihcpnaebghnaaDoor
open Go.RowKit
theorem no_step {bs : List Int} {p k : Nat} (h : ∀ j, RunsP bs 5 j → ∃ j', j = k + j' ∧ RunsP bs (p : Int) j') (hp : p < bs.length) (hs : ∀ q, ¬ StepP bs (p : Int) q) : ∀ j, ¬ isRuns bs j := fun j hj => by
  obtain ⟨j', _, h2⟩ := h j hj.2
  cases h2 with
  | done => omega
  | step _ h3 _ => exact hs _ h3
set_option maxRecDepth 100000 in
set_option maxHeartbeats 16000000 in
theorem r_runs {w : World} {A : Option Addr} {bs : List Int} {n cap : Nat} (hR : RB w w.heap.size A bs) (hl : bs.length = n) (hn : n ≤ 100000) (hB : Bytes bs) :
    Calls Tryd.prog 11 #[.slice A n cap] w fun e w' => ((∃ k : Nat, isRuns bs k ∧ e = .returned (.tuple #[.int .i64 k, .bool true])) ∨ ((∀ k, ¬ isRuns bs k) ∧ e = .returned (.tuple #[.int .i64 0, .bool false]))) ∧ Below w.heap.size w w' := by
  have HGS := Lib.hid (fun (W : World) (hb : Below w.heap.size w W) (p : Int) => rget_in hR hl hn hB hb cap p)
  have HGC := Lib.hid (fun (W : World) (hb : Below w.heap.size w W) (p : Int) => r_getcell (cap := cap) ((hR.below hb).keep' hb.size) hl hn hB p)
  unfold GetCY at HGC
  have HL := Lib.hid hl
  have HN := Lib.hid hn
  have HBY := Lib.hid hB
  clear hR hl hn hB
  go_enter Tryd.func11, Tryd.ntmps11
  by_cases h5 : n < 5
  · have d1 : decide ((n : Int) < 5) = true := by simp; omega
    have d1' : decide (n < 5) = true := by simp; omega
    have HNO := Lib.hid (show ∀ k, ¬ isRuns bs k from fun k h => by have := h.1; have := HL.out; omega)
    clear h5
    go_wp2
    go_ret2
    exact ⟨.inr ⟨HNO.out, rfl⟩, Below.refl _ _⟩
  · have d1 : decide ((n : Int) < 5) = false := by simp; omega
    have d1' : decide (n < 5) = false := by simp; omega
    have H5 := Lib.hid (show 5 ≤ n by omega)
    clear h5
    go_wp2
    go_loopw [4, 5] (fun pv kv wr => ∃ (k p : Nat), kv = .int .i64 k ∧ pv = .int .i64 p ∧ k ≤ p ∧ p ≤ n ∧ Hid ((∀ j, RunsP bs (p : Int) j → RunsP bs 5 (k + j)) ∧ (∀ j, RunsP bs 5 j → ∃ j', j = k + j' ∧ RunsP bs (p : Int) j') ∧ Below w.heap.size w wr)) (fun pv _ _ => n - (intOf pv).toNat)
    case atStart => exact ⟨0, 5, rfl, rfl, by omega, H5.out, Lib.hid ⟨fun j h => by rw [Nat.zero_add]; exact h, fun j h => ⟨j, by omega, h⟩, Below.refl _ _⟩⟩
    case round =>
      obtain ⟨k, p, rfl, rfl, hkp, hpn, HS⟩ := hrel
      by_cases hp : p < n
      · have e1 : decide ((p : Int) < (n : Int)) = true := by simp; omega
        have e1' : decide (p < n) = true := by simp; omega
        have wk : IntKind.i64.wrap ((k : Int) + 1) = (k : Int) + 1 := IntWalk.i64_in _ (by have := HN.out; omega)
        have HKP := Lib.hid (And.intro hkp hp)
        have HNS := Lib.hid (fun (h : ∀ q, ¬ StepP bs (p : Int) q) => no_step HS.out.2.1 (by rw [HL.out]; exact hp) h)
        obtain ⟨⟨g, m, z⟩, hG⟩ : ∃ x, getS bs (p : Int) = x := ⟨_, rfl⟩
        obtain ⟨⟨c, r, z2⟩, hG2⟩ : ∃ x, getS bs m = x := ⟨_, rfl⟩
        have HG1 := Lib.hid (hG ▸ HGS.out wr HS.out.2.2 (p : Int))
        have HG2 := Lib.hid (fun (W : World) (hb : Below w.heap.size w W) => hG2 ▸ HGS.out W hb m)
        have HGE := Lib.hid (And.intro hG hG2)
        clear hkp hpn hp hG hG2
        go_wp2_with fail
        refine HG1.out.mono ?_
        rintro e wx ⟨rfl, rfl⟩
        clear HG1
        by_cases hz : z = 0
        · subst hz
          go_wp2_with fail
          refine (HG2.out _ HS.out.2.2).mono ?_
          rintro e wx ⟨rfl, rfl⟩
          clear HG2
          by_cases hz2 : z2 = 0
          · subst hz2
            by_cases hc : c = 0
            · subst hc
              have HNO := Lib.hid (HNS.out (fun q hq => by
                obtain ⟨g', m', c', r', h1, h2, h3, _⟩ := hq
                rw [HGE.out.1] at h1
                obtain ⟨rfl, rfl, _⟩ : g = g' ∧ m = m' ∧ True := by simpa using h1
                rw [HGE.out.2] at h2
                obtain ⟨rfl, _⟩ : 0 = c' ∧ True := by simp only [Prod.mk.injEq] at h2; exact ⟨h2.1, trivial⟩
                exact h3 rfl))
              clear HNS
              go_wp2
              go_ret2
              exact ⟨.inr ⟨HNO.out, rfl⟩, HS.out.2.2⟩
            · have q1 : (c == 0) = false := by simpa using hc
              have q1' : decide (c = 0) = false := by simpa using hc
              have HPL := Lib.hid (show ∃ c' r' : Nat, c = c' ∧ r = r' ∧ 1 ≤ c' ∧ p < r' ∧ r' ≤ n ∧ (c' : Int) < 4611686018427387904 from by
                have ha : (getS bs (p : Int)).2.2 = 0 := by rw [HGE.out.1]
                obtain ⟨a1, a2, a3, a4⟩ := getS_ok HBY.out ha
                rw [HGE.out.1] at a1 a2 a3 a4
                dsimp only at a1 a2 a3 a4
                obtain ⟨m', rfl⟩ : ∃ m' : Nat, m = m' := ⟨m.toNat, by omega⟩
                have hb : (getS bs (m' : Int)).2.2 = 0 := by rw [HGE.out.2]
                obtain ⟨b1, b2, b3, b4⟩ := getS_ok HBY.out hb
                rw [HGE.out.2] at b1 b2 b3 b4
                dsimp only at b1 b2 b3 b4
                have := HL.out
                exact ⟨c.toNat, r.toNat, by omega, by omega, by omega, by omega, by omega, by omega⟩)
              obtain ⟨c', r', rfl, rfl, hc1, hr1, hr2, hc2⟩ := HPL.out
              have HCC := Lib.hid (And.intro hc1 hc2)
              have hcz : ¬ c' = 0 := by omega
              have HL0 := Lib.hid (show p < r' ∧ r' ≤ n ∧ Below w.heap.size w wr from ⟨hr1, hr2, HS.out.2.2⟩)
              clear hc hc1 hr1 hr2 hc2 HPL
              go_wp2
              go_loopw [10, 11] (fun lv iv wi => ∃ (i q : Nat), lv = .int .i64 q ∧ iv = .int .u64 i ∧ i ≤ c' ∧ Hid (p < q ∧ q ≤ n ∧ Below w.heap.size w wi ∧ cellsF c' bs (r' : Int) = cellsF (c' - i) bs (q : Int))) (fun _ iv _ => c' - (intOf iv).toNat)
              case atStart => exact ⟨0, r', rfl, rfl, by omega, Lib.hid ⟨HL0.out.1, HL0.out.2.1, HL0.out.2.2, rfl⟩⟩
              case round =>
                obtain ⟨i, q, rfl, rfl, hi, HI⟩ := hrel
                clear HL0
                by_cases hic : i < c'
                · have f1 : decide ((i : Int) < (c' : Int)) = true := by simp; omega
                  have f1' : decide (i < c') = true := by simp; omega
                  have wi : IntKind.u64.wrap ((i : Int) + 1) = (i : Int) + 1 := IntWalk.u64_in _ (by have := HCC.out; omega)
                  obtain ⟨⟨e0, m2, z3⟩, hC⟩ : ∃ x, getC bs (q : Int) = x := ⟨_, rfl⟩
                  obtain ⟨yp, y0, y1, y2, y3, y4, y5, y6, y7, yg, yb, hy⟩ := yC_form e0
                  have HGP : Hid (Calls Tryd.prog 33 #[.slice A n cap, .int .i64 q] wr fun e w' => e = .returned (.tuple #[.agg #[.int .i32 yp, .bool y0, .bool y1, .bool y2, .bool y3, .bool y4, .bool y5, .bool y6, .bool y7, .int .u32 yg, .int .u32 yb], .int .i64 m2, .int .i64 z3]) ∧ Below wr.heap.size wr w') := Lib.hid (by
                    have hz := HGC.out wr HI.out.2.2.1 (q : Int)
                    rw [hC] at hz
                    unfold yV at hz
                    rw [hy] at hz
                    exact hz)
                  have HSTEP := Lib.hid (show cellsF c' bs (r' : Int) = if z3 = 0 then cellsF (c' - (i + 1)) bs m2 else none from by
                    rw [HI.out.2.2.2, show c' - i = (c' - (i + 1)) + 1 by omega, cellsF_step, hC])
                  have HCE := Lib.hid hC
                  have HIC := Lib.hid hic
                  clear hi hic hC hy
                  go_wp2_with fail
                  refine HGP.out.mono ?_
                  rintro e w2 ⟨rfl, b2⟩
                  have hba := (Below.refl w2.heap.size w2).alloc (Nat.le_refl _) (.cells #[.int .i32 yp, .bool y0, .bool y1, .bool y2, .bool y3, .bool y4, .bool y5, .bool y6, .bool y7, .int .u32 yg, .int .u32 yb] 80)
                  have HB2 := Lib.hid (HI.out.2.2.1.trans ((b2.trans (hba.mono b2.size)).mono HI.out.2.2.1.size))
                  clear b2 hba HGP
                  by_cases hz3 : z3 = 0
                  · subst hz3
                    have HC3 := Lib.hid (show ∃ q' : Nat, m2 = q' ∧ q < q' ∧ q' ≤ n from by
                      obtain ⟨o1, o2, o3, o4, _⟩ := getC_ok HBY.out (p := q) HCE.out
                      have := (cellB_len o1 o2).1
                      exact ⟨q + (cellB e0).length, by omega, by omega, by rw [← HL.out]; exact o4⟩)
                    obtain ⟨q', rfl, hq1, hq2⟩ := HC3.out
                    have HI2 := Lib.hid (show p < q' ∧ q' ≤ n ∧ Below w.heap.size w (w2.alloc (.cells #[.int .i32 yp, .bool y0, .bool y1, .bool y2, .bool y3, .bool y4, .bool y5, .bool y6, .bool y7, .int .u32 yg, .int .u32 yb] 80)) ∧ cellsF c' bs (r' : Int) = cellsF (c' - (i + 1)) bs (q' : Int) from ⟨by have := HI.out.1; omega, hq2, HB2.out, by rw [HSTEP.out, if_pos (by first | trivial | rfl)]⟩)
                    clear hq1 hq2 HC3 HI HSTEP
                    go_wp2
                    generalize (w2.alloc (.cells #[.int .i32 yp, .bool y0, .bool y1, .bool y2, .bool y3, .bool y4, .bool y5, .bool y6, .bool y7, .int .u32 yg, .int .u32 yb] 80)) = W3 at HI2 ⊢
                    go_roundw
                    case rel => exact ⟨i + 1, q', rfl, by go_num, by have := HIC.out; omega, HI2⟩
                    case measure => have := HIC.out; simp [intOf]; omega
                  · have zz : (z3 != 0) = true := by simpa using hz3
                    have HNO := Lib.hid (HNS.out (fun qq hq => by
                      obtain ⟨g', m', c2, r2, h1, h2, h3, h4⟩ := hq
                      rw [HGE.out.1] at h1
                      obtain ⟨rfl, rfl, _⟩ : g = g' ∧ m = m' ∧ True := by simpa using h1
                      rw [HGE.out.2] at h2
                      obtain ⟨rfl, rfl⟩ : (c' : Int) = c2 ∧ (r' : Int) = r2 := by simp only [Prod.mk.injEq] at h2; exact ⟨h2.1, h2.2.1⟩
                      rw [Int.toNat_natCast, HSTEP.out, if_neg hz3] at h4
                      cases h4))
                    clear hz3 HNS HSTEP
                    go_wp2
                    go_ret2
                    exact ⟨.inr ⟨HNO.out, rfl⟩, HB2.out⟩
                · have f1 : decide ((i : Int) < (c' : Int)) = false := by simp; omega
                  have f1' : decide (i < c') = false := by simp; omega
                  have HST := Lib.hid (show StepP bs (p : Int) (q : Int) from ⟨g, m, (c' : Int), (r' : Int), HGE.out.1, HGE.out.2, by have := HCC.out; omega, by rw [Int.toNat_natCast, HI.out.2.2.2, show c' - i = 0 by omega]; rfl⟩)
                  have HS2 := Lib.hid (show (∀ j, RunsP bs (q : Int) j → RunsP bs 5 (k + 1 + j)) ∧ (∀ j, RunsP bs 5 j → ∃ j', j = k + 1 + j' ∧ RunsP bs (q : Int) j') ∧ Below w.heap.size w wr from ⟨fun j hj => by
                    have := HS.out.1 (j + 1) (RunsP.step (by rw [HL.out]; have := HKP.out.2; omega) HST.out hj)
                    rwa [show k + 1 + j = k + (j + 1) by omega], fun j hj => by
                    obtain ⟨j', h1, h2⟩ := HS.out.2.1 j hj
                    cases h2 with
                    | done => have := HKP.out.2; have := HL.out; omega
                    | step _ hs hr =>
                      rw [hs.one HST.out] at hr
                      exact ⟨_, by omega, hr⟩, HI.out.2.2.1⟩)
                  clear hi hic HST HS
                  go_wp2
                  go_roundw
                  case rel => exact ⟨k + 1, q, by go_num, rfl, by have := HI.out; have := HKP.out; omega, HI.out.2.1, HS2⟩
                  case measure => have := HI.out; have := HKP.out; simp [intOf]; omega
          · have zz : (z2 != 0) = true := by simpa using hz2
            have HNO := Lib.hid (HNS.out (fun q hq => by
              obtain ⟨g', m', c', r', h1, h2, h3, _⟩ := hq
              rw [HGE.out.1] at h1
              obtain ⟨rfl, rfl, _⟩ : g = g' ∧ m = m' ∧ True := by simpa using h1
              rw [HGE.out.2] at h2
              simp only [Prod.mk.injEq] at h2
              exact hz2 h2.2.2))
            clear hz2 HNS
            go_wp2
            go_ret2
            exact ⟨.inr ⟨HNO.out, rfl⟩, HS.out.2.2⟩
        · have zz : (z != 0) = true := by simpa using hz
          have HNO := Lib.hid (HNS.out (fun q hq => by
            obtain ⟨g', m', c', r', h1, h2, h3, _⟩ := hq
            rw [HGE.out.1] at h1
            simp only [Prod.mk.injEq] at h1
            exact hz h1.2.2))
          clear hz HNS HG2
          go_wp2
          go_ret2
          exact ⟨.inr ⟨HNO.out, rfl⟩, HS.out.2.2⟩
      · have e1 : decide ((p : Int) < (n : Int)) = false := by simp; omega
        have e1' : decide (p < n) = false := by simp; omega
        have HYES := Lib.hid (show isRuns bs k from ⟨by rw [HL.out]; exact H5.out, by
          have hpb : (p : Int) = (bs.length : Int) := by rw [HL.out]; omega
          have := HS.out.1 0 (by rw [hpb]; exact RunsP.done)
          simpa using this⟩)
        clear hkp hpn hp
        go_wp2
        go_ret2
        exact ⟨.inl ⟨k, HYES.out, rfl⟩, HS.out.2.2⟩
end Go.Proofs.YtjihcpnaebghnaaDoor
