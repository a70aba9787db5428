/-
  Proved here: of the program's views: isHead, isCell, Right.
-/
import Derived.Test.YtjihcpnaebghnaaDoorPlV
import Derived.Test.YtjihcpnaebghnaaDoorHh
import Derived.Test.YtjihcpnaebghnaaDoorZg
import Derived.Test.YtjihcpnaebghnaaDoorUs
import Derived.Deep.DeepCutAuto
set_option linter.unusedSimpArgs false
set_option linter.unusedVariables false
namespace Go.Proofs.YtjihcpnaebghnaaDoor
open Go.RowKit
theorem p_is (r : Int) (w : World) : Calls Tryd.prog 68 #[.int .i32 r] w fun e w' => e = .returned (.bool (isP r)) ∧ w = w' := by
  have hd : isP r = (decide (0 ≤ r) && decide (r ≤ 1114111) && (decide (r < 55296) || decide (57343 < r))) := by
    unfold isP
    rw [Bool.eq_iff_iff]
    simp
    omega
  rw [hd]
  obtain ⟨a, ha⟩ : ∃ a, decide (0 ≤ r) = a := ⟨_, rfl⟩
  obtain ⟨b, hb⟩ : ∃ a, decide (r ≤ 1114111) = a := ⟨_, rfl⟩
  obtain ⟨c, hc⟩ : ∃ a, decide (r < 55296) = a := ⟨_, rfl⟩
  obtain ⟨d, hdd⟩ : ∃ a, decide (57343 < r) = a := ⟨_, rfl⟩
  rw [ha, hb, hc, hdd]
  go_enter Tryd.func68, Tryd.ntmps68
  cases a <;> cases b <;> cases c <;> cases d
  all_goals go_wp2
  all_goals go_ret
  all_goals exact ⟨rfl, rfl⟩
/-- Cells that can be read. -/
def CR (W : World) (A : Option Addr) (L : List Ce) : Prop := 0 < L.length → ∃ b off, A = some ⟨b, off, none⟩ ∧ b < W.heap.size ∧ ∀ i, i < L.length → ∀ j v, (gC (ceAt L i))[j]? = some v → W.cell? ⟨b, off + i * 4 + j, none⟩ = some v
theorem CR.below {W X : World} {A : Option Addr} {L : List Ce} (h : CR W A L) (hb : Below W.heap.size W X) : CR X A L := fun hp => by
  obtain ⟨b, off, e, hlt, hr⟩ := h hp
  exact ⟨b, off, e, Nat.lt_of_lt_of_le hlt hb.size, fun i hi j v hv => (hb.cell (p := ⟨b, off + i * 4 + j, none⟩) hlt).trans (hr i hi j v hv)⟩
theorem SlC.cr {W : World} {A : Option Addr} {len cap : Nat} {L : List Ce} (h : SlC W A len cap L) : CR W A L := fun hp => by
  have e := h.len_eq
  obtain ⟨b, off, q1, q2, q3⟩ := h.reads (by omega)
  exact ⟨b, off, q1, q2, fun i hi => q3 i (by omega)⟩
theorem ce_four {W : World} {b k : Nat} {p f gg bb : Int} (h : ∀ j v, (gC ⟨p, f, gg, bb⟩)[j]? = some v → W.cell? ⟨b, k + j, none⟩ = some v) :
    W.cell? ⟨b, k, none⟩ = some (.int .i32 p) ∧ W.cell? ⟨b, k + 1, none⟩ = some (.int .u8 f) ∧ W.cell? ⟨b, k + 2, none⟩ = some (.int .u32 gg) ∧ W.cell? ⟨b, k + 3, none⟩ = some (.int .u32 bb) := ⟨h 0 _ rfl, h 1 _ rfl, h 2 _ rfl, h 3 _ rfl⟩
theorem six_cells {W : World} {g : Nat} {c0 c1 c2 c3 c4 c5 : Value} {t : TypeId} (h : W.heap[g]? = some (.cells #[c0, c1, c2, c3, c4, c5] t (0, 0))) : W.cell? ⟨g, 0, none⟩ = some c0 ∧ W.cell? ⟨g, 1, none⟩ = some c1 ∧ W.cell? ⟨g, 2, none⟩ = some c2 ∧ W.cell? ⟨g, 3, none⟩ = some c3 ∧ W.cell? ⟨g, 4, none⟩ = some c4 ∧ W.cell? ⟨g, 5, none⟩ = some c5 := by
  refine ⟨?_, ?_, ?_, ?_, ?_, ?_⟩ <;> (unfold World.cell?; simp only [h]; rfl)
/-- A view that may be, but for its cells; one that may be. -/
def headB (R C row col : Int) : Bool := decide (1 ≤ R) && decide (R ≤ 12) && decide (1 ≤ C) && decide (C ≤ 40) && decide (0 ≤ row) && decide (row < R) && decide (0 ≤ col) && decide (col < C)
def rightW (R C row col : Int) (L : List Ce) : Bool := headB R C row col && decide ((L.length : Int) = R * C) && L.all cellR
set_option maxHeartbeats 4000000 in
theorem p_ishead (R C row col : Int) (A : Option Addr) (len cap : Nat) (vis : Bool) (w : World) : Calls Tryd.prog 55 #[vV R C A len cap row col vis] w fun e w' => e = .returned (.bool (headB R C row col)) ∧ Below w.heap.size w w' := by
  have HB0 := (Below.refl w.heap.size w).alloc (Nat.le_refl _) (.cells #[.int .i64 R, .int .i64 C, .slice A len cap, .int .i64 row, .int .i64 col, .bool vis] 24)
  have HC0 := heap_alloc_new w (.cells #[.int .i64 R, .int .i64 C, .slice A len cap, .int .i64 row, .int .i64 col, .bool vis] 24)
  generalize hW : headB R C row col = W
  have HW := Lib.hid hW
  clear hW
  obtain ⟨vb, hvb⟩ : ∃ b, w.heap.size = b := ⟨_, rfl⟩
  go_enter Tryd.func55, Tryd.ntmps55
  go_upto_region 1 with fail
  simp only [hvb] at HC0 ⊢
  generalize (w.alloc (.cells #[.int .i64 R, .int .i64 C, .slice A len cap, .int .i64 row, .int .i64 col, .bool vis] 24)) = U at HB0 HC0 ⊢
  obtain ⟨x0, x1, x2, x3, x4, x5⟩ := six_cells HC0
  have HB := Lib.hid HB0
  clear HB0 HC0 hvb
  by_cases h0 : (1 : Int) ≤ R
  · have p0 : decide ((1 : Int) ≤ R) = true := by simpa using h0
    by_cases h1 : R ≤ 12
    · have p1 : decide (R ≤ 12) = true := by simpa using h1
      by_cases h2 : (1 : Int) ≤ C
      · have p2 : decide ((1 : Int) ≤ C) = true := by simpa using h2
        by_cases h3 : C ≤ 40
        · have p3 : decide (C ≤ 40) = true := by simpa using h3
          by_cases h4 : (0 : Int) ≤ row
          · have p4 : decide ((0 : Int) ≤ row) = true := by simpa using h4
            by_cases h5 : row < R
            · have p5 : decide (row < R) = true := by simpa using h5
              by_cases h6 : (0 : Int) ≤ col
              · have p6 : decide ((0 : Int) ≤ col) = true := by simpa using h6
                by_cases h7 : col < C
                · have p7 : decide (col < C) = true := by simpa using h7
                  have HV := Lib.hid (show W = true from by rw [← HW.out]; unfold headB; simp; omega)
                  clear h0 h1 h2 h3 h4 h5 h6 h7
                  go_wp2
                  go_ret
                  exact ⟨by rw [HV.out]; rfl, HB.out⟩
                · have p7 : decide (col < C) = false := by simpa using h7
                  have HV := Lib.hid (show W = false from by rw [← HW.out]; unfold headB; simp; omega)
                  clear h0 h1 h2 h3 h4 h5 h6 h7
                  go_wp2
                  go_ret
                  exact ⟨by rw [HV.out]; rfl, HB.out⟩
              · have p6 : decide ((0 : Int) ≤ col) = false := by simpa using h6
                have HV := Lib.hid (show W = false from by rw [← HW.out]; unfold headB; simp; omega)
                clear h0 h1 h2 h3 h4 h5 h6
                go_wp2
                go_ret
                exact ⟨by rw [HV.out]; rfl, HB.out⟩
            · have p5 : decide (row < R) = false := by simpa using h5
              have HV := Lib.hid (show W = false from by rw [← HW.out]; unfold headB; simp; omega)
              clear h0 h1 h2 h3 h4 h5
              go_wp2
              go_ret
              exact ⟨by rw [HV.out]; rfl, HB.out⟩
          · have p4 : decide ((0 : Int) ≤ row) = false := by simpa using h4
            have HV := Lib.hid (show W = false from by rw [← HW.out]; unfold headB; simp; omega)
            clear h0 h1 h2 h3 h4
            go_wp2
            go_ret
            exact ⟨by rw [HV.out]; rfl, HB.out⟩
        · have p3 : decide (C ≤ 40) = false := by simpa using h3
          have HV := Lib.hid (show W = false from by rw [← HW.out]; unfold headB; simp; omega)
          clear h0 h1 h2 h3
          go_wp2
          go_ret
          exact ⟨by rw [HV.out]; rfl, HB.out⟩
      · have p2 : decide ((1 : Int) ≤ C) = false := by simpa using h2
        have HV := Lib.hid (show W = false from by rw [← HW.out]; unfold headB; simp; omega)
        clear h0 h1 h2
        go_wp2
        go_ret
        exact ⟨by rw [HV.out]; rfl, HB.out⟩
    · have p1 : decide (R ≤ 12) = false := by simpa using h1
      have HV := Lib.hid (show W = false from by rw [← HW.out]; unfold headB; simp; omega)
      clear h0 h1
      go_wp2
      go_ret
      exact ⟨by rw [HV.out]; rfl, HB.out⟩
  · have p0 : decide ((1 : Int) ≤ R) = false := by simpa using h0
    have HV := Lib.hid (show W = false from by rw [← HW.out]; unfold headB; simp; omega)
    clear h0
    go_wp2
    go_ret
    exact ⟨by rw [HV.out]; rfl, HB.out⟩
theorem p_iscell (c : Ce) (ho : CeOk c) (w : World) : Calls Tryd.prog 56 #[cV c] w fun e w' => e = .returned (.bool (cellR c)) ∧ Below w.heap.size w w' := by
  have hz := fun W => p_right (stC c) W ho.good
  have hpv : pV (stC c) = .agg #[.int .u8 c.f, .int .u32 c.g, .int .u32 c.b] := by
    unfold stC pV; dsimp only; rw [flagsF_ofF 8 c.f ho.f.1 (by have := ho.f.2; omega)]
  rw [hpv] at hz
  obtain ⟨p, f, gg, bb⟩ := c
  obtain ⟨a, ha⟩ : ∃ a, isP p = a := ⟨_, rfl⟩
  obtain ⟨q, hq⟩ : ∃ a, rightS (stC ⟨p, f, gg, bb⟩) = a := ⟨_, rfl⟩
  have e : cellR ⟨p, f, gg, bb⟩ = (a && q) := by unfold cellR; rw [hq]; dsimp only; rw [ha]
  rw [hq] at hz
  dsimp only at hz
  have HZ := Lib.hid hz
  have HP := Lib.hid (fun W => ha ▸ p_is p W)
  rw [e]
  have HB0 := Lib.hid ((Below.refl w.heap.size w).alloc (Nat.le_refl _) (.cells #[.int .i32 p, .int .u8 f, .int .u32 gg, .int .u32 bb] 88))
  show Calls Tryd.prog 56 #[.agg #[.int .i32 p, .int .u8 f, .int .u32 gg, .int .u32 bb]] w _
  clear e ha hq hz hpv ho
  cases a
  · go_enter Tryd.func56, Tryd.ntmps56
    go_wp2_with fail
    refine (HP.out _).mono ?_
    rintro e wx ⟨rfl, rfl⟩
    go_wp2
    go_ret
    exact ⟨rfl, HB0.out⟩
  · go_enter Tryd.func56, Tryd.ntmps56
    go_wp2_with fail
    refine (HP.out _).mono ?_
    rintro e wx ⟨rfl, rfl⟩
    go_wp2_with fail
    refine (HZ.out _).mono ?_
    rintro e w1 ⟨rfl, b1⟩
    have HB1 := Lib.hid (HB0.out.trans (b1.mono HB0.out.size))
    clear b1
    go_wp2
    go_ret
    exact ⟨by simp, HB1.out⟩
set_option maxRecDepth 100000 in
set_option maxHeartbeats 8000000 in
theorem p_viewright {w : World} {A : Option Addr} {n cap : Nat} {L : List Ce} (h : CR w A L) (hl : L.length = n) (hm : n ≤ 9223372036854775807) (ho : ∀ c ∈ L, CeOk c) (R C row col : Int) (vis : Bool) : Calls Tryd.prog 26 #[vV R C A n cap row col vis] w fun e w' => e = .returned (.bool (rightW R C row col L)) ∧ Below w.heap.size w w' := by
  have HB0 := (Below.refl w.heap.size w).alloc (Nat.le_refl _) (.cells #[.int .i64 R, .int .i64 C, .slice A n cap, .int .i64 row, .int .i64 col, .bool vis] 24)
  have HC0 := heap_alloc_new w (.cells #[.int .i64 R, .int .i64 C, .slice A n cap, .int .i64 row, .int .i64 col, .bool vis] 24)
  have HH := Lib.hid (fun W => p_ishead R C row col A n cap vis W)
  have hr : rightW R C row col L = (headB R C row col && (decide ((n : Int) = R * C) && L.all cellR)) := by unfold rightW; rw [hl, Bool.and_assoc]
  rw [hr]
  obtain ⟨a, ha⟩ : ∃ a, headB R C row col = a := ⟨_, rfl⟩
  rw [ha] at HH ⊢
  obtain ⟨vb, hvb⟩ : ∃ b, w.heap.size = b := ⟨_, rfl⟩
  have HL := Lib.hid hl
  have HO := Lib.hid ho
  have HCR := Lib.hid (h.below HB0)
  have HA := Lib.hid ha
  clear hr hl h ho ha
  go_enter Tryd.func26, Tryd.ntmps26
  go_upto_region 1 with fail
  simp only [hvb] at HC0 ⊢
  generalize (w.alloc (.cells #[.int .i64 R, .int .i64 C, .slice A n cap, .int .i64 row, .int .i64 col, .bool vis] 24)) = U at HB0 HC0 HCR ⊢
  have HC := Lib.hid HC0
  have HB := Lib.hid HB0
  obtain ⟨x0, x1, x2, x3, x4, x5⟩ := six_cells HC0
  have HVB := Lib.hid hvb
  clear HB0 HC0 hvb
  go_wp2_with fail
  refine (HH.out _).mono ?_
  rintro e w1 ⟨rfl, b1⟩
  have HC1 := Lib.hid ((b1.block _ (lt_of_block HC.out)).trans HC.out)
  have HB1 := Lib.hid (HB.out.trans (b1.mono HB.out.size))
  have HCR1 := Lib.hid (HCR.out.below b1)
  clear b1 HH x0 x1 x2 x3 x4 x5 HC HB HCR
  obtain ⟨x0, x1, x2, x3, x4, x5⟩ := six_cells HC1.out
  cases a with
  | false =>
    go_wp2
    go_ret
    exact ⟨by simp, HB1.out⟩
  | true =>
    have hh : 1 ≤ R ∧ R ≤ 12 ∧ 1 ≤ C ∧ C ≤ 40 := by
      have := HA.out
      unfold headB at this
      simp at this
      omega
    obtain ⟨N, hN⟩ : ∃ N, R * C = N := ⟨_, rfl⟩
    have hN1 : 0 ≤ N ∧ N ≤ 480 := by
      have h1 := Int.mul_nonneg (show 0 ≤ R by omega) (show 0 ≤ C by omega)
      have h2 := Int.mul_le_mul hh.2.1 hh.2.2.2 (by omega) (by omega)
      omega
    have hw : IntKind.i64.wrap (R * C) = N := by rw [hN]; exact IntWalk.i64_in _ (by omega)
    by_cases hq : (n : Int) = N
    · have d0 : ((n : Int) != N) = false := by simpa using hq
      have HD := Lib.hid (show decide ((n : Int) = R * C) = true by rw [hN]; simpa using hq)
      have HNN := Lib.hid (show n ≤ 480 by omega)
      clear hh hN hN1 hq HA
      go_wp2
      go_loopw [22] (fun iv wr => ∃ i : Nat, iv = .int .i64 i ∧ i ≤ n ∧ Hid (Below w1.heap.size w1 wr ∧ ∀ k, k < i → cellR (ceAt L k) = true)) (fun iv _ => n - (intOf iv).toNat)
      case atStart => exact ⟨0, rfl, by omega, Lib.hid ⟨Below.refl _ _, fun k hk => absurd hk (by omega)⟩⟩
      case round =>
        obtain ⟨i, rfl, hi, HS⟩ := hrel
        by_cases hin : i < n
        · have e1 : decide ((i : Int) < (n : Int)) = true := by simp; omega
          have e1' : decide (i < n) = true := by simp; omega
          have g1 : (0 : Int) ≤ (i : Int) := by omega
          have g2 : (i : Int) < (n : Int) := by omega
          have wr1 : IntKind.i64.wrap ((i : Int) + 1) = (i : Int) + 1 := IntWalk.i64_in _ (by omega)
          obtain ⟨b, off, rfl, hbl, hcs⟩ := HCR1.out (by rw [HL.out]; omega)
          have hcel := hcs i (by rw [HL.out]; omega)
          have hcok := HO.out (ceAt L i) (ceAt_mem (by rw [HL.out]; omega))
          obtain ⟨⟨p, f, gg, bb⟩, hce⟩ : ∃ c, ceAt L i = c := ⟨_, rfl⟩
          rw [hce] at hcel hcok
          obtain ⟨k0, k1, k2, k3⟩ := ce_four (fun j v hv => (HS.out.1.cell (p := ⟨b, off + i * 4 + j, none⟩) hbl).trans (hcel j v hv))
          have HIS := Lib.hid (fun W => p_iscell ⟨p, f, gg, bb⟩ hcok W)
          have HCE := Lib.hid hce
          have HIN := Lib.hid hin
          have HBW := Lib.hid ((Below.refl wr.heap.size wr).alloc (Nat.le_refl _) (.cells #[.int .i32 p, .int .u8 f, .int .u32 gg, .int .u32 bb] 88))
          clear hi hin hbl hcs hcel hcok hce
          unfold cV at HIS
          go_wp2_with fail
          refine (HIS.out _).mono ?_
          rintro e w2 ⟨rfl, b2⟩
          have HB2 := Lib.hid (HBW.out.trans (b2.mono HBW.out.size))
          have HE := Lib.hid (HS.out.1.trans (HB2.out.mono HS.out.1.size))
          clear b2 HBW k0 k1 k2 k3
          cases hc : cellR ⟨p, f, gg, bb⟩ with
          | false =>
            have HV := Lib.hid (show L.all cellR = false from by
              rw [List.all_eq_false]
              exact ⟨ceAt L i, ceAt_mem (by rw [HL.out]; exact HIN.out), by rw [HCE.out, hc]; decide⟩)
            have HBF := Lib.hid (HB1.out.trans (HE.out.mono HB1.out.size))
            go_wp2
            go_ret
            exact ⟨by rw [HD.out, HV.out]; rfl, HBF.out⟩
          | true =>
            have HK := Lib.hid (show Below w1.heap.size w1 w2 ∧ ∀ k, k < i + 1 → cellR (ceAt L k) = true from ⟨HE.out, fun k hk => by
              rcases Nat.lt_or_ge k i with h' | h'
              · exact HS.out.2 k h'
              · obtain rfl : k = i := by omega
                rw [HCE.out]; exact hc⟩)
            clear HS HE HCE
            go_wp2
            go_roundw
            case rel => exact ⟨i + 1, by go_num, by have := HIN.out; omega, HK⟩
            case measure => have := HIN.out; simp [intOf]; omega
        · have e1 : decide ((i : Int) < (n : Int)) = false := by simp; omega
          have e1' : decide (i < n) = false := by simp; omega
          have HV := Lib.hid (show L.all cellR = true from by
            rw [List.all_eq_true]
            intro c hc
            obtain ⟨k, hk, rfl⟩ := List.getElem_of_mem hc
            have := HS.out.2 k (by have := HL.out; omega)
            rwa [show ceAt L k = L[k] by simp [ceAt, List.getD, hk]] at this)
          have HBF := Lib.hid (HB1.out.trans (HS.out.1.mono HB1.out.size))
          clear hi hin
          go_wp2
          go_ret
          exact ⟨by rw [HD.out, HV.out]; rfl, HBF.out⟩
    · have d0 : ((n : Int) != N) = true := by simpa using hq
      have HD := Lib.hid (show decide ((n : Int) = R * C) = false by rw [hN]; simpa using hq)
      clear hh hN hN1 hq HA
      go_wp2
      go_ret
      exact ⟨by rw [HD.out]; rfl, HB1.out⟩
end Go.Proofs.YtjihcpnaebghnaaDoor
