/-
  Proved here: of the document's grids: Move.
-/
import Derived.Test.YtahmnipcdkcpiaaHd
set_option linter.unusedSimpArgs false
set_option linter.unusedVariables false
namespace Go.Proofs.Ytahmnipcdkcpiaa
open Go.RowKit
set_option maxRecDepth 100000 in
set_option maxHeartbeats 16000000 in
theorem rmove_any {R C b n cap : Nat} {L : List Ce} {w : World} (h : YR w b L) (hn : L.length = n) (hn1 : 1 ≤ n) (hm : n ≤ 1000) (hC1 : 1 ≤ C) (hC : C ≤ 1000) (hRC : R * C = n) {t d : Nat} (hd : d < R) {bz : Int} (hbz : -60 ≤ bz ∧ bz ≤ 60) (c : Ce) : Calls Try.prog 35 #[XV R C b n cap, .int .i64 t, .int .i64 d, .int .i64 bz, yV c] w (XPost w R C n (genL n (dmoveF C L t d bz c)) (fun x => x)) := by
  obtain ⟨cp, c0, c1, c2, c3, c4, c5, c6, c7, cg, cb, hc⟩ := yC_form c
  have HU0 := Bx.new w R C (.slice (some ⟨b, 0, none⟩) n cap) c _ (congrArg List.toArray hc).symm
  have hyv : yV c = .agg #[.int .i32 cp, .bool c0, .bool c1, .bool c2, .bool c3, .bool c4, .bool c5, .bool c6, .bool c7, .int .u32 cg, .int .u32 cb] := by unfold yV; rw [hc]
  rw [hyv]
  have Hc := Lib.hid (fun (_ : Unit) => hc)
  have hC0 : ¬ (C : Int) = 0 := by omega
  have hC0' : ¬ C = 0 := by omega
  have hC0'' : ((C : Int) == 0) = false := by simp; omega
  have HN := Lib.hid hn
  clear hc hyv hn
  go_enter Try.func35, Try.ntmps35
  go_upto_region 1 with fail
  generalize (((w.alloc (.cells #[.int .i64 R, .int .i64 C, .slice (some ⟨b, 0, none⟩) n cap] 29)).alloc (.cells #[.int .i32 cp, .bool c0, .bool c1, .bool c2, .bool c3, .bool c4, .bool c5, .bool c6, .bool c7, .int .u32 cg, .int .u32 cb] 49)).alloc (.cells #[.int .i64 0, .int .i64 0, .slice none 0 0] 29)) = U at HU0 ⊢
  have hYU := h.below HU0.b
  have HU := Lib.hid HU0
  obtain ⟨x0, x1, x2⟩ := HU0.three
  clear HU0 h
  have HX := HU
  have HY := Lib.hid hYU
  clear HU hYU
  go_wp2
  go_loopw [11, 12] (fun lv iv wr => ∃ (i : Nat) (v : Value), lv = v ∧ iv = .int .i64 i ∧ i ≤ n ∧ Hid (FL U (genL i (dmoveF C L t d bz c)) v wr)) (fun _ iv _ => n - (intOf iv).toNat)
  case atStart => exact ⟨0, _, rfl, rfl, by omega, Lib.hid (FL.nil _)⟩
  case round =>
    obtain ⟨i, v, rfl, rfl, hi, HS⟩ := hrel
    clear x0 x1 x2
    have HXR := Lib.hid (HX.out.next HS.out.below)
    obtain ⟨z0, z1, z2⟩ := HXR.out.three
    by_cases hin : i < n
    · have d5 : decide ((i : Int) < (n : Int)) = true := by simp; omega
      have e5 : decide (i < n) = true := by simp; omega
      have g1 : (0 : Int) ≤ (i : Int) := by omega
      have g2 : (i : Int) < (n : Int) := by omega
      have w1 : IntKind.i64.wrap ((i : Int) + 1) = (i : Int) + 1 := IntWalk.i64_in _ (by omega)
      obtain ⟨xp, x0, x1, x2, x3, x4, x5, x6, x7, xg, xb, hx⟩ := yC_form (ceAt L i)
      obtain ⟨y0, y1, y2, y3, y4, y5, y6, y7, y8, y9, y10⟩ := ((HY.out.below HS.out.below)).eleven (k := i) (by rw [HN.out]; exact hin) hx
      have Hx := Lib.hid (fun (_ : Unit) => hx)
      obtain ⟨a, ha⟩ : ∃ a, i / C = a := ⟨_, rfl⟩
      obtain ⟨r, hr0⟩ : ∃ a, i % C = a := ⟨_, rfl⟩
      have t1 : (i : Int).tdiv (C : Int) = (a : Int) := by rw [tdiv_nat, ha]
      have t2 : (i : Int).tmod (C : Int) = (r : Int) := by rw [tmod_nat, hr0]
      have hale : a ≤ i := by rw [← ha]; exact Nat.div_le_self _ _
      have hrlt : r < C := by rw [← hr0]; exact Nat.mod_lt _ hC1
      have t3 : IntKind.i64.wrap (a : Int) = (a : Int) := IntWalk.i64_in _ (by omega)
      have t4 : IntKind.i64.wrap (r : Int) = (r : Int) := IntWalk.i64_in _ (by omega)
      clear hx
      by_cases cc6 : t ≤ a
      · have p1ta : decide (t ≤ a) = true := by simp; omega
        have p2ta : decide (a ≥ t) = true := by simp; omega
        have p3ta : decide ((t : Int) ≤ (a : Int)) = true := by simp; omega
        have p4ta : decide ((a : Int) ≥ (t : Int)) = true := by simp; omega
        by_cases cc8 : a ≤ d
        · have p1ad : decide (a ≤ d) = true := by simp; omega
          have p2ad : decide (d ≥ a) = true := by simp; omega
          have p3ad : decide ((a : Int) ≤ (d : Int)) = true := by simp; omega
          have p4ad : decide ((d : Int) ≥ (a : Int)) = true := by simp; omega
          by_cases cc10 : -20 ≤ bz
          · have p1x : decide (-20 ≤ bz) = true := by simp; omega
            have p2x : decide (bz ≥ -20) = true := by simp; omega
            by_cases cc12 : bz ≤ 20
            · have p1y : decide (bz ≤ 20) = true := by simp; omega
              have p2y : decide (20 ≥ bz) = true := by simp; omega
              obtain ⟨q, hq⟩ : ∃ q, (a : Int) + bz = q := ⟨_, rfl⟩
              have t7 : IntKind.i64.wrap ((a : Int) + bz) = q := by rw [hq]; exact IntWalk.i64_in _ (by omega)
              have Hq := Lib.hid hq
              by_cases cc14 : (t : Int) ≤ q
              · have p1z : decide ((t : Int) ≤ q) = true := by simp; omega
                have p2z : decide (q ≥ (t : Int)) = true := by simp; omega
                by_cases cc16 : q ≤ (d : Int)
                · have p1w : decide (q ≤ (d : Int)) = true := by simp; omega
                  have p2w : decide ((d : Int) ≥ q) = true := by simp; omega
                  obtain ⟨s, rfl⟩ : ∃ s : Nat, q = s := ⟨q.toNat, by omega⟩
                  have r1 : decide (t ≤ s) = true := by simp; omega
                  have r2 : decide (s ≥ t) = true := by simp; omega
                  have r3 : decide (s ≤ d) = true := by simp; omega
                  have hsk : s * C + r < n := by
                    have h1 := row_lt C (show s < R by omega)
                    omega
                  have HFE : Hid ((fun (_ : Unit) => (dmoveF C L t d bz c) i) = fun _ => ceAt L (s * C + r)) := Lib.hid (by funext _; unfold dmoveF; rw [ha, hr0, if_pos (by omega), if_pos (by omega), show ((a : Int) + bz).toNat = s by omega])
                  clear ha hr0 hale hrlt; try clear hq cc6 cc8 cc10 cc12 cc14 cc16
                  obtain ⟨mp, m0, m1, m2, m3, m4, m5, m6, m7, mg, mb, hmm⟩ := yC_form (ceAt L (s * C + r))
                  have Hm := Lib.hid (fun (_ : Unit) => hmm)
                  have HAT : Hid (Calls Try.prog 14 #[.agg #[.int .i64 R, .int .i64 C, .slice (some ⟨b, 0, none⟩) n cap], .int .i64 s, .int .i64 r] (wr.alloc (.cells #[.int .i32 cp, .bool c0, .bool c1, .bool c2, .bool c3, .bool c4, .bool c5, .bool c6, .bool c7, .int .u32 cg, .int .u32 cb] 49)).drew fun e w' => e = .returned (.agg #[.int .i32 mp, .bool m0, .bool m1, .bool m2, .bool m3, .bool m4, .bool m5, .bool m6, .bool m7, .int .u32 mg, .int .u32 mb]) ∧ Below (wr.alloc (.cells #[.int .i32 cp, .bool c0, .bool c1, .bool c2, .bool c3, .bool c4, .bool c5, .bool c6, .bool c7, .int .u32 cg, .int .u32 cb] 49)).drew.heap.size (wr.alloc (.cells #[.int .i32 cp, .bool c0, .bool c1, .bool c2, .bool c3, .bool c4, .bool c5, .bool c6, .bool c7, .int .u32 cg, .int .u32 cb] 49)).drew w') := Lib.hid (by
                    have hz := rat_any (R := R) (cap := cap) ((HY.out.below HS.out.below).below (((Below.refl wr.heap.size wr).alloc (Nat.le_refl _) (.cells #[.int .i32 cp, .bool c0, .bool c1, .bool c2, .bool c3, .bool c4, .bool c5, .bool c6, .bool c7, .int .u32 cg, .int .u32 cb] 49)).drew)) HN.out hm (i := s) (j := r) (o := s * C) (k := s * C + r) rfl rfl hsk hC (c := ceAt L (s * C + r)) rfl
                    rwa [show yV (ceAt L (s * C + r)) = .agg #[.int .i32 mp, .bool m0, .bool m1, .bool m2, .bool m3, .bool m4, .bool m5, .bool m6, .bool m7, .int .u32 mg, .int .u32 mb] from by unfold yV; rw [hmm]] at hz)
                  clear hmm hsk
                  have hb1 := (Below.refl wr.heap.size wr).alloc (Nat.le_refl _) (.cells #[.int .i32 xp, .bool x0, .bool x1, .bool x2, .bool x3, .bool x4, .bool x5, .bool x6, .bool x7, .int .u32 xg, .int .u32 xb] 49)
                  obtain ⟨q0, q1, q2⟩ := (HXR.out.next hb1).three
                  have hcc := (HXR.out.next hb1).c
                  rw [Hc.out ()] at hcc
                  obtain ⟨k0, k1, k2, k3, k4, k5, k6, k7, k8, k9, k10⟩ := cells11 hcc
                  clear hcc hb1
                  obtain ⟨qc0, qc1, qc2⟩ := (HXR.out.next ((Below.refl wr.heap.size wr).alloc (Nat.le_refl _) (.cells #[.int .i32 cp, .bool c0, .bool c1, .bool c2, .bool c3, .bool c4, .bool c5, .bool c6, .bool c7, .int .u32 cg, .int .u32 cb] 49))).three
                  go_wp2
                  go_region
                  go_wp2_with fail
                  refine HAT.out.mono ?_
                  rintro e w6 ⟨rfl, hb6⟩
                  have HX6 := Lib.hid ((hb6.block wr.heap.size (show wr.heap.size < (wr.alloc _).heap.size by simp)).trans (show (wr.alloc (.cells #[.int .i32 cp, .bool c0, .bool c1, .bool c2, .bool c3, .bool c4, .bool c5, .bool c6, .bool c7, .int .u32 cg, .int .u32 cb] 49)).heap[wr.heap.size]? = _ from heap_alloc_new wr _))
                  have HB6 := Lib.hid (((Below.refl wr.heap.size wr).alloc (Nat.le_refl _) (.cells #[.int .i32 cp, .bool c0, .bool c1, .bool c2, .bool c3, .bool c4, .bool c5, .bool c6, .bool c7, .int .u32 cg, .int .u32 cb] 49)).drew.trans (hb6.mono (show wr.heap.size ≤ (wr.alloc _).heap.size by simp)))
                  clear hb6
                  go_wp2_with (first | (refine wpList_store_row rfl 49 (.tmp 15) (.tmp 70) rfl wr.heap.size #[.int .i32 mp, .bool m0, .bool m1, .bool m2, .bool m3, .bool m4, .bool m5, .bool m6, .bool m7, .int .u32 mg, .int .u32 mb] rfl rfl 49 _ HX6.out info_yc rfl (by simp [Value.oneCell']) ?_; have hx2 : (w6.setRow wr.heap.size #[.int .i32 mp, .bool m0, .bool m1, .bool m2, .bool m3, .bool m4, .bool m5, .bool m6, .bool m7, .int .u32 mg, .int .u32 mb]).heap[wr.heap.size]? = some (.cells #[.int .i32 mp, .bool m0, .bool m1, .bool m2, .bool m3, .bool m4, .bool m5, .bool m6, .bool m7, .int .u32 mg, .int .u32 mb] 49 (0, 0)) := setRow_heap _ _ _ _ _ _ HX6.out; have hb2 := below_setRow HB6.out (Nat.le_refl _) #[.int .i32 mp, .bool m0, .bool m1, .bool m2, .bool m3, .bool m4, .bool m5, .bool m6, .bool m7, .int .u32 mg, .int .u32 mb]; generalize (w6.setRow wr.heap.size #[.int .i32 mp, .bool m0, .bool m1, .bool m2, .bool m3, .bool m4, .bool m5, .bool m6, .bool m7, .int .u32 mg, .int .u32 mb]) = V2 at hx2 hb2 ⊢; obtain ⟨y0, y1, y2, y3, y4, y5, y6, y7, y8, y9, y10⟩ := cells11 hx2; have hbt := (Below.refl V2.heap.size V2).alloc (Nat.le_refl _) (.cells #[.int .i32 mp, .bool m0, .bool m1, .bool m2, .bool m3, .bool m4, .bool m5, .bool m6, .bool m7, .int .u32 mg, .int .u32 mb] 49); obtain ⟨v2, W2, hr, H2⟩ := ((HS.out.next hb2).next hbt).app (by rw [genL_len]; omega) (fb := V2.heap.size) (c := (ceAt L (s * C + r))) (by rw [Hm.out ()]; exact heap_alloc_new _ _); have HS2 := Lib.hid H2; clear H2 hbt hx2 hb2) | (at_builtin; refine wpList_appY rfl (.tmp 71) (.tmp 73) _ rfl _ _ rfl rfl hr ?_))
                  go_roundw
                  case rel => exact ⟨i + 1, v2, rfl, by go_num, by omega, Lib.hid (by rw [genL_succ, congrFun HFE.out ()]; exact HS2.out)⟩
                  case measure => simp [intOf]; omega
                · have p1w : decide (q ≤ (d : Int)) = false := by simp; omega
                  have p2w : decide ((d : Int) ≥ q) = false := by simp; omega
                  have HFE : Hid ((fun (_ : Unit) => (dmoveF C L t d bz c) i) = fun _ => c) := Lib.hid (by funext _; unfold dmoveF; rw [ha, hr0, if_pos (by omega)]; exact if_neg (by omega))
                  clear ha hr0 hale hrlt; try clear hq cc6 cc8 cc10 cc12 cc14 cc16
                  have hb1 := (Below.refl wr.heap.size wr).alloc (Nat.le_refl _) (.cells #[.int .i32 xp, .bool x0, .bool x1, .bool x2, .bool x3, .bool x4, .bool x5, .bool x6, .bool x7, .int .u32 xg, .int .u32 xb] 49)
                  obtain ⟨q0, q1, q2⟩ := (HXR.out.next hb1).three
                  have hcc := (HXR.out.next hb1).c
                  rw [Hc.out ()] at hcc
                  obtain ⟨k0, k1, k2, k3, k4, k5, k6, k7, k8, k9, k10⟩ := cells11 hcc
                  clear hcc hb1
                  obtain ⟨v2, W2, hr, H2⟩ := (HS.out.next (((((Below.refl wr.heap.size wr).alloc (Nat.le_refl _) (.cells #[.int .i32 cp, .bool c0, .bool c1, .bool c2, .bool c3, .bool c4, .bool c5, .bool c6, .bool c7, .int .u32 cg, .int .u32 cb] 49)).alloc (by simp) (.cells #[.int .i32 cp, .bool c0, .bool c1, .bool c2, .bool c3, .bool c4, .bool c5, .bool c6, .bool c7, .int .u32 cg, .int .u32 cb] 49))).drew)).app (by rw [genL_len]; omega) (fb := wr.heap.size + 1) (c := c) (by rw [Hc.out ()]; exact (show ((wr.alloc (.cells #[.int .i32 cp, .bool c0, .bool c1, .bool c2, .bool c3, .bool c4, .bool c5, .bool c6, .bool c7, .int .u32 cg, .int .u32 cb] 49)).alloc (.cells #[.int .i32 cp, .bool c0, .bool c1, .bool c2, .bool c3, .bool c4, .bool c5, .bool c6, .bool c7, .int .u32 cg, .int .u32 cb] 49)).heap[wr.heap.size + 1]? = _ from by rw [show wr.heap.size + 1 = (wr.alloc (.cells #[.int .i32 cp, .bool c0, .bool c1, .bool c2, .bool c3, .bool c4, .bool c5, .bool c6, .bool c7, .int .u32 cg, .int .u32 cb] 49)).heap.size by simp]; exact heap_alloc_new _ _))
                  have HS2 := Lib.hid H2
                  clear H2
                  go_wp2
                  go_region
                  go_wp2_with (first | (at_builtin; refine wpList_appY rfl (.tmp 71) (.tmp 73) _ rfl _ _ rfl rfl hr ?_))
                  go_roundw
                  case rel => exact ⟨i + 1, v2, rfl, by go_num, by omega, Lib.hid (by rw [genL_succ, congrFun HFE.out ()]; exact HS2.out)⟩
                  case measure => simp [intOf]; omega
              · have p1z : decide ((t : Int) ≤ q) = false := by simp; omega
                have p2z : decide (q ≥ (t : Int)) = false := by simp; omega
                have HFE : Hid ((fun (_ : Unit) => (dmoveF C L t d bz c) i) = fun _ => c) := Lib.hid (by funext _; unfold dmoveF; rw [ha, hr0, if_pos (by omega)]; exact if_neg (by omega))
                clear ha hr0 hale hrlt; try clear hq cc6 cc8 cc10 cc12 cc14
                have hb1 := (Below.refl wr.heap.size wr).alloc (Nat.le_refl _) (.cells #[.int .i32 xp, .bool x0, .bool x1, .bool x2, .bool x3, .bool x4, .bool x5, .bool x6, .bool x7, .int .u32 xg, .int .u32 xb] 49)
                obtain ⟨q0, q1, q2⟩ := (HXR.out.next hb1).three
                have hcc := (HXR.out.next hb1).c
                rw [Hc.out ()] at hcc
                obtain ⟨k0, k1, k2, k3, k4, k5, k6, k7, k8, k9, k10⟩ := cells11 hcc
                clear hcc hb1
                obtain ⟨v2, W2, hr, H2⟩ := (HS.out.next (((((Below.refl wr.heap.size wr).alloc (Nat.le_refl _) (.cells #[.int .i32 cp, .bool c0, .bool c1, .bool c2, .bool c3, .bool c4, .bool c5, .bool c6, .bool c7, .int .u32 cg, .int .u32 cb] 49)).alloc (by simp) (.cells #[.int .i32 cp, .bool c0, .bool c1, .bool c2, .bool c3, .bool c4, .bool c5, .bool c6, .bool c7, .int .u32 cg, .int .u32 cb] 49))).drew)).app (by rw [genL_len]; omega) (fb := wr.heap.size + 1) (c := c) (by rw [Hc.out ()]; exact (show ((wr.alloc (.cells #[.int .i32 cp, .bool c0, .bool c1, .bool c2, .bool c3, .bool c4, .bool c5, .bool c6, .bool c7, .int .u32 cg, .int .u32 cb] 49)).alloc (.cells #[.int .i32 cp, .bool c0, .bool c1, .bool c2, .bool c3, .bool c4, .bool c5, .bool c6, .bool c7, .int .u32 cg, .int .u32 cb] 49)).heap[wr.heap.size + 1]? = _ from by rw [show wr.heap.size + 1 = (wr.alloc (.cells #[.int .i32 cp, .bool c0, .bool c1, .bool c2, .bool c3, .bool c4, .bool c5, .bool c6, .bool c7, .int .u32 cg, .int .u32 cb] 49)).heap.size by simp]; exact heap_alloc_new _ _))
                have HS2 := Lib.hid H2
                clear H2
                go_wp2
                go_region
                go_wp2_with (first | (at_builtin; refine wpList_appY rfl (.tmp 71) (.tmp 73) _ rfl _ _ rfl rfl hr ?_))
                go_roundw
                case rel => exact ⟨i + 1, v2, rfl, by go_num, by omega, Lib.hid (by rw [genL_succ, congrFun HFE.out ()]; exact HS2.out)⟩
                case measure => simp [intOf]; omega
            · have p1y : decide (bz ≤ 20) = false := by simp; omega
              have p2y : decide (20 ≥ bz) = false := by simp; omega
              have HFE : Hid ((fun (_ : Unit) => (dmoveF C L t d bz c) i) = fun _ => c) := Lib.hid (by funext _; unfold dmoveF; rw [ha, hr0, if_pos (by omega)]; exact if_neg (by omega))
              clear ha hr0 hale hrlt; try clear hq cc6 cc8 cc10 cc12
              have hb1 := (Below.refl wr.heap.size wr).alloc (Nat.le_refl _) (.cells #[.int .i32 xp, .bool x0, .bool x1, .bool x2, .bool x3, .bool x4, .bool x5, .bool x6, .bool x7, .int .u32 xg, .int .u32 xb] 49)
              obtain ⟨q0, q1, q2⟩ := (HXR.out.next hb1).three
              have hcc := (HXR.out.next hb1).c
              rw [Hc.out ()] at hcc
              obtain ⟨k0, k1, k2, k3, k4, k5, k6, k7, k8, k9, k10⟩ := cells11 hcc
              clear hcc hb1
              obtain ⟨v2, W2, hr, H2⟩ := (HS.out.next (((((Below.refl wr.heap.size wr).alloc (Nat.le_refl _) (.cells #[.int .i32 cp, .bool c0, .bool c1, .bool c2, .bool c3, .bool c4, .bool c5, .bool c6, .bool c7, .int .u32 cg, .int .u32 cb] 49)).alloc (by simp) (.cells #[.int .i32 cp, .bool c0, .bool c1, .bool c2, .bool c3, .bool c4, .bool c5, .bool c6, .bool c7, .int .u32 cg, .int .u32 cb] 49))).drew)).app (by rw [genL_len]; omega) (fb := wr.heap.size + 1) (c := c) (by rw [Hc.out ()]; exact (show ((wr.alloc (.cells #[.int .i32 cp, .bool c0, .bool c1, .bool c2, .bool c3, .bool c4, .bool c5, .bool c6, .bool c7, .int .u32 cg, .int .u32 cb] 49)).alloc (.cells #[.int .i32 cp, .bool c0, .bool c1, .bool c2, .bool c3, .bool c4, .bool c5, .bool c6, .bool c7, .int .u32 cg, .int .u32 cb] 49)).heap[wr.heap.size + 1]? = _ from by rw [show wr.heap.size + 1 = (wr.alloc (.cells #[.int .i32 cp, .bool c0, .bool c1, .bool c2, .bool c3, .bool c4, .bool c5, .bool c6, .bool c7, .int .u32 cg, .int .u32 cb] 49)).heap.size by simp]; exact heap_alloc_new _ _))
              have HS2 := Lib.hid H2
              clear H2
              go_wp2
              go_region
              go_wp2_with (first | (at_builtin; refine wpList_appY rfl (.tmp 71) (.tmp 73) _ rfl _ _ rfl rfl hr ?_))
              go_roundw
              case rel => exact ⟨i + 1, v2, rfl, by go_num, by omega, Lib.hid (by rw [genL_succ, congrFun HFE.out ()]; exact HS2.out)⟩
              case measure => simp [intOf]; omega
          · have p1x : decide (-20 ≤ bz) = false := by simp; omega
            have p2x : decide (bz ≥ -20) = false := by simp; omega
            have HFE : Hid ((fun (_ : Unit) => (dmoveF C L t d bz c) i) = fun _ => c) := Lib.hid (by funext _; unfold dmoveF; rw [ha, hr0, if_pos (by omega)]; exact if_neg (by omega))
            clear ha hr0 hale hrlt; try clear hq cc6 cc8 cc10
            have hb1 := (Below.refl wr.heap.size wr).alloc (Nat.le_refl _) (.cells #[.int .i32 xp, .bool x0, .bool x1, .bool x2, .bool x3, .bool x4, .bool x5, .bool x6, .bool x7, .int .u32 xg, .int .u32 xb] 49)
            obtain ⟨q0, q1, q2⟩ := (HXR.out.next hb1).three
            have hcc := (HXR.out.next hb1).c
            rw [Hc.out ()] at hcc
            obtain ⟨k0, k1, k2, k3, k4, k5, k6, k7, k8, k9, k10⟩ := cells11 hcc
            clear hcc hb1
            obtain ⟨v2, W2, hr, H2⟩ := (HS.out.next (((((Below.refl wr.heap.size wr).alloc (Nat.le_refl _) (.cells #[.int .i32 cp, .bool c0, .bool c1, .bool c2, .bool c3, .bool c4, .bool c5, .bool c6, .bool c7, .int .u32 cg, .int .u32 cb] 49)).alloc (by simp) (.cells #[.int .i32 cp, .bool c0, .bool c1, .bool c2, .bool c3, .bool c4, .bool c5, .bool c6, .bool c7, .int .u32 cg, .int .u32 cb] 49))).drew)).app (by rw [genL_len]; omega) (fb := wr.heap.size + 1) (c := c) (by rw [Hc.out ()]; exact (show ((wr.alloc (.cells #[.int .i32 cp, .bool c0, .bool c1, .bool c2, .bool c3, .bool c4, .bool c5, .bool c6, .bool c7, .int .u32 cg, .int .u32 cb] 49)).alloc (.cells #[.int .i32 cp, .bool c0, .bool c1, .bool c2, .bool c3, .bool c4, .bool c5, .bool c6, .bool c7, .int .u32 cg, .int .u32 cb] 49)).heap[wr.heap.size + 1]? = _ from by rw [show wr.heap.size + 1 = (wr.alloc (.cells #[.int .i32 cp, .bool c0, .bool c1, .bool c2, .bool c3, .bool c4, .bool c5, .bool c6, .bool c7, .int .u32 cg, .int .u32 cb] 49)).heap.size by simp]; exact heap_alloc_new _ _))
            have HS2 := Lib.hid H2
            clear H2
            go_wp2
            go_region
            go_wp2_with (first | (at_builtin; refine wpList_appY rfl (.tmp 71) (.tmp 73) _ rfl _ _ rfl rfl hr ?_))
            go_roundw
            case rel => exact ⟨i + 1, v2, rfl, by go_num, by omega, Lib.hid (by rw [genL_succ, congrFun HFE.out ()]; exact HS2.out)⟩
            case measure => simp [intOf]; omega
        · have p1ad : decide (a ≤ d) = false := by simp; omega
          have p2ad : decide (d ≥ a) = false := by simp; omega
          have p3ad : decide ((a : Int) ≤ (d : Int)) = false := by simp; omega
          have p4ad : decide ((d : Int) ≥ (a : Int)) = false := by simp; omega
          have HFE : Hid ((fun (_ : Unit) => (dmoveF C L t d bz c) i) = fun _ => ceAt L i) := Lib.hid (by funext _; unfold dmoveF; rw [ha, hr0]; exact if_neg (by omega))
          clear ha hr0 hale hrlt; try clear hq cc6 cc8
          have hb1 := (Below.refl wr.heap.size wr).alloc (Nat.le_refl _) (.cells #[.int .i32 xp, .bool x0, .bool x1, .bool x2, .bool x3, .bool x4, .bool x5, .bool x6, .bool x7, .int .u32 xg, .int .u32 xb] 49)
          obtain ⟨q0, q1, q2⟩ := (HXR.out.next hb1).three
          have hcc := (HXR.out.next hb1).c
          rw [Hc.out ()] at hcc
          obtain ⟨k0, k1, k2, k3, k4, k5, k6, k7, k8, k9, k10⟩ := cells11 hcc
          clear hcc hb1
          obtain ⟨v2, W2, hr, H2⟩ := (HS.out.next (((((Below.refl wr.heap.size wr).alloc (Nat.le_refl _) (.cells #[.int .i32 xp, .bool x0, .bool x1, .bool x2, .bool x3, .bool x4, .bool x5, .bool x6, .bool x7, .int .u32 xg, .int .u32 xb] 49)).alloc (by simp) (.cells #[.int .i32 xp, .bool x0, .bool x1, .bool x2, .bool x3, .bool x4, .bool x5, .bool x6, .bool x7, .int .u32 xg, .int .u32 xb] 49))).drew)).app (by rw [genL_len]; omega) (fb := wr.heap.size + 1) (c := (ceAt L i)) (by rw [Hx.out ()]; exact (show ((wr.alloc (.cells #[.int .i32 xp, .bool x0, .bool x1, .bool x2, .bool x3, .bool x4, .bool x5, .bool x6, .bool x7, .int .u32 xg, .int .u32 xb] 49)).alloc (.cells #[.int .i32 xp, .bool x0, .bool x1, .bool x2, .bool x3, .bool x4, .bool x5, .bool x6, .bool x7, .int .u32 xg, .int .u32 xb] 49)).heap[wr.heap.size + 1]? = _ from by rw [show wr.heap.size + 1 = (wr.alloc (.cells #[.int .i32 xp, .bool x0, .bool x1, .bool x2, .bool x3, .bool x4, .bool x5, .bool x6, .bool x7, .int .u32 xg, .int .u32 xb] 49)).heap.size by simp]; exact heap_alloc_new _ _))
          have HS2 := Lib.hid H2
          clear H2
          go_wp2
          go_region
          go_wp2_with (first | (at_builtin; refine wpList_appY rfl (.tmp 71) (.tmp 73) _ rfl _ _ rfl rfl hr ?_))
          go_roundw
          case rel => exact ⟨i + 1, v2, rfl, by go_num, by omega, Lib.hid (by rw [genL_succ, congrFun HFE.out ()]; exact HS2.out)⟩
          case measure => simp [intOf]; omega
      · have p1ta : decide (t ≤ a) = false := by simp; omega
        have p2ta : decide (a ≥ t) = false := by simp; omega
        have p3ta : decide ((t : Int) ≤ (a : Int)) = false := by simp; omega
        have p4ta : decide ((a : Int) ≥ (t : Int)) = false := by simp; omega
        have HFE : Hid ((fun (_ : Unit) => (dmoveF C L t d bz c) i) = fun _ => ceAt L i) := Lib.hid (by funext _; unfold dmoveF; rw [ha, hr0]; exact if_neg (by omega))
        clear ha hr0 hale hrlt; try clear hq cc6
        have hb1 := (Below.refl wr.heap.size wr).alloc (Nat.le_refl _) (.cells #[.int .i32 xp, .bool x0, .bool x1, .bool x2, .bool x3, .bool x4, .bool x5, .bool x6, .bool x7, .int .u32 xg, .int .u32 xb] 49)
        obtain ⟨q0, q1, q2⟩ := (HXR.out.next hb1).three
        have hcc := (HXR.out.next hb1).c
        rw [Hc.out ()] at hcc
        obtain ⟨k0, k1, k2, k3, k4, k5, k6, k7, k8, k9, k10⟩ := cells11 hcc
        clear hcc hb1
        obtain ⟨v2, W2, hr, H2⟩ := (HS.out.next (((((Below.refl wr.heap.size wr).alloc (Nat.le_refl _) (.cells #[.int .i32 xp, .bool x0, .bool x1, .bool x2, .bool x3, .bool x4, .bool x5, .bool x6, .bool x7, .int .u32 xg, .int .u32 xb] 49)).alloc (by simp) (.cells #[.int .i32 xp, .bool x0, .bool x1, .bool x2, .bool x3, .bool x4, .bool x5, .bool x6, .bool x7, .int .u32 xg, .int .u32 xb] 49))).drew)).app (by rw [genL_len]; omega) (fb := wr.heap.size + 1) (c := (ceAt L i)) (by rw [Hx.out ()]; exact (show ((wr.alloc (.cells #[.int .i32 xp, .bool x0, .bool x1, .bool x2, .bool x3, .bool x4, .bool x5, .bool x6, .bool x7, .int .u32 xg, .int .u32 xb] 49)).alloc (.cells #[.int .i32 xp, .bool x0, .bool x1, .bool x2, .bool x3, .bool x4, .bool x5, .bool x6, .bool x7, .int .u32 xg, .int .u32 xb] 49)).heap[wr.heap.size + 1]? = _ from by rw [show wr.heap.size + 1 = (wr.alloc (.cells #[.int .i32 xp, .bool x0, .bool x1, .bool x2, .bool x3, .bool x4, .bool x5, .bool x6, .bool x7, .int .u32 xg, .int .u32 xb] 49)).heap.size by simp]; exact heap_alloc_new _ _))
        have HS2 := Lib.hid H2
        clear H2
        go_wp2
        go_region
        go_wp2_with (first | (at_builtin; refine wpList_appY rfl (.tmp 71) (.tmp 73) _ rfl _ _ rfl rfl hr ?_))
        go_roundw
        case rel => exact ⟨i + 1, v2, rfl, by go_num, by omega, Lib.hid (by rw [genL_succ, congrFun HFE.out ()]; exact HS2.out)⟩
        case measure => simp [intOf]; omega
    · have d5 : decide ((i : Int) < (n : Int)) = false := by simp; omega
      have e5 : decide (i < n) = false := by simp; omega
      have hiK : i = n := by omega
      have hs0 := HS.out
      rw [hiK] at hs0
      have ho := hs0.own
      rw [genL_len] at ho
      obtain ⟨b2, cap2, rfl, hR, hnl, hB2⟩ := RowY.of_own ho hn1
      have HR := Lib.hid hR
      have HB2 := Lib.hid (show w.heap.size + 3 ≤ b2 from by have := lt_of_block HX.out.z; omega)
      clear ho hR hB2 hiK hs0 HS hi hin hnl
      go_wp2_with fail
      refine (rwith_any _ _ _ _ _ _ _ _ _).mono ?_
      rintro e w5 ⟨rfl, hb5⟩
      have HZ := Lib.hid (HXR.out.next hb5).z
      have HE := Lib.hid ((HXR.out.next hb5).end_ #[.int .i64 R, .int .i64 C, .slice (some ⟨b2, 0, none⟩) n cap2])
      have HQ := Lib.hid (show XPost w R C n (genL n (dmoveF C L t d bz c)) (fun x => x) (.returned ((fun x => x) (XV R C b2 n cap2))) (w5.setRow (w.heap.size + 2) #[.int .i64 R, .int .i64 C, .slice (some ⟨b2, 0, none⟩) n cap2]) from
        ⟨b2, cap2, rfl, by have := HB2.out; omega, (HR.out.below hb5).grown (grown_setRow _ _ _) (fun e => by injection e; have := HB2.out; omega), HE.out.2⟩)
      clear hb5 z0 z1 z2 HXR HX
      go_wp2_with (refine wpList_store_row rfl 29 (.tmp 10) (.tmp 77) rfl (w.heap.size + 2) #[.int .i64 R, .int .i64 C, .slice (some ⟨b2, 0, none⟩) n cap2] rfl rfl 29 _ HZ.out gy_info rfl (gy_one R C rfl) ?_)
      exact bodyPost_ret (v := XV R C b2 n cap2) (results_cell_row (p := 10) (ty := 29) Try.results35 _ _ (w.heap.size + 2) 29 _ (0, 0) _ rfl HE.out.1 Try.underlying29 rfl gy_info) rfl HQ.out
end Go.Proofs.Ytahmnipcdkcpiaa
