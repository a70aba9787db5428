/-
  Proved here: GridMoves.
-/
import Derived.Test.YtahmnipcdkcpiaaHs
set_option linter.unusedSimpArgs false
set_option linter.unusedVariables false
namespace Go.Proofs.Ytahmnipcdkcpiaa
open Go.RowKit
set_option maxRecDepth 100000 in
set_option maxHeartbeats 64000000 in
theorem moves_any {w : World} {A : Option Addr} {len cap0 : Nat} {zs : List Opn} (s : SlO w A len cap0 zs) (r c top bot n row col m : Int) : Calls Try.prog 5 #[.int .i64 r, .int .i64 c, .slice A len cap0, .int .i64 top, .int .i64 bot, .int .i64 n, .int .i64 row, .int .i64 col, .int .i64 m] w fun e w' => e = .returned (.bool true) ∧ Below w.heap.size w w' := by
  have HMD := Lib.hid (made_any s r c)
  clear s
  go_enter Try.func5, Try.ntmps5
  go_wp2_with fail
  refine HMD.out.mono ?_
  intro e w1 hmp
  rcases hmp with ⟨rfl, hb1⟩ | ⟨g, b, cap, R, C, L, rfl, hG, hok, hg, hb, hb1⟩
  · skip
    have HB1 := Lib.hid hb1
    clear hb1 HMD
    go_wp2_with fail
    refine (alive_any _).mono ?_
    rintro e w2 ⟨rfl, hb2⟩
    have HB2 := Lib.hid (HB1.out.trans (hb2.mono HB1.out.size))
    clear hb2
    go_wp2
    go_ret
    exact ⟨rfl, HB2.out⟩
  · by_cases hn : n < 0
    · have dn : decide (n < 0) = true := by simpa using hn
      clear hn hG hok hg hb
      have HB1 := Lib.hid hb1
      clear hb1 HMD
      go_wp2_with fail
      refine (alive_any _).mono ?_
      rintro e w2 ⟨rfl, hb2⟩
      have HB2 := Lib.hid (HB1.out.trans (hb2.mono HB1.out.size))
      clear hb2
      go_wp2
      go_ret
      exact ⟨rfl, HB2.out⟩
    · have dn : decide (n < 0) = false := by simpa using hn
      by_cases hm : m < 0
      · have dm : decide (m < 0) = true := by simpa using hm
        clear hn hm hG hok hg hb
        have HB1 := Lib.hid hb1
        clear hb1 HMD
        go_wp2_with fail
        refine (alive_any _).mono ?_
        rintro e w2 ⟨rfl, hb2⟩
        have HB2 := Lib.hid (HB1.out.trans (hb2.mono HB1.out.size))
        clear hb2
        go_wp2
        go_ret
        exact ⟨rfl, HB2.out⟩
      · have dm : decide (m < 0) = false := by simpa using hm
        have H1 := Lib.hid (And.intro hG (And.intro hok (And.intro hg (And.intro hb hb1))))
        clear hG hok hg hb hb1 HMD hn hm
        go_wp2_with fail
        refine (as_gr H1.out.1 H1.out.2.1).mono ?_
        rintro e w2 ⟨yw, ywc, rfl, hl, hR, hb2⟩
        obtain ⟨kb, hkb⟩ : ∃ t, w2.heap.size = t := ⟨_, rfl⟩
        have hbU := (Below.refl w2.heap.size w2).alloc (Nat.le_refl _) (.cells #[.int .i64 R, .int .i64 C, .slice (some ⟨yw, 0, none⟩) (R * C) ywc] 29)
        have HWB : Hid ((w2.alloc (.cells #[.int .i64 R, .int .i64 C, .slice (some ⟨yw, 0, none⟩) (R * C) ywc] 29)).heap[kb]? = some (.cells #[.int .i64 R, .int .i64 C, .slice (some ⟨yw, 0, none⟩) (R * C) ywc] 29 (0, 0))) := Lib.hid (by rw [← hkb]; exact heap_alloc_new _ _)
        have HGG := Lib.hid ((H1.out.1.below hb2).below hbU)
        have HYW := Lib.hid (hR.yr.below hbU)
        have HYB : Hid (yw ≠ b) := Lib.hid (by have := H1.out.1.row.lt; omega)
        have HNG : Hid (g ≠ kb) := Lib.hid (by have := H1.out.1.lt; have := hb2.size; omega)
        have HKB : Hid (w.heap.size ≤ kb) := Lib.hid (by have := H1.out.2.2.2.2.size; have := hb2.size; omega)
        have HBN := Lib.hid (show w.heap.size ≤ b ∧ b ≠ kb ∧ Below w.heap.size w (w2.alloc (.cells #[.int .i64 R, .int .i64 C, .slice (some ⟨yw, 0, none⟩) (R * C) ywc] 29)) from ⟨H1.out.2.2.2.1, by have := H1.out.1.row.lt; have := hb2.size; omega, H1.out.2.2.2.2.trans ((hb2.trans (hbU.mono hb2.size)).mono H1.out.2.2.2.2.size)⟩)
        have HOK := Lib.hid H1.out.2.1
        have HPS := Lib.hid H1.out.1.pos
        have HLL := Lib.hid H1.out.1.len
        clear hl hR hb2 hbU H1
        go_upto_region 5 with fail
        generalize (w2.alloc (.cells #[.int .i64 R, .int .i64 C, .slice (some ⟨yw, 0, none⟩) (R * C) ywc] 29)) = w3 at HWB HGG HYW HBN ⊢
        try simp only [hkb]
        clear hkb
        go_wp2_with fail
        refine (blank_any _).mono ?_
        rintro e w4 ⟨rfl, hb4⟩
        have HX4 := Lib.hid hb4
        clear hb4
        go_wp2_with fail
        refine (up_both (HGG.out.below HX4.out) top bot n).mono ?_
        rintro e w5 ⟨E, L5, rfl, hG5, hgr5, hor⟩
        have HG5 := Lib.hid (And.intro hG5 (below_grown HX4.out hgr5))
        have HOR := Lib.hid hor
        clear hG5 hgr5 hor HX4 w4
        go_upto_if 52 with fail
        go_cut [19] (fun a wx => a = .pointer (some ⟨g, 0, none⟩) ∧ ∃ b cap L, Hid (Gr g b cap R C L wx ∧ OkL L ∧ (∃ y yc, wx.heap[kb]? = some (.cells #[.int .i64 R, .int .i64 C, .slice (some ⟨y, 0, none⟩) (R * C) yc] 29 (0, 0))) ∧ w.heap.size ≤ b ∧ b ≠ kb ∧ Below w.heap.size w wx))
        case first =>
          rcases HOR.out with ⟨hE, hL⟩ | ⟨hE, t, d, k0, rfl, rfl, rfl, h1, h2, hL⟩
          · have HG6 : Hid (Gr g b cap R C L w5 ∧ w3.grownBy w5 (some b)) := Lib.hid (by rw [← hL]; exact HG5.out)
            subst hE
            clear HOR HG5 hL
            go_wp2
            go_meet
            exact ⟨rfl, b, cap, L, Lib.hid ⟨HG6.out.1, HOK.out, ⟨_, _, (HG6.out.2.block kb (lt_of_block HWB.out) (by intro e; injection e with e; exact HBN.out.2.1 e.symm)).trans HWB.out⟩, HBN.out.1, HBN.out.2.1, HBN.out.2.2.trans (below_by HG6.out.2 HBN.out.1 HBN.out.2.2.size)⟩⟩
          · have HG6 : Hid (Gr g b cap R C (upL R C L t d k0 blC) w5 ∧ w3.grownBy w5 (some b)) := Lib.hid (by rw [← hL]; exact HG5.out)
            have HTD := Lib.hid (And.intro h1 h2)
            subst hE
            clear HOR HG5 hL h1 h2
            go_wp2_with fail
            refine (blank_any _).mono ?_
            rintro e w6 ⟨rfl, hb6⟩
            have HX6 := Lib.hid hb6
            clear hb6
            go_wp2_with fail
            refine (down_yes (HG6.out.1.below HX6.out) HTD.out.1 HTD.out.2 blC).mono ?_
            rintro e w7 ⟨rfl, hG7, hgr7⟩
            have hok9 : OkL (downL R C (upL R C L t d k0 blC) t d k0 blC) := ok_down (by rw [← dup_eq HLL.out HTD.out.1 HTD.out.2 HPS.out.2.1 HPS.out.2.2.1, genL_len]; exact HLL.out) (ok_up HLL.out HOK.out HTD.out.1 HTD.out.2 HPS.out.2.1 HPS.out.2.2.1) HTD.out.1 HTD.out.2 HPS.out.2.1 HPS.out.2.2.1
            have hAT := fun i j (hi : i < R) (hj : j < C) => mv_up (n := k0) HLL.out HTD.out.1 HTD.out.2 HPS.out.2.1 HPS.out.2.2.1 HPS.out.2.2.2 hi hj
            have hlen7 := hG7.len
            generalize (downL R C (upL R C L t d k0 blC) t d k0 blC) = LN at hG7 hok9 hAT hlen7
            have HG7 := Lib.hid (And.intro hG7 (grown_trans HG6.out.2 (below_grown HX6.out hgr7)))
            have HOKN := Lib.hid hok9
            have HAT : Hid (∀ i j, i < R → j < C → ceAt LN (i * C + j) = if (decide (t ≤ i) && decide (i ≤ d) && decide (i < t + k0)) = true then blC else ceAt L (i * C + j)) := Lib.hid (fun i j hi hj => hAT i j hi hj)
            have HLN := Lib.hid (show LN.length = R * C ∧ L.length = R * C ∧ R * C ≤ 1000 from ⟨hlen7, HLL.out, by have := Nat.mul_le_mul HPS.out.2.1 HPS.out.2.2.2; omega⟩)
            clear hG7 hgr7 hok9 hAT hlen7 HG6 HX6
            go_wp2_with fail
            refine (as_gr HG7.out.1 HOKN.out).mono ?_
            rintro e w8 ⟨yn, ync, rfl, hl8, hR8, hb8⟩
            obtain ⟨nb, hnb⟩ : ∃ t, w8.heap.size = t := ⟨_, rfl⟩
            have hbU := (Below.refl w8.heap.size w8).alloc (Nat.le_refl _) (.cells #[.int .i64 R, .int .i64 C, .slice (some ⟨yn, 0, none⟩) (R * C) ync] 29)
            have HNB : Hid ((w8.alloc (.cells #[.int .i64 R, .int .i64 C, .slice (some ⟨yn, 0, none⟩) (R * C) ync] 29)).heap[nb]? = some (.cells #[.int .i64 R, .int .i64 C, .slice (some ⟨yn, 0, none⟩) (R * C) ync] 29 (0, 0))) := Lib.hid (by rw [← hnb]; exact heap_alloc_new _ _)
            have h7 := (HG7.out.2.block kb (lt_of_block HWB.out) (by intro e; injection e with e; exact HBN.out.2.1 e.symm)).trans HWB.out
            have h8 := (hb8.block _ (lt_of_block h7)).trans h7
            have HWU := Lib.hid ((hbU.block _ (lt_of_block h8)).trans h8)
            have HYN := Lib.hid (hR8.yr.below hbU)
            have HYU := Lib.hid (((HYW.out.grown HG7.out.2 (by intro e; injection e with e; exact HYB.out e)).below hb8).below hbU)
            have HGN := Lib.hid ((HG7.out.1.below hb8).below hbU)
            have HBU : Hid (w.heap.size ≤ b ∧ b ≠ kb ∧ Below w.heap.size w (w8.alloc (.cells #[.int .i64 R, .int .i64 C, .slice (some ⟨yn, 0, none⟩) (R * C) ync] 29))) := Lib.hid (by
              have hz := HBN.out.2.2.trans (below_by HG7.out.2 HBN.out.1 HBN.out.2.2.size)
              exact ⟨HBN.out.1, HBN.out.2.1, hz.trans ((hb8.trans (hbU.mono hb8.size)).mono hz.size)⟩)
            clear hl8 hR8 hb8 hbU h7 h8 HWB HYW HGG HBN HG7
            go_wp2_with fail
            generalize (w8.alloc (.cells #[.int .i64 R, .int .i64 C, .slice (some ⟨yn, 0, none⟩) (R * C) ync] 29)) = U at HNB HWU HYN HYU HGN HBU ⊢
            try simp only [hnb]
            clear hnb
            have HWB := HWU
            have HYW := HYU
            have HBN := HBU
            clear HWU HYU HBU
            go_loopw [22] (fun iv wr => ∃ i : Nat, iv = .int .i64 i ∧ i ≤ R ∧ Hid (Below U.heap.size U wr)) (fun iv _ => R - (intOf iv).toNat)
            case atStart => exact ⟨0, rfl, by omega, Lib.hid (Below.refl _ _)⟩
            case round =>
              obtain ⟨i, rfl, hi, HS⟩ := hrel
              obtain ⟨y0, y1, y2⟩ := three_cells ((HS.out.block _ (lt_of_block HWB.out)).trans HWB.out)
              by_cases hin : i < R
              · have d1 : decide ((i : Int) < (R : Int)) = true := by simp; omega
                have d1' : decide (i < R) = true := by simp; omega
                have w1 : IntKind.i64.wrap ((i : Int) + 1) = (i : Int) + 1 := IntWalk.i64_in _ (by have := HPS.out; omega)
                have HIN := Lib.hid hin
                clear hi hin
                go_wp2
                go_loopw [23] (fun iv wr => ∃ j : Nat, iv = .int .i64 j ∧ j ≤ C ∧ Hid (Below U.heap.size U wr)) (fun iv _ => C - (intOf iv).toNat)
                case atStart => exact ⟨0, rfl, by omega, HS⟩
                case round =>
                  clear HS y0 y1 y2
                  obtain ⟨j, rfl, hj, HS⟩ := hrel
                  obtain ⟨y0, y1, y2⟩ := three_cells ((HS.out.block _ (lt_of_block HWB.out)).trans HWB.out)
                  by_cases hjn : j < C
                  · have d3 : decide ((j : Int) < (C : Int)) = true := by simp; omega
                    have d3' : decide (j < C) = true := by simp; omega
                    have w2 : IntKind.i64.wrap ((j : Int) + 1) = (j : Int) + 1 := IntWalk.i64_in _ (by have := HPS.out; omega)
                    have hkl : i * C + j < R * C := ix_lt HIN.out hjn
                    have HIJ := Lib.hid (And.intro HIN.out hjn)
                    have hat := HAT.out i j HIN.out hjn
                    clear hj hjn
                    go_upto_region 15 with fail
                    go_cut [24] (fun a wx => a = .bool (decide (t ≤ i) && decide (i ≤ d) && decide (i < t + k0)) ∧ wx = wr)
                    case first =>
                      have wsub : IntKind.i64.wrap ((i : Int) - (t : Int)) = (i : Int) - (t : Int) := IntWalk.i64_in _ (by have := HPS.out; have := HIJ.out; have := HTD.out; omega)
                      generalize hW : (decide (t ≤ i) && decide (i ≤ d) && decide (i < t + k0)) = W
                      have HW := Lib.hid hW
                      clear hW hat hkl
                      by_cases h1 : t ≤ i
                      · have e1 : decide ((t : Int) ≤ (i : Int)) = true := by simp; omega
                        have e1' : decide (t ≤ i) = true := by simp; omega
                        by_cases h2 : i ≤ d
                        · have e2 : decide ((i : Int) ≤ (d : Int)) = true := by simp; omega
                          have e2' : decide (i ≤ d) = true := by simp; omega
                          by_cases h3 : i < t + k0
                          · have e3 : decide ((i : Int) - (t : Int) < (k0 : Int)) = true := by simp; omega
                            have HV := Lib.hid (show W = true from by rw [← HW.out]; simp; omega)
                            clear h1 h2 h3
                            go_wp2
                            go_meet
                            exact ⟨by first | rw [HW.out, HV.out] | rw [HV.out], rfl⟩
                          · have e3 : decide ((i : Int) - (t : Int) < (k0 : Int)) = false := by simp; omega
                            have HV := Lib.hid (show W = false from by rw [← HW.out]; simp; omega)
                            clear h1 h2 h3
                            go_wp2
                            go_meet
                            exact ⟨by first | rw [HW.out, HV.out] | rw [HV.out], rfl⟩
                        · have e2 : decide ((i : Int) ≤ (d : Int)) = false := by simp; omega
                          have e2' : decide (i ≤ d) = false := by simp; omega
                          have HV := Lib.hid (show W = false from by rw [← HW.out]; simp; omega)
                          clear h1 h2
                          go_wp2
                          go_meet
                          exact ⟨by first | rw [HW.out, HV.out] | rw [HV.out], rfl⟩
                      · have e1 : decide ((t : Int) ≤ (i : Int)) = false := by simp; omega
                        have e1' : decide (t ≤ i) = false := by simp; omega
                        have HV := Lib.hid (show W = false from by rw [← HW.out]; simp; omega)
                        clear h1
                        go_wp2
                        go_meet
                        exact ⟨by first | rw [HW.out, HV.out] | rw [HV.out], rfl⟩
                    case rest =>
                      obtain ⟨rfl, rfl⟩ := hcut
                      cases hlost : (decide (t ≤ i) && decide (i ≤ d) && decide (i < t + k0)) with
                      | true =>
                        obtain ⟨cm, hcm⟩ : ∃ c, blC = c := ⟨_, rfl⟩
                        have hcn : ceAt LN (i * C + j) = cm := by rw [hat, if_pos hlost, hcm]
                        have hcok : OkC cm := by rw [← hcm]; exact ⟨by decide, by decide⟩
                        subst hcm
                        clear hat
                        obtain ⟨mp, m0, m1, m2, m3, m4, m5, m6, m7, mg, mb, hm⟩ := yC_form blC
                        have hym : yV blC = .agg #[.int .i32 mp, .bool m0, .bool m1, .bool m2, .bool m3, .bool m4, .bool m5, .bool m6, .bool m7, .int .u32 mg, .int .u32 mb] := by unfold yV; rw [hm]
                        have heq : ∀ W, (Op.equalIn 10000 49 (.agg #[.int .i32 mp, .bool m0, .bool m1, .bool m2, .bool m3, .bool m4, .bool m5, .bool m6, .bool m7, .int .u32 mg, .int .u32 mb]) (.agg #[.int .i32 mp, .bool m0, .bool m1, .bool m2, .bool m3, .bool m4, .bool m5, .bool m6, .bool m7, .int .u32 mg, .int .u32 mb])).run Try.prog W = .ok true W := fun W => by
                          have hz := eq_yc hcok hcok W
                          rw [hym] at hz
                          simpa using hz
                        have hbw := HS.out.drew
                        have HAN : Hid (∀ X : World, Below wc.drew.heap.size wc.drew X → Calls Try.prog 14 #[.agg #[.int .i64 R, .int .i64 C, .slice (some ⟨yn, 0, none⟩) (R * C) ync], .int .i64 i, .int .i64 j] X fun e w' => e = .returned (.agg #[.int .i32 mp, .bool m0, .bool m1, .bool m2, .bool m3, .bool m4, .bool m5, .bool m6, .bool m7, .int .u32 mg, .int .u32 mb]) ∧ Below X.heap.size X w') := Lib.hid (fun X hX => by
                          have hz := rat_any (R := R) (cap := ync) (HYN.out.below (hbw.trans (hX.mono hbw.size))) HLN.out.1 (by have := HLN.out.2.2; omega) (i := i) (j := j) (o := i * C) (k := i * C + j) rfl rfl hkl (by have := HPS.out; omega) (c := blC) hcn
                          rwa [hym] at hz)
                        have HBL := Lib.hid (fun W => blank_any W)
                        have HCE : Hid (∀ W, Calls Try.prog 13 #[cV blC] W fun e w' => e = .returned (.agg #[.int .i32 mp, .bool m0, .bool m1, .bool m2, .bool m3, .bool m4, .bool m5, .bool m6, .bool m7, .int .u32 mg, .int .u32 mb]) ∧ Below W.heap.size W w') := Lib.hid (fun W => by
                          have hz := l_cell blC W (by decide) (by decide)
                          rwa [hym] at hz)
                        have HNC := Lib.hid (fun (X : World) (hX : Below wc.drew.heap.size wc.drew X) => three_cells (((hbw.trans (hX.mono hbw.size)).block _ (lt_of_block HNB.out)).trans HNB.out))
                        have HWC := Lib.hid (fun (X : World) (hX : Below wc.drew.heap.size wc.drew X) => three_cells (((hbw.trans (hX.mono hbw.size)).block _ (lt_of_block HWB.out)).trans HWB.out))
                        have HB15 := Lib.hid (Below.refl wc.drew.heap.size wc.drew)
                        have HBW := Lib.hid hbw
                        clear hm hym hbw hcok
                        go_wp2_with fail
                        refine wp_region_held_drew (S := fun W => Below wc.drew.heap.size wc.drew W) (by kernel_rfl) (Below.refl _ _) (fun hHeld => ?_)
                        refine wpAnyH_take (i := 0) (v := ?_) (by simp; rfl) (by kernel_rfl) (by kernel_rfl) (by kernel_rfl) (by exact fun _ _ _ h => h) (Or.inl ⟨by rfl, fun wx hSx => ?_⟩) hHeld ?_
                        rotate_left
                        · clear hSx; go_simp; (try with_reducible rfl)
                        simp only [Act.put, List.setIfInBounds_toArray, List.set_cons_zero, List.set_cons_succ]
                        refine wpAnyH_take (i := 1) (v := ?_) (by simp; rfl) (by kernel_rfl) (by kernel_rfl) (by kernel_rfl) (by exact fun _ _ _ h => h) (Or.inl ⟨by rfl, fun wx hSx => ?_⟩) hHeld ?_
                        rotate_left
                        · clear hSx; go_simp; (try with_reducible rfl)
                        simp only [Act.put, List.setIfInBounds_toArray, List.set_cons_zero, List.set_cons_succ]
                        refine wpAnyH_take (i := 2) (v := ?_) (by simp; rfl) (by kernel_rfl) (by kernel_rfl) (by kernel_rfl) (by exact fun _ _ _ h => h) (Or.inl ⟨by rfl, fun wx hSx => ?_⟩) hHeld ?_
                        rotate_left
                        · clear hSx; go_simp; (try with_reducible rfl)
                        simp only [Act.put, List.setIfInBounds_toArray, List.set_cons_zero, List.set_cons_succ]
                        refine wpAnyH_take (i := 3) (v := undef) (by simp; rfl) (by kernel_rfl) (by kernel_rfl) (by kernel_rfl) (by exact fun _ _ _ h => h) (Or.inr ⟨by rfl, rfl⟩) hHeld ?_
                        simp only [Act.put, List.setIfInBounds_toArray, List.set_cons_zero, List.set_cons_succ]
                        refine wpAnyH_take (i := 4) (v := undef) (by simp; rfl) (by kernel_rfl) (by kernel_rfl) (by kernel_rfl) (by exact fun _ _ _ h => h) (Or.inr ⟨by rfl, rfl⟩) hHeld ?_
                        simp only [Act.put, List.setIfInBounds_toArray, List.set_cons_zero, List.set_cons_succ]
                        refine wpAnyH_take (i := 5) (v := undef) (by simp; rfl) (by kernel_rfl) (by kernel_rfl) (by kernel_rfl) (by exact fun _ _ _ h => h) (Or.inr ⟨by rfl, rfl⟩) hHeld ?_
                        simp only [Act.put, List.setIfInBounds_toArray, List.set_cons_zero, List.set_cons_succ]
                        refine wpAnyH_take (i := 6) (v := undef) (by simp; rfl) (by kernel_rfl) (by kernel_rfl) (by kernel_rfl) (by exact fun _ _ _ h => h) (Or.inr ⟨by rfl, rfl⟩) hHeld ?_
                        simp only [Act.put, List.setIfInBounds_toArray, List.set_cons_zero, List.set_cons_succ]
                        refine wpAnyH_take (i := 7) (v := undef) (by simp; rfl) (by kernel_rfl) (by kernel_rfl) (by kernel_rfl) (by exact fun _ _ _ h => h) (Or.inr ⟨by rfl, rfl⟩) hHeld ?_
                        simp only [Act.put, List.setIfInBounds_toArray, List.set_cons_zero, List.set_cons_succ]
                        refine wpAnyH_take (i := 8) (v := undef) (by simp; rfl) (by kernel_rfl) (by kernel_rfl) (by kernel_rfl) (by exact fun _ _ _ h => h) (Or.inr ⟨by rfl, rfl⟩) hHeld ?_
                        simp only [Act.put, List.setIfInBounds_toArray, List.set_cons_zero, List.set_cons_succ]
                        refine wpAnyH_take (i := 9) (v := undef) (by simp; rfl) (by kernel_rfl) (by kernel_rfl) (by kernel_rfl) (by exact fun _ _ _ h => h) (Or.inr ⟨by rfl, rfl⟩) hHeld ?_
                        simp only [Act.put, List.setIfInBounds_toArray, List.set_cons_zero, List.set_cons_succ]
                        refine wpAnyH_take (i := 10) (v := undef) (by simp; rfl) (by kernel_rfl) (by kernel_rfl) (by kernel_rfl) (by exact fun _ _ _ h => h) (Or.inr ⟨by rfl, rfl⟩) hHeld ?_
                        simp only [Act.put, List.setIfInBounds_toArray, List.set_cons_zero, List.set_cons_succ]
                        refine wpAnyH_take (i := 11) (v := undef) (by simp; rfl) (by kernel_rfl) (by kernel_rfl) (by kernel_rfl) (by exact fun _ _ _ h => h) (Or.inr ⟨by rfl, rfl⟩) hHeld ?_
                        simp only [Act.put, List.setIfInBounds_toArray, List.set_cons_zero, List.set_cons_succ]
                        refine wpAnyH_take (i := 12) (v := ?_) (by simp; rfl) (by kernel_rfl) (by kernel_rfl) (by kernel_rfl) (by exact fun _ _ _ h => h) (Or.inl ⟨by rfl, fun wx hSx => ?_⟩) hHeld ?_
                        rotate_left
                        · clear hSx; go_simp; (try with_reducible rfl)
                        simp only [Act.put, List.setIfInBounds_toArray, List.set_cons_zero, List.set_cons_succ]
                        refine wpAnyH_take (i := 13) (v := ?_) (by simp; rfl) (by kernel_rfl) (by kernel_rfl) (by kernel_rfl) (by exact fun _ _ _ h => h) (Or.inl ⟨by rfl, fun wx hSx => ?_⟩) hHeld ?_
                        rotate_left
                        · clear hSx; go_simp; (try with_reducible rfl)
                        simp only [Act.put, List.setIfInBounds_toArray, List.set_cons_zero, List.set_cons_succ]
                        refine wpAnyH_take (i := 14) (v := ?_) (by simp; rfl) (by kernel_rfl) (by kernel_rfl) (by kernel_rfl) (by exact fun _ _ _ h => h) (Or.inl ⟨by rfl, fun wx hSx => ?_⟩) hHeld ?_
                        rotate_left
                        · clear hSx; go_simp; (try with_reducible rfl)
                        simp only [Act.put, List.setIfInBounds_toArray, List.set_cons_zero, List.set_cons_succ]
                        refine wpAnyH_take (i := 15) (v := ?_) (by simp; rfl) (by kernel_rfl) (by kernel_rfl) (by kernel_rfl) (by exact fun _ _ _ h => h) (Or.inl ⟨by rfl, fun wx hSx => ?_⟩) hHeld ?_
                        rotate_left
                        · clear hSx; go_simp; (try with_reducible rfl)
                        simp only [Act.put, List.setIfInBounds_toArray, List.set_cons_zero, List.set_cons_succ]
                        refine wpAnyH_take (i := 16) (v := ?_) (by simp; rfl) (by kernel_rfl) (by kernel_rfl) (by kernel_rfl) (by exact fun _ _ _ h => h) (Or.inl ⟨by rfl, fun wx hSx => ?_⟩) hHeld ?_
                        rotate_left
                        · obtain ⟨x0, x1, x2⟩ := HNC.out wx hSx; clear hSx; go_simp; (try with_reducible rfl)
                        simp only [Act.put, List.setIfInBounds_toArray, List.set_cons_zero, List.set_cons_succ]
                        refine wpAnyH_take (i := 17) (v := ?_) (by simp; rfl) (by kernel_rfl) (by kernel_rfl) (by kernel_rfl) (by exact fun _ _ _ h => h) (Or.inl ⟨by rfl, fun wx hSx => ?_⟩) hHeld ?_
                        rotate_left
                        · clear hSx; go_simp; (try with_reducible rfl)
                        simp only [Act.put, List.setIfInBounds_toArray, List.set_cons_zero, List.set_cons_succ]
                        refine wpAnyH_take (i := 18) (v := ?_) (by simp; rfl) (by kernel_rfl) (by kernel_rfl) (by kernel_rfl) (by exact fun _ _ _ h => h) (Or.inl ⟨by rfl, fun wx hSx => ?_⟩) hHeld ?_
                        rotate_left
                        · clear hSx; go_simp; (try with_reducible rfl)
                        simp only [Act.put, List.setIfInBounds_toArray, List.set_cons_zero, List.set_cons_succ]
                        refine wpAnyH_ready (rs := [19]) (by kernel_rfl) (by simp) ?_
                        refine AllReadyH.cons (by simp; rfl) (fun K0 hK0 => ?_) AllReadyH.nil
                        go_simp
                        refine (HAN.out _ HB15.out).mono ?_
                        rintro e d1 ⟨rfl, hbV⟩
                        have HB2 := Lib.hid (HB15.out.trans (hbV.mono HB15.out.size))
                        clear HB15 hbV
                        have HB15 := HB2
                        clear HB2
                        refine hK0.out _ _ HB15.out (fun _ => ?_)
                        clear hK0 K0 hHeld
                        have hHeld := HB15.out
                        refine wpAnyH_ready (rs := [20]) (by kernel_rfl) (by simp) ?_
                        refine AllReadyH.cons (by simp; rfl) (fun K0 hK0 => ?_) AllReadyH.nil
                        go_simp
                        refine (HBL.out _).mono ?_
                        rintro e d2 ⟨rfl, hbV⟩
                        have HB2 := Lib.hid (HB15.out.trans (hbV.mono HB15.out.size))
                        clear HB15 hbV
                        have HB15 := HB2
                        clear HB2
                        refine hK0.out _ _ HB15.out (fun _ => ?_)
                        clear hK0 K0 hHeld
                        have hHeld := HB15.out
                        refine wpAnyH_ready (rs := [21]) (by kernel_rfl) (by simp) ?_
                        refine AllReadyH.cons (by simp; rfl) (fun K0 hK0 => ?_) AllReadyH.nil
                        go_simp
                        refine (HCE.out _).mono ?_
                        rintro e d3 ⟨rfl, hbV⟩
                        have HB2 := Lib.hid (HB15.out.trans (hbV.mono HB15.out.size))
                        clear HB15 hbV
                        have HB15 := HB2
                        clear HB2
                        refine hK0.out _ _ HB15.out (fun _ => ?_)
                        clear hK0 K0 hHeld
                        have hHeld := HB15.out
                        refine wpAnyH_take (i := 22) (v := ?_) (by simp; rfl) (by kernel_rfl) (by kernel_rfl) (by kernel_rfl) (by exact fun _ _ _ h => h) (Or.inl ⟨by rfl, fun wx hSx => ?_⟩) hHeld ?_
                        rotate_left
                        · clear hSx; go_simp; (try with_reducible rfl)
                        simp only [Act.put, List.setIfInBounds_toArray, List.set_cons_zero, List.set_cons_succ]
                        refine wpAnyH_take (i := 23) (v := ?_) (by simp; rfl) (by kernel_rfl) (by kernel_rfl) (by kernel_rfl) (by exact fun _ _ _ h => h) (Or.inl ⟨by rfl, fun wx hSx => ?_⟩) hHeld ?_
                        rotate_left
                        · clear hSx; go_simp; (try with_reducible rfl)
                        simp only [Act.put, List.setIfInBounds_toArray, List.set_cons_zero, List.set_cons_succ]
                        refine wpAnyH_take (i := 24) (v := ?_) (by simp; rfl) (by kernel_rfl) (by kernel_rfl) (by kernel_rfl) (by exact fun _ _ _ h => h) (Or.inl ⟨by rfl, fun wx hSx => ?_⟩) hHeld ?_
                        rotate_left
                        · clear hSx; go_simp; (try with_reducible rfl)
                        simp only [Act.put, List.setIfInBounds_toArray, List.set_cons_zero, List.set_cons_succ]
                        refine wpAnyH_done (by kernel_rfl) ?_ _
                        have HE := Lib.hid (HBW.out.trans (HB15.out.mono HBW.out.size))
                        clear hHeld heq
                        go_wp2
                        go_roundw
                        case rel => exact ⟨j + 1, by go_num, by have := HIJ.out.2; omega, HE⟩
                        case measure => have := HIJ.out.2; simp [intOf]; omega
                      | false =>
                        obtain ⟨cm, hcn⟩ : ∃ c, ceAt LN (i * C + j) = c := ⟨_, rfl⟩
                        have hcw : ceAt L (i * C + j) = cm := by rw [← hcn, hat, if_neg (by rw [hlost]; decide)]
                        have hcok : OkC cm := by rw [← hcw]; exact okC_at HOK.out _
                        clear hat
                        obtain ⟨mp, m0, m1, m2, m3, m4, m5, m6, m7, mg, mb, hm⟩ := yC_form cm
                        have hym : yV cm = .agg #[.int .i32 mp, .bool m0, .bool m1, .bool m2, .bool m3, .bool m4, .bool m5, .bool m6, .bool m7, .int .u32 mg, .int .u32 mb] := by unfold yV; rw [hm]
                        have heq : ∀ W, (Op.equalIn 10000 49 (.agg #[.int .i32 mp, .bool m0, .bool m1, .bool m2, .bool m3, .bool m4, .bool m5, .bool m6, .bool m7, .int .u32 mg, .int .u32 mb]) (.agg #[.int .i32 mp, .bool m0, .bool m1, .bool m2, .bool m3, .bool m4, .bool m5, .bool m6, .bool m7, .int .u32 mg, .int .u32 mb])).run Try.prog W = .ok true W := fun W => by
                          have hz := eq_yc hcok hcok W
                          rw [hym] at hz
                          simpa using hz
                        have hbw := HS.out.drew
                        have HAN : Hid (∀ X : World, Below wc.drew.heap.size wc.drew X → Calls Try.prog 14 #[.agg #[.int .i64 R, .int .i64 C, .slice (some ⟨yn, 0, none⟩) (R * C) ync], .int .i64 i, .int .i64 j] X fun e w' => e = .returned (.agg #[.int .i32 mp, .bool m0, .bool m1, .bool m2, .bool m3, .bool m4, .bool m5, .bool m6, .bool m7, .int .u32 mg, .int .u32 mb]) ∧ Below X.heap.size X w') := Lib.hid (fun X hX => by
                          have hz := rat_any (R := R) (cap := ync) (HYN.out.below (hbw.trans (hX.mono hbw.size))) HLN.out.1 (by have := HLN.out.2.2; omega) (i := i) (j := j) (o := i * C) (k := i * C + j) rfl rfl hkl (by have := HPS.out; omega) (c := cm) hcn
                          rwa [hym] at hz)
                        have HAW : Hid (∀ X : World, Below wc.drew.heap.size wc.drew X → Calls Try.prog 14 #[.agg #[.int .i64 R, .int .i64 C, .slice (some ⟨yw, 0, none⟩) (R * C) ywc], .int .i64 i, .int .i64 j] X fun e w' => e = .returned (.agg #[.int .i32 mp, .bool m0, .bool m1, .bool m2, .bool m3, .bool m4, .bool m5, .bool m6, .bool m7, .int .u32 mg, .int .u32 mb]) ∧ Below X.heap.size X w') := Lib.hid (fun X hX => by
                          have hz := rat_any (R := R) (cap := ywc) (HYW.out.below (hbw.trans (hX.mono hbw.size))) HLN.out.2.1 (by have := HLN.out.2.2; omega) (i := i) (j := j) (o := i * C) (k := i * C + j) rfl rfl hkl (by have := HPS.out; omega) (c := cm) hcw
                          rwa [hym] at hz)
                        have HNC := Lib.hid (fun (X : World) (hX : Below wc.drew.heap.size wc.drew X) => three_cells (((hbw.trans (hX.mono hbw.size)).block _ (lt_of_block HNB.out)).trans HNB.out))
                        have HWC := Lib.hid (fun (X : World) (hX : Below wc.drew.heap.size wc.drew X) => three_cells (((hbw.trans (hX.mono hbw.size)).block _ (lt_of_block HWB.out)).trans HWB.out))
                        have HB15 := Lib.hid (Below.refl wc.drew.heap.size wc.drew)
                        have HBW := Lib.hid hbw
                        clear hm hym hbw hcok
                        go_wp2_with fail
                        refine wp_region_held_drew (S := fun W => Below wc.drew.heap.size wc.drew W) (by kernel_rfl) (Below.refl _ _) (fun hHeld => ?_)
                        refine wpAnyH_take (i := 0) (v := ?_) (by simp; rfl) (by kernel_rfl) (by kernel_rfl) (by kernel_rfl) (by exact fun _ _ _ h => h) (Or.inl ⟨by rfl, fun wx hSx => ?_⟩) hHeld ?_
                        rotate_left
                        · clear hSx; go_simp; (try with_reducible rfl)
                        simp only [Act.put, List.setIfInBounds_toArray, List.set_cons_zero, List.set_cons_succ]
                        refine wpAnyH_take (i := 1) (v := ?_) (by simp; rfl) (by kernel_rfl) (by kernel_rfl) (by kernel_rfl) (by exact fun _ _ _ h => h) (Or.inl ⟨by rfl, fun wx hSx => ?_⟩) hHeld ?_
                        rotate_left
                        · clear hSx; go_simp; (try with_reducible rfl)
                        simp only [Act.put, List.setIfInBounds_toArray, List.set_cons_zero, List.set_cons_succ]
                        refine wpAnyH_take (i := 2) (v := ?_) (by simp; rfl) (by kernel_rfl) (by kernel_rfl) (by kernel_rfl) (by exact fun _ _ _ h => h) (Or.inl ⟨by rfl, fun wx hSx => ?_⟩) hHeld ?_
                        rotate_left
                        · clear hSx; go_simp; (try with_reducible rfl)
                        simp only [Act.put, List.setIfInBounds_toArray, List.set_cons_zero, List.set_cons_succ]
                        refine wpAnyH_take (i := 3) (v := ?_) (by simp; rfl) (by kernel_rfl) (by kernel_rfl) (by kernel_rfl) (by exact fun _ _ _ h => h) (Or.inl ⟨by rfl, fun wx hSx => ?_⟩) hHeld ?_
                        rotate_left
                        · obtain ⟨x0, x1, x2⟩ := HNC.out wx hSx; clear hSx; go_simp; (try with_reducible rfl)
                        simp only [Act.put, List.setIfInBounds_toArray, List.set_cons_zero, List.set_cons_succ]
                        refine wpAnyH_take (i := 4) (v := ?_) (by simp; rfl) (by kernel_rfl) (by kernel_rfl) (by kernel_rfl) (by exact fun _ _ _ h => h) (Or.inl ⟨by rfl, fun wx hSx => ?_⟩) hHeld ?_
                        rotate_left
                        · clear hSx; go_simp; (try with_reducible rfl)
                        simp only [Act.put, List.setIfInBounds_toArray, List.set_cons_zero, List.set_cons_succ]
                        refine wpAnyH_take (i := 5) (v := ?_) (by simp; rfl) (by kernel_rfl) (by kernel_rfl) (by kernel_rfl) (by exact fun _ _ _ h => h) (Or.inl ⟨by rfl, fun wx hSx => ?_⟩) hHeld ?_
                        rotate_left
                        · clear hSx; go_simp; (try with_reducible rfl)
                        simp only [Act.put, List.setIfInBounds_toArray, List.set_cons_zero, List.set_cons_succ]
                        refine wpAnyH_take (i := 7) (v := ?_) (by simp; rfl) (by kernel_rfl) (by kernel_rfl) (by kernel_rfl) (by exact fun _ _ _ h => h) (Or.inl ⟨by rfl, fun wx hSx => ?_⟩) hHeld ?_
                        rotate_left
                        · obtain ⟨x0, x1, x2⟩ := HWC.out wx hSx; clear hSx; go_simp; (try with_reducible rfl)
                        simp only [Act.put, List.setIfInBounds_toArray, List.set_cons_zero, List.set_cons_succ]
                        refine wpAnyH_take (i := 8) (v := ?_) (by simp; rfl) (by kernel_rfl) (by kernel_rfl) (by kernel_rfl) (by exact fun _ _ _ h => h) (Or.inl ⟨by rfl, fun wx hSx => ?_⟩) hHeld ?_
                        rotate_left
                        · clear hSx; go_simp; (try with_reducible rfl)
                        simp only [Act.put, List.setIfInBounds_toArray, List.set_cons_zero, List.set_cons_succ]
                        refine wpAnyH_take (i := 9) (v := ?_) (by simp; rfl) (by kernel_rfl) (by kernel_rfl) (by kernel_rfl) (by exact fun _ _ _ h => h) (Or.inl ⟨by rfl, fun wx hSx => ?_⟩) hHeld ?_
                        rotate_left
                        · clear hSx; go_simp; (try with_reducible rfl)
                        simp only [Act.put, List.setIfInBounds_toArray, List.set_cons_zero, List.set_cons_succ]
                        refine wpAnyH_ready (rs := [6]) (by kernel_rfl) (by simp) ?_
                        refine AllReadyH.cons (by simp; rfl) (fun K0 hK0 => ?_) AllReadyH.nil
                        go_simp
                        refine (HAN.out _ HB15.out).mono ?_
                        rintro e d1 ⟨rfl, hbV⟩
                        have HB2 := Lib.hid (HB15.out.trans (hbV.mono HB15.out.size))
                        clear HB15 hbV
                        have HB15 := HB2
                        clear HB2
                        refine hK0.out _ _ HB15.out (fun _ => ?_)
                        clear hK0 K0 hHeld
                        have hHeld := HB15.out
                        refine wpAnyH_ready (rs := [10]) (by kernel_rfl) (by simp) ?_
                        refine AllReadyH.cons (by simp; rfl) (fun K0 hK0 => ?_) AllReadyH.nil
                        go_simp
                        refine (HAW.out _ HB15.out).mono ?_
                        rintro e d2 ⟨rfl, hbV⟩
                        have HB2 := Lib.hid (HB15.out.trans (hbV.mono HB15.out.size))
                        clear HB15 hbV
                        have HB15 := HB2
                        clear HB2
                        refine hK0.out _ _ HB15.out (fun _ => ?_)
                        clear hK0 K0 hHeld
                        have hHeld := HB15.out
                        refine wpAnyH_take (i := 11) (v := ?_) (by simp; rfl) (by kernel_rfl) (by kernel_rfl) (by kernel_rfl) (by exact fun _ _ _ h => h) (Or.inl ⟨by rfl, fun wx hSx => ?_⟩) hHeld ?_
                        rotate_left
                        · clear hSx; go_simp; (try with_reducible rfl)
                        simp only [Act.put, List.setIfInBounds_toArray, List.set_cons_zero, List.set_cons_succ]
                        refine wpAnyH_take (i := 12) (v := ?_) (by simp; rfl) (by kernel_rfl) (by kernel_rfl) (by kernel_rfl) (by exact fun _ _ _ h => h) (Or.inl ⟨by rfl, fun wx hSx => ?_⟩) hHeld ?_
                        rotate_left
                        · clear hSx; go_simp; (try with_reducible rfl)
                        simp only [Act.put, List.setIfInBounds_toArray, List.set_cons_zero, List.set_cons_succ]
                        refine wpAnyH_take (i := 13) (v := ?_) (by simp; rfl) (by kernel_rfl) (by kernel_rfl) (by kernel_rfl) (by exact fun _ _ _ h => h) (Or.inl ⟨by rfl, fun wx hSx => ?_⟩) hHeld ?_
                        rotate_left
                        · clear hSx; go_simp; (try with_reducible rfl)
                        simp only [Act.put, List.setIfInBounds_toArray, List.set_cons_zero, List.set_cons_succ]
                        refine wpAnyH_take (i := 14) (v := ?_) (by simp; rfl) (by kernel_rfl) (by kernel_rfl) (by kernel_rfl) (by exact fun _ _ _ h => h) (Or.inl ⟨by rfl, fun wx hSx => ?_⟩) hHeld ?_
                        rotate_left
                        · clear hSx; go_simp; (try with_reducible rfl)
                        simp only [Act.put, List.setIfInBounds_toArray, List.set_cons_zero, List.set_cons_succ]
                        refine wpAnyH_take (i := 15) (v := ?_) (by simp; rfl) (by kernel_rfl) (by kernel_rfl) (by kernel_rfl) (by exact fun _ _ _ h => h) (Or.inl ⟨by rfl, fun wx hSx => ?_⟩) hHeld ?_
                        rotate_left
                        · clear hSx; go_simp; (try with_reducible rfl)
                        simp only [Act.put, List.setIfInBounds_toArray, List.set_cons_zero, List.set_cons_succ]
                        refine wpAnyH_take (i := 16) (v := undef) (by simp; rfl) (by kernel_rfl) (by kernel_rfl) (by kernel_rfl) (by exact fun _ _ _ h => h) (Or.inr ⟨by rfl, rfl⟩) hHeld ?_
                        simp only [Act.put, List.setIfInBounds_toArray, List.set_cons_zero, List.set_cons_succ]
                        refine wpAnyH_take (i := 17) (v := undef) (by simp; rfl) (by kernel_rfl) (by kernel_rfl) (by kernel_rfl) (by exact fun _ _ _ h => h) (Or.inr ⟨by rfl, rfl⟩) hHeld ?_
                        simp only [Act.put, List.setIfInBounds_toArray, List.set_cons_zero, List.set_cons_succ]
                        refine wpAnyH_take (i := 18) (v := undef) (by simp; rfl) (by kernel_rfl) (by kernel_rfl) (by kernel_rfl) (by exact fun _ _ _ h => h) (Or.inr ⟨by rfl, rfl⟩) hHeld ?_
                        simp only [Act.put, List.setIfInBounds_toArray, List.set_cons_zero, List.set_cons_succ]
                        refine wpAnyH_take (i := 19) (v := undef) (by simp; rfl) (by kernel_rfl) (by kernel_rfl) (by kernel_rfl) (by exact fun _ _ _ h => h) (Or.inr ⟨by rfl, rfl⟩) hHeld ?_
                        simp only [Act.put, List.setIfInBounds_toArray, List.set_cons_zero, List.set_cons_succ]
                        refine wpAnyH_take (i := 20) (v := undef) (by simp; rfl) (by kernel_rfl) (by kernel_rfl) (by kernel_rfl) (by exact fun _ _ _ h => h) (Or.inr ⟨by rfl, rfl⟩) hHeld ?_
                        simp only [Act.put, List.setIfInBounds_toArray, List.set_cons_zero, List.set_cons_succ]
                        refine wpAnyH_take (i := 21) (v := undef) (by simp; rfl) (by kernel_rfl) (by kernel_rfl) (by kernel_rfl) (by exact fun _ _ _ h => h) (Or.inr ⟨by rfl, rfl⟩) hHeld ?_
                        simp only [Act.put, List.setIfInBounds_toArray, List.set_cons_zero, List.set_cons_succ]
                        refine wpAnyH_take (i := 22) (v := undef) (by simp; rfl) (by kernel_rfl) (by kernel_rfl) (by kernel_rfl) (by exact fun _ _ _ h => h) (Or.inr ⟨by rfl, rfl⟩) hHeld ?_
                        simp only [Act.put, List.setIfInBounds_toArray, List.set_cons_zero, List.set_cons_succ]
                        refine wpAnyH_take (i := 23) (v := ?_) (by simp; rfl) (by kernel_rfl) (by kernel_rfl) (by kernel_rfl) (by exact fun _ _ _ h => h) (Or.inl ⟨by rfl, fun wx hSx => ?_⟩) hHeld ?_
                        rotate_left
                        · clear hSx; go_simp; (try with_reducible rfl)
                        simp only [Act.put, List.setIfInBounds_toArray, List.set_cons_zero, List.set_cons_succ]
                        refine wpAnyH_take (i := 24) (v := ?_) (by simp; rfl) (by kernel_rfl) (by kernel_rfl) (by kernel_rfl) (by exact fun _ _ _ h => h) (Or.inl ⟨by rfl, fun wx hSx => ?_⟩) hHeld ?_
                        rotate_left
                        · clear hSx; go_simp; (try with_reducible rfl)
                        simp only [Act.put, List.setIfInBounds_toArray, List.set_cons_zero, List.set_cons_succ]
                        refine wpAnyH_done (by kernel_rfl) ?_ _
                        have HE := Lib.hid (HBW.out.trans (HB15.out.mono HBW.out.size))
                        clear hHeld heq
                        go_wp2
                        go_roundw
                        case rel => exact ⟨j + 1, by go_num, by have := HIJ.out.2; omega, HE⟩
                        case measure => have := HIJ.out.2; simp [intOf]; omega
                  · have d3 : decide ((j : Int) < (C : Int)) = false := by simp; omega
                    have d3' : decide (j < C) = false := by simp; omega
                    have w3 : IntKind.i64.wrap ((i : Int) + 1) = (i : Int) + 1 := IntWalk.i64_in _ (by have := HPS.out; have := HIN.out; omega)
                    clear hj hjn
                    go_wp2
                    go_roundw
                    case rel => exact ⟨i + 1, by go_num, by have := HIN.out; omega, HS⟩
                    case measure => have := HIN.out; simp [intOf]; omega
              · have d1 : decide ((i : Int) < (R : Int)) = false := by simp; omega
                have d1' : decide (i < R) = false := by simp; omega
                have HU := Lib.hid HS.out
                clear hi hin
                go_wp2
                go_meet
                exact ⟨rfl, b, cap, LN, Lib.hid ⟨HGN.out.below HU.out, HOKN.out, ⟨_, _, (HU.out.block _ (lt_of_block HWB.out)).trans HWB.out⟩, HBN.out.1, HBN.out.2.1, HBN.out.2.2.trans (HU.out.mono HBN.out.2.2.size)⟩⟩
        case rest =>
          obtain ⟨rfl, b4, cap4, L4, HC⟩ := hcut
          clear HWB HGG HYW HYB HBN HG5 HOR HOK HLL
          go_wp2_with fail
          refine (as_gr HC.out.1 HC.out.2.1).mono ?_
          rintro e w6 ⟨yw2, ywc2, rfl, hl6, hR6, hb6⟩
          obtain ⟨y0, yc0, hk0⟩ := HC.out.2.2.1
          have hrow6 := (hb6.block _ (lt_of_block hk0)).trans hk0
          have hgr := grown_setRow w6 kb #[.int .i64 R, .int .i64 C, .slice (some ⟨yw2, 0, none⟩) (R * C) ywc2]
          have HWB : Hid ((w6.setRow kb #[.int .i64 R, .int .i64 C, .slice (some ⟨yw2, 0, none⟩) (R * C) ywc2]).heap[kb]? = some (.cells #[.int .i64 R, .int .i64 C, .slice (some ⟨yw2, 0, none⟩) (R * C) ywc2] 29 (0, 0))) := Lib.hid (setRow_heap _ _ _ #[.int .i64 R, .int .i64 C, .slice (some ⟨yw2, 0, none⟩) (R * C) ywc2] _ _ hrow6)
          have HGG := Lib.hid ((HC.out.1.below hb6).grown hgr (by intro e; injection e with e; exact HNG.out e) (by intro e; injection e with e; exact HC.out.2.2.2.2.1 e))
          have HYW := Lib.hid (hR6.yr.grown hgr (by intro e; injection e with e; have := lt_of_block hk0; omega))
          have HYB : Hid (yw2 ≠ b4) := Lib.hid (by have := HC.out.1.row.lt; omega)
          have HBN := Lib.hid (show w.heap.size ≤ b4 ∧ b4 ≠ kb ∧ Below w.heap.size w (w6.setRow kb #[.int .i64 R, .int .i64 C, .slice (some ⟨yw2, 0, none⟩) (R * C) ywc2]) from ⟨HC.out.2.2.2.1, HC.out.2.2.2.2.1, below_setRow (HC.out.2.2.2.2.2.trans (hb6.mono HC.out.2.2.2.2.2.size)) HKB.out #[.int .i64 R, .int .i64 C, .slice (some ⟨yw2, 0, none⟩) (R * C) ywc2]⟩)
          have HOK := Lib.hid HC.out.2.1
          have HLL := Lib.hid HC.out.1.len
          have HRW := Lib.hid hrow6
          clear hl6 hR6 hb6 hk0 hrow6 hgr HC
          go_upto_region 19 with (refine wpList_store_row rfl 29 (.tmp 20) (.tmp 115) rfl kb #[.int .i64 R, .int .i64 C, .slice (some ⟨yw2, 0, none⟩) (R * C) ywc2] rfl rfl 29 _ HRW.out gy_info rfl (gy_one _ _ rfl) ?_)
          clear HRW
          generalize (w6.setRow kb #[.int .i64 R, .int .i64 C, .slice (some ⟨yw2, 0, none⟩) (R * C) ywc2]) = w9 at HWB HGG HYW HBN ⊢
          go_wp2_with fail
          refine (blank_any _).mono ?_
          rintro e w4 ⟨rfl, hb4⟩
          have HX4 := Lib.hid hb4
          clear hb4
          go_wp2_with fail
          refine (ins_both (HGG.out.below HX4.out) row col m).mono ?_
          rintro e w5 ⟨E, L5, rfl, hG5, hgr5, hor⟩
          have HG5 := Lib.hid (And.intro hG5 (below_grown HX4.out hgr5))
          have HOR := Lib.hid hor
          clear hG5 hgr5 hor HX4 w4
          go_upto_if 122 with fail
          go_cut [19] (fun a wx => a = .pointer (some ⟨g, 0, none⟩) ∧ ∃ b cap L, Hid (Gr g b cap R C L wx ∧ OkL L ∧ (∃ y yc, wx.heap[kb]? = some (.cells #[.int .i64 R, .int .i64 C, .slice (some ⟨y, 0, none⟩) (R * C) yc] 29 (0, 0))) ∧ w.heap.size ≤ b ∧ b ≠ kb ∧ Below w.heap.size w wx))
          case first =>
            rcases HOR.out with ⟨hE, hL⟩ | ⟨hE, a0, q0, k0, rfl, rfl, rfl, h1, h2, hL⟩
            · have HG6 : Hid (Gr g b4 cap4 R C L4 w5 ∧ w9.grownBy w5 (some b4)) := Lib.hid (by rw [← hL]; exact HG5.out)
              subst hE
              clear HOR HG5 hL
              go_wp2
              go_meet
              exact ⟨rfl, b4, cap4, L4, Lib.hid ⟨HG6.out.1, HOK.out, ⟨_, _, (HG6.out.2.block kb (lt_of_block HWB.out) (by intro e; injection e with e; exact HBN.out.2.1 e.symm)).trans HWB.out⟩, HBN.out.1, HBN.out.2.1, HBN.out.2.2.trans (below_by HG6.out.2 HBN.out.1 HBN.out.2.2.size)⟩⟩
            · have HG6 : Hid (Gr g b4 cap4 R C (insL C L4 a0 q0 k0 blC) w5 ∧ w9.grownBy w5 (some b4)) := Lib.hid (by rw [← hL]; exact HG5.out)
              have HTD := Lib.hid (And.intro h1 h2)
              subst hE
              clear HOR HG5 hL h1 h2
              go_wp2_with fail
              refine (blank_any _).mono ?_
              rintro e w6 ⟨rfl, hb6⟩
              have HX6 := Lib.hid hb6
              clear hb6
              go_wp2_with fail
              refine (delete_yes (HG6.out.1.below HX6.out) HTD.out.1 HTD.out.2 blC).mono ?_
              rintro e w7 ⟨rfl, hG7, hgr7⟩
              have hok9 : OkL (delL C (insL C L4 a0 q0 k0 blC) a0 q0 k0 blC) := ok_del (by rw [← dins_eq HLL.out HTD.out.1 HTD.out.2 HPS.out.2.2.2, genL_len]; exact HLL.out) (ok_ins HLL.out HOK.out HTD.out.1 HTD.out.2 HPS.out.2.2.2) HTD.out.1 HTD.out.2 HPS.out.2.2.2
              have hAT := fun i j (hi : i < R) (hj : j < C) => mv_ins (m := k0) HLL.out HTD.out.1 HTD.out.2 HPS.out.2.2.2 hi hj
              have hlen7 := hG7.len
              generalize (delL C (insL C L4 a0 q0 k0 blC) a0 q0 k0 blC) = LN at hG7 hok9 hAT hlen7
              have HG7 := Lib.hid (And.intro hG7 (grown_trans HG6.out.2 (below_grown HX6.out hgr7)))
              have HOKN := Lib.hid hok9
              have HAT : Hid (∀ i j, i < R → j < C → ceAt LN (i * C + j) = if (decide (i = a0) && decide (q0 ≤ j) && decide (C ≤ j + k0)) = true then blC else ceAt L4 (i * C + j)) := Lib.hid (fun i j hi hj => hAT i j hi hj)
              have HLN := Lib.hid (show LN.length = R * C ∧ L4.length = R * C ∧ R * C ≤ 1000 from ⟨hlen7, HLL.out, by have := Nat.mul_le_mul HPS.out.2.1 HPS.out.2.2.2; omega⟩)
              clear hG7 hgr7 hok9 hAT hlen7 HG6 HX6
              go_wp2_with fail
              refine (as_gr HG7.out.1 HOKN.out).mono ?_
              rintro e w8 ⟨yn, ync, rfl, hl8, hR8, hb8⟩
              obtain ⟨nb, hnb⟩ : ∃ t, w8.heap.size = t := ⟨_, rfl⟩
              have hbU := (Below.refl w8.heap.size w8).alloc (Nat.le_refl _) (.cells #[.int .i64 R, .int .i64 C, .slice (some ⟨yn, 0, none⟩) (R * C) ync] 29)
              have HNB : Hid ((w8.alloc (.cells #[.int .i64 R, .int .i64 C, .slice (some ⟨yn, 0, none⟩) (R * C) ync] 29)).heap[nb]? = some (.cells #[.int .i64 R, .int .i64 C, .slice (some ⟨yn, 0, none⟩) (R * C) ync] 29 (0, 0))) := Lib.hid (by rw [← hnb]; exact heap_alloc_new _ _)
              have h7 := (HG7.out.2.block kb (lt_of_block HWB.out) (by intro e; injection e with e; exact HBN.out.2.1 e.symm)).trans HWB.out
              have h8 := (hb8.block _ (lt_of_block h7)).trans h7
              have HWU := Lib.hid ((hbU.block _ (lt_of_block h8)).trans h8)
              have HYN := Lib.hid (hR8.yr.below hbU)
              have HYU := Lib.hid (((HYW.out.grown HG7.out.2 (by intro e; injection e with e; exact HYB.out e)).below hb8).below hbU)
              have HGN := Lib.hid ((HG7.out.1.below hb8).below hbU)
              have HBU : Hid (w.heap.size ≤ b4 ∧ b4 ≠ kb ∧ Below w.heap.size w (w8.alloc (.cells #[.int .i64 R, .int .i64 C, .slice (some ⟨yn, 0, none⟩) (R * C) ync] 29))) := Lib.hid (by
                have hz := HBN.out.2.2.trans (below_by HG7.out.2 HBN.out.1 HBN.out.2.2.size)
                exact ⟨HBN.out.1, HBN.out.2.1, hz.trans ((hb8.trans (hbU.mono hb8.size)).mono hz.size)⟩)
              clear hl8 hR8 hb8 hbU h7 h8 HWB HYW HGG HBN HG7
              go_wp2_with fail
              generalize (w8.alloc (.cells #[.int .i64 R, .int .i64 C, .slice (some ⟨yn, 0, none⟩) (R * C) ync] 29)) = U at HNB HWU HYN HYU HGN HBU ⊢
              try simp only [hnb]
              clear hnb
              have HWB := HWU
              have HYW := HYU
              have HBN := HBU
              clear HWU HYU HBU
              go_loopw [26] (fun iv wr => ∃ i : Nat, iv = .int .i64 i ∧ i ≤ R ∧ Hid (Below U.heap.size U wr)) (fun iv _ => R - (intOf iv).toNat)
              case atStart => exact ⟨0, rfl, by omega, Lib.hid (Below.refl _ _)⟩
              case round =>
                obtain ⟨i, rfl, hi, HS⟩ := hrel
                obtain ⟨y0, y1, y2⟩ := three_cells ((HS.out.block _ (lt_of_block HWB.out)).trans HWB.out)
                by_cases hin : i < R
                · have d1 : decide ((i : Int) < (R : Int)) = true := by simp; omega
                  have d1' : decide (i < R) = true := by simp; omega
                  have w1 : IntKind.i64.wrap ((i : Int) + 1) = (i : Int) + 1 := IntWalk.i64_in _ (by have := HPS.out; omega)
                  have HIN := Lib.hid hin
                  clear hi hin
                  go_wp2
                  go_loopw [27] (fun iv wr => ∃ j : Nat, iv = .int .i64 j ∧ j ≤ C ∧ Hid (Below U.heap.size U wr)) (fun iv _ => C - (intOf iv).toNat)
                  case atStart => exact ⟨0, rfl, by omega, HS⟩
                  case round =>
                    clear HS y0 y1 y2
                    obtain ⟨j, rfl, hj, HS⟩ := hrel
                    obtain ⟨y0, y1, y2⟩ := three_cells ((HS.out.block _ (lt_of_block HWB.out)).trans HWB.out)
                    by_cases hjn : j < C
                    · have d3 : decide ((j : Int) < (C : Int)) = true := by simp; omega
                      have d3' : decide (j < C) = true := by simp; omega
                      have w2 : IntKind.i64.wrap ((j : Int) + 1) = (j : Int) + 1 := IntWalk.i64_in _ (by have := HPS.out; omega)
                      have hkl : i * C + j < R * C := ix_lt HIN.out hjn
                      have HIJ := Lib.hid (And.intro HIN.out hjn)
                      have hat := HAT.out i j HIN.out hjn
                      clear hj hjn
                      go_upto_region 29 with fail
                      go_cut [28] (fun a wx => a = .bool (decide (i = a0) && decide (q0 ≤ j) && decide (C ≤ j + k0)) ∧ wx = wr)
                      case first =>
                        have wsub : IntKind.i64.wrap ((C : Int) - (j : Int)) = (C : Int) - (j : Int) := IntWalk.i64_in _ (by have := HPS.out; have := HIJ.out; omega)
                        generalize hW : (decide (i = a0) && decide (q0 ≤ j) && decide (C ≤ j + k0)) = W
                        have HW := Lib.hid hW
                        clear hW hat hkl
                        by_cases h1 : i = a0
                        · have e1 : decide ((i : Int) = (a0 : Int)) = true := by simp; omega
                          have e1' : decide (i = a0) = true := by simp; omega
                          have e1'' : ((i : Int) == (a0 : Int)) = true := by simp; omega
                          have HI0 := Lib.hid h1
                          clear h1
                          by_cases h2 : q0 ≤ j
                          · have e2 : decide ((q0 : Int) ≤ (j : Int)) = true := by simp; omega
                            have e2' : decide (q0 ≤ j) = true := by simp; omega
                            by_cases h3 : C ≤ j + k0
                            · have e3 : decide ((C : Int) - (j : Int) ≤ (k0 : Int)) = true := by simp; omega
                              have HV := Lib.hid (show W = true from by rw [← HW.out]; have := HI0.out; simp; omega)
                              clear h2 h3
                              go_wp2
                              go_meet
                              exact ⟨by first | rw [HW.out, HV.out] | rw [HV.out], rfl⟩
                            · have e3 : decide ((C : Int) - (j : Int) ≤ (k0 : Int)) = false := by simp; omega
                              have HV := Lib.hid (show W = false from by rw [← HW.out]; have := HI0.out; simp; omega)
                              clear h2 h3
                              go_wp2
                              go_meet
                              exact ⟨by first | rw [HW.out, HV.out] | rw [HV.out], rfl⟩
                          · have e2 : decide ((q0 : Int) ≤ (j : Int)) = false := by simp; omega
                            have e2' : decide (q0 ≤ j) = false := by simp; omega
                            have HV := Lib.hid (show W = false from by rw [← HW.out]; have := HI0.out; simp; omega)
                            clear h2
                            go_wp2
                            go_meet
                            exact ⟨by first | rw [HW.out, HV.out] | rw [HV.out], rfl⟩
                        · have e1 : decide ((i : Int) = (a0 : Int)) = false := by simp; omega
                          have e1' : decide (i = a0) = false := by simp; omega
                          have e1'' : ((i : Int) == (a0 : Int)) = false := by simp; omega
                          have HV := Lib.hid (show W = false from by rw [← HW.out]; simp; omega)
                          clear h1
                          go_wp2
                          go_meet
                          exact ⟨by first | rw [HW.out, HV.out] | rw [HV.out], rfl⟩
                      case rest =>
                        obtain ⟨rfl, rfl⟩ := hcut
                        cases hlost : (decide (i = a0) && decide (q0 ≤ j) && decide (C ≤ j + k0)) with
                        | true =>
                          obtain ⟨cm, hcm⟩ : ∃ c, blC = c := ⟨_, rfl⟩
                          have hcn : ceAt LN (i * C + j) = cm := by rw [hat, if_pos hlost, hcm]
                          have hcok : OkC cm := by rw [← hcm]; exact ⟨by decide, by decide⟩
                          subst hcm
                          clear hat
                          obtain ⟨mp, m0, m1, m2, m3, m4, m5, m6, m7, mg, mb, hm⟩ := yC_form blC
                          have hym : yV blC = .agg #[.int .i32 mp, .bool m0, .bool m1, .bool m2, .bool m3, .bool m4, .bool m5, .bool m6, .bool m7, .int .u32 mg, .int .u32 mb] := by unfold yV; rw [hm]
                          have heq : ∀ W, (Op.equalIn 10000 49 (.agg #[.int .i32 mp, .bool m0, .bool m1, .bool m2, .bool m3, .bool m4, .bool m5, .bool m6, .bool m7, .int .u32 mg, .int .u32 mb]) (.agg #[.int .i32 mp, .bool m0, .bool m1, .bool m2, .bool m3, .bool m4, .bool m5, .bool m6, .bool m7, .int .u32 mg, .int .u32 mb])).run Try.prog W = .ok true W := fun W => by
                            have hz := eq_yc hcok hcok W
                            rw [hym] at hz
                            simpa using hz
                          have hbw := HS.out.drew
                          have HAN : Hid (∀ X : World, Below wc.drew.heap.size wc.drew X → Calls Try.prog 14 #[.agg #[.int .i64 R, .int .i64 C, .slice (some ⟨yn, 0, none⟩) (R * C) ync], .int .i64 i, .int .i64 j] X fun e w' => e = .returned (.agg #[.int .i32 mp, .bool m0, .bool m1, .bool m2, .bool m3, .bool m4, .bool m5, .bool m6, .bool m7, .int .u32 mg, .int .u32 mb]) ∧ Below X.heap.size X w') := Lib.hid (fun X hX => by
                            have hz := rat_any (R := R) (cap := ync) (HYN.out.below (hbw.trans (hX.mono hbw.size))) HLN.out.1 (by have := HLN.out.2.2; omega) (i := i) (j := j) (o := i * C) (k := i * C + j) rfl rfl hkl (by have := HPS.out; omega) (c := blC) hcn
                            rwa [hym] at hz)
                          have HBL := Lib.hid (fun W => blank_any W)
                          have HCE : Hid (∀ W, Calls Try.prog 13 #[cV blC] W fun e w' => e = .returned (.agg #[.int .i32 mp, .bool m0, .bool m1, .bool m2, .bool m3, .bool m4, .bool m5, .bool m6, .bool m7, .int .u32 mg, .int .u32 mb]) ∧ Below W.heap.size W w') := Lib.hid (fun W => by
                            have hz := l_cell blC W (by decide) (by decide)
                            rwa [hym] at hz)
                          have HNC := Lib.hid (fun (X : World) (hX : Below wc.drew.heap.size wc.drew X) => three_cells (((hbw.trans (hX.mono hbw.size)).block _ (lt_of_block HNB.out)).trans HNB.out))
                          have HWC := Lib.hid (fun (X : World) (hX : Below wc.drew.heap.size wc.drew X) => three_cells (((hbw.trans (hX.mono hbw.size)).block _ (lt_of_block HWB.out)).trans HWB.out))
                          have HB15 := Lib.hid (Below.refl wc.drew.heap.size wc.drew)
                          have HBW := Lib.hid hbw
                          clear hm hym hbw hcok
                          go_wp2_with fail
                          refine wp_region_held_drew (S := fun W => Below wc.drew.heap.size wc.drew W) (by kernel_rfl) (Below.refl _ _) (fun hHeld => ?_)
                          refine wpAnyH_take (i := 0) (v := ?_) (by simp; rfl) (by kernel_rfl) (by kernel_rfl) (by kernel_rfl) (by exact fun _ _ _ h => h) (Or.inl ⟨by rfl, fun wx hSx => ?_⟩) hHeld ?_
                          rotate_left
                          · clear hSx; go_simp; (try with_reducible rfl)
                          simp only [Act.put, List.setIfInBounds_toArray, List.set_cons_zero, List.set_cons_succ]
                          refine wpAnyH_take (i := 1) (v := ?_) (by simp; rfl) (by kernel_rfl) (by kernel_rfl) (by kernel_rfl) (by exact fun _ _ _ h => h) (Or.inl ⟨by rfl, fun wx hSx => ?_⟩) hHeld ?_
                          rotate_left
                          · clear hSx; go_simp; (try with_reducible rfl)
                          simp only [Act.put, List.setIfInBounds_toArray, List.set_cons_zero, List.set_cons_succ]
                          refine wpAnyH_take (i := 2) (v := ?_) (by simp; rfl) (by kernel_rfl) (by kernel_rfl) (by kernel_rfl) (by exact fun _ _ _ h => h) (Or.inl ⟨by rfl, fun wx hSx => ?_⟩) hHeld ?_
                          rotate_left
                          · clear hSx; go_simp; (try with_reducible rfl)
                          simp only [Act.put, List.setIfInBounds_toArray, List.set_cons_zero, List.set_cons_succ]
                          refine wpAnyH_take (i := 3) (v := undef) (by simp; rfl) (by kernel_rfl) (by kernel_rfl) (by kernel_rfl) (by exact fun _ _ _ h => h) (Or.inr ⟨by rfl, rfl⟩) hHeld ?_
                          simp only [Act.put, List.setIfInBounds_toArray, List.set_cons_zero, List.set_cons_succ]
                          refine wpAnyH_take (i := 4) (v := undef) (by simp; rfl) (by kernel_rfl) (by kernel_rfl) (by kernel_rfl) (by exact fun _ _ _ h => h) (Or.inr ⟨by rfl, rfl⟩) hHeld ?_
                          simp only [Act.put, List.setIfInBounds_toArray, List.set_cons_zero, List.set_cons_succ]
                          refine wpAnyH_take (i := 5) (v := undef) (by simp; rfl) (by kernel_rfl) (by kernel_rfl) (by kernel_rfl) (by exact fun _ _ _ h => h) (Or.inr ⟨by rfl, rfl⟩) hHeld ?_
                          simp only [Act.put, List.setIfInBounds_toArray, List.set_cons_zero, List.set_cons_succ]
                          refine wpAnyH_take (i := 6) (v := undef) (by simp; rfl) (by kernel_rfl) (by kernel_rfl) (by kernel_rfl) (by exact fun _ _ _ h => h) (Or.inr ⟨by rfl, rfl⟩) hHeld ?_
                          simp only [Act.put, List.setIfInBounds_toArray, List.set_cons_zero, List.set_cons_succ]
                          refine wpAnyH_take (i := 7) (v := undef) (by simp; rfl) (by kernel_rfl) (by kernel_rfl) (by kernel_rfl) (by exact fun _ _ _ h => h) (Or.inr ⟨by rfl, rfl⟩) hHeld ?_
                          simp only [Act.put, List.setIfInBounds_toArray, List.set_cons_zero, List.set_cons_succ]
                          refine wpAnyH_take (i := 8) (v := undef) (by simp; rfl) (by kernel_rfl) (by kernel_rfl) (by kernel_rfl) (by exact fun _ _ _ h => h) (Or.inr ⟨by rfl, rfl⟩) hHeld ?_
                          simp only [Act.put, List.setIfInBounds_toArray, List.set_cons_zero, List.set_cons_succ]
                          refine wpAnyH_take (i := 9) (v := undef) (by simp; rfl) (by kernel_rfl) (by kernel_rfl) (by kernel_rfl) (by exact fun _ _ _ h => h) (Or.inr ⟨by rfl, rfl⟩) hHeld ?_
                          simp only [Act.put, List.setIfInBounds_toArray, List.set_cons_zero, List.set_cons_succ]
                          refine wpAnyH_take (i := 10) (v := undef) (by simp; rfl) (by kernel_rfl) (by kernel_rfl) (by kernel_rfl) (by exact fun _ _ _ h => h) (Or.inr ⟨by rfl, rfl⟩) hHeld ?_
                          simp only [Act.put, List.setIfInBounds_toArray, List.set_cons_zero, List.set_cons_succ]
                          refine wpAnyH_take (i := 11) (v := undef) (by simp; rfl) (by kernel_rfl) (by kernel_rfl) (by kernel_rfl) (by exact fun _ _ _ h => h) (Or.inr ⟨by rfl, rfl⟩) hHeld ?_
                          simp only [Act.put, List.setIfInBounds_toArray, List.set_cons_zero, List.set_cons_succ]
                          refine wpAnyH_take (i := 12) (v := ?_) (by simp; rfl) (by kernel_rfl) (by kernel_rfl) (by kernel_rfl) (by exact fun _ _ _ h => h) (Or.inl ⟨by rfl, fun wx hSx => ?_⟩) hHeld ?_
                          rotate_left
                          · clear hSx; go_simp; (try with_reducible rfl)
                          simp only [Act.put, List.setIfInBounds_toArray, List.set_cons_zero, List.set_cons_succ]
                          refine wpAnyH_take (i := 13) (v := ?_) (by simp; rfl) (by kernel_rfl) (by kernel_rfl) (by kernel_rfl) (by exact fun _ _ _ h => h) (Or.inl ⟨by rfl, fun wx hSx => ?_⟩) hHeld ?_
                          rotate_left
                          · clear hSx; go_simp; (try with_reducible rfl)
                          simp only [Act.put, List.setIfInBounds_toArray, List.set_cons_zero, List.set_cons_succ]
                          refine wpAnyH_take (i := 14) (v := ?_) (by simp; rfl) (by kernel_rfl) (by kernel_rfl) (by kernel_rfl) (by exact fun _ _ _ h => h) (Or.inl ⟨by rfl, fun wx hSx => ?_⟩) hHeld ?_
                          rotate_left
                          · clear hSx; go_simp; (try with_reducible rfl)
                          simp only [Act.put, List.setIfInBounds_toArray, List.set_cons_zero, List.set_cons_succ]
                          refine wpAnyH_take (i := 15) (v := ?_) (by simp; rfl) (by kernel_rfl) (by kernel_rfl) (by kernel_rfl) (by exact fun _ _ _ h => h) (Or.inl ⟨by rfl, fun wx hSx => ?_⟩) hHeld ?_
                          rotate_left
                          · clear hSx; go_simp; (try with_reducible rfl)
                          simp only [Act.put, List.setIfInBounds_toArray, List.set_cons_zero, List.set_cons_succ]
                          refine wpAnyH_take (i := 16) (v := ?_) (by simp; rfl) (by kernel_rfl) (by kernel_rfl) (by kernel_rfl) (by exact fun _ _ _ h => h) (Or.inl ⟨by rfl, fun wx hSx => ?_⟩) hHeld ?_
                          rotate_left
                          · obtain ⟨x0, x1, x2⟩ := HNC.out wx hSx; clear hSx; go_simp; (try with_reducible rfl)
                          simp only [Act.put, List.setIfInBounds_toArray, List.set_cons_zero, List.set_cons_succ]
                          refine wpAnyH_take (i := 17) (v := ?_) (by simp; rfl) (by kernel_rfl) (by kernel_rfl) (by kernel_rfl) (by exact fun _ _ _ h => h) (Or.inl ⟨by rfl, fun wx hSx => ?_⟩) hHeld ?_
                          rotate_left
                          · clear hSx; go_simp; (try with_reducible rfl)
                          simp only [Act.put, List.setIfInBounds_toArray, List.set_cons_zero, List.set_cons_succ]
                          refine wpAnyH_take (i := 18) (v := ?_) (by simp; rfl) (by kernel_rfl) (by kernel_rfl) (by kernel_rfl) (by exact fun _ _ _ h => h) (Or.inl ⟨by rfl, fun wx hSx => ?_⟩) hHeld ?_
                          rotate_left
                          · clear hSx; go_simp; (try with_reducible rfl)
                          simp only [Act.put, List.setIfInBounds_toArray, List.set_cons_zero, List.set_cons_succ]
                          refine wpAnyH_ready (rs := [19]) (by kernel_rfl) (by simp) ?_
                          refine AllReadyH.cons (by simp; rfl) (fun K0 hK0 => ?_) AllReadyH.nil
                          go_simp
                          refine (HAN.out _ HB15.out).mono ?_
                          rintro e d1 ⟨rfl, hbV⟩
                          have HB2 := Lib.hid (HB15.out.trans (hbV.mono HB15.out.size))
                          clear HB15 hbV
                          have HB15 := HB2
                          clear HB2
                          refine hK0.out _ _ HB15.out (fun _ => ?_)
                          clear hK0 K0 hHeld
                          have hHeld := HB15.out
                          refine wpAnyH_ready (rs := [20]) (by kernel_rfl) (by simp) ?_
                          refine AllReadyH.cons (by simp; rfl) (fun K0 hK0 => ?_) AllReadyH.nil
                          go_simp
                          refine (HBL.out _).mono ?_
                          rintro e d2 ⟨rfl, hbV⟩
                          have HB2 := Lib.hid (HB15.out.trans (hbV.mono HB15.out.size))
                          clear HB15 hbV
                          have HB15 := HB2
                          clear HB2
                          refine hK0.out _ _ HB15.out (fun _ => ?_)
                          clear hK0 K0 hHeld
                          have hHeld := HB15.out
                          refine wpAnyH_ready (rs := [21]) (by kernel_rfl) (by simp) ?_
                          refine AllReadyH.cons (by simp; rfl) (fun K0 hK0 => ?_) AllReadyH.nil
                          go_simp
                          refine (HCE.out _).mono ?_
                          rintro e d3 ⟨rfl, hbV⟩
                          have HB2 := Lib.hid (HB15.out.trans (hbV.mono HB15.out.size))
                          clear HB15 hbV
                          have HB15 := HB2
                          clear HB2
                          refine hK0.out _ _ HB15.out (fun _ => ?_)
                          clear hK0 K0 hHeld
                          have hHeld := HB15.out
                          refine wpAnyH_take (i := 22) (v := ?_) (by simp; rfl) (by kernel_rfl) (by kernel_rfl) (by kernel_rfl) (by exact fun _ _ _ h => h) (Or.inl ⟨by rfl, fun wx hSx => ?_⟩) hHeld ?_
                          rotate_left
                          · clear hSx; go_simp; (try with_reducible rfl)
                          simp only [Act.put, List.setIfInBounds_toArray, List.set_cons_zero, List.set_cons_succ]
                          refine wpAnyH_take (i := 23) (v := ?_) (by simp; rfl) (by kernel_rfl) (by kernel_rfl) (by kernel_rfl) (by exact fun _ _ _ h => h) (Or.inl ⟨by rfl, fun wx hSx => ?_⟩) hHeld ?_
                          rotate_left
                          · clear hSx; go_simp; (try with_reducible rfl)
                          simp only [Act.put, List.setIfInBounds_toArray, List.set_cons_zero, List.set_cons_succ]
                          refine wpAnyH_take (i := 24) (v := ?_) (by simp; rfl) (by kernel_rfl) (by kernel_rfl) (by kernel_rfl) (by exact fun _ _ _ h => h) (Or.inl ⟨by rfl, fun wx hSx => ?_⟩) hHeld ?_
                          rotate_left
                          · clear hSx; go_simp; (try with_reducible rfl)
                          simp only [Act.put, List.setIfInBounds_toArray, List.set_cons_zero, List.set_cons_succ]
                          refine wpAnyH_done (by kernel_rfl) ?_ _
                          have HE := Lib.hid (HBW.out.trans (HB15.out.mono HBW.out.size))
                          clear hHeld heq
                          go_wp2
                          go_roundw
                          case rel => exact ⟨j + 1, by go_num, by have := HIJ.out.2; omega, HE⟩
                          case measure => have := HIJ.out.2; simp [intOf]; omega
                        | false =>
                          obtain ⟨cm, hcn⟩ : ∃ c, ceAt LN (i * C + j) = c := ⟨_, rfl⟩
                          have hcw : ceAt L4 (i * C + j) = cm := by rw [← hcn, hat, if_neg (by rw [hlost]; decide)]
                          have hcok : OkC cm := by rw [← hcw]; exact okC_at HOK.out _
                          clear hat
                          obtain ⟨mp, m0, m1, m2, m3, m4, m5, m6, m7, mg, mb, hm⟩ := yC_form cm
                          have hym : yV cm = .agg #[.int .i32 mp, .bool m0, .bool m1, .bool m2, .bool m3, .bool m4, .bool m5, .bool m6, .bool m7, .int .u32 mg, .int .u32 mb] := by unfold yV; rw [hm]
                          have heq : ∀ W, (Op.equalIn 10000 49 (.agg #[.int .i32 mp, .bool m0, .bool m1, .bool m2, .bool m3, .bool m4, .bool m5, .bool m6, .bool m7, .int .u32 mg, .int .u32 mb]) (.agg #[.int .i32 mp, .bool m0, .bool m1, .bool m2, .bool m3, .bool m4, .bool m5, .bool m6, .bool m7, .int .u32 mg, .int .u32 mb])).run Try.prog W = .ok true W := fun W => by
                            have hz := eq_yc hcok hcok W
                            rw [hym] at hz
                            simpa using hz
                          have hbw := HS.out.drew
                          have HAN : Hid (∀ X : World, Below wc.drew.heap.size wc.drew X → Calls Try.prog 14 #[.agg #[.int .i64 R, .int .i64 C, .slice (some ⟨yn, 0, none⟩) (R * C) ync], .int .i64 i, .int .i64 j] X fun e w' => e = .returned (.agg #[.int .i32 mp, .bool m0, .bool m1, .bool m2, .bool m3, .bool m4, .bool m5, .bool m6, .bool m7, .int .u32 mg, .int .u32 mb]) ∧ Below X.heap.size X w') := Lib.hid (fun X hX => by
                            have hz := rat_any (R := R) (cap := ync) (HYN.out.below (hbw.trans (hX.mono hbw.size))) HLN.out.1 (by have := HLN.out.2.2; omega) (i := i) (j := j) (o := i * C) (k := i * C + j) rfl rfl hkl (by have := HPS.out; omega) (c := cm) hcn
                            rwa [hym] at hz)
                          have HAW : Hid (∀ X : World, Below wc.drew.heap.size wc.drew X → Calls Try.prog 14 #[.agg #[.int .i64 R, .int .i64 C, .slice (some ⟨yw2, 0, none⟩) (R * C) ywc2], .int .i64 i, .int .i64 j] X fun e w' => e = .returned (.agg #[.int .i32 mp, .bool m0, .bool m1, .bool m2, .bool m3, .bool m4, .bool m5, .bool m6, .bool m7, .int .u32 mg, .int .u32 mb]) ∧ Below X.heap.size X w') := Lib.hid (fun X hX => by
                            have hz := rat_any (R := R) (cap := ywc2) (HYW.out.below (hbw.trans (hX.mono hbw.size))) HLN.out.2.1 (by have := HLN.out.2.2; omega) (i := i) (j := j) (o := i * C) (k := i * C + j) rfl rfl hkl (by have := HPS.out; omega) (c := cm) hcw
                            rwa [hym] at hz)
                          have HNC := Lib.hid (fun (X : World) (hX : Below wc.drew.heap.size wc.drew X) => three_cells (((hbw.trans (hX.mono hbw.size)).block _ (lt_of_block HNB.out)).trans HNB.out))
                          have HWC := Lib.hid (fun (X : World) (hX : Below wc.drew.heap.size wc.drew X) => three_cells (((hbw.trans (hX.mono hbw.size)).block _ (lt_of_block HWB.out)).trans HWB.out))
                          have HB15 := Lib.hid (Below.refl wc.drew.heap.size wc.drew)
                          have HBW := Lib.hid hbw
                          clear hm hym hbw hcok
                          go_wp2_with fail
                          refine wp_region_held_drew (S := fun W => Below wc.drew.heap.size wc.drew W) (by kernel_rfl) (Below.refl _ _) (fun hHeld => ?_)
                          refine wpAnyH_take (i := 0) (v := ?_) (by simp; rfl) (by kernel_rfl) (by kernel_rfl) (by kernel_rfl) (by exact fun _ _ _ h => h) (Or.inl ⟨by rfl, fun wx hSx => ?_⟩) hHeld ?_
                          rotate_left
                          · clear hSx; go_simp; (try with_reducible rfl)
                          simp only [Act.put, List.setIfInBounds_toArray, List.set_cons_zero, List.set_cons_succ]
                          refine wpAnyH_take (i := 1) (v := ?_) (by simp; rfl) (by kernel_rfl) (by kernel_rfl) (by kernel_rfl) (by exact fun _ _ _ h => h) (Or.inl ⟨by rfl, fun wx hSx => ?_⟩) hHeld ?_
                          rotate_left
                          · clear hSx; go_simp; (try with_reducible rfl)
                          simp only [Act.put, List.setIfInBounds_toArray, List.set_cons_zero, List.set_cons_succ]
                          refine wpAnyH_take (i := 2) (v := ?_) (by simp; rfl) (by kernel_rfl) (by kernel_rfl) (by kernel_rfl) (by exact fun _ _ _ h => h) (Or.inl ⟨by rfl, fun wx hSx => ?_⟩) hHeld ?_
                          rotate_left
                          · clear hSx; go_simp; (try with_reducible rfl)
                          simp only [Act.put, List.setIfInBounds_toArray, List.set_cons_zero, List.set_cons_succ]
                          refine wpAnyH_take (i := 3) (v := ?_) (by simp; rfl) (by kernel_rfl) (by kernel_rfl) (by kernel_rfl) (by exact fun _ _ _ h => h) (Or.inl ⟨by rfl, fun wx hSx => ?_⟩) hHeld ?_
                          rotate_left
                          · obtain ⟨x0, x1, x2⟩ := HNC.out wx hSx; clear hSx; go_simp; (try with_reducible rfl)
                          simp only [Act.put, List.setIfInBounds_toArray, List.set_cons_zero, List.set_cons_succ]
                          refine wpAnyH_take (i := 4) (v := ?_) (by simp; rfl) (by kernel_rfl) (by kernel_rfl) (by kernel_rfl) (by exact fun _ _ _ h => h) (Or.inl ⟨by rfl, fun wx hSx => ?_⟩) hHeld ?_
                          rotate_left
                          · clear hSx; go_simp; (try with_reducible rfl)
                          simp only [Act.put, List.setIfInBounds_toArray, List.set_cons_zero, List.set_cons_succ]
                          refine wpAnyH_take (i := 5) (v := ?_) (by simp; rfl) (by kernel_rfl) (by kernel_rfl) (by kernel_rfl) (by exact fun _ _ _ h => h) (Or.inl ⟨by rfl, fun wx hSx => ?_⟩) hHeld ?_
                          rotate_left
                          · clear hSx; go_simp; (try with_reducible rfl)
                          simp only [Act.put, List.setIfInBounds_toArray, List.set_cons_zero, List.set_cons_succ]
                          refine wpAnyH_take (i := 7) (v := ?_) (by simp; rfl) (by kernel_rfl) (by kernel_rfl) (by kernel_rfl) (by exact fun _ _ _ h => h) (Or.inl ⟨by rfl, fun wx hSx => ?_⟩) hHeld ?_
                          rotate_left
                          · obtain ⟨x0, x1, x2⟩ := HWC.out wx hSx; clear hSx; go_simp; (try with_reducible rfl)
                          simp only [Act.put, List.setIfInBounds_toArray, List.set_cons_zero, List.set_cons_succ]
                          refine wpAnyH_take (i := 8) (v := ?_) (by simp; rfl) (by kernel_rfl) (by kernel_rfl) (by kernel_rfl) (by exact fun _ _ _ h => h) (Or.inl ⟨by rfl, fun wx hSx => ?_⟩) hHeld ?_
                          rotate_left
                          · clear hSx; go_simp; (try with_reducible rfl)
                          simp only [Act.put, List.setIfInBounds_toArray, List.set_cons_zero, List.set_cons_succ]
                          refine wpAnyH_take (i := 9) (v := ?_) (by simp; rfl) (by kernel_rfl) (by kernel_rfl) (by kernel_rfl) (by exact fun _ _ _ h => h) (Or.inl ⟨by rfl, fun wx hSx => ?_⟩) hHeld ?_
                          rotate_left
                          · clear hSx; go_simp; (try with_reducible rfl)
                          simp only [Act.put, List.setIfInBounds_toArray, List.set_cons_zero, List.set_cons_succ]
                          refine wpAnyH_ready (rs := [6]) (by kernel_rfl) (by simp) ?_
                          refine AllReadyH.cons (by simp; rfl) (fun K0 hK0 => ?_) AllReadyH.nil
                          go_simp
                          refine (HAN.out _ HB15.out).mono ?_
                          rintro e d1 ⟨rfl, hbV⟩
                          have HB2 := Lib.hid (HB15.out.trans (hbV.mono HB15.out.size))
                          clear HB15 hbV
                          have HB15 := HB2
                          clear HB2
                          refine hK0.out _ _ HB15.out (fun _ => ?_)
                          clear hK0 K0 hHeld
                          have hHeld := HB15.out
                          refine wpAnyH_ready (rs := [10]) (by kernel_rfl) (by simp) ?_
                          refine AllReadyH.cons (by simp; rfl) (fun K0 hK0 => ?_) AllReadyH.nil
                          go_simp
                          refine (HAW.out _ HB15.out).mono ?_
                          rintro e d2 ⟨rfl, hbV⟩
                          have HB2 := Lib.hid (HB15.out.trans (hbV.mono HB15.out.size))
                          clear HB15 hbV
                          have HB15 := HB2
                          clear HB2
                          refine hK0.out _ _ HB15.out (fun _ => ?_)
                          clear hK0 K0 hHeld
                          have hHeld := HB15.out
                          refine wpAnyH_take (i := 11) (v := ?_) (by simp; rfl) (by kernel_rfl) (by kernel_rfl) (by kernel_rfl) (by exact fun _ _ _ h => h) (Or.inl ⟨by rfl, fun wx hSx => ?_⟩) hHeld ?_
                          rotate_left
                          · clear hSx; go_simp; (try with_reducible rfl)
                          simp only [Act.put, List.setIfInBounds_toArray, List.set_cons_zero, List.set_cons_succ]
                          refine wpAnyH_take (i := 12) (v := ?_) (by simp; rfl) (by kernel_rfl) (by kernel_rfl) (by kernel_rfl) (by exact fun _ _ _ h => h) (Or.inl ⟨by rfl, fun wx hSx => ?_⟩) hHeld ?_
                          rotate_left
                          · clear hSx; go_simp; (try with_reducible rfl)
                          simp only [Act.put, List.setIfInBounds_toArray, List.set_cons_zero, List.set_cons_succ]
                          refine wpAnyH_take (i := 13) (v := ?_) (by simp; rfl) (by kernel_rfl) (by kernel_rfl) (by kernel_rfl) (by exact fun _ _ _ h => h) (Or.inl ⟨by rfl, fun wx hSx => ?_⟩) hHeld ?_
                          rotate_left
                          · clear hSx; go_simp; (try with_reducible rfl)
                          simp only [Act.put, List.setIfInBounds_toArray, List.set_cons_zero, List.set_cons_succ]
                          refine wpAnyH_take (i := 14) (v := ?_) (by simp; rfl) (by kernel_rfl) (by kernel_rfl) (by kernel_rfl) (by exact fun _ _ _ h => h) (Or.inl ⟨by rfl, fun wx hSx => ?_⟩) hHeld ?_
                          rotate_left
                          · clear hSx; go_simp; (try with_reducible rfl)
                          simp only [Act.put, List.setIfInBounds_toArray, List.set_cons_zero, List.set_cons_succ]
                          refine wpAnyH_take (i := 15) (v := ?_) (by simp; rfl) (by kernel_rfl) (by kernel_rfl) (by kernel_rfl) (by exact fun _ _ _ h => h) (Or.inl ⟨by rfl, fun wx hSx => ?_⟩) hHeld ?_
                          rotate_left
                          · clear hSx; go_simp; (try with_reducible rfl)
                          simp only [Act.put, List.setIfInBounds_toArray, List.set_cons_zero, List.set_cons_succ]
                          refine wpAnyH_take (i := 16) (v := undef) (by simp; rfl) (by kernel_rfl) (by kernel_rfl) (by kernel_rfl) (by exact fun _ _ _ h => h) (Or.inr ⟨by rfl, rfl⟩) hHeld ?_
                          simp only [Act.put, List.setIfInBounds_toArray, List.set_cons_zero, List.set_cons_succ]
                          refine wpAnyH_take (i := 17) (v := undef) (by simp; rfl) (by kernel_rfl) (by kernel_rfl) (by kernel_rfl) (by exact fun _ _ _ h => h) (Or.inr ⟨by rfl, rfl⟩) hHeld ?_
                          simp only [Act.put, List.setIfInBounds_toArray, List.set_cons_zero, List.set_cons_succ]
                          refine wpAnyH_take (i := 18) (v := undef) (by simp; rfl) (by kernel_rfl) (by kernel_rfl) (by kernel_rfl) (by exact fun _ _ _ h => h) (Or.inr ⟨by rfl, rfl⟩) hHeld ?_
                          simp only [Act.put, List.setIfInBounds_toArray, List.set_cons_zero, List.set_cons_succ]
                          refine wpAnyH_take (i := 19) (v := undef) (by simp; rfl) (by kernel_rfl) (by kernel_rfl) (by kernel_rfl) (by exact fun _ _ _ h => h) (Or.inr ⟨by rfl, rfl⟩) hHeld ?_
                          simp only [Act.put, List.setIfInBounds_toArray, List.set_cons_zero, List.set_cons_succ]
                          refine wpAnyH_take (i := 20) (v := undef) (by simp; rfl) (by kernel_rfl) (by kernel_rfl) (by kernel_rfl) (by exact fun _ _ _ h => h) (Or.inr ⟨by rfl, rfl⟩) hHeld ?_
                          simp only [Act.put, List.setIfInBounds_toArray, List.set_cons_zero, List.set_cons_succ]
                          refine wpAnyH_take (i := 21) (v := undef) (by simp; rfl) (by kernel_rfl) (by kernel_rfl) (by kernel_rfl) (by exact fun _ _ _ h => h) (Or.inr ⟨by rfl, rfl⟩) hHeld ?_
                          simp only [Act.put, List.setIfInBounds_toArray, List.set_cons_zero, List.set_cons_succ]
                          refine wpAnyH_take (i := 22) (v := undef) (by simp; rfl) (by kernel_rfl) (by kernel_rfl) (by kernel_rfl) (by exact fun _ _ _ h => h) (Or.inr ⟨by rfl, rfl⟩) hHeld ?_
                          simp only [Act.put, List.setIfInBounds_toArray, List.set_cons_zero, List.set_cons_succ]
                          refine wpAnyH_take (i := 23) (v := ?_) (by simp; rfl) (by kernel_rfl) (by kernel_rfl) (by kernel_rfl) (by exact fun _ _ _ h => h) (Or.inl ⟨by rfl, fun wx hSx => ?_⟩) hHeld ?_
                          rotate_left
                          · clear hSx; go_simp; (try with_reducible rfl)
                          simp only [Act.put, List.setIfInBounds_toArray, List.set_cons_zero, List.set_cons_succ]
                          refine wpAnyH_take (i := 24) (v := ?_) (by simp; rfl) (by kernel_rfl) (by kernel_rfl) (by kernel_rfl) (by exact fun _ _ _ h => h) (Or.inl ⟨by rfl, fun wx hSx => ?_⟩) hHeld ?_
                          rotate_left
                          · clear hSx; go_simp; (try with_reducible rfl)
                          simp only [Act.put, List.setIfInBounds_toArray, List.set_cons_zero, List.set_cons_succ]
                          refine wpAnyH_done (by kernel_rfl) ?_ _
                          have HE := Lib.hid (HBW.out.trans (HB15.out.mono HBW.out.size))
                          clear hHeld heq
                          go_wp2
                          go_roundw
                          case rel => exact ⟨j + 1, by go_num, by have := HIJ.out.2; omega, HE⟩
                          case measure => have := HIJ.out.2; simp [intOf]; omega
                    · have d3 : decide ((j : Int) < (C : Int)) = false := by simp; omega
                      have d3' : decide (j < C) = false := by simp; omega
                      have w3 : IntKind.i64.wrap ((i : Int) + 1) = (i : Int) + 1 := IntWalk.i64_in _ (by have := HPS.out; have := HIN.out; omega)
                      clear hj hjn
                      go_wp2
                      go_roundw
                      case rel => exact ⟨i + 1, by go_num, by have := HIN.out; omega, HS⟩
                      case measure => have := HIN.out; simp [intOf]; omega
                · have d1 : decide ((i : Int) < (R : Int)) = false := by simp; omega
                  have d1' : decide (i < R) = false := by simp; omega
                  have HU := Lib.hid HS.out
                  clear hi hin
                  go_wp2
                  go_meet
                  exact ⟨rfl, b4, cap4, LN, Lib.hid ⟨HGN.out.below HU.out, HOKN.out, ⟨_, _, (HU.out.block _ (lt_of_block HWB.out)).trans HWB.out⟩, HBN.out.1, HBN.out.2.1, HBN.out.2.2.trans (HU.out.mono HBN.out.2.2.size)⟩⟩
          case rest =>
            obtain ⟨rfl, b5, cap5, L6, HC⟩ := hcut
            clear HWB HGG HYW HYB HBN HG5 HOR HOK HLL
            go_wp2_with fail
            refine (alive_any _).mono ?_
            rintro e w6 ⟨rfl, hb6⟩
            have HB6 := Lib.hid (HC.out.2.2.2.2.2.trans (hb6.mono HC.out.2.2.2.2.2.size))
            clear hb6
            go_wp2
            go_ret
            exact ⟨rfl, HB6.out⟩
end Go.Proofs.Ytahmnipcdkcpiaa
