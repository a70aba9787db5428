/-
  Proved here: GridCopies.
-/
import Derived.Test.YtahmnipcdkcpiaaHq
set_option linter.unusedSimpArgs false
set_option linter.unusedVariables false
namespace Go.Proofs.Ytahmnipcdkcpiaa
open Go.RowKit
set_option maxRecDepth 100000 in
set_option maxHeartbeats 64000000 in
theorem copies_some {w : World} {A1 : Option Addr} {len1 cap1 : Nat} {zs1 : List Opn} (sl1 : SlO w A1 len1 cap1 zs1) {bo off len cap0 : Nat} {zs : List Opn} (sl : SlO w (some ⟨bo, off, none⟩) len cap0 zs) (hcells : ∀ i, i < len → ∀ W : World, Below w.heap.size w W → ∀ j v, (opL (opAt zs i))[j]? = some v → W.cell? ⟨bo, off + i * 8 + j, none⟩ = some v) (r c : Int) : Calls Try.prog 6 #[.int .i64 r, .int .i64 c, .slice A1 len1 cap1, .slice (some ⟨bo, off, none⟩) len cap0] w fun e w' => e = .returned (.bool true) ∧ Below w.heap.size w w' := by
  have HMD := Lib.hid (made_any sl1 r c)
  have HSL := Lib.hid sl
  have HC0 := Lib.hid hcells
  clear sl sl1 hcells
  go_enter Try.func6, Try.ntmps6
  go_wp2_with fail
  refine HMD.out.mono ?_
  intro e w1 hmp
  rcases hmp with ⟨rfl, hb1⟩ | ⟨g, b, cap, R0, C0, L0, rfl, hG, hok, hg, hb, hb1⟩
  · have HB1 := Lib.hid hb1
    clear hb1 HMD
    go_wp2_with fail
    refine (alive_any _).mono ?_
    rintro e w2 ⟨rfl, hb2⟩
    have HB2 := Lib.hid (HB1.out.trans (hb2.mono HB1.out.size))
    clear hb2
    go_wp2
    go_ret
    exact ⟨rfl, HB2.out⟩
  · have H1 := Lib.hid (And.intro hG (And.intro hok (And.intro hg (And.intro hb hb1))))
    clear hG hok hg hb hb1 HMD
    go_wp2_with fail
    refine (as_gr H1.out.1 H1.out.2.1).mono ?_
    rintro e w2 ⟨yw, ywc, rfl, hl, hR, hb2⟩
    obtain ⟨kb, hkb⟩ : ∃ t, w2.heap.size = t := ⟨_, rfl⟩
    have hbU := (Below.refl w2.heap.size w2).alloc (Nat.le_refl _) (.cells #[.int .i64 R0, .int .i64 C0, .slice (some ⟨yw, 0, none⟩) (R0 * C0) ywc] 29)
    have HK0 : Hid ((w2.alloc (.cells #[.int .i64 R0, .int .i64 C0, .slice (some ⟨yw, 0, none⟩) (R0 * C0) ywc] 29)).heap[kb]? = some (.cells #[.int .i64 R0, .int .i64 C0, .slice (some ⟨yw, 0, none⟩) (R0 * C0) ywc] 29 (0, 0))) := Lib.hid (by rw [← hkb]; exact heap_alloc_new _ _)
    have HGU := Lib.hid ((H1.out.1.below hb2).below hbU)
    have HYU := Lib.hid (hR.yr.below hbU)
    have HBU := Lib.hid (H1.out.2.2.2.2.trans ((hb2.trans (hbU.mono hb2.size)).mono H1.out.2.2.2.2.size))
    have HOU := Lib.hid H1.out.2.1
    clear hl hR hb2 hbU H1
    go_upto_region 5 with fail
    generalize (w2.alloc (.cells #[.int .i64 R0, .int .i64 C0, .slice (some ⟨yw, 0, none⟩) (R0 * C0) ywc] 29)) = U at HK0 HGU HYU HBU ⊢
    try simp only [hkb]
    clear hkb
    go_wp2_with fail
    refine (copy_gr HGU.out).mono ?_
    rintro e w3 ⟨g2, b2, c2, rfl, hg2, hb2, hG2, hb3⟩
    have H2 := Lib.hid (And.intro hg2 (And.intro hb2 (And.intro hG2 hb3)))
    clear hg2 hb2 hG2 hb3
    go_wp2_with fail
    refine ((same_gr H2.out.2.2.1 (HGU.out.below H2.out.2.2.2)).mono (R' := fun e w' => e = .returned (.bool true) ∧ Below w3.heap.size w3 w') (fun e w' h => ⟨by rw [h.1]; simp, h.2⟩)).mono ?_
    rintro e w4 ⟨rfl, hb4⟩
    have HB4 := Lib.hid hb4
    clear hb4
    go_wp2_with fail
    refine ((same_gr (HGU.out.below (H2.out.2.2.2.trans (HB4.out.mono H2.out.2.2.2.size))) (H2.out.2.2.1.below HB4.out)).mono (R' := fun e w' => e = .returned (.bool true) ∧ Below w4.heap.size w4 w') (fun e w' h => ⟨by rw [h.1]; simp, h.2⟩)).mono ?_
    rintro e w5 ⟨rfl, hb5⟩
    have HB5 := Lib.hid (HB4.out.trans (hb5.mono HB4.out.size))
    clear hb5 HB4
    go_wp2_with fail
    refine (as_gr (H2.out.2.2.1.below HB5.out) HOU.out).mono ?_
    rintro e w6 ⟨yx, yxc, rfl, hl6, hR6, hb6⟩
    obtain ⟨tb, htb⟩ : ∃ t, w6.heap.size = t := ⟨_, rfl⟩
    have hbV := (Below.refl w6.heap.size w6).alloc (Nat.le_refl _) (.cells #[.int .i64 R0, .int .i64 C0, .slice (some ⟨yx, 0, none⟩) (R0 * C0) yxc] 29)
    have HS0 : Hid (LV U.heap.size tb g2 R0 C0 yx yxc L0 (w6.alloc (.cells #[.int .i64 R0, .int .i64 C0, .slice (some ⟨yx, 0, none⟩) (R0 * C0) yxc] 29)) ∧ Below U.heap.size U (w6.alloc (.cells #[.int .i64 R0, .int .i64 C0, .slice (some ⟨yx, 0, none⟩) (R0 * C0) yxc] 29))) := Lib.hid (by
      obtain ⟨q1, q2, q3, q4⟩ := H2.out
      have q5 := HB5.out
      have l1 := (q3.below q5).lt
      have l2 := (q3.below q5).row.lt
      have l3 := hb6.size
      have l4 := q4.size
      have l5 := q5.size
      refine ⟨⟨⟨b2, _, yx, yxc, ((q3.below q5).below hb6).below hbV, hR6.yr.below hbV, rfl, by omega, by omega, HOU.out, q1, q2⟩, ?_, by omega, by omega⟩, q4.trans ((q5.trans ((hb6.trans (hbV.mono hb6.size)).mono q5.size)).mono q4.size)⟩
      rw [← htb]; exact heap_alloc_new _ _)
    have HK3 := Lib.hid (fun (X : World) (hX : Below U.heap.size U X) => three_cells ((hX.block _ (lt_of_block HK0.out)).trans HK0.out))
    have HCE8 := Lib.hid (fun i hi (W : World) (hW : Below U.heap.size U W) => HC0.out i hi W (HBU.out.trans (hW.mono HBU.out.size)))
    clear hl6 hR6 hb6 hbV H2 HB5 HK0
    go_wp2_with fail
    generalize (w6.alloc (.cells #[.int .i64 R0, .int .i64 C0, .slice (some ⟨yx, 0, none⟩) (R0 * C0) yxc] 29)) = V0 at HS0 ⊢
    try simp only [htb]
    clear htb
    go_loopw [13] (fun iv wr => ∃ i : Nat, iv = .int .i64 i ∧ i ≤ len ∧ ∃ R C yb ycap L, Hid (LV U.heap.size tb g2 R C yb ycap L wr ∧ Below U.heap.size U wr)) (fun iv _ => len - (intOf iv).toNat)
    case atStart => exact ⟨0, rfl, by omega, R0, C0, yx, yxc, _, HS0⟩
    case round =>
      obtain ⟨i, rfl, hi, R, C, yb, ycap, L, HS⟩ := hrel
      clear HS0
      by_cases hin : i < len
      · have d1 : decide ((i : Int) < (len : Int)) = true := by simp; omega
        have d1' : decide (i < len) = true := by simp; omega
        by_cases h40 : i < 20
        · have d2 : decide ((i : Int) < 20) = true := by simp; omega
          have d2' : decide (i < 20) = true := by simp; omega
          have HF := Lib.hid (HSL.out.ok i hin)
          have HOP0 := Lib.hid (HCE8.out i hin)
          obtain ⟨o, ho⟩ : ∃ o, opAt zs i = o := ⟨_, rfl⟩
          rw [ho] at HF HOP0
          clear ho
          obtain ⟨kd, oa, ob, on, p, f, gg, bb⟩ := o
          have HOP := Lib.hid (fun (W : World) (hW : Below U.heap.size U W) => op8 (HOP0.out W hW))
          have g1 : (0 : Int) ≤ (i : Int) := by omega
          have g2 : (i : Int) < (len : Int) := by omega
          have w1 : IntKind.i64.wrap ((i : Int) + 1) = (i : Int) + 1 := IntWalk.i64_in _ (by omega)
          have HL := Lib.hid (And.intro (HS.out.1.next (Below.refl wr.heap.size wr).drew) HS.out.2.drew)
          have HIN := Lib.hid (And.intro hin h40)
          clear HS HOP0 hin h40 hi
          go_wp2_with fail
          refine wp_region_held_drew (S := fun W => Below U.heap.size U W) (by kernel_rfl) HL.out.2 (fun hHeld => ?_)
          refine wpAnyH_take (i := 0) (v := ?_) (by simp; rfl) (by kernel_rfl) (by kernel_rfl) (by kernel_rfl) (by exact fun _ _ _ h => h) (Or.inl ⟨by rfl, fun wx hSx => ?_⟩) hHeld ?_
          rotate_left
          · clear hSx; go_simp; (try with_reducible rfl)
          simp only [Act.put, List.setIfInBounds_toArray, List.set_cons_zero, List.set_cons_succ]
          refine wpAnyH_take (i := 2) (v := ?_) (by simp; rfl) (by kernel_rfl) (by kernel_rfl) (by kernel_rfl) (by exact fun _ _ _ h => h) (Or.inl ⟨by rfl, fun wx hSx => ?_⟩) hHeld ?_
          rotate_left
          · clear hSx; go_simp; (try with_reducible rfl)
          simp only [Act.put, List.setIfInBounds_toArray, List.set_cons_zero, List.set_cons_succ]
          refine wpAnyH_take (i := 3) (v := ?_) (by simp; rfl) (by kernel_rfl) (by kernel_rfl) (by kernel_rfl) (by exact fun _ _ _ h => h) (Or.inl ⟨by rfl, fun wx hSx => ?_⟩) hHeld ?_
          rotate_left
          · clear hSx; go_simp; (try with_reducible rfl)
          simp only [Act.put, List.setIfInBounds_toArray, List.set_cons_zero, List.set_cons_succ]
          refine wpAnyH_take (i := 4) (v := ?_) (by simp; rfl) (by kernel_rfl) (by kernel_rfl) (by kernel_rfl) (by exact fun _ _ _ h => h) (Or.inl ⟨by rfl, fun wx hSx => ?_⟩) hHeld ?_
          rotate_left
          · clear hSx; go_simp; (try with_reducible rfl)
          simp only [Act.put, List.setIfInBounds_toArray, List.set_cons_zero, List.set_cons_succ]
          refine wpAnyH_take (i := 5) (v := ?_) (by simp; rfl) (by kernel_rfl) (by kernel_rfl) (by kernel_rfl) (by exact fun _ _ _ h => h) (Or.inl ⟨by rfl, fun wx hSx => ?_⟩) hHeld ?_
          rotate_left
          · obtain ⟨o0, o1, o2, o3, o4, o5, o6, o7⟩ := HOP.out wx (hSx); clear hSx; go_simp; (try with_reducible rfl)
          simp only [Act.put, List.setIfInBounds_toArray, List.set_cons_zero, List.set_cons_succ]
          refine wpAnyH_ready (rs := [1]) (by kernel_rfl) (by simp) ?_
          refine AllReadyH.cons (by simp; rfl) (fun K0 hK0 => ?_) AllReadyH.nil
          obtain ⟨x0, x1, x2⟩ := HL.out.1.cells
          go_simp
          refine hK0.out _ _ HL.out.2 (fun _ => ?_)
          clear hK0 K0 x0 x1 x2
          refine wpAnyH_ready (rs := [6]) (by kernel_rfl) (by simp) ?_
          refine AllReadyH.cons (by simp; rfl) (fun K0 hK0 => ?_) AllReadyH.nil
          go_simp
          refine (do_op HL.out.1.bo ⟨kd, oa, ob, on, p, f, gg, bb⟩ HF.out).mono ?_
          rintro e X hd
          obtain ⟨R2, C2, yb2, ycap2, L2, rfl, ht, hlv, hb1, hb2⟩ := HL.out.1.did hd
          have HT := Lib.hid ht
          have HL2 := Lib.hid (And.intro hlv (HL.out.2.trans hb2))
          have HX := Lib.hid (HL.out.2.trans hb1)
          clear hd ht hlv hb1 hb2 hHeld
          refine hK0.out _ _ HX.out (fun _ => ?_)
          clear hK0 K0
          have hHeld := HX.out
          refine wpAnyH_take (i := 7) (v := ?_) (by simp; rfl) (by kernel_rfl) (by kernel_rfl) (by kernel_rfl) (by exact fun _ _ _ h => h) (Or.inl ⟨by rfl, fun wx hSx => ?_⟩) hHeld ?_
          rotate_left
          · clear hSx; go_simp; (try with_reducible rfl)
          simp only [Act.put, List.setIfInBounds_toArray, List.set_cons_zero, List.set_cons_succ]
          refine wpAnyH_take (i := 8) (v := ?_) (by simp; rfl) (by kernel_rfl) (by kernel_rfl) (by kernel_rfl) (by exact fun _ _ _ h => h) (Or.inl ⟨by rfl, fun wx hSx => ?_⟩) hHeld ?_
          rotate_left
          · clear hSx; go_simp; (try with_reducible rfl)
          simp only [Act.put, List.setIfInBounds_toArray, List.set_cons_zero, List.set_cons_succ]
          refine wpAnyH_take (i := 9) (v := ?_) (by simp; rfl) (by kernel_rfl) (by kernel_rfl) (by kernel_rfl) (by exact fun _ _ _ h => h) (Or.inl ⟨by rfl, fun wx hSx => ?_⟩) hHeld ?_
          rotate_left
          · clear hSx; go_simp; (try with_reducible rfl)
          simp only [Act.put, List.setIfInBounds_toArray, List.set_cons_zero, List.set_cons_succ]
          refine wpAnyH_ready (rs := [10]) (by kernel_rfl) (by simp) ?_
          refine AllReadyH.cons (by simp; rfl) (fun K0 hK0 => ?_) AllReadyH.nil
          have hrow := HT.out
          refine step_store_row rfl 29 (.tmp 12) (.tmp 59) rfl tb #[.int .i64 R2, .int .i64 C2, .slice (some ⟨yb2, 0, none⟩) (R2 * C2) ycap2] rfl rfl 29 _ hrow gy_info rfl (gy_one _ _ rfl) ?_
          simp only [Act.put, List.setIfInBounds_toArray, List.set_cons_zero, List.set_cons_succ]
          refine hK0.out _ _ HL2.out.2 (fun _ => ?_)
          clear hK0 K0 hHeld hrow
          have hHeld := HL2.out.2
          refine wpAnyH_done (by kernel_rfl) ?_ _
          clear HT HX HL hHeld
          generalize (X.setRow tb #[.int .i64 R2, .int .i64 C2, .slice (some ⟨yb2, 0, none⟩) (R2 * C2) ycap2]) = V at HL2 ⊢
          go_wp2
          go_roundw
          case rel => exact ⟨i + 1, by go_num, by have := HIN.out; omega, R2, C2, yb2, ycap2, L2, HL2⟩
          case measure => have := HIN.out; simp [intOf]; omega
        · have d2 : decide ((i : Int) < 20) = false := by simp; omega
          have d2' : decide (i < 20) = false := by simp; omega
          clear hi hin h40
          obtain ⟨b3, cap3, yb', ycap', hG, hY, hx, hr1, hr2, hok, _, _⟩ := HS.out.1.bo
          have hbU := HS.out.2.drew
          have HWX := Lib.hid (HBU.out.trans (hbU.mono HBU.out.size))
          have HKC := Lib.hid (fun (X : World) (hX : Below wr.drew.heap.size wr.drew X) => HK3.out X (hbU.trans (hX.mono hbU.size)))
          have HAS := Lib.hid (fun (X : World) (hX : Below wr.drew.heap.size wr.drew X) => as_gr (HGU.out.below (hbU.trans (hX.mono hbU.size))) HOU.out)
          have HA2 := Lib.hid (fun (X : World) (hX : Below wr.drew.heap.size wr.drew X) => as_gr (hG.below ((Below.refl wr.heap.size wr).drew.trans hX)) hok)
          have hl1 := HGU.out.len
          have hm1 := HGU.out.room.2.1
          have hl2 := hG.len
          have hm2 := hG.room.2.1
          obtain ⟨D, hD⟩ : ∃ D, decide (R = R0 ∧ C = C0 ∧ L = L0) = D := ⟨_, rfl⟩
          have HSA := Lib.hid (fun (X : World) (hX : Below wr.drew.heap.size wr.drew X) (b9 cap9 : Nat) (h9 : RowY X b9 cap9 L0) => (rsame_any (R := R0) (C := C0) (R2 := R0) (C2 := C0) (c1 := cap9) (c2 := ywc) h9.yr (HYU.out.below (hbU.trans (hX.mono hbU.size))) hl1 hl1 (by omega) (by omega) HOU.out HOU.out).mono (R' := fun e w' => e = .returned (.bool true) ∧ Below X.heap.size X w') (fun e w' h => ⟨by rw [h.1]; simp, h.2⟩))
          have HSB := Lib.hid (fun (X : World) (hX : Below wr.drew.heap.size wr.drew X) (b9 cap9 : Nat) (h9 : RowY X b9 cap9 L) => (rsame_any (R := R) (C := C) (R2 := R0) (C2 := C0) (c1 := cap9) (c2 := ywc) h9.yr (HYU.out.below (hbU.trans (hX.mono hbU.size))) hl2 hl1 (by omega) (by omega) hok HOU.out).mono (R' := fun e w' => e = .returned (.bool D) ∧ Below X.heap.size X w') (fun e w' h => ⟨by rw [h.1, hD], h.2⟩))
          have HSG := Lib.hid (fun (X : World) (hX : Below wr.drew.heap.size wr.drew X) => (same_gr (hG.below ((Below.refl wr.heap.size wr).drew.trans hX)) (HGU.out.below (hbU.trans (hX.mono hbU.size)))).mono (R' := fun e w' => e = .returned (.bool D) ∧ Below X.heap.size X w') (fun e w' h => ⟨by rw [h.1, hD], h.2⟩))
          have HB17 := Lib.hid (Below.refl wr.drew.heap.size wr.drew)
          clear hG hY hx hr1 hr2 hok hl1 hm1 hl2 hm2 hD hbU
          go_wp2_with fail
          refine wp_region_held_drew (S := fun W => Below wr.drew.heap.size wr.drew W) (by kernel_rfl) (Below.refl _ _) (fun hHeld => ?_)
          refine wpAnyH_ready (rs := [0]) (by kernel_rfl) (by simp) ?_
          refine AllReadyH.cons (by simp; rfl) (fun K0 hK0 => ?_) AllReadyH.nil
          go_simp
          refine (alive_any _).mono ?_
          rintro e e1 ⟨rfl, hbV⟩
          have HB2 := Lib.hid (HB17.out.trans (hbV.mono HB17.out.size))
          clear HB17 hbV
          have HB17 := HB2
          clear HB2
          refine hK0.out _ _ HB17.out (fun _ => ?_)
          clear hK0 K0 hHeld
          have hHeld := HB17.out
          refine wpAnyH_take (i := 1) (v := ?_) (by simp; rfl) (by kernel_rfl) (by kernel_rfl) (by kernel_rfl) (by exact fun _ _ _ h => h) (Or.inl ⟨by rfl, fun wx hSx => ?_⟩) hHeld ?_
          rotate_left
          · clear hSx; go_simp; (try with_reducible rfl)
          simp only [Act.put, List.setIfInBounds_toArray, List.set_cons_zero, List.set_cons_succ]
          refine wpAnyH_take (i := 2) (v := ?_) (by simp; rfl) (by kernel_rfl) (by kernel_rfl) (by kernel_rfl) (by exact fun _ _ _ h => h) (Or.inl ⟨by rfl, fun wx hSx => ?_⟩) hHeld ?_
          rotate_left
          · clear hSx; go_simp; (try with_reducible rfl)
          simp only [Act.put, List.setIfInBounds_toArray, List.set_cons_zero, List.set_cons_succ]
          refine wpAnyH_take (i := 4) (v := ?_) (by simp; rfl) (by kernel_rfl) (by kernel_rfl) (by kernel_rfl) (by exact fun _ _ _ h => h) (Or.inl ⟨by rfl, fun wx hSx => ?_⟩) hHeld ?_
          rotate_left
          · obtain ⟨x0, x1, x2⟩ := HKC.out wx hSx; clear hSx; go_simp; (try with_reducible rfl)
          simp only [Act.put, List.setIfInBounds_toArray, List.set_cons_zero, List.set_cons_succ]
          refine wpAnyH_ready (rs := [3]) (by kernel_rfl) (by simp) ?_
          refine AllReadyH.cons (by simp; rfl) (fun K0 hK0 => ?_) AllReadyH.nil
          go_simp
          refine (HAS.out _ HB17.out).mono ?_
          rintro e e2 ⟨b9, cap9, rfl, hl9, hR9, hbV⟩
          have HB2 := Lib.hid (HB17.out.trans (hbV.mono HB17.out.size))
          clear HB17 hbV
          have HB17 := HB2
          clear HB2
          have HR9 := Lib.hid hR9
          clear hl9 hR9
          refine hK0.out _ _ HB17.out (fun _ => ?_)
          clear hK0 K0 hHeld
          have hHeld := HB17.out
          refine wpAnyH_ready (rs := [5]) (by kernel_rfl) (by simp) ?_
          refine AllReadyH.cons (by simp; rfl) (fun K0 hK0 => ?_) AllReadyH.nil
          go_simp
          refine (HSA.out _ HB17.out b9 cap9 HR9.out).mono ?_
          rintro e e3 ⟨rfl, hbV⟩
          have HB2 := Lib.hid (HB17.out.trans (hbV.mono HB17.out.size))
          clear HB17 hbV
          have HB17 := HB2
          clear HB2
          refine hK0.out _ _ HB17.out (fun _ => ?_)
          clear hK0 K0 hHeld
          have hHeld := HB17.out
          refine wpAnyH_take (i := 6) (v := ?_) (by simp; rfl) (by kernel_rfl) (by kernel_rfl) (by kernel_rfl) (by exact fun _ _ _ h => h) (Or.inl ⟨by rfl, fun wx hSx => ?_⟩) hHeld ?_
          rotate_left
          · clear hSx; go_simp; (try with_reducible rfl)
          simp only [Act.put, List.setIfInBounds_toArray, List.set_cons_zero, List.set_cons_succ]
          refine wpAnyH_take (i := 7) (v := ?_) (by simp; rfl) (by kernel_rfl) (by kernel_rfl) (by kernel_rfl) (by exact fun _ _ _ h => h) (Or.inl ⟨by rfl, fun wx hSx => ?_⟩) hHeld ?_
          rotate_left
          · clear hSx; go_simp; (try with_reducible rfl)
          simp only [Act.put, List.setIfInBounds_toArray, List.set_cons_zero, List.set_cons_succ]
          refine wpAnyH_take (i := 8) (v := ?_) (by simp; rfl) (by kernel_rfl) (by kernel_rfl) (by kernel_rfl) (by exact fun _ _ _ h => h) (Or.inl ⟨by rfl, fun wx hSx => ?_⟩) hHeld ?_
          rotate_left
          · clear hSx; go_simp; (try with_reducible rfl)
          simp only [Act.put, List.setIfInBounds_toArray, List.set_cons_zero, List.set_cons_succ]
          refine wpAnyH_take (i := 9) (v := ?_) (by simp; rfl) (by kernel_rfl) (by kernel_rfl) (by kernel_rfl) (by exact fun _ _ _ h => h) (Or.inl ⟨by rfl, fun wx hSx => ?_⟩) hHeld ?_
          rotate_left
          · clear hSx; go_simp; (try with_reducible rfl)
          simp only [Act.put, List.setIfInBounds_toArray, List.set_cons_zero, List.set_cons_succ]
          refine wpAnyH_take (i := 11) (v := ?_) (by simp; rfl) (by kernel_rfl) (by kernel_rfl) (by kernel_rfl) (by exact fun _ _ _ h => h) (Or.inl ⟨by rfl, fun wx hSx => ?_⟩) hHeld ?_
          rotate_left
          · clear hSx; go_simp; (try with_reducible rfl)
          simp only [Act.put, List.setIfInBounds_toArray, List.set_cons_zero, List.set_cons_succ]
          refine wpAnyH_take (i := 13) (v := ?_) (by simp; rfl) (by kernel_rfl) (by kernel_rfl) (by kernel_rfl) (by exact fun _ _ _ h => h) (Or.inl ⟨by rfl, fun wx hSx => ?_⟩) hHeld ?_
          rotate_left
          · obtain ⟨x0, x1, x2⟩ := HKC.out wx hSx; clear hSx; go_simp; (try with_reducible rfl)
          simp only [Act.put, List.setIfInBounds_toArray, List.set_cons_zero, List.set_cons_succ]
          refine wpAnyH_ready (rs := [10]) (by kernel_rfl) (by simp) ?_
          refine AllReadyH.cons (by simp; rfl) (fun K0 hK0 => ?_) AllReadyH.nil
          go_simp
          refine (HSG.out _ HB17.out).mono ?_
          rintro e e4 ⟨rfl, hbV⟩
          have HB2 := Lib.hid (HB17.out.trans (hbV.mono HB17.out.size))
          clear HB17 hbV
          have HB17 := HB2
          clear HB2
          refine hK0.out _ _ HB17.out (fun _ => ?_)
          clear hK0 K0 hHeld
          have hHeld := HB17.out
          refine wpAnyH_ready (rs := [12]) (by kernel_rfl) (by simp) ?_
          refine AllReadyH.cons (by simp; rfl) (fun K0 hK0 => ?_) AllReadyH.nil
          go_simp
          refine (HA2.out _ HB17.out).mono ?_
          rintro e e5 ⟨b8, cap8, rfl, hl8, hR8, hbV⟩
          have HB2 := Lib.hid (HB17.out.trans (hbV.mono HB17.out.size))
          clear HB17 hbV
          have HB17 := HB2
          clear HB2
          have HR8 := Lib.hid hR8
          clear hl8 hR8
          refine hK0.out _ _ HB17.out (fun _ => ?_)
          clear hK0 K0 hHeld
          have hHeld := HB17.out
          refine wpAnyH_ready (rs := [14]) (by kernel_rfl) (by simp) ?_
          refine AllReadyH.cons (by simp; rfl) (fun K0 hK0 => ?_) AllReadyH.nil
          go_simp
          refine (HSB.out _ HB17.out b8 cap8 HR8.out).mono ?_
          rintro e e6 ⟨rfl, hbV⟩
          have HB2 := Lib.hid (HB17.out.trans (hbV.mono HB17.out.size))
          clear HB17 hbV
          have HB17 := HB2
          clear HB2
          refine hK0.out _ _ HB17.out (fun _ => ?_)
          clear hK0 K0 hHeld
          have hHeld := HB17.out
          refine wpAnyH_take (i := 15) (v := ?_) (by simp; rfl) (by kernel_rfl) (by kernel_rfl) (by kernel_rfl) (by exact fun _ _ _ h => h) (Or.inl ⟨by rfl, fun wx hSx => ?_⟩) hHeld ?_
          rotate_left
          · clear hSx; go_simp; (try with_reducible rfl)
          simp only [Act.put, List.setIfInBounds_toArray, List.set_cons_zero, List.set_cons_succ]
          refine wpAnyH_take (i := 16) (v := ?_) (by simp; rfl) (by kernel_rfl) (by kernel_rfl) (by kernel_rfl) (by exact fun _ _ _ h => h) (Or.inl ⟨by rfl, fun wx hSx => ?_⟩) hHeld ?_
          rotate_left
          · clear hSx; go_simp; (try with_reducible rfl)
          simp only [Act.put, List.setIfInBounds_toArray, List.set_cons_zero, List.set_cons_succ]
          refine wpAnyH_take (i := 17) (v := ?_) (by simp; rfl) (by kernel_rfl) (by kernel_rfl) (by kernel_rfl) (by exact fun _ _ _ h => h) (Or.inl ⟨by rfl, fun wx hSx => ?_⟩) hHeld ?_
          rotate_left
          · clear hSx; go_simp; (try with_reducible rfl)
          simp only [Act.put, List.setIfInBounds_toArray, List.set_cons_zero, List.set_cons_succ]
          refine wpAnyH_done (by kernel_rfl) ?_ _
          go_wp2
          go_ret
          exact ⟨rfl, HWX.out.trans (HB17.out.mono HWX.out.size)⟩

      · have d1 : decide ((i : Int) < (len : Int)) = false := by simp; omega
        have d1' : decide (i < len) = false := by simp; omega
        clear hi hin
        obtain ⟨b3, cap3, yb', ycap', hG, hY, hx, hr1, hr2, hok, _, _⟩ := HS.out.1.bo
        have hbU := HS.out.2.drew
        have HWX := Lib.hid (HBU.out.trans (hbU.mono HBU.out.size))
        have HKC := Lib.hid (fun (X : World) (hX : Below wr.drew.heap.size wr.drew X) => HK3.out X (hbU.trans (hX.mono hbU.size)))
        have HAS := Lib.hid (fun (X : World) (hX : Below wr.drew.heap.size wr.drew X) => as_gr (HGU.out.below (hbU.trans (hX.mono hbU.size))) HOU.out)
        have HA2 := Lib.hid (fun (X : World) (hX : Below wr.drew.heap.size wr.drew X) => as_gr (hG.below ((Below.refl wr.heap.size wr).drew.trans hX)) hok)
        have hl1 := HGU.out.len
        have hm1 := HGU.out.room.2.1
        have hl2 := hG.len
        have hm2 := hG.room.2.1
        obtain ⟨D, hD⟩ : ∃ D, decide (R = R0 ∧ C = C0 ∧ L = L0) = D := ⟨_, rfl⟩
        have HSA := Lib.hid (fun (X : World) (hX : Below wr.drew.heap.size wr.drew X) (b9 cap9 : Nat) (h9 : RowY X b9 cap9 L0) => (rsame_any (R := R0) (C := C0) (R2 := R0) (C2 := C0) (c1 := cap9) (c2 := ywc) h9.yr (HYU.out.below (hbU.trans (hX.mono hbU.size))) hl1 hl1 (by omega) (by omega) HOU.out HOU.out).mono (R' := fun e w' => e = .returned (.bool true) ∧ Below X.heap.size X w') (fun e w' h => ⟨by rw [h.1]; simp, h.2⟩))
        have HSB := Lib.hid (fun (X : World) (hX : Below wr.drew.heap.size wr.drew X) (b9 cap9 : Nat) (h9 : RowY X b9 cap9 L) => (rsame_any (R := R) (C := C) (R2 := R0) (C2 := C0) (c1 := cap9) (c2 := ywc) h9.yr (HYU.out.below (hbU.trans (hX.mono hbU.size))) hl2 hl1 (by omega) (by omega) hok HOU.out).mono (R' := fun e w' => e = .returned (.bool D) ∧ Below X.heap.size X w') (fun e w' h => ⟨by rw [h.1, hD], h.2⟩))
        have HSG := Lib.hid (fun (X : World) (hX : Below wr.drew.heap.size wr.drew X) => (same_gr (hG.below ((Below.refl wr.heap.size wr).drew.trans hX)) (HGU.out.below (hbU.trans (hX.mono hbU.size)))).mono (R' := fun e w' => e = .returned (.bool D) ∧ Below X.heap.size X w') (fun e w' h => ⟨by rw [h.1, hD], h.2⟩))
        have HB17 := Lib.hid (Below.refl wr.drew.heap.size wr.drew)
        clear hG hY hx hr1 hr2 hok hl1 hm1 hl2 hm2 hD hbU
        go_wp2_with fail
        refine wp_region_held_drew (S := fun W => Below wr.drew.heap.size wr.drew W) (by kernel_rfl) (Below.refl _ _) (fun hHeld => ?_)
        refine wpAnyH_ready (rs := [0]) (by kernel_rfl) (by simp) ?_
        refine AllReadyH.cons (by simp; rfl) (fun K0 hK0 => ?_) AllReadyH.nil
        go_simp
        refine (alive_any _).mono ?_
        rintro e e1 ⟨rfl, hbV⟩
        have HB2 := Lib.hid (HB17.out.trans (hbV.mono HB17.out.size))
        clear HB17 hbV
        have HB17 := HB2
        clear HB2
        refine hK0.out _ _ HB17.out (fun _ => ?_)
        clear hK0 K0 hHeld
        have hHeld := HB17.out
        refine wpAnyH_take (i := 1) (v := ?_) (by simp; rfl) (by kernel_rfl) (by kernel_rfl) (by kernel_rfl) (by exact fun _ _ _ h => h) (Or.inl ⟨by rfl, fun wx hSx => ?_⟩) hHeld ?_
        rotate_left
        · clear hSx; go_simp; (try with_reducible rfl)
        simp only [Act.put, List.setIfInBounds_toArray, List.set_cons_zero, List.set_cons_succ]
        refine wpAnyH_take (i := 2) (v := ?_) (by simp; rfl) (by kernel_rfl) (by kernel_rfl) (by kernel_rfl) (by exact fun _ _ _ h => h) (Or.inl ⟨by rfl, fun wx hSx => ?_⟩) hHeld ?_
        rotate_left
        · clear hSx; go_simp; (try with_reducible rfl)
        simp only [Act.put, List.setIfInBounds_toArray, List.set_cons_zero, List.set_cons_succ]
        refine wpAnyH_take (i := 4) (v := ?_) (by simp; rfl) (by kernel_rfl) (by kernel_rfl) (by kernel_rfl) (by exact fun _ _ _ h => h) (Or.inl ⟨by rfl, fun wx hSx => ?_⟩) hHeld ?_
        rotate_left
        · obtain ⟨x0, x1, x2⟩ := HKC.out wx hSx; clear hSx; go_simp; (try with_reducible rfl)
        simp only [Act.put, List.setIfInBounds_toArray, List.set_cons_zero, List.set_cons_succ]
        refine wpAnyH_ready (rs := [3]) (by kernel_rfl) (by simp) ?_
        refine AllReadyH.cons (by simp; rfl) (fun K0 hK0 => ?_) AllReadyH.nil
        go_simp
        refine (HAS.out _ HB17.out).mono ?_
        rintro e e2 ⟨b9, cap9, rfl, hl9, hR9, hbV⟩
        have HB2 := Lib.hid (HB17.out.trans (hbV.mono HB17.out.size))
        clear HB17 hbV
        have HB17 := HB2
        clear HB2
        have HR9 := Lib.hid hR9
        clear hl9 hR9
        refine hK0.out _ _ HB17.out (fun _ => ?_)
        clear hK0 K0 hHeld
        have hHeld := HB17.out
        refine wpAnyH_ready (rs := [5]) (by kernel_rfl) (by simp) ?_
        refine AllReadyH.cons (by simp; rfl) (fun K0 hK0 => ?_) AllReadyH.nil
        go_simp
        refine (HSA.out _ HB17.out b9 cap9 HR9.out).mono ?_
        rintro e e3 ⟨rfl, hbV⟩
        have HB2 := Lib.hid (HB17.out.trans (hbV.mono HB17.out.size))
        clear HB17 hbV
        have HB17 := HB2
        clear HB2
        refine hK0.out _ _ HB17.out (fun _ => ?_)
        clear hK0 K0 hHeld
        have hHeld := HB17.out
        refine wpAnyH_take (i := 6) (v := ?_) (by simp; rfl) (by kernel_rfl) (by kernel_rfl) (by kernel_rfl) (by exact fun _ _ _ h => h) (Or.inl ⟨by rfl, fun wx hSx => ?_⟩) hHeld ?_
        rotate_left
        · clear hSx; go_simp; (try with_reducible rfl)
        simp only [Act.put, List.setIfInBounds_toArray, List.set_cons_zero, List.set_cons_succ]
        refine wpAnyH_take (i := 7) (v := ?_) (by simp; rfl) (by kernel_rfl) (by kernel_rfl) (by kernel_rfl) (by exact fun _ _ _ h => h) (Or.inl ⟨by rfl, fun wx hSx => ?_⟩) hHeld ?_
        rotate_left
        · clear hSx; go_simp; (try with_reducible rfl)
        simp only [Act.put, List.setIfInBounds_toArray, List.set_cons_zero, List.set_cons_succ]
        refine wpAnyH_take (i := 8) (v := ?_) (by simp; rfl) (by kernel_rfl) (by kernel_rfl) (by kernel_rfl) (by exact fun _ _ _ h => h) (Or.inl ⟨by rfl, fun wx hSx => ?_⟩) hHeld ?_
        rotate_left
        · clear hSx; go_simp; (try with_reducible rfl)
        simp only [Act.put, List.setIfInBounds_toArray, List.set_cons_zero, List.set_cons_succ]
        refine wpAnyH_take (i := 9) (v := ?_) (by simp; rfl) (by kernel_rfl) (by kernel_rfl) (by kernel_rfl) (by exact fun _ _ _ h => h) (Or.inl ⟨by rfl, fun wx hSx => ?_⟩) hHeld ?_
        rotate_left
        · clear hSx; go_simp; (try with_reducible rfl)
        simp only [Act.put, List.setIfInBounds_toArray, List.set_cons_zero, List.set_cons_succ]
        refine wpAnyH_take (i := 11) (v := ?_) (by simp; rfl) (by kernel_rfl) (by kernel_rfl) (by kernel_rfl) (by exact fun _ _ _ h => h) (Or.inl ⟨by rfl, fun wx hSx => ?_⟩) hHeld ?_
        rotate_left
        · clear hSx; go_simp; (try with_reducible rfl)
        simp only [Act.put, List.setIfInBounds_toArray, List.set_cons_zero, List.set_cons_succ]
        refine wpAnyH_take (i := 13) (v := ?_) (by simp; rfl) (by kernel_rfl) (by kernel_rfl) (by kernel_rfl) (by exact fun _ _ _ h => h) (Or.inl ⟨by rfl, fun wx hSx => ?_⟩) hHeld ?_
        rotate_left
        · obtain ⟨x0, x1, x2⟩ := HKC.out wx hSx; clear hSx; go_simp; (try with_reducible rfl)
        simp only [Act.put, List.setIfInBounds_toArray, List.set_cons_zero, List.set_cons_succ]
        refine wpAnyH_ready (rs := [10]) (by kernel_rfl) (by simp) ?_
        refine AllReadyH.cons (by simp; rfl) (fun K0 hK0 => ?_) AllReadyH.nil
        go_simp
        refine (HSG.out _ HB17.out).mono ?_
        rintro e e4 ⟨rfl, hbV⟩
        have HB2 := Lib.hid (HB17.out.trans (hbV.mono HB17.out.size))
        clear HB17 hbV
        have HB17 := HB2
        clear HB2
        refine hK0.out _ _ HB17.out (fun _ => ?_)
        clear hK0 K0 hHeld
        have hHeld := HB17.out
        refine wpAnyH_ready (rs := [12]) (by kernel_rfl) (by simp) ?_
        refine AllReadyH.cons (by simp; rfl) (fun K0 hK0 => ?_) AllReadyH.nil
        go_simp
        refine (HA2.out _ HB17.out).mono ?_
        rintro e e5 ⟨b8, cap8, rfl, hl8, hR8, hbV⟩
        have HB2 := Lib.hid (HB17.out.trans (hbV.mono HB17.out.size))
        clear HB17 hbV
        have HB17 := HB2
        clear HB2
        have HR8 := Lib.hid hR8
        clear hl8 hR8
        refine hK0.out _ _ HB17.out (fun _ => ?_)
        clear hK0 K0 hHeld
        have hHeld := HB17.out
        refine wpAnyH_ready (rs := [14]) (by kernel_rfl) (by simp) ?_
        refine AllReadyH.cons (by simp; rfl) (fun K0 hK0 => ?_) AllReadyH.nil
        go_simp
        refine (HSB.out _ HB17.out b8 cap8 HR8.out).mono ?_
        rintro e e6 ⟨rfl, hbV⟩
        have HB2 := Lib.hid (HB17.out.trans (hbV.mono HB17.out.size))
        clear HB17 hbV
        have HB17 := HB2
        clear HB2
        refine hK0.out _ _ HB17.out (fun _ => ?_)
        clear hK0 K0 hHeld
        have hHeld := HB17.out
        refine wpAnyH_take (i := 15) (v := ?_) (by simp; rfl) (by kernel_rfl) (by kernel_rfl) (by kernel_rfl) (by exact fun _ _ _ h => h) (Or.inl ⟨by rfl, fun wx hSx => ?_⟩) hHeld ?_
        rotate_left
        · clear hSx; go_simp; (try with_reducible rfl)
        simp only [Act.put, List.setIfInBounds_toArray, List.set_cons_zero, List.set_cons_succ]
        refine wpAnyH_take (i := 16) (v := ?_) (by simp; rfl) (by kernel_rfl) (by kernel_rfl) (by kernel_rfl) (by exact fun _ _ _ h => h) (Or.inl ⟨by rfl, fun wx hSx => ?_⟩) hHeld ?_
        rotate_left
        · clear hSx; go_simp; (try with_reducible rfl)
        simp only [Act.put, List.setIfInBounds_toArray, List.set_cons_zero, List.set_cons_succ]
        refine wpAnyH_take (i := 17) (v := ?_) (by simp; rfl) (by kernel_rfl) (by kernel_rfl) (by kernel_rfl) (by exact fun _ _ _ h => h) (Or.inl ⟨by rfl, fun wx hSx => ?_⟩) hHeld ?_
        rotate_left
        · clear hSx; go_simp; (try with_reducible rfl)
        simp only [Act.put, List.setIfInBounds_toArray, List.set_cons_zero, List.set_cons_succ]
        refine wpAnyH_done (by kernel_rfl) ?_ _
        go_wp2
        go_ret
        exact ⟨rfl, HWX.out.trans (HB17.out.mono HWX.out.size)⟩
set_option maxRecDepth 100000 in
set_option maxHeartbeats 64000000 in
theorem copies_zero {w : World} {A1 : Option Addr} {len1 cap1 : Nat} {zs1 : List Opn} (sl1 : SlO w A1 len1 cap1 zs1) {A : Option Addr} {len cap0 : Nat} {zs : List Opn} (hz : len = 0) (sl : SlO w A len cap0 zs) (r c : Int) : Calls Try.prog 6 #[.int .i64 r, .int .i64 c, .slice A1 len1 cap1, .slice A len cap0] w fun e w' => e = .returned (.bool true) ∧ Below w.heap.size w w' := by
  have HMD := Lib.hid (made_any sl1 r c)
  have HSL := Lib.hid sl
  clear sl sl1
  go_enter Try.func6, Try.ntmps6
  go_wp2_with fail
  refine HMD.out.mono ?_
  intro e w1 hmp
  rcases hmp with ⟨rfl, hb1⟩ | ⟨g, b, cap, R0, C0, L0, rfl, hG, hok, hg, hb, hb1⟩
  · have HB1 := Lib.hid hb1
    clear hb1 HMD
    go_wp2_with fail
    refine (alive_any _).mono ?_
    rintro e w2 ⟨rfl, hb2⟩
    have HB2 := Lib.hid (HB1.out.trans (hb2.mono HB1.out.size))
    clear hb2
    go_wp2
    go_ret
    exact ⟨rfl, HB2.out⟩
  · have H1 := Lib.hid (And.intro hG (And.intro hok (And.intro hg (And.intro hb hb1))))
    clear hG hok hg hb hb1 HMD
    go_wp2_with fail
    refine (as_gr H1.out.1 H1.out.2.1).mono ?_
    rintro e w2 ⟨yw, ywc, rfl, hl, hR, hb2⟩
    obtain ⟨kb, hkb⟩ : ∃ t, w2.heap.size = t := ⟨_, rfl⟩
    have hbU := (Below.refl w2.heap.size w2).alloc (Nat.le_refl _) (.cells #[.int .i64 R0, .int .i64 C0, .slice (some ⟨yw, 0, none⟩) (R0 * C0) ywc] 29)
    have HK0 : Hid ((w2.alloc (.cells #[.int .i64 R0, .int .i64 C0, .slice (some ⟨yw, 0, none⟩) (R0 * C0) ywc] 29)).heap[kb]? = some (.cells #[.int .i64 R0, .int .i64 C0, .slice (some ⟨yw, 0, none⟩) (R0 * C0) ywc] 29 (0, 0))) := Lib.hid (by rw [← hkb]; exact heap_alloc_new _ _)
    have HGU := Lib.hid ((H1.out.1.below hb2).below hbU)
    have HYU := Lib.hid (hR.yr.below hbU)
    have HBU := Lib.hid (H1.out.2.2.2.2.trans ((hb2.trans (hbU.mono hb2.size)).mono H1.out.2.2.2.2.size))
    have HOU := Lib.hid H1.out.2.1
    clear hl hR hb2 hbU H1
    go_upto_region 5 with fail
    generalize (w2.alloc (.cells #[.int .i64 R0, .int .i64 C0, .slice (some ⟨yw, 0, none⟩) (R0 * C0) ywc] 29)) = U at HK0 HGU HYU HBU ⊢
    try simp only [hkb]
    clear hkb
    go_wp2_with fail
    refine (copy_gr HGU.out).mono ?_
    rintro e w3 ⟨g2, b2, c2, rfl, hg2, hb2, hG2, hb3⟩
    have H2 := Lib.hid (And.intro hg2 (And.intro hb2 (And.intro hG2 hb3)))
    clear hg2 hb2 hG2 hb3
    go_wp2_with fail
    refine ((same_gr H2.out.2.2.1 (HGU.out.below H2.out.2.2.2)).mono (R' := fun e w' => e = .returned (.bool true) ∧ Below w3.heap.size w3 w') (fun e w' h => ⟨by rw [h.1]; simp, h.2⟩)).mono ?_
    rintro e w4 ⟨rfl, hb4⟩
    have HB4 := Lib.hid hb4
    clear hb4
    go_wp2_with fail
    refine ((same_gr (HGU.out.below (H2.out.2.2.2.trans (HB4.out.mono H2.out.2.2.2.size))) (H2.out.2.2.1.below HB4.out)).mono (R' := fun e w' => e = .returned (.bool true) ∧ Below w4.heap.size w4 w') (fun e w' h => ⟨by rw [h.1]; simp, h.2⟩)).mono ?_
    rintro e w5 ⟨rfl, hb5⟩
    have HB5 := Lib.hid (HB4.out.trans (hb5.mono HB4.out.size))
    clear hb5 HB4
    go_wp2_with fail
    refine (as_gr (H2.out.2.2.1.below HB5.out) HOU.out).mono ?_
    rintro e w6 ⟨yx, yxc, rfl, hl6, hR6, hb6⟩
    obtain ⟨tb, htb⟩ : ∃ t, w6.heap.size = t := ⟨_, rfl⟩
    have hbV := (Below.refl w6.heap.size w6).alloc (Nat.le_refl _) (.cells #[.int .i64 R0, .int .i64 C0, .slice (some ⟨yx, 0, none⟩) (R0 * C0) yxc] 29)
    have HS0 : Hid (LV U.heap.size tb g2 R0 C0 yx yxc L0 (w6.alloc (.cells #[.int .i64 R0, .int .i64 C0, .slice (some ⟨yx, 0, none⟩) (R0 * C0) yxc] 29)) ∧ Below U.heap.size U (w6.alloc (.cells #[.int .i64 R0, .int .i64 C0, .slice (some ⟨yx, 0, none⟩) (R0 * C0) yxc] 29))) := Lib.hid (by
      obtain ⟨q1, q2, q3, q4⟩ := H2.out
      have q5 := HB5.out
      have l1 := (q3.below q5).lt
      have l2 := (q3.below q5).row.lt
      have l3 := hb6.size
      have l4 := q4.size
      have l5 := q5.size
      refine ⟨⟨⟨b2, _, yx, yxc, ((q3.below q5).below hb6).below hbV, hR6.yr.below hbV, rfl, by omega, by omega, HOU.out, q1, q2⟩, ?_, by omega, by omega⟩, q4.trans ((q5.trans ((hb6.trans (hbV.mono hb6.size)).mono q5.size)).mono q4.size)⟩
      rw [← htb]; exact heap_alloc_new _ _)
    have HK3 := Lib.hid (fun (X : World) (hX : Below U.heap.size U X) => three_cells ((hX.block _ (lt_of_block HK0.out)).trans HK0.out))
    clear hl6 hR6 hb6 hbV H2 HB5 HK0
    go_wp2_with fail
    generalize (w6.alloc (.cells #[.int .i64 R0, .int .i64 C0, .slice (some ⟨yx, 0, none⟩) (R0 * C0) yxc] 29)) = V0 at HS0 ⊢
    try simp only [htb]
    clear htb
    go_loopw [13] (fun iv wr => ∃ i : Nat, iv = .int .i64 i ∧ i ≤ len ∧ ∃ R C yb ycap L, Hid (LV U.heap.size tb g2 R C yb ycap L wr ∧ Below U.heap.size U wr)) (fun iv _ => len - (intOf iv).toNat)
    case atStart => exact ⟨0, rfl, by omega, R0, C0, yx, yxc, _, HS0⟩
    case round =>
      obtain ⟨i, rfl, hi, R, C, yb, ycap, L, HS⟩ := hrel
      clear HS0
      by_cases hin : i < len
      · exact absurd hin (by omega)
      · have d1 : decide ((i : Int) < (len : Int)) = false := by simp; omega
        have d1' : decide (i < len) = false := by simp; omega
        clear hi hin
        obtain ⟨b3, cap3, yb', ycap', hG, hY, hx, hr1, hr2, hok, _, _⟩ := HS.out.1.bo
        have hbU := HS.out.2.drew
        have HWX := Lib.hid (HBU.out.trans (hbU.mono HBU.out.size))
        have HKC := Lib.hid (fun (X : World) (hX : Below wr.drew.heap.size wr.drew X) => HK3.out X (hbU.trans (hX.mono hbU.size)))
        have HAS := Lib.hid (fun (X : World) (hX : Below wr.drew.heap.size wr.drew X) => as_gr (HGU.out.below (hbU.trans (hX.mono hbU.size))) HOU.out)
        have HA2 := Lib.hid (fun (X : World) (hX : Below wr.drew.heap.size wr.drew X) => as_gr (hG.below ((Below.refl wr.heap.size wr).drew.trans hX)) hok)
        have hl1 := HGU.out.len
        have hm1 := HGU.out.room.2.1
        have hl2 := hG.len
        have hm2 := hG.room.2.1
        obtain ⟨D, hD⟩ : ∃ D, decide (R = R0 ∧ C = C0 ∧ L = L0) = D := ⟨_, rfl⟩
        have HSA := Lib.hid (fun (X : World) (hX : Below wr.drew.heap.size wr.drew X) (b9 cap9 : Nat) (h9 : RowY X b9 cap9 L0) => (rsame_any (R := R0) (C := C0) (R2 := R0) (C2 := C0) (c1 := cap9) (c2 := ywc) h9.yr (HYU.out.below (hbU.trans (hX.mono hbU.size))) hl1 hl1 (by omega) (by omega) HOU.out HOU.out).mono (R' := fun e w' => e = .returned (.bool true) ∧ Below X.heap.size X w') (fun e w' h => ⟨by rw [h.1]; simp, h.2⟩))
        have HSB := Lib.hid (fun (X : World) (hX : Below wr.drew.heap.size wr.drew X) (b9 cap9 : Nat) (h9 : RowY X b9 cap9 L) => (rsame_any (R := R) (C := C) (R2 := R0) (C2 := C0) (c1 := cap9) (c2 := ywc) h9.yr (HYU.out.below (hbU.trans (hX.mono hbU.size))) hl2 hl1 (by omega) (by omega) hok HOU.out).mono (R' := fun e w' => e = .returned (.bool D) ∧ Below X.heap.size X w') (fun e w' h => ⟨by rw [h.1, hD], h.2⟩))
        have HSG := Lib.hid (fun (X : World) (hX : Below wr.drew.heap.size wr.drew X) => (same_gr (hG.below ((Below.refl wr.heap.size wr).drew.trans hX)) (HGU.out.below (hbU.trans (hX.mono hbU.size)))).mono (R' := fun e w' => e = .returned (.bool D) ∧ Below X.heap.size X w') (fun e w' h => ⟨by rw [h.1, hD], h.2⟩))
        have HB17 := Lib.hid (Below.refl wr.drew.heap.size wr.drew)
        clear hG hY hx hr1 hr2 hok hl1 hm1 hl2 hm2 hD hbU
        go_wp2_with fail
        refine wp_region_held_drew (S := fun W => Below wr.drew.heap.size wr.drew W) (by kernel_rfl) (Below.refl _ _) (fun hHeld => ?_)
        refine wpAnyH_ready (rs := [0]) (by kernel_rfl) (by simp) ?_
        refine AllReadyH.cons (by simp; rfl) (fun K0 hK0 => ?_) AllReadyH.nil
        go_simp
        refine (alive_any _).mono ?_
        rintro e e1 ⟨rfl, hbV⟩
        have HB2 := Lib.hid (HB17.out.trans (hbV.mono HB17.out.size))
        clear HB17 hbV
        have HB17 := HB2
        clear HB2
        refine hK0.out _ _ HB17.out (fun _ => ?_)
        clear hK0 K0 hHeld
        have hHeld := HB17.out
        refine wpAnyH_take (i := 1) (v := ?_) (by simp; rfl) (by kernel_rfl) (by kernel_rfl) (by kernel_rfl) (by exact fun _ _ _ h => h) (Or.inl ⟨by rfl, fun wx hSx => ?_⟩) hHeld ?_
        rotate_left
        · clear hSx; go_simp; (try with_reducible rfl)
        simp only [Act.put, List.setIfInBounds_toArray, List.set_cons_zero, List.set_cons_succ]
        refine wpAnyH_take (i := 2) (v := ?_) (by simp; rfl) (by kernel_rfl) (by kernel_rfl) (by kernel_rfl) (by exact fun _ _ _ h => h) (Or.inl ⟨by rfl, fun wx hSx => ?_⟩) hHeld ?_
        rotate_left
        · clear hSx; go_simp; (try with_reducible rfl)
        simp only [Act.put, List.setIfInBounds_toArray, List.set_cons_zero, List.set_cons_succ]
        refine wpAnyH_take (i := 4) (v := ?_) (by simp; rfl) (by kernel_rfl) (by kernel_rfl) (by kernel_rfl) (by exact fun _ _ _ h => h) (Or.inl ⟨by rfl, fun wx hSx => ?_⟩) hHeld ?_
        rotate_left
        · obtain ⟨x0, x1, x2⟩ := HKC.out wx hSx; clear hSx; go_simp; (try with_reducible rfl)
        simp only [Act.put, List.setIfInBounds_toArray, List.set_cons_zero, List.set_cons_succ]
        refine wpAnyH_ready (rs := [3]) (by kernel_rfl) (by simp) ?_
        refine AllReadyH.cons (by simp; rfl) (fun K0 hK0 => ?_) AllReadyH.nil
        go_simp
        refine (HAS.out _ HB17.out).mono ?_
        rintro e e2 ⟨b9, cap9, rfl, hl9, hR9, hbV⟩
        have HB2 := Lib.hid (HB17.out.trans (hbV.mono HB17.out.size))
        clear HB17 hbV
        have HB17 := HB2
        clear HB2
        have HR9 := Lib.hid hR9
        clear hl9 hR9
        refine hK0.out _ _ HB17.out (fun _ => ?_)
        clear hK0 K0 hHeld
        have hHeld := HB17.out
        refine wpAnyH_ready (rs := [5]) (by kernel_rfl) (by simp) ?_
        refine AllReadyH.cons (by simp; rfl) (fun K0 hK0 => ?_) AllReadyH.nil
        go_simp
        refine (HSA.out _ HB17.out b9 cap9 HR9.out).mono ?_
        rintro e e3 ⟨rfl, hbV⟩
        have HB2 := Lib.hid (HB17.out.trans (hbV.mono HB17.out.size))
        clear HB17 hbV
        have HB17 := HB2
        clear HB2
        refine hK0.out _ _ HB17.out (fun _ => ?_)
        clear hK0 K0 hHeld
        have hHeld := HB17.out
        refine wpAnyH_take (i := 6) (v := ?_) (by simp; rfl) (by kernel_rfl) (by kernel_rfl) (by kernel_rfl) (by exact fun _ _ _ h => h) (Or.inl ⟨by rfl, fun wx hSx => ?_⟩) hHeld ?_
        rotate_left
        · clear hSx; go_simp; (try with_reducible rfl)
        simp only [Act.put, List.setIfInBounds_toArray, List.set_cons_zero, List.set_cons_succ]
        refine wpAnyH_take (i := 7) (v := ?_) (by simp; rfl) (by kernel_rfl) (by kernel_rfl) (by kernel_rfl) (by exact fun _ _ _ h => h) (Or.inl ⟨by rfl, fun wx hSx => ?_⟩) hHeld ?_
        rotate_left
        · clear hSx; go_simp; (try with_reducible rfl)
        simp only [Act.put, List.setIfInBounds_toArray, List.set_cons_zero, List.set_cons_succ]
        refine wpAnyH_take (i := 8) (v := ?_) (by simp; rfl) (by kernel_rfl) (by kernel_rfl) (by kernel_rfl) (by exact fun _ _ _ h => h) (Or.inl ⟨by rfl, fun wx hSx => ?_⟩) hHeld ?_
        rotate_left
        · clear hSx; go_simp; (try with_reducible rfl)
        simp only [Act.put, List.setIfInBounds_toArray, List.set_cons_zero, List.set_cons_succ]
        refine wpAnyH_take (i := 9) (v := ?_) (by simp; rfl) (by kernel_rfl) (by kernel_rfl) (by kernel_rfl) (by exact fun _ _ _ h => h) (Or.inl ⟨by rfl, fun wx hSx => ?_⟩) hHeld ?_
        rotate_left
        · clear hSx; go_simp; (try with_reducible rfl)
        simp only [Act.put, List.setIfInBounds_toArray, List.set_cons_zero, List.set_cons_succ]
        refine wpAnyH_take (i := 11) (v := ?_) (by simp; rfl) (by kernel_rfl) (by kernel_rfl) (by kernel_rfl) (by exact fun _ _ _ h => h) (Or.inl ⟨by rfl, fun wx hSx => ?_⟩) hHeld ?_
        rotate_left
        · clear hSx; go_simp; (try with_reducible rfl)
        simp only [Act.put, List.setIfInBounds_toArray, List.set_cons_zero, List.set_cons_succ]
        refine wpAnyH_take (i := 13) (v := ?_) (by simp; rfl) (by kernel_rfl) (by kernel_rfl) (by kernel_rfl) (by exact fun _ _ _ h => h) (Or.inl ⟨by rfl, fun wx hSx => ?_⟩) hHeld ?_
        rotate_left
        · obtain ⟨x0, x1, x2⟩ := HKC.out wx hSx; clear hSx; go_simp; (try with_reducible rfl)
        simp only [Act.put, List.setIfInBounds_toArray, List.set_cons_zero, List.set_cons_succ]
        refine wpAnyH_ready (rs := [10]) (by kernel_rfl) (by simp) ?_
        refine AllReadyH.cons (by simp; rfl) (fun K0 hK0 => ?_) AllReadyH.nil
        go_simp
        refine (HSG.out _ HB17.out).mono ?_
        rintro e e4 ⟨rfl, hbV⟩
        have HB2 := Lib.hid (HB17.out.trans (hbV.mono HB17.out.size))
        clear HB17 hbV
        have HB17 := HB2
        clear HB2
        refine hK0.out _ _ HB17.out (fun _ => ?_)
        clear hK0 K0 hHeld
        have hHeld := HB17.out
        refine wpAnyH_ready (rs := [12]) (by kernel_rfl) (by simp) ?_
        refine AllReadyH.cons (by simp; rfl) (fun K0 hK0 => ?_) AllReadyH.nil
        go_simp
        refine (HA2.out _ HB17.out).mono ?_
        rintro e e5 ⟨b8, cap8, rfl, hl8, hR8, hbV⟩
        have HB2 := Lib.hid (HB17.out.trans (hbV.mono HB17.out.size))
        clear HB17 hbV
        have HB17 := HB2
        clear HB2
        have HR8 := Lib.hid hR8
        clear hl8 hR8
        refine hK0.out _ _ HB17.out (fun _ => ?_)
        clear hK0 K0 hHeld
        have hHeld := HB17.out
        refine wpAnyH_ready (rs := [14]) (by kernel_rfl) (by simp) ?_
        refine AllReadyH.cons (by simp; rfl) (fun K0 hK0 => ?_) AllReadyH.nil
        go_simp
        refine (HSB.out _ HB17.out b8 cap8 HR8.out).mono ?_
        rintro e e6 ⟨rfl, hbV⟩
        have HB2 := Lib.hid (HB17.out.trans (hbV.mono HB17.out.size))
        clear HB17 hbV
        have HB17 := HB2
        clear HB2
        refine hK0.out _ _ HB17.out (fun _ => ?_)
        clear hK0 K0 hHeld
        have hHeld := HB17.out
        refine wpAnyH_take (i := 15) (v := ?_) (by simp; rfl) (by kernel_rfl) (by kernel_rfl) (by kernel_rfl) (by exact fun _ _ _ h => h) (Or.inl ⟨by rfl, fun wx hSx => ?_⟩) hHeld ?_
        rotate_left
        · clear hSx; go_simp; (try with_reducible rfl)
        simp only [Act.put, List.setIfInBounds_toArray, List.set_cons_zero, List.set_cons_succ]
        refine wpAnyH_take (i := 16) (v := ?_) (by simp; rfl) (by kernel_rfl) (by kernel_rfl) (by kernel_rfl) (by exact fun _ _ _ h => h) (Or.inl ⟨by rfl, fun wx hSx => ?_⟩) hHeld ?_
        rotate_left
        · clear hSx; go_simp; (try with_reducible rfl)
        simp only [Act.put, List.setIfInBounds_toArray, List.set_cons_zero, List.set_cons_succ]
        refine wpAnyH_take (i := 17) (v := ?_) (by simp; rfl) (by kernel_rfl) (by kernel_rfl) (by kernel_rfl) (by exact fun _ _ _ h => h) (Or.inl ⟨by rfl, fun wx hSx => ?_⟩) hHeld ?_
        rotate_left
        · clear hSx; go_simp; (try with_reducible rfl)
        simp only [Act.put, List.setIfInBounds_toArray, List.set_cons_zero, List.set_cons_succ]
        refine wpAnyH_done (by kernel_rfl) ?_ _
        go_wp2
        go_ret
        exact ⟨rfl, HWX.out.trans (HB17.out.mono HWX.out.size)⟩
theorem copies_any {w : World} {A1 A : Option Addr} {len1 cap1 len cap0 : Nat} {zs1 zs : List Opn} (sl1 : SlO w A1 len1 cap1 zs1) (sl : SlO w A len cap0 zs) (r c : Int) : Calls Try.prog 6 #[.int .i64 r, .int .i64 c, .slice A1 len1 cap1, .slice A len cap0] w fun e w' => e = .returned (.bool true) ∧ Below w.heap.size w w' := by
  by_cases h : 0 < len
  · obtain ⟨b, off, rfl, hb, hr⟩ := sl.reads h
    exact copies_some sl1 sl (fun i hi W hW j v hv => (hW.cell (p := ⟨b, off + i * 8 + j, none⟩) hb).trans (hr i hi j v hv)) r c
  · exact copies_zero sl1 (by omega) sl r c
end Go.Proofs.Ytahmnipcdkcpiaa
