/-
  Proved here: the law UtfReads.
-/
import Derived.Test.YtidjcbnjadlbaaaUw
import Derived.Deep.RegionHeld
set_option linter.unusedSimpArgs false
set_option linter.unusedVariables false
namespace Go.Proofs.Ytidjcbnjadlbaaa
open Go.RowKit
/-- A stronger condition on the worlds of a region serves for a weaker one. -/
theorem heldMono {P : Program} {md : Region.Mode} {ops : Array Oper} {Q : Exit → Act → World → Prop} {S S' : World → Prop} (h : ∀ w, S' w → S w) :
    ∀ (fuel : Nat) (listed : Array Bool) (a : Act) (w : World), wpAnyH P md ops Q S' fuel listed a w → wpAnyH P md ops Q S fuel listed a w
  | 0, _, _, _, x => x
  | fuel + 1, _, _, _, x => ⟨x.1, fun i hi => wpOp_mono (fun a' w' h' => ⟨h _ h'.1, heldMono h fuel _ a' w' h'.2⟩) (x.2 i hi)⟩
theorem read_nil (A : Option Addr) (n c : Nat) (w : World) : Calls Try.prog 13 #[.pointer none, .slice A n c] w fun e w' => e = .returned (.tuple #[.slice none 0 0, .int .i64 6]) ∧ w = w' := by
  go_enter Try.func13, Try.ntmps13
  go_wp2
  go_step3
  go_wp2_with fail
  refine (none_nil w).mono ?_
  rintro e wx ⟨rfl, rfl⟩
  go_wp2
  try rw [Exit.noGoto_ret]
  go_returns
  exact ⟨rfl, rfl⟩
theorem read_zero (g : Nat) (A : Option Addr) (n c : Nat) (w : World) (c0 : w.cell? ⟨g, 0, none⟩ = some (.bool false)) : Calls Try.prog 13 #[.pointer (some ⟨g, 0, none⟩), .slice A n c] w fun e w' => e = .returned (.tuple #[.slice none 0 0, .int .i64 6]) ∧ w = w' := by
  go_enter Try.func13, Try.ntmps13
  go_wp2
  go_step3
  go_wp2_with fail
  refine (none_at g false w c0).mono ?_
  rintro e wx ⟨rfl, rfl⟩
  go_wp2
  try rw [Exit.noGoto_ret]
  go_returns
  exact ⟨rfl, rfl⟩
theorem rbytes_sl {w : World} {A : Option Addr} {n c k : Nat} {l bs : List Int} (hR : RI .i32 w A l) (hl : l.length = n) (hn : n ≤ 20000) (hp : bytesL l = bs) (hk : bs.length = k) :
    Calls Try.prog 20 #[.slice A n c] w fun e w' => ∃ A' c', e = .returned (.slice A' k c') ∧ RI .u8 w' A' bs ∧ Below w.heap.size w w' := by
  subst hk hp
  refine (rbytes_any hR hl hn).mono ?_
  rintro e w' ⟨v, rfl, o⟩
  obtain ⟨A', c', rfl, _⟩ := own_slice o.own
  exact ⟨A', c', rfl, o.ri.1, o.below⟩
set_option maxRecDepth 100000 in
set_option maxHeartbeats 8000000 in
theorem reads_law {w : World} {A B : Option Addr} {n c m d : Nat} {bs ls : List Int} (hs : SlI .u8 w A n c bs) (hs2 : SlI .i32 w B m d ls) (p : Int) :
    Calls Try.prog 3 #[.slice A n c, .slice B m d, .int .i32 p] w fun e w' => e = .returned (.bool true) ∧ Below w.heap.size w w' := by
  have HR := Lib.hid (sl_ri hs)
  have HL := Lib.hid hs.len_eq
  have HB := Lib.hid (sl_u8 hs)
  have HR2 := Lib.hid (sl_ri hs2)
  have HL2 := Lib.hid hs2.len_eq
  clear hs hs2
  by_cases hbig : 2000 < n ∨ 500 < m
  · by_cases h1 : 2000 < n
    · have d1 : decide ((2000 : Int) < (n : Int)) = true := by simp; omega
      have d2 : decide (2000 < n) = true := by simp; omega
      clear hbig
      go_enter Try.func3, Try.ntmps3
      go_wp2_with fail
      refine (alive_any w).mono ?_
      rintro e w1 ⟨rfl, b1⟩
      go_wp2
      go_ret
      exact ⟨rfl, b1⟩
    · have d1 : decide ((2000 : Int) < (n : Int)) = false := by simp; omega
      have d2 : decide (2000 < n) = false := by simp; omega
      have d3 : decide ((500 : Int) < (m : Int)) = true := by simp; omega
      have d4 : decide (500 < m) = true := by simp; omega
      clear hbig h1
      go_enter Try.func3, Try.ntmps3
      go_wp2_with fail
      refine (alive_any w).mono ?_
      rintro e w1 ⟨rfl, b1⟩
      go_wp2
      go_ret
      exact ⟨rfl, b1⟩
  · have d1 : decide ((2000 : Int) < (n : Int)) = false := by simp; omega
    have d2 : decide (2000 < n) = false := by simp; omega
    have d3 : decide ((500 : Int) < (m : Int)) = false := by simp; omega
    have d4 : decide (500 < m) = false := by simp; omega
    have h1 : n ≤ 2000 := by omega
    have h2 : m ≤ 500 := by omega
    clear hbig
    obtain ⟨xs, hxs⟩ : ∃ xs, (readS bs).1 = xs := ⟨_, rfl⟩
    obtain ⟨k, hk⟩ : ∃ k, (readS bs).2 = k := ⟨_, rfl⟩
    have HXS := Lib.hid hxs
    have HKK := Lib.hid hk
    have hwl : (waitS bs).length = k := by rw [waitS_len]; exact hk
    have HWL := Lib.hid hwl
    have hpl := (points_len bs).1
    rw [HL.out] at hpl
    have hps : pointsS bs = xs ++ (if 0 < k then [65533] else []) := by unfold pointsS; rw [hxs, hk]
    have hxl : xs.length ≤ 2000 := by
      have h := hpl; rw [hps, List.length_append] at h; omega
    obtain ⟨ps, hps2⟩ : ∃ ps, pointsS bs = ps := ⟨_, rfl⟩
    rw [hps2] at hpl
    have HPS2 := Lib.hid hps2
    have HPSX := Lib.hid (hps2.symm.trans hps)
    obtain ⟨q, hq⟩ : ∃ q, ps.length = q := ⟨_, rfl⟩
    have hq2 : q ≤ 2000 := by omega
    have HQ := Lib.hid hq
    obtain ⟨S, hS⟩ : ∃ S, strOfNums (bytesL ls) = S := ⟨_, rfl⟩
    obtain ⟨t, ht⟩ : ∃ t, (bytesL ls).length = t := ⟨_, rfl⟩
    have sS : (S.toList == S.toList) = true := by simp
    have HCV := Lib.hid (fun (W : World) (A : Option Addr) (c : Nat) (hR : RI .u8 W A (bytesL ls)) => hS ▸ convS_nums ht c hR)
    have HT := Lib.hid ht
    obtain ⟨y, hy⟩ : ∃ y, isP p = y := ⟨_, rfl⟩
    have HIS := Lib.hid (fun W : World => hy ▸ is_any p W)
    have HRS := Lib.hid (fun W : World => hy ▸ ris_any p W)
    have yy : (y == y) = true := by simp
    clear hxs hk hwl hpl hps hps2 hq hS ht hy
    go_enter Try.func3, Try.ntmps3
    go_wp2_with fail
    refine (new_rd w).mono ?_
    rintro e w1 ⟨rfl, r1, b1, z1⟩
    have hrd := read_any (c := c) r1 St.empty (HR.out.below b1) HL.out (by omega) (fun hp ad e => by
      obtain ⟨b, off, e2, hb, _⟩ := HR.out (by rw [HL.out]; exact hp)
      rw [e] at e2; injection e2 with e2; rw [e2]; exact Nat.ne_of_lt hb) (range_at HL.out HB.out)
    rw [List.nil_append, HXS.out] at hrd
    have HRD := Lib.hid hrd
    have HB1 := Lib.hid b1
    have HZ1 := Lib.hid z1
    clear hrd r1 b1 z1
    go_wp2_with fail
    refine HRD.out.mono ?_
    rintro e w2 ⟨v2, Wn, Nn, Pn, Ln, Hn, rfl, o2, r2, s2⟩
    have hbw2 : Below w.heap.size w w2 := o2.only.below HB1.out (Nat.le_refl _) (by rw [HZ1.out]; omega)
    have hl2 := o2.lies.mono (B' := w.heap.size) (by rw [HZ1.out]; omega)
    obtain ⟨A2, c2, rfl, _, hR2, _⟩ := hl2.at_
    have HB2' := Lib.hid hbw2
    have HW2 := Lib.hid (fun W hb => waits_st (w := W) (Rd.below r2 hb) s2)
    have HR2' := Lib.hid hR2
    have HRR := Lib.hid (rread_any (c := c) (HR.out.below hbw2) HL.out (by omega) (range_at HL.out HB.out))
    clear HRD o2 r2 s2 hbw2 hl2 hR2
    go_wp2_with fail
    refine HRR.out.mono ?_
    rintro e w3 ⟨v3, rfl, o3⟩
    rw [HXS.out, HKK.out] at *
    obtain ⟨A3, c3, rfl, _⟩ := own_slice o3.own
    obtain ⟨hR3, _, _⟩ := o3.rd
    have HSM := Lib.hid (same_yes (c := c2) (d := c3) (HR2'.out.below o3.below) hR3 rfl rfl (by omega) rfl)
    have HO3 := Lib.hid o3
    clear HRR hR3 o3
    go_wp2_with fail
    refine HSM.out.mono ?_
    rintro e w4 ⟨rfl, b4⟩
    have HO4 := Lib.hid (HO3.out.to b4)
    have HW4 := Lib.hid (HWL.out ▸ HW2.out _ HO4.out.below)
    have HB4 := Lib.hid (HB2'.out.trans (HO4.out.below.mono HB2'.out.size))
    clear HSM b4 HO3 HW2 HR2'
    go_wp2_with fail
    refine HW4.out.mono ?_
    rintro e w5 ⟨rfl, rfl⟩
    have kk : ((k : Int) != (k : Int)) = false := by simp
    rcases Nat.eq_zero_or_pos k with hk0 | hk0
    · subst hk0
      have hpx : ps = xs := by have := HPSX.out; simpa using this
      have hxq : xs.length = q := by rw [← hpx]; exact HQ.out
      have HRY : Hid (RI .i32 w4 A3 ps) := Lib.hid (by rw [hpx]; exact HO4.out.rd.1)
      have HBX := HB4
      rw [hxq]
      clear hpx hxq HO4 HW4 HWL HKK HPSX
      have HPT := Lib.hid (fun (W : World) (hb : Below w4.heap.size w4 W) => points_sl (c := c) (HR.out.below (HBX.out.trans (hb.mono HBX.out.size))) HL.out (by omega) HB.out HPS2.out HQ.out)
      have HPB := Lib.hid (fun (W : World) (hb : Below w4.heap.size w4 W) => pbytes_sl (c := d) (HR2.out.below (HBX.out.trans (hb.mono HBX.out.size))) HL2.out (by omega) rfl HT.out)
      have HRB := Lib.hid (fun (W : World) (hb : Below w4.heap.size w4 W) => rbytes_sl (c := d) (HR2.out.below (HBX.out.trans (hb.mono HBX.out.size))) HL2.out (by omega) rfl HT.out)
      have HSM := Lib.hid (fun (W : World) (A' : Option Addr) (c' : Nat) (hb : Below w4.heap.size w4 W) (hR : RI .i32 W A' ps) => same_yes (c := c') (d := c3) hR (HRY.out.below hb) HQ.out HQ.out (by omega) rfl)
      have HD := Lib.hid (((Below.refl w4.heap.size w4).alloc (Nat.le_refl _) (.cells #[.bool false, .int .i64 0, .int .i64 0, .int .i32 0, .int .u8 0, .int .u8 0] 35)).drew)
      go_wp2_with fail
      refine (read_nil _ _ _ _).mono ?_
      rintro e wx ⟨rfl, rfl⟩
      go_wp2_with fail
      refine (read_zero _ _ _ _ _ (by go_simp)).mono ?_
      rintro e wx ⟨rfl, rfl⟩
      go_wp2_with fail
      refine (end_nil _).mono ?_
      rintro e wx ⟨rfl, rfl⟩
      clear HR HL HB HR2 HL2 d1 d2 d3 d4 h1 h2 HXS HPS2 HQ hxl hq2 HT HB1 HZ1 HB2' HRY kk
      go_wp2
      obtain ⟨U, hU⟩ : ∃ U, (w4.alloc (.cells #[.bool false, .int .i64 0, .int .i64 0, .int .i32 0, .int .u8 0, .int .u8 0] 35)).drew = U := ⟨_, rfl⟩
      rw [hU] at HD
      refine wp_region_held_drew (S := fun W => Below U.heap.size U W) (by kernel_rfl) (by rw [hU]; exact Below.refl _ _) (fun hHeld => ?_)
      rw [hU] at hHeld ⊢
      clear hU
      refine wpAnyH_ready (rs := [0]) (by kernel_rfl) (by simp) ?_
      refine AllReadyH.cons (by simp; rfl) (fun K0 hK0 => ?_) AllReadyH.nil
      go_simp
      refine (alive_any _).mono ?_
      rintro e Ux1 ⟨rfl, h1⟩
      have hbUx1 : Below U.heap.size U Ux1 := h1
      have HB1 := Lib.hid (HD.out.trans (hbUx1.mono HD.out.size))
      clear HD
      refine hK0.out _ _ hbUx1 (fun _ => ?_)
      clear hK0 K0 hHeld
      refine heldMono (S' := fun W => Below Ux1.heap.size Ux1 W) (fun _ h => hbUx1.trans (h.mono hbUx1.size)) _ _ _ _ ?_
      have hHeld := Below.refl Ux1.heap.size Ux1
      have HBUx1 := Lib.hid hbUx1
      clear hbUx1
      refine wpAnyH_take (i := 1) (v := ?_) (by simp; rfl) (by kernel_rfl) (by kernel_rfl) (by kernel_rfl) (by exact fun _ _ _ h => h) (Or.inl ⟨by rfl, fun wx hSx => ?_⟩) hHeld ?_
      rotate_left
      · clear hSx; go_simp; (try with_reducible rfl)
      simp only [Act.put, List.setIfInBounds_toArray, List.set_cons_zero, List.set_cons_succ]
      refine wpAnyH_take (i := 2) (v := ?_) (by simp; rfl) (by kernel_rfl) (by kernel_rfl) (by kernel_rfl) (by exact fun _ _ _ h => h) (Or.inl ⟨by rfl, fun wx hSx => ?_⟩) hHeld ?_
      rotate_left
      · clear hSx; go_simp; (try with_reducible rfl)
      simp only [Act.put, List.setIfInBounds_toArray, List.set_cons_zero, List.set_cons_succ]
      refine wpAnyH_take (i := 4) (v := ?_) (by simp; rfl) (by kernel_rfl) (by kernel_rfl) (by kernel_rfl) (by exact fun _ _ _ h => h) (Or.inl ⟨by rfl, fun wx hSx => ?_⟩) hHeld ?_
      rotate_left
      · clear hSx; go_simp; (try with_reducible rfl)
      simp only [Act.put, List.setIfInBounds_toArray, List.set_cons_zero, List.set_cons_succ]
      refine wpAnyH_ready (rs := [3]) (by kernel_rfl) (by simp) ?_
      refine AllReadyH.cons (by simp; rfl) (fun K0 hK0 => ?_) AllReadyH.nil
      go_simp
      refine (HPT.out _ HB1.out).mono ?_
      rintro e Ux2 ⟨Az, cz, rfl, rz, _, bz⟩
      have hbUx2 : Below Ux1.heap.size Ux1 Ux2 := bz
      have HB2 := Lib.hid (HB1.out.trans (hbUx2.mono HB1.out.size))
      have HRZ := Lib.hid rz
      clear HB1 rz bz
      refine hK0.out _ _ hbUx2 (fun _ => ?_)
      clear hK0 K0 hHeld
      refine heldMono (S' := fun W => Below Ux2.heap.size Ux2 W) (fun _ h => hbUx2.trans (h.mono hbUx2.size)) _ _ _ _ ?_
      have hHeld := Below.refl Ux2.heap.size Ux2
      have HBUx2 := Lib.hid hbUx2
      clear hbUx2
      refine wpAnyH_ready (rs := [5]) (by kernel_rfl) (by simp) ?_
      refine AllReadyH.cons (by simp; rfl) (fun K0 hK0 => ?_) AllReadyH.nil
      go_simp
      refine (HSM.out _ _ _ HB2.out HRZ.out).mono ?_
      rintro e Ux3 ⟨rfl, h1⟩
      have hbUx3 : Below Ux2.heap.size Ux2 Ux3 := h1
      have HB3 := Lib.hid (HB2.out.trans (hbUx3.mono HB2.out.size))
      clear HB2 HRZ h1
      refine hK0.out _ _ hbUx3 (fun _ => ?_)
      clear hK0 K0 hHeld
      refine heldMono (S' := fun W => Below Ux3.heap.size Ux3 W) (fun _ h => hbUx3.trans (h.mono hbUx3.size)) _ _ _ _ ?_
      have hHeld := Below.refl Ux3.heap.size Ux3
      have HBUx3 := Lib.hid hbUx3
      clear hbUx3
      refine wpAnyH_take (i := 6) (v := ?_) (by simp; rfl) (by kernel_rfl) (by kernel_rfl) (by kernel_rfl) (by exact fun _ _ _ h => h) (Or.inl ⟨by rfl, fun wx hSx => ?_⟩) hHeld ?_
      rotate_left
      · clear hSx; go_simp; (try with_reducible rfl)
      simp only [Act.put, List.setIfInBounds_toArray, List.set_cons_zero, List.set_cons_succ]
      refine wpAnyH_take (i := 7) (v := ?_) (by simp; rfl) (by kernel_rfl) (by kernel_rfl) (by kernel_rfl) (by exact fun _ _ _ h => h) (Or.inl ⟨by rfl, fun wx hSx => ?_⟩) hHeld ?_
      rotate_left
      · clear hSx; go_simp; (try with_reducible rfl)
      simp only [Act.put, List.setIfInBounds_toArray, List.set_cons_zero, List.set_cons_succ]
      refine wpAnyH_take (i := 8) (v := ?_) (by simp; rfl) (by kernel_rfl) (by kernel_rfl) (by kernel_rfl) (by exact fun _ _ _ h => h) (Or.inl ⟨by rfl, fun wx hSx => ?_⟩) hHeld ?_
      rotate_left
      · clear hSx; go_simp; (try with_reducible rfl)
      simp only [Act.put, List.setIfInBounds_toArray, List.set_cons_zero, List.set_cons_succ]
      refine wpAnyH_take (i := 11) (v := ?_) (by simp; rfl) (by kernel_rfl) (by kernel_rfl) (by kernel_rfl) (by exact fun _ _ _ h => h) (Or.inl ⟨by rfl, fun wx hSx => ?_⟩) hHeld ?_
      rotate_left
      · clear hSx; go_simp; (try with_reducible rfl)
      simp only [Act.put, List.setIfInBounds_toArray, List.set_cons_zero, List.set_cons_succ]
      refine wpAnyH_ready (rs := [9]) (by kernel_rfl) (by simp) ?_
      refine AllReadyH.cons (by simp; rfl) (fun K0 hK0 => ?_) AllReadyH.nil
      go_simp
      refine (HPB.out _ HB3.out).mono ?_
      rintro e Ux4 ⟨Av, cv, rfl, rv, bv⟩
      have hbUx4 : Below Ux3.heap.size Ux3 Ux4 := bv
      have HB4 := Lib.hid (HB3.out.trans (hbUx4.mono HB3.out.size))
      have HRV := Lib.hid rv
      clear HB3 rv bv
      refine hK0.out _ _ hbUx4 (fun _ => ?_)
      clear hK0 K0 hHeld
      refine heldMono (S' := fun W => Below Ux4.heap.size Ux4 W) (fun _ h => hbUx4.trans (h.mono hbUx4.size)) _ _ _ _ ?_
      have hHeld := Below.refl Ux4.heap.size Ux4
      have HBUx4 := Lib.hid hbUx4
      clear hbUx4
      refine wpAnyH_take (i := 10) (v := ?_) (by simp; rfl) (by kernel_rfl) (by kernel_rfl) (by kernel_rfl) (by exact fun _ _ _ h => h) (Or.inl ⟨by rfl, fun wx hSx => ?_⟩) hHeld ?_
      rotate_left
      · have hc := HCV.out wx _ cv (RI.below HRV.out hSx); clear hSx; go_simp; (try with_reducible rfl)
      simp only [Act.put, List.setIfInBounds_toArray, List.set_cons_zero, List.set_cons_succ]
      refine wpAnyH_ready (rs := [12]) (by kernel_rfl) (by simp) ?_
      refine AllReadyH.cons (by simp; rfl) (fun K0 hK0 => ?_) AllReadyH.nil
      go_simp
      refine (HRB.out _ HB4.out).mono ?_
      rintro e Ux5 ⟨Au, cu, rfl, ru, bu⟩
      have hbUx5 : Below Ux4.heap.size Ux4 Ux5 := bu
      have HB5 := Lib.hid (HB4.out.trans (hbUx5.mono HB4.out.size))
      have HRU := Lib.hid ru
      clear HB4 ru bu
      refine hK0.out _ _ hbUx5 (fun _ => ?_)
      clear hK0 K0 hHeld
      refine heldMono (S' := fun W => Below Ux5.heap.size Ux5 W) (fun _ h => hbUx5.trans (h.mono hbUx5.size)) _ _ _ _ ?_
      have hHeld := Below.refl Ux5.heap.size Ux5
      have HBUx5 := Lib.hid hbUx5
      clear hbUx5
      refine wpAnyH_take (i := 13) (v := ?_) (by simp; rfl) (by kernel_rfl) (by kernel_rfl) (by kernel_rfl) (by exact fun _ _ _ h => h) (Or.inl ⟨by rfl, fun wx hSx => ?_⟩) hHeld ?_
      rotate_left
      · have hc := HCV.out wx _ cu (RI.below HRU.out hSx); clear hSx; go_simp; (try with_reducible rfl)
      simp only [Act.put, List.setIfInBounds_toArray, List.set_cons_zero, List.set_cons_succ]
      refine wpAnyH_take (i := 14) (v := ?_) (by simp; rfl) (by kernel_rfl) (by kernel_rfl) (by kernel_rfl) (by exact fun _ _ _ h => h) (Or.inl ⟨by rfl, fun wx hSx => ?_⟩) hHeld ?_
      rotate_left
      · clear hSx; go_simp; (try with_reducible rfl)
      simp only [Act.put, List.setIfInBounds_toArray, List.set_cons_zero, List.set_cons_succ]
      refine wpAnyH_take (i := 15) (v := ?_) (by simp; rfl) (by kernel_rfl) (by kernel_rfl) (by kernel_rfl) (by exact fun _ _ _ h => h) (Or.inl ⟨by rfl, fun wx hSx => ?_⟩) hHeld ?_
      rotate_left
      · clear hSx; go_simp; (try with_reducible rfl)
      simp only [Act.put, List.setIfInBounds_toArray, List.set_cons_zero, List.set_cons_succ]
      refine wpAnyH_take (i := 16) (v := ?_) (by simp; rfl) (by kernel_rfl) (by kernel_rfl) (by kernel_rfl) (by exact fun _ _ _ h => h) (Or.inl ⟨by rfl, fun wx hSx => ?_⟩) hHeld ?_
      rotate_left
      · clear hSx; go_simp; (try with_reducible rfl)
      simp only [Act.put, List.setIfInBounds_toArray, List.set_cons_zero, List.set_cons_succ]
      refine wpAnyH_take (i := 17) (v := ?_) (by simp; rfl) (by kernel_rfl) (by kernel_rfl) (by kernel_rfl) (by exact fun _ _ _ h => h) (Or.inl ⟨by rfl, fun wx hSx => ?_⟩) hHeld ?_
      rotate_left
      · clear hSx; go_simp; (try with_reducible rfl)
      simp only [Act.put, List.setIfInBounds_toArray, List.set_cons_zero, List.set_cons_succ]
      refine wpAnyH_take (i := 19) (v := ?_) (by simp; rfl) (by kernel_rfl) (by kernel_rfl) (by kernel_rfl) (by exact fun _ _ _ h => h) (Or.inl ⟨by rfl, fun wx hSx => ?_⟩) hHeld ?_
      rotate_left
      · clear hSx; go_simp; (try with_reducible rfl)
      simp only [Act.put, List.setIfInBounds_toArray, List.set_cons_zero, List.set_cons_succ]
      refine wpAnyH_ready (rs := [18]) (by kernel_rfl) (by simp) ?_
      refine AllReadyH.cons (by simp; rfl) (fun K0 hK0 => ?_) AllReadyH.nil
      go_simp
      refine (HIS.out _).mono ?_
      rintro e wz ⟨rfl, rfl⟩
      refine hK0.out _ _ hHeld (fun hHeld => ?_)
      clear hK0 K0
      refine wpAnyH_ready (rs := [20]) (by kernel_rfl) (by simp) ?_
      refine AllReadyH.cons (by simp; rfl) (fun K0 hK0 => ?_) AllReadyH.nil
      go_simp
      refine (HRS.out _).mono ?_
      rintro e wz ⟨rfl, rfl⟩
      refine hK0.out _ _ hHeld (fun hHeld => ?_)
      clear hK0 K0
      refine wpAnyH_take (i := 21) (v := ?_) (by simp; rfl) (by kernel_rfl) (by kernel_rfl) (by kernel_rfl) (by exact fun _ _ _ h => h) (Or.inl ⟨by rfl, fun wx hSx => ?_⟩) hHeld ?_
      rotate_left
      · clear hSx; go_simp; (try with_reducible rfl)
      simp only [Act.put, List.setIfInBounds_toArray, List.set_cons_zero, List.set_cons_succ]
      refine wpAnyH_take (i := 22) (v := ?_) (by simp; rfl) (by kernel_rfl) (by kernel_rfl) (by kernel_rfl) (by exact fun _ _ _ h => h) (Or.inl ⟨by rfl, fun wx hSx => ?_⟩) hHeld ?_
      rotate_left
      · clear hSx; go_simp; (try with_reducible rfl)
      simp only [Act.put, List.setIfInBounds_toArray, List.set_cons_zero, List.set_cons_succ]
      refine wpAnyH_take (i := 23) (v := ?_) (by simp; rfl) (by kernel_rfl) (by kernel_rfl) (by kernel_rfl) (by exact fun _ _ _ h => h) (Or.inl ⟨by rfl, fun wx hSx => ?_⟩) hHeld ?_
      rotate_left
      · clear hSx; go_simp; (try with_reducible rfl)
      simp only [Act.put, List.setIfInBounds_toArray, List.set_cons_zero, List.set_cons_succ]
      refine wpAnyH_take (i := 24) (v := ?_) (by simp; rfl) (by kernel_rfl) (by kernel_rfl) (by kernel_rfl) (by exact fun _ _ _ h => h) (Or.inl ⟨by rfl, fun wx hSx => ?_⟩) hHeld ?_
      rotate_left
      · clear hSx; go_simp; (try with_reducible rfl)
      simp only [Act.put, List.setIfInBounds_toArray, List.set_cons_zero, List.set_cons_succ]
      refine wpAnyH_take (i := 25) (v := ?_) (by simp; rfl) (by kernel_rfl) (by kernel_rfl) (by kernel_rfl) (by exact fun _ _ _ h => h) (Or.inl ⟨by rfl, fun wx hSx => ?_⟩) hHeld ?_
      rotate_left
      · clear hSx; go_simp; (try with_reducible rfl)
      simp only [Act.put, List.setIfInBounds_toArray, List.set_cons_zero, List.set_cons_succ]
      refine wpAnyH_take (i := 26) (v := ?_) (by simp; rfl) (by kernel_rfl) (by kernel_rfl) (by kernel_rfl) (by exact fun _ _ _ h => h) (Or.inl ⟨by rfl, fun wx hSx => ?_⟩) hHeld ?_
      rotate_left
      · clear hSx; go_simp; (try with_reducible rfl)
      simp only [Act.put, List.setIfInBounds_toArray, List.set_cons_zero, List.set_cons_succ]
      refine wpAnyH_take (i := 27) (v := ?_) (by simp; rfl) (by kernel_rfl) (by kernel_rfl) (by kernel_rfl) (by exact fun _ _ _ h => h) (Or.inl ⟨by rfl, fun wx hSx => ?_⟩) hHeld ?_
      rotate_left
      · clear hSx; go_simp; (try with_reducible rfl)
      simp only [Act.put, List.setIfInBounds_toArray, List.set_cons_zero, List.set_cons_succ]
      refine wpAnyH_take (i := 28) (v := ?_) (by simp; rfl) (by kernel_rfl) (by kernel_rfl) (by kernel_rfl) (by exact fun _ _ _ h => h) (Or.inl ⟨by rfl, fun wx hSx => ?_⟩) hHeld ?_
      rotate_left
      · clear hSx; go_simp; (try with_reducible rfl)
      simp only [Act.put, List.setIfInBounds_toArray, List.set_cons_zero, List.set_cons_succ]
      refine wpAnyH_take (i := 29) (v := ?_) (by simp; rfl) (by kernel_rfl) (by kernel_rfl) (by kernel_rfl) (by exact fun _ _ _ h => h) (Or.inl ⟨by rfl, fun wx hSx => ?_⟩) hHeld ?_
      rotate_left
      · clear hSx; go_simp; (try with_reducible rfl)
      simp only [Act.put, List.setIfInBounds_toArray, List.set_cons_zero, List.set_cons_succ]
      refine wpAnyH_take (i := 30) (v := ?_) (by simp; rfl) (by kernel_rfl) (by kernel_rfl) (by kernel_rfl) (by exact fun _ _ _ h => h) (Or.inl ⟨by rfl, fun wx hSx => ?_⟩) hHeld ?_
      rotate_left
      · clear hSx; go_simp; (try with_reducible rfl)
      simp only [Act.put, List.setIfInBounds_toArray, List.set_cons_zero, List.set_cons_succ]
      refine wpAnyH_take (i := 31) (v := ?_) (by simp; rfl) (by kernel_rfl) (by kernel_rfl) (by kernel_rfl) (by exact fun _ _ _ h => h) (Or.inl ⟨by rfl, fun wx hSx => ?_⟩) hHeld ?_
      rotate_left
      · clear hSx; go_simp; (try with_reducible rfl)
      simp only [Act.put, List.setIfInBounds_toArray, List.set_cons_zero, List.set_cons_succ]
      refine wpAnyH_take (i := 32) (v := ?_) (by simp; rfl) (by kernel_rfl) (by kernel_rfl) (by kernel_rfl) (by exact fun _ _ _ h => h) (Or.inl ⟨by rfl, fun wx hSx => ?_⟩) hHeld ?_
      rotate_left
      · clear hSx; go_simp; (try with_reducible rfl)
      simp only [Act.put, List.setIfInBounds_toArray, List.set_cons_zero, List.set_cons_succ]
      refine wpAnyH_take (i := 33) (v := ?_) (by simp; rfl) (by kernel_rfl) (by kernel_rfl) (by kernel_rfl) (by exact fun _ _ _ h => h) (Or.inl ⟨by rfl, fun wx hSx => ?_⟩) hHeld ?_
      rotate_left
      · clear hSx; go_simp; (try with_reducible rfl)
      simp only [Act.put, List.setIfInBounds_toArray, List.set_cons_zero, List.set_cons_succ]
      refine wpAnyH_take (i := 34) (v := ?_) (by simp; rfl) (by kernel_rfl) (by kernel_rfl) (by kernel_rfl) (by exact fun _ _ _ h => h) (Or.inl ⟨by rfl, fun wx hSx => ?_⟩) hHeld ?_
      rotate_left
      · clear hSx; go_simp; (try with_reducible rfl)
      simp only [Act.put, List.setIfInBounds_toArray, List.set_cons_zero, List.set_cons_succ]
      refine wpAnyH_take (i := 35) (v := ?_) (by simp; rfl) (by kernel_rfl) (by kernel_rfl) (by kernel_rfl) (by exact fun _ _ _ h => h) (Or.inl ⟨by rfl, fun wx hSx => ?_⟩) hHeld ?_
      rotate_left
      · clear hSx; go_simp; (try with_reducible rfl)
      simp only [Act.put, List.setIfInBounds_toArray, List.set_cons_zero, List.set_cons_succ]
      refine wpAnyH_take (i := 36) (v := ?_) (by simp; rfl) (by kernel_rfl) (by kernel_rfl) (by kernel_rfl) (by exact fun _ _ _ h => h) (Or.inl ⟨by rfl, fun wx hSx => ?_⟩) hHeld ?_
      rotate_left
      · clear hSx; go_simp; (try with_reducible rfl)
      simp only [Act.put, List.setIfInBounds_toArray, List.set_cons_zero, List.set_cons_succ]
      refine wpAnyH_ready (rs := [37]) (by kernel_rfl) (by simp) ?_
      refine AllReadyH.cons (by simp; rfl) (fun K0 hK0 => ?_) AllReadyH.nil
      go_simp
      refine (waits_nil _).mono ?_
      rintro e wz ⟨rfl, rfl⟩
      refine hK0.out _ _ hHeld (fun hHeld => ?_)
      clear hK0 K0
      refine wpAnyH_take (i := 38) (v := ?_) (by simp; rfl) (by kernel_rfl) (by kernel_rfl) (by kernel_rfl) (by exact fun _ _ _ h => h) (Or.inl ⟨by rfl, fun wx hSx => ?_⟩) hHeld ?_
      rotate_left
      · clear hSx; go_simp; (try with_reducible rfl)
      simp only [Act.put, List.setIfInBounds_toArray, List.set_cons_zero, List.set_cons_succ]
      refine wpAnyH_take (i := 39) (v := ?_) (by simp; rfl) (by kernel_rfl) (by kernel_rfl) (by kernel_rfl) (by exact fun _ _ _ h => h) (Or.inl ⟨by rfl, fun wx hSx => ?_⟩) hHeld ?_
      rotate_left
      · clear hSx; go_simp; (try with_reducible rfl)
      simp only [Act.put, List.setIfInBounds_toArray, List.set_cons_zero, List.set_cons_succ]
      refine wpAnyH_take (i := 40) (v := ?_) (by simp; rfl) (by kernel_rfl) (by kernel_rfl) (by kernel_rfl) (by exact fun _ _ _ h => h) (Or.inl ⟨by rfl, fun wx hSx => ?_⟩) hHeld ?_
      rotate_left
      · clear hSx; go_simp; (try with_reducible rfl)
      simp only [Act.put, List.setIfInBounds_toArray, List.set_cons_zero, List.set_cons_succ]
      refine wpAnyH_done (by kernel_rfl) ?_ _
      have HFIN := Lib.hid (HBX.out.trans (HB5.out.mono HBX.out.size))
      clear hHeld HB5 HBX
      go_wp2
      go_ret
      exact ⟨rfl, HFIN.out⟩
    · have d5 : decide ((0 : Int) < (k : Int)) = true := by simp; omega
      have d6 : decide (0 < k) = true := by simp; omega
      have hpx : ps = xs ++ [65533] := by have := HPSX.out; rwa [if_pos hk0] at this
      have hxq : xs.length + 1 = q := by rw [← HQ.out, hpx]; simp
      obtain ⟨A6, c6, w6, hrun6, hO6⟩ := HO4.out.app (by omega) 65533
      have HRUN := Lib.hid hrun6
      have HRY : Hid (RI .i32 w6 A6 ps) := Lib.hid (by rw [hpx]; exact hO6.rd.1)
      have HBX := Lib.hid (HB2'.out.trans (hO6.below.mono HB2'.out.size))
      have HXQ := Lib.hid hxq
      clear hpx hxq HO4 HW4 HWL HKK HPSX hrun6 hO6
      have HPT := Lib.hid (fun (W : World) (hb : Below w6.heap.size w6 W) => points_sl (c := c) (HR.out.below (HBX.out.trans (hb.mono HBX.out.size))) HL.out (by omega) HB.out HPS2.out HQ.out)
      have HPB := Lib.hid (fun (W : World) (hb : Below w6.heap.size w6 W) => pbytes_sl (c := d) (HR2.out.below (HBX.out.trans (hb.mono HBX.out.size))) HL2.out (by omega) rfl HT.out)
      have HRB := Lib.hid (fun (W : World) (hb : Below w6.heap.size w6 W) => rbytes_sl (c := d) (HR2.out.below (HBX.out.trans (hb.mono HBX.out.size))) HL2.out (by omega) rfl HT.out)
      have HSM := Lib.hid (fun (W : World) (A' : Option Addr) (c' : Nat) (hb : Below w6.heap.size w6 W) (hR : RI .i32 W A' ps) => same_yes (c := c') (d := c6) hR (HRY.out.below hb) HQ.out HQ.out (by omega) rfl)
      have HD := Lib.hid (((Below.refl w6.heap.size w6).alloc (Nat.le_refl _) (.cells #[.bool false, .int .i64 0, .int .i64 0, .int .i32 0, .int .u8 0, .int .u8 0] 35)).drew)
      rw [HXQ.out] at HRUN
      go_wp2_with (at_builtin; refine wpList_app rfl (.tmp 57) (.tmp 58) _ rfl _ _ rfl rfl HRUN.out ?_)
      refine (read_nil _ _ _ _).mono ?_
      rintro e wx ⟨rfl, rfl⟩
      go_wp2_with fail
      refine (read_zero _ _ _ _ _ (by go_simp)).mono ?_
      rintro e wx ⟨rfl, rfl⟩
      go_wp2_with fail
      refine (end_nil _).mono ?_
      rintro e wx ⟨rfl, rfl⟩
      clear HR HL HB HR2 HL2 d1 d2 d3 d4 h1 h2 HXS HPS2 HQ hxl hq2 HT HB1 HZ1 HB2' HRY kk hk0 d5 d6
      go_wp2
      obtain ⟨U, hU⟩ : ∃ U, (w6.alloc (.cells #[.bool false, .int .i64 0, .int .i64 0, .int .i32 0, .int .u8 0, .int .u8 0] 35)).drew = U := ⟨_, rfl⟩
      rw [hU] at HD
      refine wp_region_held_drew (S := fun W => Below U.heap.size U W) (by kernel_rfl) (by rw [hU]; exact Below.refl _ _) (fun hHeld => ?_)
      rw [hU] at hHeld ⊢
      clear hU
      refine wpAnyH_ready (rs := [0]) (by kernel_rfl) (by simp) ?_
      refine AllReadyH.cons (by simp; rfl) (fun K0 hK0 => ?_) AllReadyH.nil
      go_simp
      refine (alive_any _).mono ?_
      rintro e Ux1 ⟨rfl, h1⟩
      have hbUx1 : Below U.heap.size U Ux1 := h1
      have HB1 := Lib.hid (HD.out.trans (hbUx1.mono HD.out.size))
      clear HD
      refine hK0.out _ _ hbUx1 (fun _ => ?_)
      clear hK0 K0 hHeld
      refine heldMono (S' := fun W => Below Ux1.heap.size Ux1 W) (fun _ h => hbUx1.trans (h.mono hbUx1.size)) _ _ _ _ ?_
      have hHeld := Below.refl Ux1.heap.size Ux1
      have HBUx1 := Lib.hid hbUx1
      clear hbUx1
      refine wpAnyH_take (i := 1) (v := ?_) (by simp; rfl) (by kernel_rfl) (by kernel_rfl) (by kernel_rfl) (by exact fun _ _ _ h => h) (Or.inl ⟨by rfl, fun wx hSx => ?_⟩) hHeld ?_
      rotate_left
      · clear hSx; go_simp; (try with_reducible rfl)
      simp only [Act.put, List.setIfInBounds_toArray, List.set_cons_zero, List.set_cons_succ]
      refine wpAnyH_take (i := 2) (v := ?_) (by simp; rfl) (by kernel_rfl) (by kernel_rfl) (by kernel_rfl) (by exact fun _ _ _ h => h) (Or.inl ⟨by rfl, fun wx hSx => ?_⟩) hHeld ?_
      rotate_left
      · clear hSx; go_simp; (try with_reducible rfl)
      simp only [Act.put, List.setIfInBounds_toArray, List.set_cons_zero, List.set_cons_succ]
      refine wpAnyH_take (i := 4) (v := ?_) (by simp; rfl) (by kernel_rfl) (by kernel_rfl) (by kernel_rfl) (by exact fun _ _ _ h => h) (Or.inl ⟨by rfl, fun wx hSx => ?_⟩) hHeld ?_
      rotate_left
      · clear hSx; go_simp; (try with_reducible rfl)
      simp only [Act.put, List.setIfInBounds_toArray, List.set_cons_zero, List.set_cons_succ]
      refine wpAnyH_ready (rs := [3]) (by kernel_rfl) (by simp) ?_
      refine AllReadyH.cons (by simp; rfl) (fun K0 hK0 => ?_) AllReadyH.nil
      go_simp
      refine (HPT.out _ HB1.out).mono ?_
      rintro e Ux2 ⟨Az, cz, rfl, rz, _, bz⟩
      have hbUx2 : Below Ux1.heap.size Ux1 Ux2 := bz
      have HB2 := Lib.hid (HB1.out.trans (hbUx2.mono HB1.out.size))
      have HRZ := Lib.hid rz
      clear HB1 rz bz
      refine hK0.out _ _ hbUx2 (fun _ => ?_)
      clear hK0 K0 hHeld
      refine heldMono (S' := fun W => Below Ux2.heap.size Ux2 W) (fun _ h => hbUx2.trans (h.mono hbUx2.size)) _ _ _ _ ?_
      have hHeld := Below.refl Ux2.heap.size Ux2
      have HBUx2 := Lib.hid hbUx2
      clear hbUx2
      refine wpAnyH_ready (rs := [5]) (by kernel_rfl) (by simp) ?_
      refine AllReadyH.cons (by simp; rfl) (fun K0 hK0 => ?_) AllReadyH.nil
      go_simp
      refine (HSM.out _ _ _ HB2.out HRZ.out).mono ?_
      rintro e Ux3 ⟨rfl, h1⟩
      have hbUx3 : Below Ux2.heap.size Ux2 Ux3 := h1
      have HB3 := Lib.hid (HB2.out.trans (hbUx3.mono HB2.out.size))
      clear HB2 HRZ h1
      refine hK0.out _ _ hbUx3 (fun _ => ?_)
      clear hK0 K0 hHeld
      refine heldMono (S' := fun W => Below Ux3.heap.size Ux3 W) (fun _ h => hbUx3.trans (h.mono hbUx3.size)) _ _ _ _ ?_
      have hHeld := Below.refl Ux3.heap.size Ux3
      have HBUx3 := Lib.hid hbUx3
      clear hbUx3
      refine wpAnyH_take (i := 6) (v := ?_) (by simp; rfl) (by kernel_rfl) (by kernel_rfl) (by kernel_rfl) (by exact fun _ _ _ h => h) (Or.inl ⟨by rfl, fun wx hSx => ?_⟩) hHeld ?_
      rotate_left
      · clear hSx; go_simp; (try with_reducible rfl)
      simp only [Act.put, List.setIfInBounds_toArray, List.set_cons_zero, List.set_cons_succ]
      refine wpAnyH_take (i := 7) (v := ?_) (by simp; rfl) (by kernel_rfl) (by kernel_rfl) (by kernel_rfl) (by exact fun _ _ _ h => h) (Or.inl ⟨by rfl, fun wx hSx => ?_⟩) hHeld ?_
      rotate_left
      · clear hSx; go_simp; (try with_reducible rfl)
      simp only [Act.put, List.setIfInBounds_toArray, List.set_cons_zero, List.set_cons_succ]
      refine wpAnyH_take (i := 8) (v := ?_) (by simp; rfl) (by kernel_rfl) (by kernel_rfl) (by kernel_rfl) (by exact fun _ _ _ h => h) (Or.inl ⟨by rfl, fun wx hSx => ?_⟩) hHeld ?_
      rotate_left
      · clear hSx; go_simp; (try with_reducible rfl)
      simp only [Act.put, List.setIfInBounds_toArray, List.set_cons_zero, List.set_cons_succ]
      refine wpAnyH_take (i := 11) (v := ?_) (by simp; rfl) (by kernel_rfl) (by kernel_rfl) (by kernel_rfl) (by exact fun _ _ _ h => h) (Or.inl ⟨by rfl, fun wx hSx => ?_⟩) hHeld ?_
      rotate_left
      · clear hSx; go_simp; (try with_reducible rfl)
      simp only [Act.put, List.setIfInBounds_toArray, List.set_cons_zero, List.set_cons_succ]
      refine wpAnyH_ready (rs := [9]) (by kernel_rfl) (by simp) ?_
      refine AllReadyH.cons (by simp; rfl) (fun K0 hK0 => ?_) AllReadyH.nil
      go_simp
      refine (HPB.out _ HB3.out).mono ?_
      rintro e Ux4 ⟨Av, cv, rfl, rv, bv⟩
      have hbUx4 : Below Ux3.heap.size Ux3 Ux4 := bv
      have HB4 := Lib.hid (HB3.out.trans (hbUx4.mono HB3.out.size))
      have HRV := Lib.hid rv
      clear HB3 rv bv
      refine hK0.out _ _ hbUx4 (fun _ => ?_)
      clear hK0 K0 hHeld
      refine heldMono (S' := fun W => Below Ux4.heap.size Ux4 W) (fun _ h => hbUx4.trans (h.mono hbUx4.size)) _ _ _ _ ?_
      have hHeld := Below.refl Ux4.heap.size Ux4
      have HBUx4 := Lib.hid hbUx4
      clear hbUx4
      refine wpAnyH_take (i := 10) (v := ?_) (by simp; rfl) (by kernel_rfl) (by kernel_rfl) (by kernel_rfl) (by exact fun _ _ _ h => h) (Or.inl ⟨by rfl, fun wx hSx => ?_⟩) hHeld ?_
      rotate_left
      · have hc := HCV.out wx _ cv (RI.below HRV.out hSx); clear hSx; go_simp; (try with_reducible rfl)
      simp only [Act.put, List.setIfInBounds_toArray, List.set_cons_zero, List.set_cons_succ]
      refine wpAnyH_ready (rs := [12]) (by kernel_rfl) (by simp) ?_
      refine AllReadyH.cons (by simp; rfl) (fun K0 hK0 => ?_) AllReadyH.nil
      go_simp
      refine (HRB.out _ HB4.out).mono ?_
      rintro e Ux5 ⟨Au, cu, rfl, ru, bu⟩
      have hbUx5 : Below Ux4.heap.size Ux4 Ux5 := bu
      have HB5 := Lib.hid (HB4.out.trans (hbUx5.mono HB4.out.size))
      have HRU := Lib.hid ru
      clear HB4 ru bu
      refine hK0.out _ _ hbUx5 (fun _ => ?_)
      clear hK0 K0 hHeld
      refine heldMono (S' := fun W => Below Ux5.heap.size Ux5 W) (fun _ h => hbUx5.trans (h.mono hbUx5.size)) _ _ _ _ ?_
      have hHeld := Below.refl Ux5.heap.size Ux5
      have HBUx5 := Lib.hid hbUx5
      clear hbUx5
      refine wpAnyH_take (i := 13) (v := ?_) (by simp; rfl) (by kernel_rfl) (by kernel_rfl) (by kernel_rfl) (by exact fun _ _ _ h => h) (Or.inl ⟨by rfl, fun wx hSx => ?_⟩) hHeld ?_
      rotate_left
      · have hc := HCV.out wx _ cu (RI.below HRU.out hSx); clear hSx; go_simp; (try with_reducible rfl)
      simp only [Act.put, List.setIfInBounds_toArray, List.set_cons_zero, List.set_cons_succ]
      refine wpAnyH_take (i := 14) (v := ?_) (by simp; rfl) (by kernel_rfl) (by kernel_rfl) (by kernel_rfl) (by exact fun _ _ _ h => h) (Or.inl ⟨by rfl, fun wx hSx => ?_⟩) hHeld ?_
      rotate_left
      · clear hSx; go_simp; (try with_reducible rfl)
      simp only [Act.put, List.setIfInBounds_toArray, List.set_cons_zero, List.set_cons_succ]
      refine wpAnyH_take (i := 15) (v := ?_) (by simp; rfl) (by kernel_rfl) (by kernel_rfl) (by kernel_rfl) (by exact fun _ _ _ h => h) (Or.inl ⟨by rfl, fun wx hSx => ?_⟩) hHeld ?_
      rotate_left
      · clear hSx; go_simp; (try with_reducible rfl)
      simp only [Act.put, List.setIfInBounds_toArray, List.set_cons_zero, List.set_cons_succ]
      refine wpAnyH_take (i := 16) (v := ?_) (by simp; rfl) (by kernel_rfl) (by kernel_rfl) (by kernel_rfl) (by exact fun _ _ _ h => h) (Or.inl ⟨by rfl, fun wx hSx => ?_⟩) hHeld ?_
      rotate_left
      · clear hSx; go_simp; (try with_reducible rfl)
      simp only [Act.put, List.setIfInBounds_toArray, List.set_cons_zero, List.set_cons_succ]
      refine wpAnyH_take (i := 17) (v := ?_) (by simp; rfl) (by kernel_rfl) (by kernel_rfl) (by kernel_rfl) (by exact fun _ _ _ h => h) (Or.inl ⟨by rfl, fun wx hSx => ?_⟩) hHeld ?_
      rotate_left
      · clear hSx; go_simp; (try with_reducible rfl)
      simp only [Act.put, List.setIfInBounds_toArray, List.set_cons_zero, List.set_cons_succ]
      refine wpAnyH_take (i := 19) (v := ?_) (by simp; rfl) (by kernel_rfl) (by kernel_rfl) (by kernel_rfl) (by exact fun _ _ _ h => h) (Or.inl ⟨by rfl, fun wx hSx => ?_⟩) hHeld ?_
      rotate_left
      · clear hSx; go_simp; (try with_reducible rfl)
      simp only [Act.put, List.setIfInBounds_toArray, List.set_cons_zero, List.set_cons_succ]
      refine wpAnyH_ready (rs := [18]) (by kernel_rfl) (by simp) ?_
      refine AllReadyH.cons (by simp; rfl) (fun K0 hK0 => ?_) AllReadyH.nil
      go_simp
      refine (HIS.out _).mono ?_
      rintro e wz ⟨rfl, rfl⟩
      refine hK0.out _ _ hHeld (fun hHeld => ?_)
      clear hK0 K0
      refine wpAnyH_ready (rs := [20]) (by kernel_rfl) (by simp) ?_
      refine AllReadyH.cons (by simp; rfl) (fun K0 hK0 => ?_) AllReadyH.nil
      go_simp
      refine (HRS.out _).mono ?_
      rintro e wz ⟨rfl, rfl⟩
      refine hK0.out _ _ hHeld (fun hHeld => ?_)
      clear hK0 K0
      refine wpAnyH_take (i := 21) (v := ?_) (by simp; rfl) (by kernel_rfl) (by kernel_rfl) (by kernel_rfl) (by exact fun _ _ _ h => h) (Or.inl ⟨by rfl, fun wx hSx => ?_⟩) hHeld ?_
      rotate_left
      · clear hSx; go_simp; (try with_reducible rfl)
      simp only [Act.put, List.setIfInBounds_toArray, List.set_cons_zero, List.set_cons_succ]
      refine wpAnyH_take (i := 22) (v := ?_) (by simp; rfl) (by kernel_rfl) (by kernel_rfl) (by kernel_rfl) (by exact fun _ _ _ h => h) (Or.inl ⟨by rfl, fun wx hSx => ?_⟩) hHeld ?_
      rotate_left
      · clear hSx; go_simp; (try with_reducible rfl)
      simp only [Act.put, List.setIfInBounds_toArray, List.set_cons_zero, List.set_cons_succ]
      refine wpAnyH_take (i := 23) (v := ?_) (by simp; rfl) (by kernel_rfl) (by kernel_rfl) (by kernel_rfl) (by exact fun _ _ _ h => h) (Or.inl ⟨by rfl, fun wx hSx => ?_⟩) hHeld ?_
      rotate_left
      · clear hSx; go_simp; (try with_reducible rfl)
      simp only [Act.put, List.setIfInBounds_toArray, List.set_cons_zero, List.set_cons_succ]
      refine wpAnyH_take (i := 24) (v := ?_) (by simp; rfl) (by kernel_rfl) (by kernel_rfl) (by kernel_rfl) (by exact fun _ _ _ h => h) (Or.inl ⟨by rfl, fun wx hSx => ?_⟩) hHeld ?_
      rotate_left
      · clear hSx; go_simp; (try with_reducible rfl)
      simp only [Act.put, List.setIfInBounds_toArray, List.set_cons_zero, List.set_cons_succ]
      refine wpAnyH_take (i := 25) (v := ?_) (by simp; rfl) (by kernel_rfl) (by kernel_rfl) (by kernel_rfl) (by exact fun _ _ _ h => h) (Or.inl ⟨by rfl, fun wx hSx => ?_⟩) hHeld ?_
      rotate_left
      · clear hSx; go_simp; (try with_reducible rfl)
      simp only [Act.put, List.setIfInBounds_toArray, List.set_cons_zero, List.set_cons_succ]
      refine wpAnyH_take (i := 26) (v := ?_) (by simp; rfl) (by kernel_rfl) (by kernel_rfl) (by kernel_rfl) (by exact fun _ _ _ h => h) (Or.inl ⟨by rfl, fun wx hSx => ?_⟩) hHeld ?_
      rotate_left
      · clear hSx; go_simp; (try with_reducible rfl)
      simp only [Act.put, List.setIfInBounds_toArray, List.set_cons_zero, List.set_cons_succ]
      refine wpAnyH_take (i := 27) (v := ?_) (by simp; rfl) (by kernel_rfl) (by kernel_rfl) (by kernel_rfl) (by exact fun _ _ _ h => h) (Or.inl ⟨by rfl, fun wx hSx => ?_⟩) hHeld ?_
      rotate_left
      · clear hSx; go_simp; (try with_reducible rfl)
      simp only [Act.put, List.setIfInBounds_toArray, List.set_cons_zero, List.set_cons_succ]
      refine wpAnyH_take (i := 28) (v := ?_) (by simp; rfl) (by kernel_rfl) (by kernel_rfl) (by kernel_rfl) (by exact fun _ _ _ h => h) (Or.inl ⟨by rfl, fun wx hSx => ?_⟩) hHeld ?_
      rotate_left
      · clear hSx; go_simp; (try with_reducible rfl)
      simp only [Act.put, List.setIfInBounds_toArray, List.set_cons_zero, List.set_cons_succ]
      refine wpAnyH_take (i := 29) (v := ?_) (by simp; rfl) (by kernel_rfl) (by kernel_rfl) (by kernel_rfl) (by exact fun _ _ _ h => h) (Or.inl ⟨by rfl, fun wx hSx => ?_⟩) hHeld ?_
      rotate_left
      · clear hSx; go_simp; (try with_reducible rfl)
      simp only [Act.put, List.setIfInBounds_toArray, List.set_cons_zero, List.set_cons_succ]
      refine wpAnyH_take (i := 30) (v := ?_) (by simp; rfl) (by kernel_rfl) (by kernel_rfl) (by kernel_rfl) (by exact fun _ _ _ h => h) (Or.inl ⟨by rfl, fun wx hSx => ?_⟩) hHeld ?_
      rotate_left
      · clear hSx; go_simp; (try with_reducible rfl)
      simp only [Act.put, List.setIfInBounds_toArray, List.set_cons_zero, List.set_cons_succ]
      refine wpAnyH_take (i := 31) (v := ?_) (by simp; rfl) (by kernel_rfl) (by kernel_rfl) (by kernel_rfl) (by exact fun _ _ _ h => h) (Or.inl ⟨by rfl, fun wx hSx => ?_⟩) hHeld ?_
      rotate_left
      · clear hSx; go_simp; (try with_reducible rfl)
      simp only [Act.put, List.setIfInBounds_toArray, List.set_cons_zero, List.set_cons_succ]
      refine wpAnyH_take (i := 32) (v := ?_) (by simp; rfl) (by kernel_rfl) (by kernel_rfl) (by kernel_rfl) (by exact fun _ _ _ h => h) (Or.inl ⟨by rfl, fun wx hSx => ?_⟩) hHeld ?_
      rotate_left
      · clear hSx; go_simp; (try with_reducible rfl)
      simp only [Act.put, List.setIfInBounds_toArray, List.set_cons_zero, List.set_cons_succ]
      refine wpAnyH_take (i := 33) (v := ?_) (by simp; rfl) (by kernel_rfl) (by kernel_rfl) (by kernel_rfl) (by exact fun _ _ _ h => h) (Or.inl ⟨by rfl, fun wx hSx => ?_⟩) hHeld ?_
      rotate_left
      · clear hSx; go_simp; (try with_reducible rfl)
      simp only [Act.put, List.setIfInBounds_toArray, List.set_cons_zero, List.set_cons_succ]
      refine wpAnyH_take (i := 34) (v := ?_) (by simp; rfl) (by kernel_rfl) (by kernel_rfl) (by kernel_rfl) (by exact fun _ _ _ h => h) (Or.inl ⟨by rfl, fun wx hSx => ?_⟩) hHeld ?_
      rotate_left
      · clear hSx; go_simp; (try with_reducible rfl)
      simp only [Act.put, List.setIfInBounds_toArray, List.set_cons_zero, List.set_cons_succ]
      refine wpAnyH_take (i := 35) (v := ?_) (by simp; rfl) (by kernel_rfl) (by kernel_rfl) (by kernel_rfl) (by exact fun _ _ _ h => h) (Or.inl ⟨by rfl, fun wx hSx => ?_⟩) hHeld ?_
      rotate_left
      · clear hSx; go_simp; (try with_reducible rfl)
      simp only [Act.put, List.setIfInBounds_toArray, List.set_cons_zero, List.set_cons_succ]
      refine wpAnyH_take (i := 36) (v := ?_) (by simp; rfl) (by kernel_rfl) (by kernel_rfl) (by kernel_rfl) (by exact fun _ _ _ h => h) (Or.inl ⟨by rfl, fun wx hSx => ?_⟩) hHeld ?_
      rotate_left
      · clear hSx; go_simp; (try with_reducible rfl)
      simp only [Act.put, List.setIfInBounds_toArray, List.set_cons_zero, List.set_cons_succ]
      refine wpAnyH_ready (rs := [37]) (by kernel_rfl) (by simp) ?_
      refine AllReadyH.cons (by simp; rfl) (fun K0 hK0 => ?_) AllReadyH.nil
      go_simp
      refine (waits_nil _).mono ?_
      rintro e wz ⟨rfl, rfl⟩
      refine hK0.out _ _ hHeld (fun hHeld => ?_)
      clear hK0 K0
      refine wpAnyH_take (i := 38) (v := ?_) (by simp; rfl) (by kernel_rfl) (by kernel_rfl) (by kernel_rfl) (by exact fun _ _ _ h => h) (Or.inl ⟨by rfl, fun wx hSx => ?_⟩) hHeld ?_
      rotate_left
      · clear hSx; go_simp; (try with_reducible rfl)
      simp only [Act.put, List.setIfInBounds_toArray, List.set_cons_zero, List.set_cons_succ]
      refine wpAnyH_take (i := 39) (v := ?_) (by simp; rfl) (by kernel_rfl) (by kernel_rfl) (by kernel_rfl) (by exact fun _ _ _ h => h) (Or.inl ⟨by rfl, fun wx hSx => ?_⟩) hHeld ?_
      rotate_left
      · clear hSx; go_simp; (try with_reducible rfl)
      simp only [Act.put, List.setIfInBounds_toArray, List.set_cons_zero, List.set_cons_succ]
      refine wpAnyH_take (i := 40) (v := ?_) (by simp; rfl) (by kernel_rfl) (by kernel_rfl) (by kernel_rfl) (by exact fun _ _ _ h => h) (Or.inl ⟨by rfl, fun wx hSx => ?_⟩) hHeld ?_
      rotate_left
      · clear hSx; go_simp; (try with_reducible rfl)
      simp only [Act.put, List.setIfInBounds_toArray, List.set_cons_zero, List.set_cons_succ]
      refine wpAnyH_done (by kernel_rfl) ?_ _
      have HFIN := Lib.hid (HBX.out.trans (HB5.out.mono HBX.out.size))
      clear hHeld HB5 HBX
      go_wp2
      go_ret
      exact ⟨rfl, HFIN.out⟩
end Go.Proofs.Ytidjcbnjadlbaaa
