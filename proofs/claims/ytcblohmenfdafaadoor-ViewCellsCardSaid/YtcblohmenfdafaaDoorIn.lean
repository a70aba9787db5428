/-
  Proved here: ViewCells.
-/
import Derived.Test.YtcblohmenfdafaaDoorIm
set_option linter.unusedSimpArgs false
set_option linter.unusedVariables false
namespace Go.Proofs.YtcblohmenfdafaaDoor
open Go.RowKit
theorem getC_flags (bs : List Int) (p : Int) : 0 ≤ (getC bs p).1.f ∧ (getC bs p).1.f < 256 := by
  unfold getC
  repeat' split
  all_goals first | (have h0 : (0 : Int) ≤ zeC.f ∧ zeC.f < 256 := ⟨by decide, by decide⟩; exact h0) | (have := flagsF_range (readY bs p).1.fs; rw [readY_len] at this; dsimp only; omega)
set_option maxRecDepth 100000 in
set_option maxHeartbeats 32000000 in
theorem cells_any {w : World} {c : Ce} (ho : CeOk c) {A : Option Addr} {n cap : Nat} {bs : List Int} (hR : RB w w.heap.size A bs) (hl : bs.length = n) (hcap : n ≤ cap) (hm : cap ≤ maxLen) (hBB : Bytes bs) (hT : Tab w) (at0 : Int) : Calls Tryd.prog 4 #[cV c, .slice A n cap, .int .i64 at0] w fun e w' => e = .returned (.bool true) ∧ Below w.heap.size w w' := by
  obtain ⟨q, hq⟩ : ∃ q, cellR c = q := ⟨_, rfl⟩
  have hri := fun W => hq ▸ r_iscell c ho W
  have hrp := fun (h : q = true) (W : World) => r_putcell (w := W) ho (hq.trans h)
  have hpp := fun (h : q = true) (W : World) hW => p_putcell (w := W) ho (hq.trans h) hW
  have hpn := fun (h : q = false) (W : World) => p_putcell_no (w := W) ho (hq.trans h)
  have hlc := fun W => l_cell c W ho.f.1 ho.f.2
  have hb480 : q = true → (cellB c).length ≤ 13 := fun h => (cellB_len ho (hq.trans h)).2
  obtain ⟨B4, hB4⟩ : ∃ B, cellB c = B := ⟨_, rfl⟩
  rw [hB4] at hrp hpp hb480
  obtain ⟨m4, hm4⟩ : ∃ m, B4.length = m := ⟨_, rfl⟩
  have HM4 := Lib.hid hm4
  obtain ⟨p, f, gg, bb⟩ := c
  obtain ⟨f0, f1, f2, f3, f4, f5, f6, f7, hf⟩ := eight (ofF_len 8 f)
  obtain ⟨e1, _⟩ := yV_st (p := p) (gg := gg) (bb := bb) hf
  have hdf := getC_flags bs at0
  obtain ⟨⟨d, m, z⟩, hd⟩ : ∃ r, getC bs at0 = r := ⟨_, rfl⟩
  rw [hd] at hdf
  obtain ⟨dp, df, dg, db⟩ := d
  dsimp only at hdf
  obtain ⟨g0, g1, g2, g3, g4, g5, g6, g7, hg⟩ := eight (ofF_len 8 df)
  obtain ⟨e2, _⟩ := yV_st (p := dp) (gg := dg) (bb := db) hg
  have hld := fun W => l_cell ⟨dp, df, dg, db⟩ W hdf.1 hdf.2
  have heq := fun W => eq_yc (c := ⟨dp, df, dg, db⟩) (d := ⟨dp, df, dg, db⟩) hdf hdf W
  rw [e1] at hri hrp hlc
  rw [e2] at hld heq
  simp only [decide_true] at heq
  have HEQ := Lib.hid heq
  have HRI := Lib.hid hri
  have HRP0 := Lib.hid hrp
  have HPP := Lib.hid hpp
  have HPN := Lib.hid hpn
  have HLC := Lib.hid hlc
  have HLD := Lib.hid hld
  have HRB := Lib.hid hR
  have HBB := Lib.hid hBB
  have HTB := hT
  unfold cV at HPP HPN HLC HLD ⊢
  dsimp only at HPP HPN HLC HLD ⊢
  have HB0 := (Below.refl w.heap.size w).alloc (Nat.le_refl _) (.cells #[.int .i32 p, .int .u8 f, .int .u32 gg, .int .u32 bb] 50)
  have HC0 := heap_alloc_new w (.cells #[.int .i32 p, .int .u8 f, .int .u32 gg, .int .u32 bb] 50)
  have HTB := Lib.hid (hT.below HB0 hT.big)
  have HGC : n ≤ 100000 → Hid (∀ (W : World), Below w.heap.size w W → Calls Tryd.prog 19 #[.slice A n cap, .int .i64 at0] W fun e w' => e = .returned (.tuple #[.agg #[.int .i32 dp, .int .u8 df, .int .u32 dg, .int .u32 db], .int .i64 m, .int .i64 z]) ∧ Below W.heap.size W w') := fun hn => Lib.hid (fun W hb => by
    have hz := p_getcell ((hR.below hb).keep' hb.size) hl hn hcap hm hBB (hT.below hb hT.big) at0
    rw [hd] at hz
    exact hz)
  have HGY : n ≤ 100000 → Hid (∀ (W : World), Below w.heap.size w W → Calls Tryd.prog 20 #[.slice A n cap, .int .i64 at0] W fun e w' => e = .returned (.tuple #[.agg #[.int .i32 dp, .bool g0, .bool g1, .bool g2, .bool g3, .bool g4, .bool g5, .bool g6, .bool g7, .int .u32 dg, .int .u32 db], .int .i64 m, .int .i64 z]) ∧ Below W.heap.size W w') := fun hn => Lib.hid (fun W hb => by
    have hz := r_getcell (cap := cap) ((hR.below hb).keep' hb.size) hl hn hBB at0
    rw [hd] at hz
    unfold GetCY at hz
    dsimp only at hz
    rw [e2] at hz
    exact hz)
  obtain ⟨vb, hvb⟩ : ∃ b, w.heap.size = b := ⟨_, rfl⟩
  clear hT hR hl hcap hm hBB ho hq hri hrp hpp hpn hlc hld heq hf hg hd hdf e1 e2 hB4 hm4
  go_enter Tryd.func4, Tryd.ntmps4
  go_upto_region 1 with fail
  simp only [hvb] at HC0 ⊢
  generalize (w.alloc (.cells #[.int .i32 p, .int .u8 f, .int .u32 gg, .int .u32 bb] 50)) = U at HB0 HC0 HTB ⊢
  have HB := Lib.hid HB0
  have HC := Lib.hid HC0
  have HSB := Lib.hid (Below.refl U.heap.size U)
  clear HB0 HC0 hvb
  by_cases h1 : 1000 < n
  · have p1 : decide ((1000 : Int) < (n : Int)) = true := by simp; omega
    have p1' : decide (1000 < n) = true := by simp; omega
    have p1'' : decide ((n : Int) > 1000) = true := p1
    clear h1 HGC HGY hb480
    go_wp2_with fail
    refine (alive_any _ (HTB.out.below HSB.out HTB.out.big)).mono ?_
    rintro e w9 ⟨rfl, b9⟩
    have HB9 := Lib.hid (HB.out.trans ((HSB.out.trans (b9.mono HSB.out.size)).mono HB.out.size))
    clear b9
    go_wp2
    go_ret
    exact ⟨by rfl, HB9.out⟩
  have p1 : decide ((1000 : Int) < (n : Int)) = false := by simp; omega
  have p1' : decide (1000 < n) = false := by simp; omega
  have p1'' : decide ((n : Int) > 1000) = false := p1
  have HGC := HGC (by omega)
  have HGY := HGY (by omega)
  clear h1
  obtain ⟨s0, s1, s2, s3⟩ := four_at HC.out
  go_wp2_with fail
  refine (HLC.out _).mono ?_
  rintro e w2 ⟨rfl, b2⟩
  have hba := (Below.refl w2.heap.size w2).alloc (Nat.le_refl _) (.cells #[.int .i32 p, .bool f0, .bool f1, .bool f2, .bool f3, .bool f4, .bool f5, .bool f6, .bool f7, .int .u32 gg, .int .u32 bb] 55)
  have hbb := b2.trans (hba.mono b2.size)
  have HT7 := Lib.hid (heap_alloc_new w2 (.cells #[.int .i32 p, .bool f0, .bool f1, .bool f2, .bool f3, .bool f4, .bool f5, .bool f6, .bool f7, .int .u32 gg, .int .u32 bb] 55))
  have HSB2 := Lib.hid (HSB.out.trans (hbb.mono HSB.out.size))
  clear HSB
  have HSB := HSB2
  clear HSB2
  obtain ⟨t7, ht7⟩ : ∃ t, w2.heap.size = t := ⟨_, rfl⟩
  clear b2 hba hbb s0 s1 s2 s3
  go_upto_region 4 with fail
  simp only [ht7] at HT7 ⊢
  generalize (w2.alloc (.cells #[.int .i32 p, .bool f0, .bool f1, .bool f2, .bool f3, .bool f4, .bool f5, .bool f6, .bool f7, .int .u32 gg, .int .u32 bb] 55)) = W2 at HT7 HSB ⊢
  clear ht7
  obtain ⟨s0, s1, s2, s3⟩ := four_at ((HSB.out.block _ (lt_of_block HC.out)).trans HC.out)
  go_wp2_with fail
  cases q with
  | false =>
    refine (HPN.out rfl _).mono ?_
    rintro e w3 ⟨rfl, b3⟩
    clear s0 s1 s2 s3 HPP HRP0 hb480
    have HT72 := Lib.hid ((b3.block _ (lt_of_block HT7.out)).trans HT7.out)
    clear HT7
    have HT7 := HT72
    clear HT72
    have HSB2 := Lib.hid (HSB.out.trans (b3.mono HSB.out.size))
    clear HSB
    have HSB := HSB2
    clear HSB2
    clear b3
    go_wp2_with fail
    refine (HGC.out _ (HB.out.trans (HSB.out.mono HB.out.size))).mono ?_
    rintro e w4 ⟨rfl, b4⟩
    have hba := (Below.refl w4.heap.size w4).alloc (Nat.le_refl _) (.cells #[.int .i32 dp, .int .u8 df, .int .u32 dg, .int .u32 db] 50)
    have hbb := b4.trans (hba.mono b4.size)
    have HT10 := Lib.hid (heap_alloc_new w4 (.cells #[.int .i32 dp, .int .u8 df, .int .u32 dg, .int .u32 db] 50))
    have HT72 := Lib.hid ((hbb.block _ (lt_of_block HT7.out)).trans HT7.out)
    clear HT7
    have HT7 := HT72
    clear HT72
    have HSB2 := Lib.hid (HSB.out.trans (hbb.mono HSB.out.size))
    clear HSB
    have HSB := HSB2
    clear HSB2
    obtain ⟨t10, ht10⟩ : ∃ t, w4.heap.size = t := ⟨_, rfl⟩
    clear b4 hba hbb
    go_upto_region 6 with fail
    simp only [ht10] at HT10 ⊢
    generalize (w4.alloc (.cells #[.int .i32 dp, .int .u8 df, .int .u32 dg, .int .u32 db] 50)) = W4 at HT7 HT10 HSB ⊢
    clear ht10
    go_wp2_with fail
    refine (HGY.out _ (HB.out.trans (HSB.out.mono HB.out.size))).mono ?_
    rintro e w5 ⟨rfl, b5⟩
    have hba := (Below.refl w5.heap.size w5).alloc (Nat.le_refl _) (.cells #[.int .i32 dp, .bool g0, .bool g1, .bool g2, .bool g3, .bool g4, .bool g5, .bool g6, .bool g7, .int .u32 dg, .int .u32 db] 55)
    have hbb := b5.trans (hba.mono b5.size)
    have HT13 := Lib.hid (heap_alloc_new w5 (.cells #[.int .i32 dp, .bool g0, .bool g1, .bool g2, .bool g3, .bool g4, .bool g5, .bool g6, .bool g7, .int .u32 dg, .int .u32 db] 55))
    have HT72 := Lib.hid ((hbb.block _ (lt_of_block HT7.out)).trans HT7.out)
    clear HT7
    have HT7 := HT72
    clear HT72
    have HT102 := Lib.hid ((hbb.block _ (lt_of_block HT10.out)).trans HT10.out)
    clear HT10
    have HT10 := HT102
    clear HT102
    have HSB2 := Lib.hid (HSB.out.trans (hbb.mono HSB.out.size))
    clear HSB
    have HSB := HSB2
    clear HSB2
    obtain ⟨t13, ht13⟩ : ∃ t, w5.heap.size = t := ⟨_, rfl⟩
    clear b5 hba hbb
    go_upto_region 7 with fail
    simp only [ht13] at HT13 ⊢
    generalize (w5.alloc (.cells #[.int .i32 dp, .bool g0, .bool g1, .bool g2, .bool g3, .bool g4, .bool g5, .bool g6, .bool g7, .int .u32 dg, .int .u32 db] 55)) = W5 at HT7 HT10 HT13 HSB ⊢
    clear ht13
    have hd := (Below.refl W5.heap.size W5).drew
    have HT72 := Lib.hid ((hd.block _ (lt_of_block HT7.out)).trans HT7.out)
    clear HT7
    have HT7 := HT72
    clear HT72
    have HT102 := Lib.hid ((hd.block _ (lt_of_block HT10.out)).trans HT10.out)
    clear HT10
    have HT10 := HT102
    clear HT102
    have HT132 := Lib.hid ((hd.block _ (lt_of_block HT13.out)).trans HT13.out)
    clear HT13
    have HT13 := HT132
    clear HT132
    have HSB2 := Lib.hid (HSB.out.trans (hd.mono HSB.out.size))
    clear HSB
    have HSB := HSB2
    clear HSB2
    refine wp_region_held_drew (S := fun W => Below W5.drew.heap.size W5.drew W) (by kernel_rfl) (Below.refl _ _) (fun hHeld => ?_)
    obtain ⟨X, hX⟩ : ∃ X, W5.drew = X := ⟨_, rfl⟩
    simp only [hX] at hHeld HSB HT7 HT10 HT13 ⊢
    clear hX hd
    have HBX := Lib.hid (Below.refl X.heap.size X)
    have heq := HEQ.out
    refine wpAnyH_take (i := 0) (v := ?_) (by simp; rfl) (by kernel_rfl) (by kernel_rfl) (by kernel_rfl) (by exact fun _ _ _ h => h) (Or.inl ⟨by rfl, fun wx hSx => ?_⟩) hHeld ?_
    rotate_left
    · obtain ⟨s0, s1, s2, s3⟩ := four_at ((hSx.block _ (lt_of_block HT10.out)).trans HT10.out); clear hSx; go_simp; (try with_reducible rfl)
    simp only [Act.put, List.setIfInBounds_toArray, List.set_cons_zero, List.set_cons_succ]
    refine wpAnyH_take (i := 2) (v := ?_) (by simp; rfl) (by kernel_rfl) (by kernel_rfl) (by kernel_rfl) (by exact fun _ _ _ h => h) (Or.inl ⟨by rfl, fun wx hSx => ?_⟩) hHeld ?_
    rotate_left
    · obtain ⟨k0, k1, k2, k3, k4, k5, k6, k7, k8, k9, k10⟩ := cells11 ((hSx.block _ (lt_of_block HT13.out)).trans HT13.out); clear hSx; go_simp; (try with_reducible rfl)
    simp only [Act.put, List.setIfInBounds_toArray, List.set_cons_zero, List.set_cons_succ]
    refine wpAnyH_ready (rs := [1]) (by kernel_rfl) (by simp) ?_
    refine AllReadyH.cons (by simp; rfl) (fun K0 hK0 => ?_) AllReadyH.nil
    go_simp
    refine (HLD.out _).mono ?_
    rintro e Y1 ⟨rfl, hb⟩
    have HB2 := Lib.hid (HBX.out.trans (hb.mono HBX.out.size))
    clear HBX hb
    have HBX := HB2
    clear HB2
    refine hK0.out _ _ HBX.out (fun _ => ?_)
    clear hK0 K0 hHeld
    have hHeld := HBX.out
    refine wpAnyH_take (i := 3) (v := ?_) (by simp; rfl) (by kernel_rfl) (by kernel_rfl) (by kernel_rfl) (by exact fun _ _ _ h => h) (Or.inl ⟨by rfl, fun wx hSx => ?_⟩) hHeld ?_
    rotate_left
    · clear hSx; go_simp; (try with_reducible rfl)
    simp only [Act.put, List.setIfInBounds_toArray, List.set_cons_zero, List.set_cons_succ]
    refine wpAnyH_take (i := 4) (v := ?_) (by simp; rfl) (by kernel_rfl) (by kernel_rfl) (by kernel_rfl) (by exact fun _ _ _ h => h) (Or.inl ⟨by rfl, fun wx hSx => ?_⟩) hHeld ?_
    rotate_left
    · clear hSx; go_simp; (try with_reducible rfl)
    simp only [Act.put, List.setIfInBounds_toArray, List.set_cons_zero, List.set_cons_succ]
    refine wpAnyH_take (i := 5) (v := ?_) (by simp; rfl) (by kernel_rfl) (by kernel_rfl) (by kernel_rfl) (by exact fun _ _ _ h => h) (Or.inl ⟨by rfl, fun wx hSx => ?_⟩) hHeld ?_
    rotate_left
    · clear hSx; go_simp; (try with_reducible rfl)
    simp only [Act.put, List.setIfInBounds_toArray, List.set_cons_zero, List.set_cons_succ]
    refine wpAnyH_take (i := 6) (v := ?_) (by simp; rfl) (by kernel_rfl) (by kernel_rfl) (by kernel_rfl) (by exact fun _ _ _ h => h) (Or.inl ⟨by rfl, fun wx hSx => ?_⟩) hHeld ?_
    rotate_left
    · clear hSx; go_simp; (try with_reducible rfl)
    simp only [Act.put, List.setIfInBounds_toArray, List.set_cons_zero, List.set_cons_succ]
    refine wpAnyH_take (i := 7) (v := ?_) (by simp; rfl) (by kernel_rfl) (by kernel_rfl) (by kernel_rfl) (by exact fun _ _ _ h => h) (Or.inl ⟨by rfl, fun wx hSx => ?_⟩) hHeld ?_
    rotate_left
    · clear hSx; go_simp; (try with_reducible rfl)
    simp only [Act.put, List.setIfInBounds_toArray, List.set_cons_zero, List.set_cons_succ]
    refine wpAnyH_take (i := 8) (v := ?_) (by simp; rfl) (by kernel_rfl) (by kernel_rfl) (by kernel_rfl) (by exact fun _ _ _ h => h) (Or.inl ⟨by rfl, fun wx hSx => ?_⟩) hHeld ?_
    rotate_left
    · clear hSx; go_simp; (try with_reducible rfl)
    simp only [Act.put, List.setIfInBounds_toArray, List.set_cons_zero, List.set_cons_succ]
    refine wpAnyH_take (i := 9) (v := ?_) (by simp; rfl) (by kernel_rfl) (by kernel_rfl) (by kernel_rfl) (by exact fun _ _ _ h => h) (Or.inl ⟨by rfl, fun wx hSx => ?_⟩) hHeld ?_
    rotate_left
    · clear hSx; go_simp; (try with_reducible rfl)
    simp only [Act.put, List.setIfInBounds_toArray, List.set_cons_zero, List.set_cons_succ]
    refine wpAnyH_take (i := 10) (v := ?_) (by simp; rfl) (by kernel_rfl) (by kernel_rfl) (by kernel_rfl) (by exact fun _ _ _ h => h) (Or.inl ⟨by rfl, fun wx hSx => ?_⟩) hHeld ?_
    rotate_left
    · clear hSx; go_simp; (try with_reducible rfl)
    simp only [Act.put, List.setIfInBounds_toArray, List.set_cons_zero, List.set_cons_succ]
    refine wpAnyH_take (i := 11) (v := ?_) (by simp; rfl) (by kernel_rfl) (by kernel_rfl) (by kernel_rfl) (by exact fun _ _ _ h => h) (Or.inl ⟨by rfl, fun wx hSx => ?_⟩) hHeld ?_
    rotate_left
    · clear hSx; go_simp; (try with_reducible rfl)
    simp only [Act.put, List.setIfInBounds_toArray, List.set_cons_zero, List.set_cons_succ]
    refine wpAnyH_take (i := 12) (v := ?_) (by simp; rfl) (by kernel_rfl) (by kernel_rfl) (by kernel_rfl) (by exact fun _ _ _ h => h) (Or.inl ⟨by rfl, fun wx hSx => ?_⟩) hHeld ?_
    rotate_left
    · clear hSx; go_simp; (try with_reducible rfl)
    simp only [Act.put, List.setIfInBounds_toArray, List.set_cons_zero, List.set_cons_succ]
    refine wpAnyH_take (i := 13) (v := ?_) (by simp; rfl) (by kernel_rfl) (by kernel_rfl) (by kernel_rfl) (by exact fun _ _ _ h => h) (Or.inl ⟨by rfl, fun wx hSx => ?_⟩) hHeld ?_
    rotate_left
    · clear hSx; go_simp; (try with_reducible rfl)
    simp only [Act.put, List.setIfInBounds_toArray, List.set_cons_zero, List.set_cons_succ]
    refine wpAnyH_done (by kernel_rfl) ?_ _
    clear heq hHeld
    have HT72 := Lib.hid ((HBX.out.block _ (lt_of_block HT7.out)).trans HT7.out)
    clear HT7
    have HT7 := HT72
    clear HT72
    have HSB2 := Lib.hid (HSB.out.trans (HBX.out.mono HSB.out.size))
    clear HSB
    have HSB := HSB2
    clear HSB2
    clear HBX HT10 HT13
    obtain ⟨k0, k1, k2, k3, k4, k5, k6, k7, k8, k9, k10⟩ := cells11 HT7.out
    go_wp2_with fail
    refine (HRI.out _).mono ?_
    rintro e w8 ⟨rfl, b8⟩
    have HT72 := Lib.hid ((b8.block _ (lt_of_block HT7.out)).trans HT7.out)
    clear HT7
    have HT7 := HT72
    clear HT72
    have HSB2 := Lib.hid (HSB.out.trans (b8.mono HSB.out.size))
    clear HSB
    have HSB := HSB2
    clear HSB2
    clear b8
    go_wp2_with fail
    refine (alive_any _ (HTB.out.below HSB.out HTB.out.big)).mono ?_
    rintro e w9 ⟨rfl, b9⟩
    have HB9 := Lib.hid (HB.out.trans ((HSB.out.trans (b9.mono HSB.out.size)).mono HB.out.size))
    clear b9
    go_wp2
    go_ret
    exact ⟨by rfl, HB9.out⟩
  | true =>
    refine (HPP.out rfl _ (HTB.out.below HSB.out HTB.out.big)).mono ?_
    rintro e w3 ⟨u4, rfl, o4⟩
    obtain ⟨A4, c4, rfl, _, _, hr4⟩ := bytes8 o4
    have HR4 := Lib.hid hr4
    have b3 := o4.below
    rw [HM4.out]
    have HRP := Lib.hid (fun W => HRP0.out rfl W)
    clear s0 s1 s2 s3 HPN hb480 o4 hr4 HRP0
    have HT72 := Lib.hid ((b3.block _ (lt_of_block HT7.out)).trans HT7.out)
    clear HT7
    have HT7 := HT72
    clear HT72
    have HSB2 := Lib.hid (HSB.out.trans (b3.mono HSB.out.size))
    clear HSB
    have HSB := HSB2
    clear HSB2
    clear b3
    go_wp2_with fail
    refine (HGC.out _ (HB.out.trans (HSB.out.mono HB.out.size))).mono ?_
    rintro e w4 ⟨rfl, b4⟩
    have hba := (Below.refl w4.heap.size w4).alloc (Nat.le_refl _) (.cells #[.int .i32 dp, .int .u8 df, .int .u32 dg, .int .u32 db] 50)
    have hbb := b4.trans (hba.mono b4.size)
    have HT10 := Lib.hid (heap_alloc_new w4 (.cells #[.int .i32 dp, .int .u8 df, .int .u32 dg, .int .u32 db] 50))
    have HT72 := Lib.hid ((hbb.block _ (lt_of_block HT7.out)).trans HT7.out)
    clear HT7
    have HT7 := HT72
    clear HT72
    have HR42 := Lib.hid (show RI .u8 _ A4 B4 from RI.below (by exact HR4.out) hbb)
    clear HR4
    have HR4 := HR42
    clear HR42
    have HSB2 := Lib.hid (HSB.out.trans (hbb.mono HSB.out.size))
    clear HSB
    have HSB := HSB2
    clear HSB2
    obtain ⟨t10, ht10⟩ : ∃ t, w4.heap.size = t := ⟨_, rfl⟩
    clear b4 hba hbb
    go_upto_region 6 with fail
    simp only [ht10] at HT10 ⊢
    generalize (w4.alloc (.cells #[.int .i32 dp, .int .u8 df, .int .u32 dg, .int .u32 db] 50)) = W4 at HT7 HT10 HSB HR4 ⊢
    clear ht10
    go_wp2_with fail
    refine (HGY.out _ (HB.out.trans (HSB.out.mono HB.out.size))).mono ?_
    rintro e w5 ⟨rfl, b5⟩
    have hba := (Below.refl w5.heap.size w5).alloc (Nat.le_refl _) (.cells #[.int .i32 dp, .bool g0, .bool g1, .bool g2, .bool g3, .bool g4, .bool g5, .bool g6, .bool g7, .int .u32 dg, .int .u32 db] 55)
    have hbb := b5.trans (hba.mono b5.size)
    have HT13 := Lib.hid (heap_alloc_new w5 (.cells #[.int .i32 dp, .bool g0, .bool g1, .bool g2, .bool g3, .bool g4, .bool g5, .bool g6, .bool g7, .int .u32 dg, .int .u32 db] 55))
    have HT72 := Lib.hid ((hbb.block _ (lt_of_block HT7.out)).trans HT7.out)
    clear HT7
    have HT7 := HT72
    clear HT72
    have HT102 := Lib.hid ((hbb.block _ (lt_of_block HT10.out)).trans HT10.out)
    clear HT10
    have HT10 := HT102
    clear HT102
    have HR42 := Lib.hid (show RI .u8 _ A4 B4 from RI.below (by exact HR4.out) hbb)
    clear HR4
    have HR4 := HR42
    clear HR42
    have HSB2 := Lib.hid (HSB.out.trans (hbb.mono HSB.out.size))
    clear HSB
    have HSB := HSB2
    clear HSB2
    obtain ⟨t13, ht13⟩ : ∃ t, w5.heap.size = t := ⟨_, rfl⟩
    clear b5 hba hbb
    go_upto_region 7 with fail
    simp only [ht13] at HT13 ⊢
    generalize (w5.alloc (.cells #[.int .i32 dp, .bool g0, .bool g1, .bool g2, .bool g3, .bool g4, .bool g5, .bool g6, .bool g7, .int .u32 dg, .int .u32 db] 55)) = W5 at HT7 HT10 HT13 HSB HR4 ⊢
    clear ht13
    have hd := (Below.refl W5.heap.size W5).drew
    have HT72 := Lib.hid ((hd.block _ (lt_of_block HT7.out)).trans HT7.out)
    clear HT7
    have HT7 := HT72
    clear HT72
    have HT102 := Lib.hid ((hd.block _ (lt_of_block HT10.out)).trans HT10.out)
    clear HT10
    have HT10 := HT102
    clear HT102
    have HT132 := Lib.hid ((hd.block _ (lt_of_block HT13.out)).trans HT13.out)
    clear HT13
    have HT13 := HT132
    clear HT132
    have HR42 := Lib.hid (show RI .u8 _ A4 B4 from RI.below (by exact HR4.out) hd)
    clear HR4
    have HR4 := HR42
    clear HR42
    have HSB2 := Lib.hid (HSB.out.trans (hd.mono HSB.out.size))
    clear HSB
    have HSB := HSB2
    clear HSB2
    refine wp_region_held_drew (S := fun W => Below W5.drew.heap.size W5.drew W) (by kernel_rfl) (Below.refl _ _) (fun hHeld => ?_)
    obtain ⟨X, hX⟩ : ∃ X, W5.drew = X := ⟨_, rfl⟩
    simp only [hX] at hHeld HSB HT7 HT10 HT13 HR4 ⊢
    clear hX hd
    have HBX := Lib.hid (Below.refl X.heap.size X)
    have heq := HEQ.out
    refine wpAnyH_take (i := 0) (v := ?_) (by simp; rfl) (by kernel_rfl) (by kernel_rfl) (by kernel_rfl) (by exact fun _ _ _ h => h) (Or.inl ⟨by rfl, fun wx hSx => ?_⟩) hHeld ?_
    rotate_left
    · obtain ⟨s0, s1, s2, s3⟩ := four_at ((hSx.block _ (lt_of_block HT10.out)).trans HT10.out); clear hSx; go_simp; (try with_reducible rfl)
    simp only [Act.put, List.setIfInBounds_toArray, List.set_cons_zero, List.set_cons_succ]
    refine wpAnyH_take (i := 2) (v := ?_) (by simp; rfl) (by kernel_rfl) (by kernel_rfl) (by kernel_rfl) (by exact fun _ _ _ h => h) (Or.inl ⟨by rfl, fun wx hSx => ?_⟩) hHeld ?_
    rotate_left
    · obtain ⟨k0, k1, k2, k3, k4, k5, k6, k7, k8, k9, k10⟩ := cells11 ((hSx.block _ (lt_of_block HT13.out)).trans HT13.out); clear hSx; go_simp; (try with_reducible rfl)
    simp only [Act.put, List.setIfInBounds_toArray, List.set_cons_zero, List.set_cons_succ]
    refine wpAnyH_ready (rs := [1]) (by kernel_rfl) (by simp) ?_
    refine AllReadyH.cons (by simp; rfl) (fun K0 hK0 => ?_) AllReadyH.nil
    go_simp
    refine (HLD.out _).mono ?_
    rintro e Y1 ⟨rfl, hb⟩
    have HB2 := Lib.hid (HBX.out.trans (hb.mono HBX.out.size))
    clear HBX hb
    have HBX := HB2
    clear HB2
    refine hK0.out _ _ HBX.out (fun _ => ?_)
    clear hK0 K0 hHeld
    have hHeld := HBX.out
    refine wpAnyH_take (i := 3) (v := ?_) (by simp; rfl) (by kernel_rfl) (by kernel_rfl) (by kernel_rfl) (by exact fun _ _ _ h => h) (Or.inl ⟨by rfl, fun wx hSx => ?_⟩) hHeld ?_
    rotate_left
    · clear hSx; go_simp; (try with_reducible rfl)
    simp only [Act.put, List.setIfInBounds_toArray, List.set_cons_zero, List.set_cons_succ]
    refine wpAnyH_take (i := 4) (v := ?_) (by simp; rfl) (by kernel_rfl) (by kernel_rfl) (by kernel_rfl) (by exact fun _ _ _ h => h) (Or.inl ⟨by rfl, fun wx hSx => ?_⟩) hHeld ?_
    rotate_left
    · clear hSx; go_simp; (try with_reducible rfl)
    simp only [Act.put, List.setIfInBounds_toArray, List.set_cons_zero, List.set_cons_succ]
    refine wpAnyH_take (i := 5) (v := ?_) (by simp; rfl) (by kernel_rfl) (by kernel_rfl) (by kernel_rfl) (by exact fun _ _ _ h => h) (Or.inl ⟨by rfl, fun wx hSx => ?_⟩) hHeld ?_
    rotate_left
    · clear hSx; go_simp; (try with_reducible rfl)
    simp only [Act.put, List.setIfInBounds_toArray, List.set_cons_zero, List.set_cons_succ]
    refine wpAnyH_take (i := 6) (v := ?_) (by simp; rfl) (by kernel_rfl) (by kernel_rfl) (by kernel_rfl) (by exact fun _ _ _ h => h) (Or.inl ⟨by rfl, fun wx hSx => ?_⟩) hHeld ?_
    rotate_left
    · clear hSx; go_simp; (try with_reducible rfl)
    simp only [Act.put, List.setIfInBounds_toArray, List.set_cons_zero, List.set_cons_succ]
    refine wpAnyH_take (i := 7) (v := ?_) (by simp; rfl) (by kernel_rfl) (by kernel_rfl) (by kernel_rfl) (by exact fun _ _ _ h => h) (Or.inl ⟨by rfl, fun wx hSx => ?_⟩) hHeld ?_
    rotate_left
    · clear hSx; go_simp; (try with_reducible rfl)
    simp only [Act.put, List.setIfInBounds_toArray, List.set_cons_zero, List.set_cons_succ]
    refine wpAnyH_take (i := 8) (v := ?_) (by simp; rfl) (by kernel_rfl) (by kernel_rfl) (by kernel_rfl) (by exact fun _ _ _ h => h) (Or.inl ⟨by rfl, fun wx hSx => ?_⟩) hHeld ?_
    rotate_left
    · clear hSx; go_simp; (try with_reducible rfl)
    simp only [Act.put, List.setIfInBounds_toArray, List.set_cons_zero, List.set_cons_succ]
    refine wpAnyH_take (i := 9) (v := ?_) (by simp; rfl) (by kernel_rfl) (by kernel_rfl) (by kernel_rfl) (by exact fun _ _ _ h => h) (Or.inl ⟨by rfl, fun wx hSx => ?_⟩) hHeld ?_
    rotate_left
    · clear hSx; go_simp; (try with_reducible rfl)
    simp only [Act.put, List.setIfInBounds_toArray, List.set_cons_zero, List.set_cons_succ]
    refine wpAnyH_take (i := 10) (v := ?_) (by simp; rfl) (by kernel_rfl) (by kernel_rfl) (by kernel_rfl) (by exact fun _ _ _ h => h) (Or.inl ⟨by rfl, fun wx hSx => ?_⟩) hHeld ?_
    rotate_left
    · clear hSx; go_simp; (try with_reducible rfl)
    simp only [Act.put, List.setIfInBounds_toArray, List.set_cons_zero, List.set_cons_succ]
    refine wpAnyH_take (i := 11) (v := ?_) (by simp; rfl) (by kernel_rfl) (by kernel_rfl) (by kernel_rfl) (by exact fun _ _ _ h => h) (Or.inl ⟨by rfl, fun wx hSx => ?_⟩) hHeld ?_
    rotate_left
    · clear hSx; go_simp; (try with_reducible rfl)
    simp only [Act.put, List.setIfInBounds_toArray, List.set_cons_zero, List.set_cons_succ]
    refine wpAnyH_take (i := 12) (v := ?_) (by simp; rfl) (by kernel_rfl) (by kernel_rfl) (by kernel_rfl) (by exact fun _ _ _ h => h) (Or.inl ⟨by rfl, fun wx hSx => ?_⟩) hHeld ?_
    rotate_left
    · clear hSx; go_simp; (try with_reducible rfl)
    simp only [Act.put, List.setIfInBounds_toArray, List.set_cons_zero, List.set_cons_succ]
    refine wpAnyH_take (i := 13) (v := ?_) (by simp; rfl) (by kernel_rfl) (by kernel_rfl) (by kernel_rfl) (by exact fun _ _ _ h => h) (Or.inl ⟨by rfl, fun wx hSx => ?_⟩) hHeld ?_
    rotate_left
    · clear hSx; go_simp; (try with_reducible rfl)
    simp only [Act.put, List.setIfInBounds_toArray, List.set_cons_zero, List.set_cons_succ]
    refine wpAnyH_done (by kernel_rfl) ?_ _
    clear heq hHeld
    have HT72 := Lib.hid ((HBX.out.block _ (lt_of_block HT7.out)).trans HT7.out)
    clear HT7
    have HT7 := HT72
    clear HT72
    have HR42 := Lib.hid (show RI .u8 _ A4 B4 from RI.below (by exact HR4.out) HBX.out)
    clear HR4
    have HR4 := HR42
    clear HR42
    have HSB2 := Lib.hid (HSB.out.trans (HBX.out.mono HSB.out.size))
    clear HSB
    have HSB := HSB2
    clear HSB2
    clear HBX HT10 HT13
    obtain ⟨k0, k1, k2, k3, k4, k5, k6, k7, k8, k9, k10⟩ := cells11 HT7.out
    go_wp2_with fail
    refine (HRI.out _).mono ?_
    rintro e w8 ⟨rfl, b8⟩
    have HT72 := Lib.hid ((b8.block _ (lt_of_block HT7.out)).trans HT7.out)
    clear HT7
    have HT7 := HT72
    clear HT72
    have HR42 := Lib.hid (show RI .u8 _ A4 B4 from RI.below (by exact HR4.out) b8)
    clear HR4
    have HR4 := HR42
    clear HR42
    have HSB2 := Lib.hid (HSB.out.trans (b8.mono HSB.out.size))
    clear HSB
    have HSB := HSB2
    clear HSB2
    clear b8
    go_upto_region 11 with fail
    have hd := (Below.refl w8.heap.size w8).drew
    have HT72 := Lib.hid ((hd.block _ (lt_of_block HT7.out)).trans HT7.out)
    clear HT7
    have HT7 := HT72
    clear HT72
    have HR42 := Lib.hid (show RI .u8 _ A4 B4 from RI.below (by exact HR4.out) hd)
    have HUX := Lib.hid (HSB.out.trans (hd.mono HSB.out.size))
    refine wp_region_held_drew (S := fun W => Below w8.drew.heap.size w8.drew W) (by kernel_rfl) (Below.refl _ _) (fun hHeld => ?_)
    obtain ⟨X, hX⟩ : ∃ X, w8.drew = X := ⟨_, rfl⟩
    simp only [hX] at hHeld HUX HT7 HR42 ⊢
    clear hX hd
    have HBX := Lib.hid (Below.refl X.heap.size X)
    have HCV1 := Lib.hid (fun (Y : World) (hY : Below X.heap.size X Y) => conv_text (w := Y) HM4.out c4 (RI.below (by exact HR42.out) hY))
    obtain ⟨SS, hSS⟩ : ∃ S, strOfNums B4 = S := ⟨_, rfl⟩
    have HSS := Lib.hid hSS
    rw [hSS] at HCV1
    have sS : (SS.toList == SS.toList) = true := by simp
    clear hSS
    refine wpAnyH_ready (rs := [0]) (by kernel_rfl) (by simp) ?_
    refine AllReadyH.cons (by simp; rfl) (fun K0 hK0 => ?_) AllReadyH.nil
    go_simp
    refine (alive_any _ (HTB.out.below HUX.out HTB.out.big)).mono ?_
    rintro e Y1 ⟨rfl, hb⟩
    have HB2 := Lib.hid (HBX.out.trans (hb.mono HBX.out.size))
    clear HBX hb
    have HBX := HB2
    clear HB2
    refine hK0.out _ _ HBX.out (fun _ => ?_)
    clear hK0 K0 hHeld
    have hHeld := HBX.out
    refine wpAnyH_take (i := 1) (v := ?_) (by simp; rfl) (by kernel_rfl) (by kernel_rfl) (by kernel_rfl) (by exact fun _ _ _ h => h) (Or.inl ⟨by rfl, fun wx hSx => ?_⟩) hHeld ?_
    rotate_left
    · clear hSx; go_simp; (try with_reducible rfl)
    simp only [Act.put, List.setIfInBounds_toArray, List.set_cons_zero, List.set_cons_succ]
    refine wpAnyH_take (i := 2) (v := ?_) (by simp; rfl) (by kernel_rfl) (by kernel_rfl) (by kernel_rfl) (by exact fun _ _ _ h => h) (Or.inl ⟨by rfl, fun wx hSx => ?_⟩) hHeld ?_
    rotate_left
    · clear hSx; go_simp; (try with_reducible rfl)
    simp only [Act.put, List.setIfInBounds_toArray, List.set_cons_zero, List.set_cons_succ]
    refine wpAnyH_take (i := 3) (v := ?_) (by simp; rfl) (by kernel_rfl) (by kernel_rfl) (by kernel_rfl) (by exact fun _ _ _ h => h) (Or.inl ⟨by rfl, fun wx hSx => ?_⟩) hHeld ?_
    rotate_left
    · clear hSx; go_simp; (try with_reducible rfl)
    simp only [Act.put, List.setIfInBounds_toArray, List.set_cons_zero, List.set_cons_succ]
    refine wpAnyH_take (i := 4) (v := ?_) (by simp; rfl) (by kernel_rfl) (by kernel_rfl) (by kernel_rfl) (by exact fun _ _ _ h => h) (Or.inl ⟨by rfl, fun wx hSx => ?_⟩) hHeld ?_
    rotate_left
    · clear hSx; go_simp; (try with_reducible rfl)
    simp only [Act.put, List.setIfInBounds_toArray, List.set_cons_zero, List.set_cons_succ]
    refine wpAnyH_take (i := 5) (v := ?_) (by simp; rfl) (by kernel_rfl) (by kernel_rfl) (by kernel_rfl) (by exact fun _ _ _ h => h) (Or.inl ⟨by rfl, fun wx hSx => ?_⟩) hHeld ?_
    rotate_left
    · clear hSx; go_simp; (try with_reducible rfl)
    simp only [Act.put, List.setIfInBounds_toArray, List.set_cons_zero, List.set_cons_succ]
    refine wpAnyH_take (i := 6) (v := ?_) (by simp; rfl) (by kernel_rfl) (by kernel_rfl) (by kernel_rfl) (by exact fun _ _ _ h => h) (Or.inl ⟨by rfl, fun wx hSx => ?_⟩) hHeld ?_
    rotate_left
    · clear hSx; go_simp; (try with_reducible rfl)
    simp only [Act.put, List.setIfInBounds_toArray, List.set_cons_zero, List.set_cons_succ]
    refine wpAnyH_take (i := 7) (v := ?_) (by simp; rfl) (by kernel_rfl) (by kernel_rfl) (by kernel_rfl) (by exact fun _ _ _ h => h) (Or.inl ⟨by rfl, fun wx hSx => ?_⟩) hHeld ?_
    rotate_left
    · have hcv := HCV1.out wx hSx; clear hSx; go_simp; (try with_reducible rfl)
    simp only [Act.put, List.setIfInBounds_toArray, List.set_cons_zero, List.set_cons_succ]
    refine wpAnyH_take (i := 8) (v := ?_) (by simp; rfl) (by kernel_rfl) (by kernel_rfl) (by kernel_rfl) (by exact fun _ _ _ h => h) (Or.inl ⟨by rfl, fun wx hSx => ?_⟩) hHeld ?_
    rotate_left
    · obtain ⟨k0, k1, k2, k3, k4, k5, k6, k7, k8, k9, k10⟩ := cells11 ((hSx.block _ (lt_of_block HT7.out)).trans HT7.out); clear hSx; go_simp; (try with_reducible rfl)
    simp only [Act.put, List.setIfInBounds_toArray, List.set_cons_zero, List.set_cons_succ]
    refine wpAnyH_ready (rs := [9]) (by kernel_rfl) (by simp) ?_
    refine AllReadyH.cons (by simp; rfl) (fun K0 hK0 => ?_) AllReadyH.nil
    go_simp
    refine (HRP.out _).mono ?_
    rintro e Y2 ⟨u2, rfl, o2⟩
    obtain ⟨A9, c9, rfl, _, _, hr9⟩ := bytes8 o2
    rw [HM4.out]
    have HCV2 := Lib.hid (fun (Y : World) (hY : Below Y2.heap.size Y2 Y) => conv_text (w := Y) HM4.out c9 (RI.below (by exact hr9) hY))
    rw [HSS.out] at HCV2
    have hbx : Below X.heap.size X Y2 := HBX.out.trans (o2.below.mono HBX.out.size)
    clear o2 hr9
    refine hK0.out _ _ hbx (fun _ => ?_)
    clear hK0 K0 hHeld
    refine heldMono (S' := fun W => Below Y2.heap.size Y2 W) (fun _ h => hbx.trans (h.mono hbx.size)) _ _ _ _ ?_
    have hHeld := Below.refl Y2.heap.size Y2
    have HBF := Lib.hid hbx
    clear hbx
    refine wpAnyH_take (i := 10) (v := ?_) (by simp; rfl) (by kernel_rfl) (by kernel_rfl) (by kernel_rfl) (by exact fun _ _ _ h => h) (Or.inl ⟨by rfl, fun wx hSx => ?_⟩) hHeld ?_
    rotate_left
    · have hcv := HCV2.out wx hSx; clear hSx; go_simp; (try with_reducible rfl)
    simp only [Act.put, List.setIfInBounds_toArray, List.set_cons_zero, List.set_cons_succ]
    refine wpAnyH_take (i := 11) (v := ?_) (by simp; rfl) (by kernel_rfl) (by kernel_rfl) (by kernel_rfl) (by exact fun _ _ _ h => h) (Or.inl ⟨by rfl, fun wx hSx => ?_⟩) hHeld ?_
    rotate_left
    · clear hSx; go_simp; (try with_reducible rfl)
    simp only [Act.put, List.setIfInBounds_toArray, List.set_cons_zero, List.set_cons_succ]
    refine wpAnyH_take (i := 12) (v := ?_) (by simp; rfl) (by kernel_rfl) (by kernel_rfl) (by kernel_rfl) (by exact fun _ _ _ h => h) (Or.inl ⟨by rfl, fun wx hSx => ?_⟩) hHeld ?_
    rotate_left
    · clear hSx; go_simp; (try with_reducible rfl)
    simp only [Act.put, List.setIfInBounds_toArray, List.set_cons_zero, List.set_cons_succ]
    refine wpAnyH_take (i := 13) (v := ?_) (by simp; rfl) (by kernel_rfl) (by kernel_rfl) (by kernel_rfl) (by exact fun _ _ _ h => h) (Or.inl ⟨by rfl, fun wx hSx => ?_⟩) hHeld ?_
    rotate_left
    · clear hSx; go_simp; (try with_reducible rfl)
    simp only [Act.put, List.setIfInBounds_toArray, List.set_cons_zero, List.set_cons_succ]
    refine wpAnyH_done (by kernel_rfl) ?_ _
    go_wp2
    go_ret
    exact ⟨by rfl, HB.out.trans ((HUX.out.trans (HBF.out.mono HUX.out.size)).mono HB.out.size)⟩
end Go.Proofs.YtcblohmenfdafaaDoor
