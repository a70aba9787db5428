/-
  Proved here: StyleBack.
-/
import Derived.Test.YtohhmpkmcodoeaaDoorZk
set_option linter.unusedSimpArgs false
set_option linter.unusedVariables false
namespace Go.Proofs.YtohhmpkmcodoeaaDoor
open Go.RowKit
theorem conv_text {w : World} {A : Option Addr} {bs : List Int} {n : Nat} (hn : bs.length = n) (c : Nat) (h : RI .u8 w A bs) :
    (convert 38 9 (.slice A n c)).run Tryd.prog w = .ok (.string (strOfNums bs)) w := by
  subst hn
  rcases Nat.eq_zero_or_pos bs.length with h0 | h0
  · obtain rfl : bs = [] := List.eq_nil_of_length_eq_zero h0
    rcases A with _ | ad
    · exact run_convert_bytes_nil (P := Tryd.prog) w 38 5 Tryd.underlying38 Tryd.underlying5 0 c 9 Tryd.underlying9
    · rw [run_convert_bytes_string w 38 9 5 _ _ c Tryd.underlying38 Tryd.underlying5 Tryd.underlying9]
      exact run_bytesToString w ad 0 c [] (run_loadCells_list (P := Tryd.prog) w ad [] (fun j v hj => by simp at hj))
  · obtain ⟨b, off, rfl, _, hc⟩ := h h0
    exact run_convert_bytes_arg (P := Tryd.prog) w 38 5 Tryd.underlying38 Tryd.underlying5 b off _ c bs rfl hc 9 Tryd.underlying9
theorem read_bad {bs : List Int} {p : Int} (h : (readY bs p).2.2 ≠ 0) : (readY bs p).1 = zeroY ∧ (readY bs p).2.1 = 0 := by
  have H : (readY bs p).2.2 = 0 ∨ ((readY bs p).1 = zeroY ∧ (readY bs p).2.1 = 0) := by
    unfold readY
    repeat' split
    all_goals first | exact .inr ⟨rfl, rfl⟩ | exact .inl rfl
  exact H.resolve_left h
theorem ReadP.nums {r : Sty × Int × Int} {a b c : Int} (hp : pV r.1 = .agg #[.int .u8 a, .int .u32 b, .int .u32 c]) {w : World} {e : Ending} {w' : World} (h : ReadP r w e w') :
    e = .returned (.tuple #[.agg #[.int .u8 a, .int .u32 b, .int .u32 c], .int .i64 r.2.1, .int .i64 r.2.2]) ∧ Below w.heap.size w w' := by
  obtain ⟨h1, h2⟩ := h
  rw [hp] at h1
  exact ⟨h1, h2⟩
theorem read_good {bs : List Int} (hB : Bytes bs) {p : Int} (h : (readY bs p).2.2 = 0) : Good (readY bs p).1 ∧ rightS (readY bs p).1 = true := by
  unfold readY at h ⊢
  split at h
  · simp at h
  rename_i h1
  rw [if_neg h1]
  split at h
  · simp at h
  rename_i h2
  rw [if_neg h2]
  split at h
  · rename_i h3; exact absurd h h3
  rename_i h3
  rw [if_neg h3]
  split at h
  · rename_i h4; exact absurd h h4
  rename_i h4
  rw [if_neg h4]
  split at h
  · simp at h
  rename_i h5
  rw [if_neg h5]
  split at h
  · rename_i h6
    rw [if_pos h6]
    obtain ⟨k, rfl⟩ : ∃ k : Nat, p = (k : Int) := ⟨p.toNat, by omega⟩
    have h3' : (getS bs ((k : Int) + 1)).2.2 = 0 := by simpa using h3
    have r1 := getS_ok1 hB h3'
    obtain ⟨j, hj⟩ : ∃ j : Nat, (getS bs ((k : Int) + 1)).2.1 = (j : Int) := ⟨(getS bs ((k : Int) + 1)).2.1.toNat, by omega⟩
    have h4' : (getS bs (getS bs ((k : Int) + 1)).2.1).2.2 = 0 := by simpa using h4
    have r2 : 0 ≤ (getS bs (getS bs ((k : Int) + 1)).2.1).1 := by rw [hj] at h4' ⊢; exact (getS_ok hB h4').1
    refine ⟨⟨ofF_len 8 _, ⟨r1.1, ?_⟩, ⟨r2, ?_⟩⟩, h6⟩
    · dsimp only; omega
    · dsimp only; omega
  · simp at h
theorem npos_of {m n : Nat} (h : 0 < m) (h2 : m ≤ n) : 0 < n := Nat.lt_of_lt_of_le h h2
/-- A style as numbers. -/
theorem pV_nums (s : Sty) : ∃ a b c, pV s = .agg #[.int .u8 a, .int .u32 b, .int .u32 c] := ⟨_, _, _, rfl⟩
set_option maxRecDepth 100000 in
set_option maxHeartbeats 8000000 in
theorem back_any (s : Sty) (W : World) (h : Both W) (hs : Good s) {A : Option Addr} {n cp : Nat} {bs : List Int} (hR : RB W W.heap.size A bs) (hl : bs.length = n) (hcp : n ≤ cp) (hcm : cp ≤ maxLen) (hB : Bytes bs) :
    Calls Tryd.prog 6 #[pV s, .slice A n cp] W fun e w' => e = .returned (.bool true) ∧ Below W.heap.size W w' := by
  have HAL := Lib.hid (fun (U : World) (hU : Below W.heap.size W U) => alive_any U (h.below hU (Nat.le_refl _)))
  have HWR := Lib.hid (fun (y : Sty) (hy : Good y) (hr : rightS y = true) (U : World) (hU : Below W.heap.size W U) => p_write y U hy (h.below hU (Nat.le_refl _)).tab hr)
  have HWN := Lib.hid (fun (hr : rightS s = false) (U : World) => p_write_no s U hs hr)
  have HRD := Lib.hid (fun (U : World) (hU : Below W.heap.size W U) (A : Option Addr) (m c : Nat) (ys : List Int) (hR : RB U U.heap.size A ys) (hl : ys.length = m) (hm : m ≤ 1000) (h1 : m ≤ c) (h2 : c ≤ maxLen) (hB : Bytes ys) => p_read (w := U) (A := A) (bs := ys) (n := m) (cap := c) hR hl (by omega) h1 h2 hB (h.below hU (Nat.le_refl _)).tab 0)
  have HGS := Lib.hid hs
  obtain ⟨a, f, g, hp⟩ := pV_nums s
  have HP := Lib.hid (fun (_ : Unit) => hp)
  have HB0 := Lib.hid ((Below.refl W.heap.size W).alloc (Nat.le_refl _) (.cells #[.int .u8 a, .int .u32 f, .int .u32 g] 24))
  have HROW := Lib.hid (heap_alloc_new W (.cells #[.int .u8 a, .int .u32 f, .int .u32 g] 24))
  rw [hp]
  rw [hp] at HWN
  unfold maxLen at hcm
  have HRR := Lib.hid hR
  have HLL := Lib.hid (fun (_ : Unit) => hl)
  have HBB := Lib.hid hB
  clear hp h hs hR hl hB
  by_cases hn : 1000 < n
  · have d1 : decide (1000 < (n : Int)) = true := by simp; omega
    go_enter Tryd.func6, Tryd.ntmps6
    go_wp2_with fail
    refine (HAL.out _ HB0.out).mono ?_
    rintro e w1 ⟨rfl, hb1⟩
    have HB := Lib.hid (HB0.out.trans (hb1.mono HB0.out.size))
    clear hb1
    go_wp2
    go_ret
    exact ⟨rfl, HB.out⟩
  have d1 : decide (1000 < (n : Int)) = false := by simp; omega
  go_enter Tryd.func6, Tryd.ntmps6
  cases hr : rightS s
  · have HW := Lib.hid (fun U => HWN.out hr U)
    clear hr HWN
    go_wp2_with fail
    refine (HW.out _).mono ?_
    rintro e V ⟨rfl, hb1⟩
    have HBV := Lib.hid (HB0.out.trans (hb1.mono HB0.out.size))
    clear hb1
    obtain ⟨⟨y, m, er⟩, hy⟩ : ∃ r, readY bs 0 = r := ⟨_, rfl⟩
    have hbad := fun h : er ≠ 0 => read_bad (bs := bs) (p := 0) (by rw [hy]; exact h)
    have hgood := fun h : er = 0 => read_good HBB.out (p := 0) (by rw [hy]; exact h)
    have hwr := fun h : er = 0 => write_read HBB.out (by rw [hy]; exact h)
    simp only [hy] at hbad hgood hwr
    obtain ⟨p, q, r, hp⟩ := pV_nums y
    have HRY := Lib.hid (fun (U : World) (hU : Below W.heap.size W U) => (hy ▸ HRD.out U hU A n cp bs ((HRR.out.below hU).keep' hU.size) (HLL.out ()) (by omega) hcp (by unfold maxLen; omega) HBB.out).mono fun e w' h => ReadP.nums hp h)
    go_wp2_with fail
    refine (HRY.out _ HBV.out).mono ?_
    rintro e w3 ⟨rfl, hb3⟩
    have HB3 := Lib.hid ((HBV.out.trans (hb3.mono HBV.out.size)).alloc (HBV.out.trans (hb3.mono HBV.out.size)).size (.cells #[.int .u8 p, .int .u32 q, .int .u32 r] 24))
    have HR3 := Lib.hid (heap_alloc_new w3 (.cells #[.int .u8 p, .int .u32 q, .int .u32 r] 24))
    clear hb3
    by_cases her : er ≠ 0
    · obtain ⟨e1, e2⟩ := hbad her
      rw [e1, pV_zero] at hp
      injection hp with hp
      injection hp with hp
      injection hp with hp1 hp
      injection hp with hp2 hp
      injection hp with hp3 hp
      injection hp1 with _ hp1
      injection hp2 with _ hp2
      injection hp3 with _ hp3
      subst hp1 hp2 hp3 e2
      have ze : (er != 0) = true := by simpa using her
      clear hbad hgood hwr her
      go_wp2_with fail
      refine (HAL.out _ HB3.out).mono ?_
      rintro e w4 ⟨rfl, hb4⟩
      obtain ⟨p0, p1, p2⟩ := pcell ((hb4.block _ (lt_of_block HR3.out)).trans HR3.out)
      have HB4 := Lib.hid (HB3.out.trans (hb4.mono HB3.out.size))
      clear hb4
      go_wp2
      go_ret
      exact ⟨rfl, HB4.out⟩
    · obtain rfl : er = 0 := by omega
      obtain ⟨hgy, hry⟩ := hgood rfl
      obtain ⟨_, mm, rfl, hmn, htk⟩ := hwr rfl
      have hmn2 : mm ≤ n := by rw [← HLL.out ()]; exact hmn
      have HMP : Hid (0 < mm) := Lib.hid (by
        have : (bs.take mm).length = mm := by rw [List.length_take]; omega
        rw [← htk] at this
        rw [← this]
        unfold writeY
        simp)
      have HWY := Lib.hid (fun U hU => hp ▸ HWR.out y hgy hry U hU)
      rw [htk] at HWY
      obtain ⟨p0, p1, p2⟩ := pcell HR3.out
      clear hbad hgood hwr her hp hgy hry htk
      go_wp2_with fail
      refine (HWY.out _ HB3.out).mono ?_
      rintro e w4 ⟨v4, rfl, o4⟩
      obtain ⟨A4, c4, rfl, k1, k2, hr4⟩ := bytes8 o4
      have HB4 := Lib.hid (HB3.out.trans (o4.below.mono HB3.out.size))
      have HR4 := Lib.hid hr4
      have hml : (bs.take mm).length = mm := by rw [List.length_take]; omega
      have HC1 := Lib.hid (fun (X : World) (hX : Below w4.heap.size w4 X) => conv_text (w := X) hml c4 (RI.below (by exact HR4.out) hX))
      rw [hml]
      obtain ⟨bl, off, rfl, hbl, hc⟩ := HRR.out (by rw [HLL.out ()]; exact npos_of HMP.out hmn2)
      have HC2 := Lib.hid (fun (X : World) (hX : Below w4.heap.size w4 X) => conv_text (w := X) hml cp (RI.take mm (RI.below (RI.below HRR.out HB4.out) hX)))
      obtain ⟨S, hS⟩ : ∃ S, strOfNums (bs.take mm) = S := ⟨_, rfl⟩
      simp only [hS] at HC1 HC2
      have sS : (S.toList == S.toList) = true := by simp
      clear hS
      have s1 : (mm : Int) ≤ (cp : Int) := by omega
      have s2 : (mm : Int) ≤ (n : Int) := by omega
      have s4 : decide ((mm : Int) ≤ (n : Int)) = true := by simp; omega
      have s3 : (0 : Int) ≤ (mm : Int) := by omega
      clear p0 p1 p2 o4 hr4 k1 k2 hc hbl
      go_wp2
      have HDB := Lib.hid (Below.refl w4.heap.size w4).drew
      refine wp_region_held_drew (S := fun W => Below w4.drew.heap.size w4.drew W) (by kernel_rfl) (Below.refl _ _) (fun hHeld => ?_)
      refine wpAnyH_ready (rs := [0]) (by kernel_rfl) (by simp) ?_
      refine AllReadyH.cons (by simp; rfl) (fun K0 hK0 => ?_) AllReadyH.nil
      go_simp
      refine (HAL.out _ (HB4.out.trans (HDB.out.mono HB4.out.size))).mono ?_
      rintro e v1 ⟨rfl, hx⟩
      have hbv1 : Below w4.drew.heap.size w4.drew v1 := hx
      have HDB2 := Lib.hid (HDB.out.trans (hbv1.mono HDB.out.size))
      clear HDB
      have HDB := HDB2
      clear HDB2 hx
      refine hK0.out _ _ hbv1 (fun _ => ?_)
      clear hK0 K0 hHeld
      refine heldMono (S' := fun W => Below v1.heap.size v1 W) (fun _ h => hbv1.trans (h.mono hbv1.size)) _ _ _ _ ?_
      have hHeld := Below.refl v1.heap.size v1
      have HBv1 := Lib.hid hbv1
      clear hbv1
      refine wpAnyH_take (i := 1) (v := ?_) (by simp; rfl) (by kernel_rfl) (by kernel_rfl) (by kernel_rfl) (by exact fun _ _ _ h => h) (Or.inl ⟨by rfl, fun wx hSx => ?_⟩) hHeld ?_
      rotate_left
      · clear hSx; go_simp; (try with_reducible rfl)
      simp only [Act.put, List.setIfInBounds_toArray, List.set_cons_zero, List.set_cons_succ]
      refine wpAnyH_take (i := 2) (v := ?_) (by simp; rfl) (by kernel_rfl) (by kernel_rfl) (by kernel_rfl) (by exact fun _ _ _ h => h) (Or.inl ⟨by rfl, fun wx hSx => ?_⟩) hHeld ?_
      rotate_left
      · clear hSx; go_simp; (try with_reducible rfl)
      simp only [Act.put, List.setIfInBounds_toArray, List.set_cons_zero, List.set_cons_succ]
      refine wpAnyH_take (i := 3) (v := ?_) (by simp; rfl) (by kernel_rfl) (by kernel_rfl) (by kernel_rfl) (by exact fun _ _ _ h => h) (Or.inl ⟨by rfl, fun wx hSx => ?_⟩) hHeld ?_
      rotate_left
      · clear hSx; go_simp; (try with_reducible rfl)
      simp only [Act.put, List.setIfInBounds_toArray, List.set_cons_zero, List.set_cons_succ]
      refine wpAnyH_take (i := 4) (v := ?_) (by simp; rfl) (by kernel_rfl) (by kernel_rfl) (by kernel_rfl) (by exact fun _ _ _ h => h) (Or.inl ⟨by rfl, fun wx hSx => ?_⟩) hHeld ?_
      rotate_left
      · clear hSx; go_simp; (try with_reducible rfl)
      simp only [Act.put, List.setIfInBounds_toArray, List.set_cons_zero, List.set_cons_succ]
      refine wpAnyH_take (i := 5) (v := ?_) (by simp; rfl) (by kernel_rfl) (by kernel_rfl) (by kernel_rfl) (by exact fun _ _ _ h => h) (Or.inl ⟨by rfl, fun wx hSx => ?_⟩) hHeld ?_
      rotate_left
      · clear hSx; go_simp; (try with_reducible rfl)
      simp only [Act.put, List.setIfInBounds_toArray, List.set_cons_zero, List.set_cons_succ]
      refine wpAnyH_take (i := 6) (v := ?_) (by simp; rfl) (by kernel_rfl) (by kernel_rfl) (by kernel_rfl) (by exact fun _ _ _ h => h) (Or.inl ⟨by rfl, fun wx hSx => ?_⟩) hHeld ?_
      rotate_left
      · clear hSx; go_simp; (try with_reducible rfl)
      simp only [Act.put, List.setIfInBounds_toArray, List.set_cons_zero, List.set_cons_succ]
      refine wpAnyH_take (i := 7) (v := ?_) (by simp; rfl) (by kernel_rfl) (by kernel_rfl) (by kernel_rfl) (by exact fun _ _ _ h => h) (Or.inl ⟨by rfl, fun wx hSx => ?_⟩) hHeld ?_
      rotate_left
      · clear hSx; go_simp; (try with_reducible rfl)
      simp only [Act.put, List.setIfInBounds_toArray, List.set_cons_zero, List.set_cons_succ]
      refine wpAnyH_take (i := 8) (v := ?_) (by simp; rfl) (by kernel_rfl) (by kernel_rfl) (by kernel_rfl) (by exact fun _ _ _ h => h) (Or.inl ⟨by rfl, fun wx hSx => ?_⟩) hHeld ?_
      rotate_left
      · clear hSx; go_simp; (try with_reducible rfl)
      simp only [Act.put, List.setIfInBounds_toArray, List.set_cons_zero, List.set_cons_succ]
      refine wpAnyH_take (i := 9) (v := ?_) (by simp; rfl) (by kernel_rfl) (by kernel_rfl) (by kernel_rfl) (by exact fun _ _ _ h => h) (Or.inl ⟨by rfl, fun wx hSx => ?_⟩) hHeld ?_
      rotate_left
      · clear hSx; go_simp; (try with_reducible rfl)
      simp only [Act.put, List.setIfInBounds_toArray, List.set_cons_zero, List.set_cons_succ]
      refine wpAnyH_take (i := 10) (v := ?_) (by simp; rfl) (by kernel_rfl) (by kernel_rfl) (by kernel_rfl) (by exact fun _ _ _ h => h) (Or.inl ⟨by rfl, fun wx hSx => ?_⟩) hHeld ?_
      rotate_left
      · clear hSx; go_simp; (try with_reducible rfl)
      simp only [Act.put, List.setIfInBounds_toArray, List.set_cons_zero, List.set_cons_succ]
      refine wpAnyH_take (i := 11) (v := ?_) (by simp; rfl) (by kernel_rfl) (by kernel_rfl) (by kernel_rfl) (by exact fun _ _ _ h => h) (Or.inl ⟨by rfl, fun wx hSx => ?_⟩) hHeld ?_
      rotate_left
      · clear hSx; go_simp; (try with_reducible rfl)
      simp only [Act.put, List.setIfInBounds_toArray, List.set_cons_zero, List.set_cons_succ]
      refine wpAnyH_take (i := 12) (v := ?_) (by simp; rfl) (by kernel_rfl) (by kernel_rfl) (by kernel_rfl) (by exact fun _ _ _ h => h) (Or.inl ⟨by rfl, fun wx hSx => ?_⟩) hHeld ?_
      rotate_left
      · clear hSx; go_simp; (try with_reducible rfl)
      simp only [Act.put, List.setIfInBounds_toArray, List.set_cons_zero, List.set_cons_succ]
      refine wpAnyH_take (i := 13) (v := ?_) (by simp; rfl) (by kernel_rfl) (by kernel_rfl) (by kernel_rfl) (by exact fun _ _ _ h => h) (Or.inl ⟨by rfl, fun wx hSx => ?_⟩) hHeld ?_
      rotate_left
      · have hc := HC1.out wx (HDB.out.trans (hSx.mono HDB.out.size)); clear hSx; go_simp; (try with_reducible rfl)
      simp only [Act.put, List.setIfInBounds_toArray, List.set_cons_zero, List.set_cons_succ]
      refine wpAnyH_take (i := 14) (v := ?_) (by simp; rfl) (by kernel_rfl) (by kernel_rfl) (by kernel_rfl) (by exact fun _ _ _ h => h) (Or.inl ⟨by rfl, fun wx hSx => ?_⟩) hHeld ?_
      rotate_left
      · clear hSx; go_simp; (try with_reducible rfl)
      simp only [Act.put, List.setIfInBounds_toArray, List.set_cons_zero, List.set_cons_succ]
      refine wpAnyH_take (i := 15) (v := ?_) (by simp; rfl) (by kernel_rfl) (by kernel_rfl) (by kernel_rfl) (by exact fun _ _ _ h => h) (Or.inl ⟨by rfl, fun wx hSx => ?_⟩) hHeld ?_
      rotate_left
      · clear hSx; go_simp; (try with_reducible rfl)
      simp only [Act.put, List.setIfInBounds_toArray, List.set_cons_zero, List.set_cons_succ]
      refine wpAnyH_take (i := 16) (v := ?_) (by simp; rfl) (by kernel_rfl) (by kernel_rfl) (by kernel_rfl) (by exact fun _ _ _ h => h) (Or.inl ⟨by rfl, fun wx hSx => ?_⟩) hHeld ?_
      rotate_left
      · clear hSx; go_simp; (try with_reducible rfl)
      simp only [Act.put, List.setIfInBounds_toArray, List.set_cons_zero, List.set_cons_succ]
      refine wpAnyH_take (i := 17) (v := ?_) (by simp; rfl) (by kernel_rfl) (by kernel_rfl) (by kernel_rfl) (by exact fun _ _ _ h => h) (Or.inl ⟨by rfl, fun wx hSx => ?_⟩) hHeld ?_
      rotate_left
      · have hc := HC2.out wx (HDB.out.trans (hSx.mono HDB.out.size)); clear hSx; go_simp; (try with_reducible rfl)
      simp only [Act.put, List.setIfInBounds_toArray, List.set_cons_zero, List.set_cons_succ]
      refine wpAnyH_take (i := 18) (v := ?_) (by simp; rfl) (by kernel_rfl) (by kernel_rfl) (by kernel_rfl) (by exact fun _ _ _ h => h) (Or.inl ⟨by rfl, fun wx hSx => ?_⟩) hHeld ?_
      rotate_left
      · clear hSx; go_simp; (try with_reducible rfl)
      simp only [Act.put, List.setIfInBounds_toArray, List.set_cons_zero, List.set_cons_succ]
      refine wpAnyH_take (i := 19) (v := ?_) (by simp; rfl) (by kernel_rfl) (by kernel_rfl) (by kernel_rfl) (by exact fun _ _ _ h => h) (Or.inl ⟨by rfl, fun wx hSx => ?_⟩) hHeld ?_
      rotate_left
      · clear hSx; go_simp; (try with_reducible rfl)
      simp only [Act.put, List.setIfInBounds_toArray, List.set_cons_zero, List.set_cons_succ]
      refine wpAnyH_take (i := 20) (v := ?_) (by simp; rfl) (by kernel_rfl) (by kernel_rfl) (by kernel_rfl) (by exact fun _ _ _ h => h) (Or.inl ⟨by rfl, fun wx hSx => ?_⟩) hHeld ?_
      rotate_left
      · clear hSx; go_simp; (try with_reducible rfl)
      simp only [Act.put, List.setIfInBounds_toArray, List.set_cons_zero, List.set_cons_succ]
      refine wpAnyH_done (by kernel_rfl) ?_ _
      have HBF := Lib.hid (HB4.out.trans (HDB.out.mono HB4.out.size))
      clear hHeld HDB
      go_wp2
      go_ret
      exact ⟨rfl, HBF.out⟩
  · have HW := Lib.hid (fun U hU => HP.out () ▸ HWR.out s HGS.out hr U hU)
    have hrw := read_write HGS.out hr
    have hwl : (writeY s).length ≤ 17 := by
      unfold writeY
      simp only [List.length_append, List.length_cons, List.length_nil, numB_length]
      have := szN_le s.fg
      have := szN_le s.bg
      omega
    have HRX := Lib.hid (fun (U : World) (hU : Below W.heap.size W U) (A : Option Addr) (m c : Nat) (hR : RB U U.heap.size A (writeY s)) (hl : (writeY s).length = m) (h1 : m ≤ c) (h2 : c ≤ maxLen) => (hrw ▸ HRD.out U hU A m c (writeY s) hR hl (by omega) h1 h2 (writeY_bytes HGS.out)).mono fun e w' h => ReadP.nums (HP.out ()) h)
    obtain ⟨X, hX⟩ : ∃ X, writeY s = X := ⟨_, rfl⟩
    rw [hX] at HW HRX hwl
    clear hr HWN hrw hX
    have za : (a != a) = false := by simp
    have zf : (f != f) = false := by simp
    have zg : (g != g) = false := by simp
    go_wp2_with fail
    refine (HW.out _ HB0.out).mono ?_
    generalize (W.alloc (.cells #[.int .u8 a, .int .u32 f, .int .u32 g] 24)) = U at HB0 HROW ⊢
    rintro e w1 ⟨v1, rfl, o1⟩
    obtain ⟨A1, c1, rfl, k1, k2, hrx⟩ := bytes8 o1
    have HB1 := Lib.hid (HB0.out.trans (o1.below.mono HB0.out.size))
    have HR1 := Lib.hid ((o1.below.block _ (lt_of_block HROW.out)).trans HROW.out)
    have HRB := Lib.hid hrx
    have HKK := Lib.hid (And.intro k1 k2)
    clear o1 hrx k1 k2 HROW HB0
    go_wp2_with fail
    refine (HRX.out _ HB1.out _ _ _ HRB.out rfl HKK.out.1 HKK.out.2).mono ?_
    rintro e w2 ⟨rfl, hb2⟩
    have hra := (hb2.block _ (lt_of_block HR1.out)).trans HR1.out
    obtain ⟨p0, p1, p2⟩ := pcell ((heap_alloc_old w2 (.cells #[.int .u8 a, .int .u32 f, .int .u32 g] 24) (lt_of_block hra)).trans hra)
    have HBV0 := Lib.hid (HB1.out.trans (hb2.mono HB1.out.size))
    have HBV := Lib.hid (HBV0.out.alloc HBV0.out.size (.cells #[.int .u8 a, .int .u32 f, .int .u32 g] 24))
    clear hb2 hra HR1 HBV0
    have zl : ((X.length : Int) != (X.length : Int)) = false := by simp
    go_wp2_with fail
    generalize (w2.alloc (.cells #[.int .u8 a, .int .u32 f, .int .u32 g] 24)) = V at HBV p0 p1 p2 ⊢
    clear p0 p1 p2
    obtain ⟨⟨y, m, er⟩, hy⟩ : ∃ r, readY bs 0 = r := ⟨_, rfl⟩
    have hbad := fun h : er ≠ 0 => read_bad (bs := bs) (p := 0) (by rw [hy]; exact h)
    have hgood := fun h : er = 0 => read_good HBB.out (p := 0) (by rw [hy]; exact h)
    have hwr := fun h : er = 0 => write_read HBB.out (by rw [hy]; exact h)
    simp only [hy] at hbad hgood hwr
    obtain ⟨p, q, r, hp⟩ := pV_nums y
    have HRY := Lib.hid (fun (U : World) (hU : Below W.heap.size W U) => (hy ▸ HRD.out U hU A n cp bs ((HRR.out.below hU).keep' hU.size) (HLL.out ()) (by omega) hcp (by unfold maxLen; omega) HBB.out).mono fun e w' h => ReadP.nums hp h)
    refine (HRY.out _ HBV.out).mono ?_
    rintro e w3 ⟨rfl, hb3⟩
    have HB3 := Lib.hid ((HBV.out.trans (hb3.mono HBV.out.size)).alloc (HBV.out.trans (hb3.mono HBV.out.size)).size (.cells #[.int .u8 p, .int .u32 q, .int .u32 r] 24))
    have HR3 := Lib.hid (heap_alloc_new w3 (.cells #[.int .u8 p, .int .u32 q, .int .u32 r] 24))
    clear hb3
    by_cases her : er ≠ 0
    · obtain ⟨e1, e2⟩ := hbad her
      rw [e1, pV_zero] at hp
      injection hp with hp
      injection hp with hp
      injection hp with hp1 hp
      injection hp with hp2 hp
      injection hp with hp3 hp
      injection hp1 with _ hp1
      injection hp2 with _ hp2
      injection hp3 with _ hp3
      subst hp1 hp2 hp3 e2
      have ze : (er != 0) = true := by simpa using her
      clear hbad hgood hwr her
      go_wp2_with fail
      refine (HAL.out _ HB3.out).mono ?_
      rintro e w4 ⟨rfl, hb4⟩
      obtain ⟨p0, p1, p2⟩ := pcell ((hb4.block _ (lt_of_block HR3.out)).trans HR3.out)
      have HB4 := Lib.hid (HB3.out.trans (hb4.mono HB3.out.size))
      clear hb4
      go_wp2
      go_ret
      exact ⟨rfl, HB4.out⟩
    · obtain rfl : er = 0 := by omega
      obtain ⟨hgy, hry⟩ := hgood rfl
      obtain ⟨_, mm, rfl, hmn, htk⟩ := hwr rfl
      have hmn2 : mm ≤ n := by rw [← HLL.out ()]; exact hmn
      have HMP : Hid (0 < mm) := Lib.hid (by
        have : (bs.take mm).length = mm := by rw [List.length_take]; omega
        rw [← htk] at this
        rw [← this]
        unfold writeY
        simp)
      have HWY := Lib.hid (fun U hU => hp ▸ HWR.out y hgy hry U hU)
      rw [htk] at HWY
      obtain ⟨p0, p1, p2⟩ := pcell HR3.out
      clear hbad hgood hwr her hp hgy hry htk
      go_wp2_with fail
      refine (HWY.out _ HB3.out).mono ?_
      rintro e w4 ⟨v4, rfl, o4⟩
      obtain ⟨A4, c4, rfl, k1, k2, hr4⟩ := bytes8 o4
      have HB4 := Lib.hid (HB3.out.trans (o4.below.mono HB3.out.size))
      have HR4 := Lib.hid hr4
      have hml : (bs.take mm).length = mm := by rw [List.length_take]; omega
      have HC1 := Lib.hid (fun (X : World) (hX : Below w4.heap.size w4 X) => conv_text (w := X) hml c4 (RI.below (by exact HR4.out) hX))
      rw [hml]
      obtain ⟨bl, off, rfl, hbl, hc⟩ := HRR.out (by rw [HLL.out ()]; exact npos_of HMP.out hmn2)
      have HC2 := Lib.hid (fun (X : World) (hX : Below w4.heap.size w4 X) => conv_text (w := X) hml cp (RI.take mm (RI.below (RI.below HRR.out HB4.out) hX)))
      obtain ⟨S, hS⟩ : ∃ S, strOfNums (bs.take mm) = S := ⟨_, rfl⟩
      simp only [hS] at HC1 HC2
      have sS : (S.toList == S.toList) = true := by simp
      clear hS
      have s1 : (mm : Int) ≤ (cp : Int) := by omega
      have s2 : (mm : Int) ≤ (n : Int) := by omega
      have s4 : decide ((mm : Int) ≤ (n : Int)) = true := by simp; omega
      have s3 : (0 : Int) ≤ (mm : Int) := by omega
      clear p0 p1 p2 o4 hr4 k1 k2 hc hbl
      go_wp2
      have HDB := Lib.hid (Below.refl w4.heap.size w4).drew
      refine wp_region_held_drew (S := fun W => Below w4.drew.heap.size w4.drew W) (by kernel_rfl) (Below.refl _ _) (fun hHeld => ?_)
      refine wpAnyH_ready (rs := [0]) (by kernel_rfl) (by simp) ?_
      refine AllReadyH.cons (by simp; rfl) (fun K0 hK0 => ?_) AllReadyH.nil
      go_simp
      refine (HAL.out _ (HB4.out.trans (HDB.out.mono HB4.out.size))).mono ?_
      rintro e v1 ⟨rfl, hx⟩
      have hbv1 : Below w4.drew.heap.size w4.drew v1 := hx
      have HDB2 := Lib.hid (HDB.out.trans (hbv1.mono HDB.out.size))
      clear HDB
      have HDB := HDB2
      clear HDB2 hx
      refine hK0.out _ _ hbv1 (fun _ => ?_)
      clear hK0 K0 hHeld
      refine heldMono (S' := fun W => Below v1.heap.size v1 W) (fun _ h => hbv1.trans (h.mono hbv1.size)) _ _ _ _ ?_
      have hHeld := Below.refl v1.heap.size v1
      have HBv1 := Lib.hid hbv1
      clear hbv1
      refine wpAnyH_take (i := 1) (v := ?_) (by simp; rfl) (by kernel_rfl) (by kernel_rfl) (by kernel_rfl) (by exact fun _ _ _ h => h) (Or.inl ⟨by rfl, fun wx hSx => ?_⟩) hHeld ?_
      rotate_left
      · clear hSx; go_simp; (try with_reducible rfl)
      simp only [Act.put, List.setIfInBounds_toArray, List.set_cons_zero, List.set_cons_succ]
      refine wpAnyH_take (i := 2) (v := ?_) (by simp; rfl) (by kernel_rfl) (by kernel_rfl) (by kernel_rfl) (by exact fun _ _ _ h => h) (Or.inl ⟨by rfl, fun wx hSx => ?_⟩) hHeld ?_
      rotate_left
      · clear hSx; go_simp; (try with_reducible rfl)
      simp only [Act.put, List.setIfInBounds_toArray, List.set_cons_zero, List.set_cons_succ]
      refine wpAnyH_take (i := 3) (v := ?_) (by simp; rfl) (by kernel_rfl) (by kernel_rfl) (by kernel_rfl) (by exact fun _ _ _ h => h) (Or.inl ⟨by rfl, fun wx hSx => ?_⟩) hHeld ?_
      rotate_left
      · clear hSx; go_simp; (try with_reducible rfl)
      simp only [Act.put, List.setIfInBounds_toArray, List.set_cons_zero, List.set_cons_succ]
      refine wpAnyH_take (i := 4) (v := ?_) (by simp; rfl) (by kernel_rfl) (by kernel_rfl) (by kernel_rfl) (by exact fun _ _ _ h => h) (Or.inl ⟨by rfl, fun wx hSx => ?_⟩) hHeld ?_
      rotate_left
      · clear hSx; go_simp; (try with_reducible rfl)
      simp only [Act.put, List.setIfInBounds_toArray, List.set_cons_zero, List.set_cons_succ]
      refine wpAnyH_take (i := 5) (v := ?_) (by simp; rfl) (by kernel_rfl) (by kernel_rfl) (by kernel_rfl) (by exact fun _ _ _ h => h) (Or.inl ⟨by rfl, fun wx hSx => ?_⟩) hHeld ?_
      rotate_left
      · clear hSx; go_simp; (try with_reducible rfl)
      simp only [Act.put, List.setIfInBounds_toArray, List.set_cons_zero, List.set_cons_succ]
      refine wpAnyH_take (i := 6) (v := ?_) (by simp; rfl) (by kernel_rfl) (by kernel_rfl) (by kernel_rfl) (by exact fun _ _ _ h => h) (Or.inl ⟨by rfl, fun wx hSx => ?_⟩) hHeld ?_
      rotate_left
      · clear hSx; go_simp; (try with_reducible rfl)
      simp only [Act.put, List.setIfInBounds_toArray, List.set_cons_zero, List.set_cons_succ]
      refine wpAnyH_take (i := 7) (v := ?_) (by simp; rfl) (by kernel_rfl) (by kernel_rfl) (by kernel_rfl) (by exact fun _ _ _ h => h) (Or.inl ⟨by rfl, fun wx hSx => ?_⟩) hHeld ?_
      rotate_left
      · clear hSx; go_simp; (try with_reducible rfl)
      simp only [Act.put, List.setIfInBounds_toArray, List.set_cons_zero, List.set_cons_succ]
      refine wpAnyH_take (i := 8) (v := ?_) (by simp; rfl) (by kernel_rfl) (by kernel_rfl) (by kernel_rfl) (by exact fun _ _ _ h => h) (Or.inl ⟨by rfl, fun wx hSx => ?_⟩) hHeld ?_
      rotate_left
      · clear hSx; go_simp; (try with_reducible rfl)
      simp only [Act.put, List.setIfInBounds_toArray, List.set_cons_zero, List.set_cons_succ]
      refine wpAnyH_take (i := 9) (v := ?_) (by simp; rfl) (by kernel_rfl) (by kernel_rfl) (by kernel_rfl) (by exact fun _ _ _ h => h) (Or.inl ⟨by rfl, fun wx hSx => ?_⟩) hHeld ?_
      rotate_left
      · clear hSx; go_simp; (try with_reducible rfl)
      simp only [Act.put, List.setIfInBounds_toArray, List.set_cons_zero, List.set_cons_succ]
      refine wpAnyH_take (i := 10) (v := ?_) (by simp; rfl) (by kernel_rfl) (by kernel_rfl) (by kernel_rfl) (by exact fun _ _ _ h => h) (Or.inl ⟨by rfl, fun wx hSx => ?_⟩) hHeld ?_
      rotate_left
      · clear hSx; go_simp; (try with_reducible rfl)
      simp only [Act.put, List.setIfInBounds_toArray, List.set_cons_zero, List.set_cons_succ]
      refine wpAnyH_take (i := 11) (v := ?_) (by simp; rfl) (by kernel_rfl) (by kernel_rfl) (by kernel_rfl) (by exact fun _ _ _ h => h) (Or.inl ⟨by rfl, fun wx hSx => ?_⟩) hHeld ?_
      rotate_left
      · clear hSx; go_simp; (try with_reducible rfl)
      simp only [Act.put, List.setIfInBounds_toArray, List.set_cons_zero, List.set_cons_succ]
      refine wpAnyH_take (i := 12) (v := ?_) (by simp; rfl) (by kernel_rfl) (by kernel_rfl) (by kernel_rfl) (by exact fun _ _ _ h => h) (Or.inl ⟨by rfl, fun wx hSx => ?_⟩) hHeld ?_
      rotate_left
      · clear hSx; go_simp; (try with_reducible rfl)
      simp only [Act.put, List.setIfInBounds_toArray, List.set_cons_zero, List.set_cons_succ]
      refine wpAnyH_take (i := 13) (v := ?_) (by simp; rfl) (by kernel_rfl) (by kernel_rfl) (by kernel_rfl) (by exact fun _ _ _ h => h) (Or.inl ⟨by rfl, fun wx hSx => ?_⟩) hHeld ?_
      rotate_left
      · have hc := HC1.out wx (HDB.out.trans (hSx.mono HDB.out.size)); clear hSx; go_simp; (try with_reducible rfl)
      simp only [Act.put, List.setIfInBounds_toArray, List.set_cons_zero, List.set_cons_succ]
      refine wpAnyH_take (i := 14) (v := ?_) (by simp; rfl) (by kernel_rfl) (by kernel_rfl) (by kernel_rfl) (by exact fun _ _ _ h => h) (Or.inl ⟨by rfl, fun wx hSx => ?_⟩) hHeld ?_
      rotate_left
      · clear hSx; go_simp; (try with_reducible rfl)
      simp only [Act.put, List.setIfInBounds_toArray, List.set_cons_zero, List.set_cons_succ]
      refine wpAnyH_take (i := 15) (v := ?_) (by simp; rfl) (by kernel_rfl) (by kernel_rfl) (by kernel_rfl) (by exact fun _ _ _ h => h) (Or.inl ⟨by rfl, fun wx hSx => ?_⟩) hHeld ?_
      rotate_left
      · clear hSx; go_simp; (try with_reducible rfl)
      simp only [Act.put, List.setIfInBounds_toArray, List.set_cons_zero, List.set_cons_succ]
      refine wpAnyH_take (i := 16) (v := ?_) (by simp; rfl) (by kernel_rfl) (by kernel_rfl) (by kernel_rfl) (by exact fun _ _ _ h => h) (Or.inl ⟨by rfl, fun wx hSx => ?_⟩) hHeld ?_
      rotate_left
      · clear hSx; go_simp; (try with_reducible rfl)
      simp only [Act.put, List.setIfInBounds_toArray, List.set_cons_zero, List.set_cons_succ]
      refine wpAnyH_take (i := 17) (v := ?_) (by simp; rfl) (by kernel_rfl) (by kernel_rfl) (by kernel_rfl) (by exact fun _ _ _ h => h) (Or.inl ⟨by rfl, fun wx hSx => ?_⟩) hHeld ?_
      rotate_left
      · have hc := HC2.out wx (HDB.out.trans (hSx.mono HDB.out.size)); clear hSx; go_simp; (try with_reducible rfl)
      simp only [Act.put, List.setIfInBounds_toArray, List.set_cons_zero, List.set_cons_succ]
      refine wpAnyH_take (i := 18) (v := ?_) (by simp; rfl) (by kernel_rfl) (by kernel_rfl) (by kernel_rfl) (by exact fun _ _ _ h => h) (Or.inl ⟨by rfl, fun wx hSx => ?_⟩) hHeld ?_
      rotate_left
      · clear hSx; go_simp; (try with_reducible rfl)
      simp only [Act.put, List.setIfInBounds_toArray, List.set_cons_zero, List.set_cons_succ]
      refine wpAnyH_take (i := 19) (v := ?_) (by simp; rfl) (by kernel_rfl) (by kernel_rfl) (by kernel_rfl) (by exact fun _ _ _ h => h) (Or.inl ⟨by rfl, fun wx hSx => ?_⟩) hHeld ?_
      rotate_left
      · clear hSx; go_simp; (try with_reducible rfl)
      simp only [Act.put, List.setIfInBounds_toArray, List.set_cons_zero, List.set_cons_succ]
      refine wpAnyH_take (i := 20) (v := ?_) (by simp; rfl) (by kernel_rfl) (by kernel_rfl) (by kernel_rfl) (by exact fun _ _ _ h => h) (Or.inl ⟨by rfl, fun wx hSx => ?_⟩) hHeld ?_
      rotate_left
      · clear hSx; go_simp; (try with_reducible rfl)
      simp only [Act.put, List.setIfInBounds_toArray, List.set_cons_zero, List.set_cons_succ]
      refine wpAnyH_done (by kernel_rfl) ?_ _
      have HBF := Lib.hid (HB4.out.trans (HDB.out.mono HB4.out.size))
      clear hHeld HDB
      go_wp2
      go_ret
      exact ⟨rfl, HBF.out⟩
end Go.Proofs.YtohhmpkmcodoeaaDoor
