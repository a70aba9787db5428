/-
  Proved here: StyleBytes.
-/
import Derived.Test.YtohhmpkmcodoeaaDoorZl
set_option linter.unusedSimpArgs false
set_option linter.unusedVariables false
namespace Go.Proofs.YtohhmpkmcodoeaaDoor
open Go.RowKit
theorem styV_nums (s : Sty) (h : s.fs.length = 8) : ∃ f0 f1 f2 f3 f4 f5 f6 f7 q0 q1, styV s = .agg #[.bool f0, .bool f1, .bool f2, .bool f3, .bool f4, .bool f5, .bool f6, .bool f7, .int .u32 q0, .int .u32 q1] := by
  obtain ⟨fs, fg, bg⟩ := s
  obtain ⟨f0, f1, f2, f3, f4, f5, f6, f7, rfl⟩ := eight h
  exact ⟨f0, f1, f2, f3, f4, f5, f6, f7, fg, bg, rfl⟩
theorem p_as (s : Sty) (w : World) (h : s.fs.length = 8) : Calls Tryd.prog 11 #[pV s] w fun e w' => e = .returned (styV s) ∧ Below w.heap.size w w' := by
  have hr := flagsF_range s.fs
  rw [h] at hr
  have H := ry_of (flagsF s.fs) s.fg s.bg
  have e : ofF 8 (flagsF s.fs) = s.fs := by have := ofF_flagsF s.fs; rw [h] at this; exact this
  rw [e] at H
  obtain ⟨fs, fg, bg⟩ := s
  dsimp only at H hr
  obtain ⟨f, hf⟩ : ∃ f, flagsF fs = f := ⟨_, rfl⟩
  show Calls Tryd.prog 11 #[.agg #[.int .u8 (flagsF fs), .int .u32 fg, .int .u32 bg]] w _
  rw [hf] at H hr ⊢
  have HO := Lib.hid (fun W => H W hr.1 (by simpa using hr.2))
  have HB0 := Lib.hid ((Below.refl w.heap.size w).alloc (Nat.le_refl _) (.cells #[.int .u8 f, .int .u32 fg, .int .u32 bg] 24))
  have h : (Sty.mk fs fg bg).fs.length = 8 := h
  clear H e hf hr
  go_enter Tryd.func11, Tryd.ntmps11
  go_wp2_with fail
  refine (HO.out _).mono ?_
  rintro e w1 ⟨rfl, hb⟩
  have HBX := HB0.out.alloc HB0.out.size (.cells #[.bool false, .bool false, .bool false, .bool false, .bool false, .bool false, .bool false, .bool false, .int .u32 0, .int .u32 0] 31)
  have HRO := Lib.hid ((hb.block _ (by simp)).trans (heap_alloc2_new w (.cells #[.int .u8 f, .int .u32 fg, .int .u32 bg] 24) (.cells #[.bool false, .bool false, .bool false, .bool false, .bool false, .bool false, .bool false, .bool false, .int .u32 0, .int .u32 0] 31)))
  have HB1 := Lib.hid (HBX.trans (hb.mono HBX.size))
  have HIS := Lib.hid (info_of (s := ⟨fs, fg, bg⟩) h)
  clear hb HBX h
  go_wp2_with (first | refine wpList_store_row rfl 31 _ _ rfl (w.heap.size + 1) (styL ⟨fs, fg, bg⟩).toArray rfl rfl 31 _ HRO.out HIS.out ?c1 (styL_one _) ?_)
  case c1 =>
    have h1 := info_of (s := zeroY) rfl
    have h2 := HIS.out
    rw [h1] at h2
    exact Option.some.inj h2
  exact bodyPost_ret (v := styV ⟨fs, fg, bg⟩) (results_cell_row (p := 2) (ty := 31) Tryd.results11 _ _ (w.heap.size + 1) 31 _ (0, 0) _ rfl (setRow_heap _ _ _ _ _ _ HRO.out) Tryd.underlying31 rfl HIS.out) rfl ⟨rfl, below_setRow HB1.out (by omega) _⟩
theorem eqF (f0 f1 f2 f3 f4 f5 f6 f7 : Bool) (w : World) : (Op.equalIn 9999 29 (.agg #[.bool f0, .bool f1, .bool f2, .bool f3, .bool f4, .bool f5, .bool f6, .bool f7]) (.agg #[.bool f0, .bool f1, .bool f2, .bool f3, .bool f4, .bool f5, .bool f6, .bool f7])).run Tryd.prog w = .ok true w := by
  cases f0 <;> cases f1 <;> cases f2 <;> cases f3 <;> cases f4 <;> cases f5 <;> cases f6 <;> cases f7 <;> kernel_rfl
/-- A style of the document in memory, cell by cell. -/
theorem scell {W : World} {g : Nat} {a0 a1 a2 a3 a4 a5 a6 a7 a8 a9 : Value} {t : TypeId} (h : W.heap[g]? = some (.cells #[a0, a1, a2, a3, a4, a5, a6, a7, a8, a9] t (0, 0))) :
    W.cell? ⟨g, 0, none⟩ = some a0 ∧ W.cell? ⟨g, 1, none⟩ = some a1 ∧ W.cell? ⟨g, 2, none⟩ = some a2 ∧ W.cell? ⟨g, 3, none⟩ = some a3 ∧ W.cell? ⟨g, 4, none⟩ = some a4 ∧ W.cell? ⟨g, 5, none⟩ = some a5 ∧ W.cell? ⟨g, 6, none⟩ = some a6 ∧ W.cell? ⟨g, 7, none⟩ = some a7 ∧ W.cell? ⟨g, 8, none⟩ = some a8 ∧ W.cell? ⟨g, 9, none⟩ = some a9 := by
  refine ⟨?_, ?_, ?_, ?_, ?_, ?_, ?_, ?_, ?_, ?_⟩
  all_goals (unfold World.cell?; simp only [h]; rfl)
theorem ReadY.nums {r : Sty × Int × Int} {v : Value} (hp : styV r.1 = v) {w : World} {e : Ending} {w' : World} (h : ReadY r w e w') :
    e = .returned (.tuple #[v, .int .i64 r.2.1, .int .i64 r.2.2]) ∧ Below w.heap.size w w' := by
  obtain ⟨h1, h2⟩ := h
  rw [hp] at h1
  exact ⟨h1, h2⟩
theorem read_len {bs : List Int} {p : Int} : (readY bs p).1.fs.length = 8 := by
  unfold readY
  repeat' split
  all_goals first | rfl | exact ofF_len 8 _
set_option maxRecDepth 100000 in
set_option maxHeartbeats 16000000 in
theorem bytes_any (s : Sty) (W : World) (h : Both W) (hs : Good s) {A : Option Addr} {n cp : Nat} {bs : List Int} (hR : RB W W.heap.size A bs) (hl : bs.length = n) (hcp : n ≤ cp) (hcm : cp ≤ maxLen) (hB : Bytes bs) (at0 : Int) :
    Calls Tryd.prog 4 #[pV s, .slice A n cp, .int .i64 at0] W fun e w' => e = .returned (.bool true) ∧ Below W.heap.size W w' := by
  have HAL := Lib.hid (fun (U : World) (hU : Below W.heap.size W U) => alive_any U (h.below hU (Nat.le_refl _)))
  have HWR := Lib.hid (fun (hr : rightS s = true) (U : World) (hU : Below W.heap.size W U) => p_write s U hs (h.below hU (Nat.le_refl _)).tab hr)
  have HWN := Lib.hid (fun (hr : rightS s = false) (U : World) => p_write_no s U hs hr)
  have HTB := Lib.hid (fun (U : World) (hU : Below W.heap.size W U) => (h.below hU (Nat.le_refl _)).tab)
  have HAS := Lib.hid (fun U : World => p_as s U hs.len)
  have HRG := Lib.hid (fun U : World => ry_right s U hs)
  have HRW := Lib.hid (fun U : World => ry_write s U hs)
  obtain ⟨a, f, g, hp⟩ := pV_nums s
  obtain ⟨e0, e1, e2, e3, e4, e5, e6, e7, r0, r1, hsv⟩ := styV_nums s hs.len
  have HB0 := Lib.hid ((Below.refl W.heap.size W).alloc (Nat.le_refl _) (.cells #[.int .u8 a, .int .u32 f, .int .u32 g] 24))
  have HROW := Lib.hid (heap_alloc_new W (.cells #[.int .u8 a, .int .u32 f, .int .u32 g] 24))
  rw [hp, hsv] at HAS
  rw [hp] at HWR HWN
  rw [hsv] at HRG HRW
  rw [hp]
  unfold maxLen at hcm
  have HRR := Lib.hid hR
  have HLL := Lib.hid (fun (_ : Unit) => hl)
  have HBB := Lib.hid hB
  have hwl : (writeY s).length ≤ 17 := by
    unfold writeY
    simp only [List.length_append, List.length_cons, List.length_nil, numB_length]
    have := szN_le s.fg
    have := szN_le s.bg
    omega
  obtain ⟨X, hX⟩ : ∃ X, writeY s = X := ⟨_, rfl⟩
  rw [hX] at HRW hwl
  simp only [hX] at HWR
  obtain ⟨rt, hrt⟩ : ∃ r, rightS s = r := ⟨_, rfl⟩
  rw [hrt] at HRG HWR HWN
  clear hp h hs hR hl hB hX hrt hsv
  by_cases hn : 1000 < n
  · have d1 : decide (1000 < (n : Int)) = true := by simp; omega
    go_enter Tryd.func4, Tryd.ntmps4
    go_wp2_with fail
    refine (HAL.out _ HB0.out).mono ?_
    rintro e w1 ⟨rfl, hb1⟩
    have HB := Lib.hid (HB0.out.trans (hb1.mono HB0.out.size))
    clear hb1
    go_wp2
    go_ret
    exact ⟨rfl, HB.out⟩
  have d1 : decide (1000 < (n : Int)) = false := by simp; omega
  obtain ⟨⟨y, m, er⟩, hy⟩ : ∃ r, readY bs at0 = r := ⟨_, rfl⟩
  have hyl : y.fs.length = 8 := by have := read_len (bs := bs) (p := at0); rw [hy] at this; exact this
  obtain ⟨p, q, r, hp⟩ := pV_nums y
  obtain ⟨f0, f1, f2, f3, f4, f5, f6, f7, q0, q1, hv⟩ := styV_nums y hyl
  have HRY := Lib.hid (fun (U : World) (hU : Below W.heap.size W U) => (hy ▸ p_read (w := U) (A := A) (bs := bs) (n := n) (cap := cp) ((HRR.out.below hU).keep' hU.size) (HLL.out ()) (by omega) hcp (by unfold maxLen; omega) HBB.out (HTB.out U hU) at0).mono fun e w' h => ReadP.nums hp h)
  have HRZ := Lib.hid (fun (U : World) (hU : Below W.heap.size W U) => (hy ▸ ry_read (w := U) (A := A) (bs := bs) (n := n) (cap := cp) ((HRR.out.below hU).keep' hU.size) (HLL.out ()) (by omega) HBB.out at0).mono fun e w' h => ReadY.nums hv h)
  have HA2 := Lib.hid (fun U : World => hv ▸ hp ▸ p_as y U hyl)
  have HEQ := fun w => eqF f0 f1 f2 f3 f4 f5 f6 f7 w
  have z0 : (f0 != f0) = false := by simp
  have z1 : (f1 != f1) = false := by simp
  have z2 : (f2 != f2) = false := by simp
  have z3 : (f3 != f3) = false := by simp
  have z4 : (f4 != f4) = false := by simp
  have z5 : (f5 != f5) = false := by simp
  have z6 : (f6 != f6) = false := by simp
  have z7 : (f7 != f7) = false := by simp
  have z8 : (q0 != q0) = false := by simp
  have z9 : (q1 != q1) = false := by simp
  have zm : (m != m) = false := by simp
  have zr : (er != er) = false := by simp
  clear hp hv hyl hy
  go_enter Tryd.func4, Tryd.ntmps4
  cases rt
  · have HW := Lib.hid (fun U => HWN.out rfl U)
    clear HWN HWR
    go_wp2_with fail
    refine (HW.out _).mono ?_
    generalize (W.alloc (.cells #[.int .u8 a, .int .u32 f, .int .u32 g] 24)) = U at HB0 HROW ⊢
    rintro e V ⟨rfl, hb1⟩
    have HBV := Lib.hid (HB0.out.trans (hb1.mono HB0.out.size))
    have HRV := Lib.hid ((hb1.block _ (lt_of_block HROW.out)).trans HROW.out)
    clear hb1 HROW HB0 HW
    go_wp2_with fail
    refine (HRY.out _ HBV.out).mono ?_
    rintro e w3 ⟨rfl, hb3⟩
    have hv3 := (hb3.block _ (lt_of_block HRV.out)).trans HRV.out
    have hrv3 := (heap_alloc_old w3 (.cells #[.int .u8 p, .int .u32 q, .int .u32 r] 24) (lt_of_block hv3)).trans hv3
    have hB3 := HBV.out.trans (hb3.mono HBV.out.size)
    have HB3 := Lib.hid (hB3.alloc hB3.size (.cells #[.int .u8 p, .int .u32 q, .int .u32 r] 24))
    have HR3 := Lib.hid (heap_alloc_new w3 (.cells #[.int .u8 p, .int .u32 q, .int .u32 r] 24))
    have HRV3 := Lib.hid hrv3
    have HXK := Lib.hid (hb3.alloc hb3.size (.cells #[.int .u8 p, .int .u32 q, .int .u32 r] 24))
    clear hb3 hv3 hrv3 hB3
    go_wp2_with fail
    refine (HRZ.out _ HB3.out).mono ?_
    rintro e w4 ⟨rfl, hb4⟩
    have hv4 := (hb4.block _ (lt_of_block HRV3.out)).trans HRV3.out
    have hv5 := (hb4.block _ (lt_of_block HR3.out)).trans HR3.out
    have HRV4 := Lib.hid ((heap_alloc_old w4 (.cells #[.bool f0, .bool f1, .bool f2, .bool f3, .bool f4, .bool f5, .bool f6, .bool f7, .int .u32 q0, .int .u32 q1] 31) (lt_of_block hv4)).trans hv4)
    have HR4 := Lib.hid ((heap_alloc_old w4 (.cells #[.bool f0, .bool f1, .bool f2, .bool f3, .bool f4, .bool f5, .bool f6, .bool f7, .int .u32 q0, .int .u32 q1] 31) (lt_of_block hv5)).trans hv5)
    have HR5 := Lib.hid (heap_alloc_new w4 (.cells #[.bool f0, .bool f1, .bool f2, .bool f3, .bool f4, .bool f5, .bool f6, .bool f7, .int .u32 q0, .int .u32 q1] 31))
    have hB4 := HB3.out.trans (hb4.mono HB3.out.size)
    have HB4 := Lib.hid (hB4.alloc hB4.size (.cells #[.bool f0, .bool f1, .bool f2, .bool f3, .bool f4, .bool f5, .bool f6, .bool f7, .int .u32 q0, .int .u32 q1] 31))
    have hXK := HXK.out.trans (hb4.mono HXK.out.size)
    have HXK4 := Lib.hid (hXK.alloc hXK.size (.cells #[.bool f0, .bool f1, .bool f2, .bool f3, .bool f4, .bool f5, .bool f6, .bool f7, .int .u32 q0, .int .u32 q1] 31))
    clear hb4 hv4 hv5 hB4 HB3 HR3 HRV3 HRY HRZ HXK hXK
    go_wp2
    generalize (w4.alloc (.cells #[.bool f0, .bool f1, .bool f2, .bool f3, .bool f4, .bool f5, .bool f6, .bool f7, .int .u32 q0, .int .u32 q1] 31)) = V4 at HRV4 HR4 HR5 HB4 HXK4 ⊢
    have HTW := Lib.hid (fun X (hX : Below V4.heap.size V4 X) => And.intro ((hX.block _ (lt_of_block HR4.out)).trans HR4.out) ((hX.block _ (lt_of_block HR5.out)).trans HR5.out))
    have HDB := Lib.hid (Below.refl V4.heap.size V4).drew
    refine wp_region_held_drew (S := fun W => Below V4.drew.heap.size V4.drew W) (by kernel_rfl) (Below.refl _ _) (fun hHeld => ?_)
    refine wpAnyH_take (i := 0) (v := ?_) (by simp; rfl) (by kernel_rfl) (by kernel_rfl) (by kernel_rfl) (by exact fun _ _ _ h => h) (Or.inl ⟨by rfl, fun wx hSx => ?_⟩) hHeld ?_
    rotate_left
    · have hz := HTW.out wx (HDB.out.trans (hSx.mono HDB.out.size)); obtain ⟨p0, p1, p2⟩ := pcell hz.1; obtain ⟨s0, s1, s2, s3, s4, s5, s6, s7, s8, s9⟩ := scell hz.2; clear hSx hz; go_simp; (try with_reducible rfl)
    simp only [Act.put, List.setIfInBounds_toArray, List.set_cons_zero, List.set_cons_succ]
    refine wpAnyH_take (i := 2) (v := ?_) (by simp; rfl) (by kernel_rfl) (by kernel_rfl) (by kernel_rfl) (by exact fun _ _ _ h => h) (Or.inl ⟨by rfl, fun wx hSx => ?_⟩) hHeld ?_
    rotate_left
    · have hz := HTW.out wx (HDB.out.trans (hSx.mono HDB.out.size)); obtain ⟨p0, p1, p2⟩ := pcell hz.1; obtain ⟨s0, s1, s2, s3, s4, s5, s6, s7, s8, s9⟩ := scell hz.2; clear hSx hz; go_simp; (try with_reducible rfl)
    simp only [Act.put, List.setIfInBounds_toArray, List.set_cons_zero, List.set_cons_succ]
    refine wpAnyH_ready (rs := [1]) (by kernel_rfl) (by simp) ?_
    refine AllReadyH.cons (by simp; rfl) (fun K0 hK0 => ?_) AllReadyH.nil
    go_simp
    refine (HA2.out _).mono ?_
    rintro e v1 ⟨rfl, hx⟩
    have hbv1 : Below V4.drew.heap.size V4.drew v1 := hx
    have HDB2 := Lib.hid (HDB.out.trans (hbv1.mono HDB.out.size))
    clear HDB
    have HDB := HDB2
    clear HDB2
    clear hx
    refine hK0.out _ _ hbv1 (fun _ => ?_)
    clear hK0 K0 hHeld
    refine heldMono (S' := fun W => Below v1.heap.size v1 W) (fun _ h => hbv1.trans (h.mono hbv1.size)) _ _ _ _ ?_
    have hHeld := Below.refl v1.heap.size v1
    have HBv1 := Lib.hid hbv1
    clear hbv1
    refine wpAnyH_take (i := 3) (v := ?_) (by simp; rfl) (by kernel_rfl) (by kernel_rfl) (by kernel_rfl) (by exact fun _ _ _ h => h) (Or.inl ⟨by rfl, fun wx hSx => ?_⟩) hHeld ?_
    rotate_left
    · clear hSx; go_simp; (try with_reducible rfl)
    simp only [Act.put, List.setIfInBounds_toArray, List.set_cons_zero, List.set_cons_succ]
    refine wpAnyH_take (i := 4) (v := ?_) (by simp; rfl) (by kernel_rfl) (by kernel_rfl) (by kernel_rfl) (by exact fun _ _ _ h => h) (Or.inl ⟨by rfl, fun wx hSx => ?_⟩) hHeld ?_
    rotate_left
    · clear hSx; go_simp; (try with_reducible rfl)
    simp only [Act.put, List.setIfInBounds_toArray, List.set_cons_zero, List.set_cons_succ]
    refine wpAnyH_take (i := 5) (v := ?_) (by simp; rfl) (by kernel_rfl) (by kernel_rfl) (by kernel_rfl) (by exact fun _ _ _ h => h) (Or.inl ⟨by rfl, fun wx hSx => ?_⟩) hHeld ?_
    rotate_left
    · clear hSx; go_simp; (try with_reducible rfl)
    simp only [Act.put, List.setIfInBounds_toArray, List.set_cons_zero, List.set_cons_succ]
    refine wpAnyH_take (i := 6) (v := ?_) (by simp; rfl) (by kernel_rfl) (by kernel_rfl) (by kernel_rfl) (by exact fun _ _ _ h => h) (Or.inl ⟨by rfl, fun wx hSx => ?_⟩) hHeld ?_
    rotate_left
    · clear hSx; go_simp; (try with_reducible rfl)
    simp only [Act.put, List.setIfInBounds_toArray, List.set_cons_zero, List.set_cons_succ]
    refine wpAnyH_take (i := 7) (v := ?_) (by simp; rfl) (by kernel_rfl) (by kernel_rfl) (by kernel_rfl) (by exact fun _ _ _ h => h) (Or.inl ⟨by rfl, fun wx hSx => ?_⟩) hHeld ?_
    rotate_left
    · clear hSx; go_simp; (try with_reducible rfl)
    simp only [Act.put, List.setIfInBounds_toArray, List.set_cons_zero, List.set_cons_succ]
    refine wpAnyH_take (i := 8) (v := ?_) (by simp; rfl) (by kernel_rfl) (by kernel_rfl) (by kernel_rfl) (by exact fun _ _ _ h => h) (Or.inl ⟨by rfl, fun wx hSx => ?_⟩) hHeld ?_
    rotate_left
    · clear hSx; go_simp; (try with_reducible rfl)
    simp only [Act.put, List.setIfInBounds_toArray, List.set_cons_zero, List.set_cons_succ]
    refine wpAnyH_take (i := 9) (v := ?_) (by simp; rfl) (by kernel_rfl) (by kernel_rfl) (by kernel_rfl) (by exact fun _ _ _ h => h) (Or.inl ⟨by rfl, fun wx hSx => ?_⟩) hHeld ?_
    rotate_left
    · clear hSx; go_simp; (try with_reducible rfl)
    simp only [Act.put, List.setIfInBounds_toArray, List.set_cons_zero, List.set_cons_succ]
    refine wpAnyH_take (i := 10) (v := ?_) (by simp; rfl) (by kernel_rfl) (by kernel_rfl) (by kernel_rfl) (by exact fun _ _ _ h => h) (Or.inl ⟨by rfl, fun wx hSx => ?_⟩) hHeld ?_
    rotate_left
    · clear hSx; go_simp; (try with_reducible rfl)
    simp only [Act.put, List.setIfInBounds_toArray, List.set_cons_zero, List.set_cons_succ]
    refine wpAnyH_take (i := 11) (v := ?_) (by simp; rfl) (by kernel_rfl) (by kernel_rfl) (by kernel_rfl) (by exact fun _ _ _ h => h) (Or.inl ⟨by rfl, fun wx hSx => ?_⟩) hHeld ?_
    rotate_left
    · clear hSx; go_simp; (try with_reducible rfl)
    simp only [Act.put, List.setIfInBounds_toArray, List.set_cons_zero, List.set_cons_succ]
    refine wpAnyH_take (i := 12) (v := ?_) (by simp; rfl) (by kernel_rfl) (by kernel_rfl) (by kernel_rfl) (by exact fun _ _ _ h => h) (Or.inl ⟨by rfl, fun wx hSx => ?_⟩) hHeld ?_
    rotate_left
    · clear hSx; go_simp; (try with_reducible rfl)
    simp only [Act.put, List.setIfInBounds_toArray, List.set_cons_zero, List.set_cons_succ]
    refine wpAnyH_take (i := 13) (v := ?_) (by simp; rfl) (by kernel_rfl) (by kernel_rfl) (by kernel_rfl) (by exact fun _ _ _ h => h) (Or.inl ⟨by rfl, fun wx hSx => ?_⟩) hHeld ?_
    rotate_left
    · clear hSx; go_simp; (try with_reducible rfl)
    simp only [Act.put, List.setIfInBounds_toArray, List.set_cons_zero, List.set_cons_succ]
    refine wpAnyH_done (by kernel_rfl) ?_ _
    have HB5 := Lib.hid (HB4.out.trans (HDB.out.mono HB4.out.size))
    have HRV5 := Lib.hid ((HDB.out.block _ (lt_of_block HRV4.out)).trans HRV4.out)
    have HX5 := Lib.hid (HXK4.out.trans (HDB.out.mono HXK4.out.size))
    clear hHeld HDB HTW HRV4 HR4 HR5 HB4 HXK4 HA2
    clear HEQ z0 z1 z2 z3 z4 z5 z6 z7 z8 z9 zm zr
    obtain ⟨p0, p1, p2⟩ := pcell HRV5.out
    go_wp2_with fail
    refine (HAS.out _).mono ?_
    rintro e w6 ⟨rfl, hb6⟩
    go_wp2_with fail
    refine (HRG.out _).mono ?_
    rintro e w7 ⟨rfl, hb7⟩
    have hbb := hb6.trans (hb7.mono hb6.size)
    have HB7 := Lib.hid (HB5.out.trans (hbb.mono HB5.out.size))
    have HRV7 := Lib.hid ((hbb.block _ (lt_of_block HRV5.out)).trans HRV5.out)
    have HX7 := Lib.hid (HX5.out.trans (hbb.mono HX5.out.size))
    clear hb6 hb7 hbb HB5 HRV5 HX5 p0 p1 p2
    go_wp2_with fail
    refine (HAL.out _ HB7.out).mono ?_
    rintro e w8 ⟨rfl, hb8⟩
    have HB8 := Lib.hid (HB7.out.trans (hb8.mono HB7.out.size))
    clear hb8
    go_wp2
    go_ret
    exact ⟨rfl, HB8.out⟩
  · have HW := Lib.hid (fun U hU => HWR.out rfl U hU)
    clear HWN HWR
    go_wp2_with fail
    refine (HW.out _ HB0.out).mono ?_
    generalize (W.alloc (.cells #[.int .u8 a, .int .u32 f, .int .u32 g] 24)) = U at HB0 HROW ⊢
    rintro e V ⟨v1, rfl, o1⟩
    obtain ⟨A1, c1, rfl, k1, k2, hrx⟩ := bytes8 o1
    have HBV := Lib.hid (HB0.out.trans (o1.below.mono HB0.out.size))
    have HRV := Lib.hid ((o1.below.block _ (lt_of_block HROW.out)).trans HROW.out)
    have HRX := Lib.hid hrx
    clear o1 hrx k1 k2 HROW HB0 HW
    go_wp2_with fail
    refine (HRY.out _ HBV.out).mono ?_
    rintro e w3 ⟨rfl, hb3⟩
    have hv3 := (hb3.block _ (lt_of_block HRV.out)).trans HRV.out
    have hrv3 := (heap_alloc_old w3 (.cells #[.int .u8 p, .int .u32 q, .int .u32 r] 24) (lt_of_block hv3)).trans hv3
    have hB3 := HBV.out.trans (hb3.mono HBV.out.size)
    have HB3 := Lib.hid (hB3.alloc hB3.size (.cells #[.int .u8 p, .int .u32 q, .int .u32 r] 24))
    have HR3 := Lib.hid (heap_alloc_new w3 (.cells #[.int .u8 p, .int .u32 q, .int .u32 r] 24))
    have HRV3 := Lib.hid hrv3
    have HXK := Lib.hid (hb3.alloc hb3.size (.cells #[.int .u8 p, .int .u32 q, .int .u32 r] 24))
    clear hb3 hv3 hrv3 hB3
    go_wp2_with fail
    refine (HRZ.out _ HB3.out).mono ?_
    rintro e w4 ⟨rfl, hb4⟩
    have hv4 := (hb4.block _ (lt_of_block HRV3.out)).trans HRV3.out
    have hv5 := (hb4.block _ (lt_of_block HR3.out)).trans HR3.out
    have HRV4 := Lib.hid ((heap_alloc_old w4 (.cells #[.bool f0, .bool f1, .bool f2, .bool f3, .bool f4, .bool f5, .bool f6, .bool f7, .int .u32 q0, .int .u32 q1] 31) (lt_of_block hv4)).trans hv4)
    have HR4 := Lib.hid ((heap_alloc_old w4 (.cells #[.bool f0, .bool f1, .bool f2, .bool f3, .bool f4, .bool f5, .bool f6, .bool f7, .int .u32 q0, .int .u32 q1] 31) (lt_of_block hv5)).trans hv5)
    have HR5 := Lib.hid (heap_alloc_new w4 (.cells #[.bool f0, .bool f1, .bool f2, .bool f3, .bool f4, .bool f5, .bool f6, .bool f7, .int .u32 q0, .int .u32 q1] 31))
    have hB4 := HB3.out.trans (hb4.mono HB3.out.size)
    have HB4 := Lib.hid (hB4.alloc hB4.size (.cells #[.bool f0, .bool f1, .bool f2, .bool f3, .bool f4, .bool f5, .bool f6, .bool f7, .int .u32 q0, .int .u32 q1] 31))
    have hXK := HXK.out.trans (hb4.mono HXK.out.size)
    have HXK4 := Lib.hid (hXK.alloc hXK.size (.cells #[.bool f0, .bool f1, .bool f2, .bool f3, .bool f4, .bool f5, .bool f6, .bool f7, .int .u32 q0, .int .u32 q1] 31))
    clear hb4 hv4 hv5 hB4 HB3 HR3 HRV3 HRY HRZ HXK hXK
    go_wp2
    generalize (w4.alloc (.cells #[.bool f0, .bool f1, .bool f2, .bool f3, .bool f4, .bool f5, .bool f6, .bool f7, .int .u32 q0, .int .u32 q1] 31)) = V4 at HRV4 HR4 HR5 HB4 HXK4 ⊢
    have HTW := Lib.hid (fun X (hX : Below V4.heap.size V4 X) => And.intro ((hX.block _ (lt_of_block HR4.out)).trans HR4.out) ((hX.block _ (lt_of_block HR5.out)).trans HR5.out))
    have HDB := Lib.hid (Below.refl V4.heap.size V4).drew
    refine wp_region_held_drew (S := fun W => Below V4.drew.heap.size V4.drew W) (by kernel_rfl) (Below.refl _ _) (fun hHeld => ?_)
    refine wpAnyH_take (i := 0) (v := ?_) (by simp; rfl) (by kernel_rfl) (by kernel_rfl) (by kernel_rfl) (by exact fun _ _ _ h => h) (Or.inl ⟨by rfl, fun wx hSx => ?_⟩) hHeld ?_
    rotate_left
    · have hz := HTW.out wx (HDB.out.trans (hSx.mono HDB.out.size)); obtain ⟨p0, p1, p2⟩ := pcell hz.1; obtain ⟨s0, s1, s2, s3, s4, s5, s6, s7, s8, s9⟩ := scell hz.2; clear hSx hz; go_simp; (try with_reducible rfl)
    simp only [Act.put, List.setIfInBounds_toArray, List.set_cons_zero, List.set_cons_succ]
    refine wpAnyH_take (i := 2) (v := ?_) (by simp; rfl) (by kernel_rfl) (by kernel_rfl) (by kernel_rfl) (by exact fun _ _ _ h => h) (Or.inl ⟨by rfl, fun wx hSx => ?_⟩) hHeld ?_
    rotate_left
    · have hz := HTW.out wx (HDB.out.trans (hSx.mono HDB.out.size)); obtain ⟨p0, p1, p2⟩ := pcell hz.1; obtain ⟨s0, s1, s2, s3, s4, s5, s6, s7, s8, s9⟩ := scell hz.2; clear hSx hz; go_simp; (try with_reducible rfl)
    simp only [Act.put, List.setIfInBounds_toArray, List.set_cons_zero, List.set_cons_succ]
    refine wpAnyH_ready (rs := [1]) (by kernel_rfl) (by simp) ?_
    refine AllReadyH.cons (by simp; rfl) (fun K0 hK0 => ?_) AllReadyH.nil
    go_simp
    refine (HA2.out _).mono ?_
    rintro e v1 ⟨rfl, hx⟩
    have hbv1 : Below V4.drew.heap.size V4.drew v1 := hx
    have HDB2 := Lib.hid (HDB.out.trans (hbv1.mono HDB.out.size))
    clear HDB
    have HDB := HDB2
    clear HDB2
    clear hx
    refine hK0.out _ _ hbv1 (fun _ => ?_)
    clear hK0 K0 hHeld
    refine heldMono (S' := fun W => Below v1.heap.size v1 W) (fun _ h => hbv1.trans (h.mono hbv1.size)) _ _ _ _ ?_
    have hHeld := Below.refl v1.heap.size v1
    have HBv1 := Lib.hid hbv1
    clear hbv1
    refine wpAnyH_take (i := 3) (v := ?_) (by simp; rfl) (by kernel_rfl) (by kernel_rfl) (by kernel_rfl) (by exact fun _ _ _ h => h) (Or.inl ⟨by rfl, fun wx hSx => ?_⟩) hHeld ?_
    rotate_left
    · clear hSx; go_simp; (try with_reducible rfl)
    simp only [Act.put, List.setIfInBounds_toArray, List.set_cons_zero, List.set_cons_succ]
    refine wpAnyH_take (i := 4) (v := ?_) (by simp; rfl) (by kernel_rfl) (by kernel_rfl) (by kernel_rfl) (by exact fun _ _ _ h => h) (Or.inl ⟨by rfl, fun wx hSx => ?_⟩) hHeld ?_
    rotate_left
    · clear hSx; go_simp; (try with_reducible rfl)
    simp only [Act.put, List.setIfInBounds_toArray, List.set_cons_zero, List.set_cons_succ]
    refine wpAnyH_take (i := 5) (v := ?_) (by simp; rfl) (by kernel_rfl) (by kernel_rfl) (by kernel_rfl) (by exact fun _ _ _ h => h) (Or.inl ⟨by rfl, fun wx hSx => ?_⟩) hHeld ?_
    rotate_left
    · clear hSx; go_simp; (try with_reducible rfl)
    simp only [Act.put, List.setIfInBounds_toArray, List.set_cons_zero, List.set_cons_succ]
    refine wpAnyH_take (i := 6) (v := ?_) (by simp; rfl) (by kernel_rfl) (by kernel_rfl) (by kernel_rfl) (by exact fun _ _ _ h => h) (Or.inl ⟨by rfl, fun wx hSx => ?_⟩) hHeld ?_
    rotate_left
    · clear hSx; go_simp; (try with_reducible rfl)
    simp only [Act.put, List.setIfInBounds_toArray, List.set_cons_zero, List.set_cons_succ]
    refine wpAnyH_take (i := 7) (v := ?_) (by simp; rfl) (by kernel_rfl) (by kernel_rfl) (by kernel_rfl) (by exact fun _ _ _ h => h) (Or.inl ⟨by rfl, fun wx hSx => ?_⟩) hHeld ?_
    rotate_left
    · clear hSx; go_simp; (try with_reducible rfl)
    simp only [Act.put, List.setIfInBounds_toArray, List.set_cons_zero, List.set_cons_succ]
    refine wpAnyH_take (i := 8) (v := ?_) (by simp; rfl) (by kernel_rfl) (by kernel_rfl) (by kernel_rfl) (by exact fun _ _ _ h => h) (Or.inl ⟨by rfl, fun wx hSx => ?_⟩) hHeld ?_
    rotate_left
    · clear hSx; go_simp; (try with_reducible rfl)
    simp only [Act.put, List.setIfInBounds_toArray, List.set_cons_zero, List.set_cons_succ]
    refine wpAnyH_take (i := 9) (v := ?_) (by simp; rfl) (by kernel_rfl) (by kernel_rfl) (by kernel_rfl) (by exact fun _ _ _ h => h) (Or.inl ⟨by rfl, fun wx hSx => ?_⟩) hHeld ?_
    rotate_left
    · clear hSx; go_simp; (try with_reducible rfl)
    simp only [Act.put, List.setIfInBounds_toArray, List.set_cons_zero, List.set_cons_succ]
    refine wpAnyH_take (i := 10) (v := ?_) (by simp; rfl) (by kernel_rfl) (by kernel_rfl) (by kernel_rfl) (by exact fun _ _ _ h => h) (Or.inl ⟨by rfl, fun wx hSx => ?_⟩) hHeld ?_
    rotate_left
    · clear hSx; go_simp; (try with_reducible rfl)
    simp only [Act.put, List.setIfInBounds_toArray, List.set_cons_zero, List.set_cons_succ]
    refine wpAnyH_take (i := 11) (v := ?_) (by simp; rfl) (by kernel_rfl) (by kernel_rfl) (by kernel_rfl) (by exact fun _ _ _ h => h) (Or.inl ⟨by rfl, fun wx hSx => ?_⟩) hHeld ?_
    rotate_left
    · clear hSx; go_simp; (try with_reducible rfl)
    simp only [Act.put, List.setIfInBounds_toArray, List.set_cons_zero, List.set_cons_succ]
    refine wpAnyH_take (i := 12) (v := ?_) (by simp; rfl) (by kernel_rfl) (by kernel_rfl) (by kernel_rfl) (by exact fun _ _ _ h => h) (Or.inl ⟨by rfl, fun wx hSx => ?_⟩) hHeld ?_
    rotate_left
    · clear hSx; go_simp; (try with_reducible rfl)
    simp only [Act.put, List.setIfInBounds_toArray, List.set_cons_zero, List.set_cons_succ]
    refine wpAnyH_take (i := 13) (v := ?_) (by simp; rfl) (by kernel_rfl) (by kernel_rfl) (by kernel_rfl) (by exact fun _ _ _ h => h) (Or.inl ⟨by rfl, fun wx hSx => ?_⟩) hHeld ?_
    rotate_left
    · clear hSx; go_simp; (try with_reducible rfl)
    simp only [Act.put, List.setIfInBounds_toArray, List.set_cons_zero, List.set_cons_succ]
    refine wpAnyH_done (by kernel_rfl) ?_ _
    have HB5 := Lib.hid (HB4.out.trans (HDB.out.mono HB4.out.size))
    have HRV5 := Lib.hid ((HDB.out.block _ (lt_of_block HRV4.out)).trans HRV4.out)
    have HX5 := Lib.hid (HXK4.out.trans (HDB.out.mono HXK4.out.size))
    clear hHeld HDB HTW HRV4 HR4 HR5 HB4 HXK4 HA2
    clear HEQ z0 z1 z2 z3 z4 z5 z6 z7 z8 z9 zm zr
    obtain ⟨p0, p1, p2⟩ := pcell HRV5.out
    go_wp2_with fail
    refine (HAS.out _).mono ?_
    rintro e w6 ⟨rfl, hb6⟩
    go_wp2_with fail
    refine (HRG.out _).mono ?_
    rintro e w7 ⟨rfl, hb7⟩
    have hbb := hb6.trans (hb7.mono hb6.size)
    have HB7 := Lib.hid (HB5.out.trans (hbb.mono HB5.out.size))
    have HRV7 := Lib.hid ((hbb.block _ (lt_of_block HRV5.out)).trans HRV5.out)
    have HX7 := Lib.hid (HX5.out.trans (hbb.mono HX5.out.size))
    clear hb6 hb7 hbb HB5 HRV5 HX5 p0 p1 p2
    obtain ⟨S, hS⟩ : ∃ S, strOfNums X = S := ⟨_, rfl⟩
    have HC1 := Lib.hid (fun (Y : World) (hY : Below w7.heap.size w7 Y) => hS ▸ conv_text (w := Y) rfl c1 (RI.below (RI.below HRX.out HX7.out) hY))
    have sS : (S.toList == S.toList) = true := by simp
    have HTW := Lib.hid (fun Y (hY : Below w7.heap.size w7 Y) => (hY.block _ (lt_of_block HRV7.out)).trans HRV7.out)
    go_wp2
    have HDB := Lib.hid (Below.refl w7.heap.size w7).drew
    refine wp_region_held_drew (S := fun W => Below w7.drew.heap.size w7.drew W) (by kernel_rfl) (Below.refl _ _) (fun hHeld => ?_)
    refine wpAnyH_ready (rs := [0]) (by kernel_rfl) (by simp) ?_
    refine AllReadyH.cons (by simp; rfl) (fun K0 hK0 => ?_) AllReadyH.nil
    go_simp
    refine (HAL.out _ (HB7.out.trans (HDB.out.mono HB7.out.size))).mono ?_
    rintro e v1 ⟨rfl, hx⟩
    have hbv1 : Below w7.drew.heap.size w7.drew v1 := hx
    have HDB2 := Lib.hid (HDB.out.trans (hbv1.mono HDB.out.size))
    clear HDB
    have HDB := HDB2
    clear HDB2
    clear hx
    refine hK0.out _ _ hbv1 (fun _ => ?_)
    clear hK0 K0 hHeld
    refine heldMono (S' := fun W => Below v1.heap.size v1 W) (fun _ h => hbv1.trans (h.mono hbv1.size)) _ _ _ _ ?_
    have hHeld := Below.refl v1.heap.size v1
    have HBv1 := Lib.hid hbv1
    clear hbv1
    refine wpAnyH_take (i := 1) (v := ?_) (by simp; rfl) (by kernel_rfl) (by kernel_rfl) (by kernel_rfl) (by exact fun _ _ _ h => h) (Or.inl ⟨by rfl, fun wx hSx => ?_⟩) hHeld ?_
    rotate_left
    · clear hSx; go_simp; (try with_reducible rfl)
    simp only [Act.put, List.setIfInBounds_toArray, List.set_cons_zero, List.set_cons_succ]
    refine wpAnyH_take (i := 2) (v := ?_) (by simp; rfl) (by kernel_rfl) (by kernel_rfl) (by kernel_rfl) (by exact fun _ _ _ h => h) (Or.inl ⟨by rfl, fun wx hSx => ?_⟩) hHeld ?_
    rotate_left
    · clear hSx; go_simp; (try with_reducible rfl)
    simp only [Act.put, List.setIfInBounds_toArray, List.set_cons_zero, List.set_cons_succ]
    refine wpAnyH_take (i := 3) (v := ?_) (by simp; rfl) (by kernel_rfl) (by kernel_rfl) (by kernel_rfl) (by exact fun _ _ _ h => h) (Or.inl ⟨by rfl, fun wx hSx => ?_⟩) hHeld ?_
    rotate_left
    · clear hSx; go_simp; (try with_reducible rfl)
    simp only [Act.put, List.setIfInBounds_toArray, List.set_cons_zero, List.set_cons_succ]
    refine wpAnyH_take (i := 4) (v := ?_) (by simp; rfl) (by kernel_rfl) (by kernel_rfl) (by kernel_rfl) (by exact fun _ _ _ h => h) (Or.inl ⟨by rfl, fun wx hSx => ?_⟩) hHeld ?_
    rotate_left
    · clear hSx; go_simp; (try with_reducible rfl)
    simp only [Act.put, List.setIfInBounds_toArray, List.set_cons_zero, List.set_cons_succ]
    refine wpAnyH_take (i := 5) (v := ?_) (by simp; rfl) (by kernel_rfl) (by kernel_rfl) (by kernel_rfl) (by exact fun _ _ _ h => h) (Or.inl ⟨by rfl, fun wx hSx => ?_⟩) hHeld ?_
    rotate_left
    · clear hSx; go_simp; (try with_reducible rfl)
    simp only [Act.put, List.setIfInBounds_toArray, List.set_cons_zero, List.set_cons_succ]
    refine wpAnyH_take (i := 6) (v := ?_) (by simp; rfl) (by kernel_rfl) (by kernel_rfl) (by kernel_rfl) (by exact fun _ _ _ h => h) (Or.inl ⟨by rfl, fun wx hSx => ?_⟩) hHeld ?_
    rotate_left
    · clear hSx; go_simp; (try with_reducible rfl)
    simp only [Act.put, List.setIfInBounds_toArray, List.set_cons_zero, List.set_cons_succ]
    refine wpAnyH_take (i := 7) (v := ?_) (by simp; rfl) (by kernel_rfl) (by kernel_rfl) (by kernel_rfl) (by exact fun _ _ _ h => h) (Or.inl ⟨by rfl, fun wx hSx => ?_⟩) hHeld ?_
    rotate_left
    · have hc := HC1.out wx (HDB.out.trans (hSx.mono HDB.out.size)); clear hSx; go_simp; (try with_reducible rfl)
    simp only [Act.put, List.setIfInBounds_toArray, List.set_cons_zero, List.set_cons_succ]
    refine wpAnyH_take (i := 8) (v := ?_) (by simp; rfl) (by kernel_rfl) (by kernel_rfl) (by kernel_rfl) (by exact fun _ _ _ h => h) (Or.inl ⟨by rfl, fun wx hSx => ?_⟩) hHeld ?_
    rotate_left
    · have hz := HTW.out wx (HDB.out.trans (hSx.mono HDB.out.size)); obtain ⟨p0, p1, p2⟩ := pcell hz; clear hSx hz; go_simp; (try with_reducible rfl)
    simp only [Act.put, List.setIfInBounds_toArray, List.set_cons_zero, List.set_cons_succ]
    refine wpAnyH_ready (rs := [9]) (by kernel_rfl) (by simp) ?_
    refine AllReadyH.cons (by simp; rfl) (fun K0 hK0 => ?_) AllReadyH.nil
    go_simp
    refine (HAS.out _).mono ?_
    rintro e v20 ⟨rfl, hx⟩
    have hbv20 : Below v1.heap.size v1 v20 := hx
    have HDB2 := Lib.hid (HDB.out.trans (hbv20.mono HDB.out.size))
    clear HDB
    have HDB := HDB2
    clear HDB2
    clear hx
    refine hK0.out _ _ hbv20 (fun _ => ?_)
    clear hK0 K0 hHeld
    refine heldMono (S' := fun W => Below v20.heap.size v20 W) (fun _ h => hbv20.trans (h.mono hbv20.size)) _ _ _ _ ?_
    have hHeld := Below.refl v20.heap.size v20
    have HBv20 := Lib.hid hbv20
    clear hbv20
    refine wpAnyH_ready (rs := [10]) (by kernel_rfl) (by simp) ?_
    refine AllReadyH.cons (by simp; rfl) (fun K0 hK0 => ?_) AllReadyH.nil
    go_simp
    refine (HRW.out _).mono ?_
    rintro e v39 ⟨v2, rfl, o2⟩
    have hbv39 : Below v20.heap.size v20 v39 := o2.below
    have HDB2 := Lib.hid (HDB.out.trans (hbv39.mono HDB.out.size))
    clear HDB
    have HDB := HDB2
    clear HDB2
    obtain ⟨A2, c2, rfl, _, _, hr2⟩ := bytes8 o2
    have HC2 := Lib.hid (fun (Y : World) (hY : Below v39.heap.size v39 Y) => hS ▸ conv_text (w := Y) rfl c2 (RI.below (by exact hr2) hY))
    clear o2 hr2
    refine hK0.out _ _ hbv39 (fun _ => ?_)
    clear hK0 K0 hHeld
    refine heldMono (S' := fun W => Below v39.heap.size v39 W) (fun _ h => hbv39.trans (h.mono hbv39.size)) _ _ _ _ ?_
    have hHeld := Below.refl v39.heap.size v39
    have HBv39 := Lib.hid hbv39
    clear hbv39
    refine wpAnyH_take (i := 11) (v := ?_) (by simp; rfl) (by kernel_rfl) (by kernel_rfl) (by kernel_rfl) (by exact fun _ _ _ h => h) (Or.inl ⟨by rfl, fun wx hSx => ?_⟩) hHeld ?_
    rotate_left
    · have hc := HC2.out wx hSx; clear hSx; go_simp; (try with_reducible rfl)
    simp only [Act.put, List.setIfInBounds_toArray, List.set_cons_zero, List.set_cons_succ]
    refine wpAnyH_take (i := 12) (v := ?_) (by simp; rfl) (by kernel_rfl) (by kernel_rfl) (by kernel_rfl) (by exact fun _ _ _ h => h) (Or.inl ⟨by rfl, fun wx hSx => ?_⟩) hHeld ?_
    rotate_left
    · clear hSx; go_simp; (try with_reducible rfl)
    simp only [Act.put, List.setIfInBounds_toArray, List.set_cons_zero, List.set_cons_succ]
    refine wpAnyH_take (i := 13) (v := ?_) (by simp; rfl) (by kernel_rfl) (by kernel_rfl) (by kernel_rfl) (by exact fun _ _ _ h => h) (Or.inl ⟨by rfl, fun wx hSx => ?_⟩) hHeld ?_
    rotate_left
    · clear hSx; go_simp; (try with_reducible rfl)
    simp only [Act.put, List.setIfInBounds_toArray, List.set_cons_zero, List.set_cons_succ]
    refine wpAnyH_take (i := 14) (v := ?_) (by simp; rfl) (by kernel_rfl) (by kernel_rfl) (by kernel_rfl) (by exact fun _ _ _ h => h) (Or.inl ⟨by rfl, fun wx hSx => ?_⟩) hHeld ?_
    rotate_left
    · clear hSx; go_simp; (try with_reducible rfl)
    simp only [Act.put, List.setIfInBounds_toArray, List.set_cons_zero, List.set_cons_succ]
    refine wpAnyH_done (by kernel_rfl) ?_ _
    have HBF := Lib.hid (HB7.out.trans (HDB.out.mono HB7.out.size))
    clear hHeld HDB
    go_wp2
    go_ret
    exact ⟨rfl, HBF.out⟩
end Go.Proofs.YtohhmpkmcodoeaaDoor
