/-
  Proved here: what is done to a grid, of both (0, 7).
-/
import Derived.Test.YtahmnipcdkcpiaaHj
import Derived.Deep.DeepCutAuto
set_option linter.unusedSimpArgs false
set_option linter.unusedVariables false
namespace Go.Proofs.Ytahmnipcdkcpiaa
open Go.RowKit
set_option maxRecDepth 100000 in
set_option maxHeartbeats 64000000 in
theorem do_0 {B g b cap R C yb ycap n s : Nat} {L : List Ce} {w : World} (hs : w.heap.size = s) (hG : Gr g b cap R C L w) (hY : YR w yb L) (hn : R * C = n) (hyg : yb ≠ g) (hyb : yb ≠ b) (hO : OkL L) (hBg : B ≤ g) (hBb : B ≤ b) (oa ob on p f gg bb : Int) (hf : 0 ≤ f ∧ f < 256) :
    Calls Try.prog 10 #[.pointer (some ⟨g, 0, none⟩), XV R C yb n ycap, .agg #[.int .i64 0, .int .i64 oa, .int .i64 ob, .int .i64 on, .int .i32 p, .int .u8 f, .int .u32 gg, .int .u32 bb]] w (DoPost B g w) := by
  obtain ⟨cp, c0, c1, c2, c3, c4, c5, c6, c7, cg, cb, hc⟩ := yC_form ⟨p, f, gg, bb⟩
  have hcell := fun W => l_cell ⟨p, f, gg, bb⟩ W hf.1 hf.2
  have hyv : yV ⟨p, f, gg, bb⟩ = .agg #[.int .i32 cp, .bool c0, .bool c1, .bool c2, .bool c3, .bool c4, .bool c5, .bool c6, .bool c7, .int .u32 cg, .int .u32 cb] := by unfold yV; rw [hc]
  rw [hyv] at hcell
  have HCE : Hid (∀ W, Calls Try.prog 13 #[.agg #[.int .i32 p, .int .u8 f, .int .u32 gg, .int .u32 bb]] W fun e w' => e = .returned (.agg #[.int .i32 cp, .bool c0, .bool c1, .bool c2, .bool c3, .bool c4, .bool c5, .bool c6, .bool c7, .int .u32 cg, .int .u32 cb]) ∧ Below W.heap.size W w') := Lib.hid hcell
  have Hc := Lib.hid (fun (_ : Unit) => hc)
  have HYV := Lib.hid (fun (_ : Unit) => hyv)
  have HN := Lib.hid hn
  have HLN := Lib.hid (hG.len.trans hn)
  have HPS := Lib.hid (show 1 ≤ R ∧ R ≤ 12 ∧ 1 ≤ C ∧ C ≤ 40 ∧ 1 ≤ n ∧ n ≤ 480 from ⟨hG.pos.1, hG.pos.2.1, hG.pos.2.2.1, hG.pos.2.2.2, by rw [← hn]; exact Nat.mul_pos hG.pos.1 hG.pos.2.2.1, by rw [← hn]; exact hG.room.2.1⟩)
  have HOK := Lib.hid (And.intro hO (show OkC ⟨p, f, gg, bb⟩ from hf))
  have HS0 := Lib.hid (show w.heap.size = s ∧ B ≤ s ∧ g < s ∧ yb < s ∧ yb ≠ g ∧ B ≤ g from ⟨hs, by have := hG.lt; omega, by rw [← hs]; exact hG.lt, by rw [← hs]; exact hY.1, hyg, hBg⟩)
  have HS1 := Lib.hid (show b < s ∧ B ≤ b ∧ yb ≠ b from ⟨by rw [← hs]; exact hG.row.lt, hBb, hyb⟩)
  have hb0 : Below w.heap.size w (((w.alloc (.cells #[.int .i64 R, .int .i64 C, .slice (some ⟨yb, 0, none⟩) n ycap] 29)).alloc (.cells #[.int .i64 0, .int .i64 oa, .int .i64 ob, .int .i64 on, .int .i32 p, .int .u8 f, .int .u32 gg, .int .u32 bb] 41)).alloc (.cells #[.int .i64 0, .int .i64 0, .slice none 0 0] 29)) := (((Below.refl _ _).alloc (Nat.le_refl _) _).alloc (by simp) _).alloc (by simp; omega) _
  have HU0 : Hid ((((w.alloc (.cells #[.int .i64 R, .int .i64 C, .slice (some ⟨yb, 0, none⟩) n ycap] 29)).alloc (.cells #[.int .i64 0, .int .i64 oa, .int .i64 ob, .int .i64 on, .int .i32 p, .int .u8 f, .int .u32 gg, .int .u32 bb] 41)).alloc (.cells #[.int .i64 0, .int .i64 0, .slice none 0 0] 29)).heap[s]? = some (.cells #[.int .i64 R, .int .i64 C, .slice (some ⟨yb, 0, none⟩) n ycap] 29 (0, 0)) ∧ (((w.alloc (.cells #[.int .i64 R, .int .i64 C, .slice (some ⟨yb, 0, none⟩) n ycap] 29)).alloc (.cells #[.int .i64 0, .int .i64 oa, .int .i64 ob, .int .i64 on, .int .i32 p, .int .u8 f, .int .u32 gg, .int .u32 bb] 41)).alloc (.cells #[.int .i64 0, .int .i64 0, .slice none 0 0] 29)).heap[s + 1]? = some (.cells #[.int .i64 0, .int .i64 oa, .int .i64 ob, .int .i64 on, .int .i32 p, .int .u8 f, .int .u32 gg, .int .u32 bb] 41 (0, 0)) ∧ (((w.alloc (.cells #[.int .i64 R, .int .i64 C, .slice (some ⟨yb, 0, none⟩) n ycap] 29)).alloc (.cells #[.int .i64 0, .int .i64 oa, .int .i64 ob, .int .i64 on, .int .i32 p, .int .u8 f, .int .u32 gg, .int .u32 bb] 41)).alloc (.cells #[.int .i64 0, .int .i64 0, .slice none 0 0] 29)).heap[s + 2]? = some (.cells #[.int .i64 0, .int .i64 0, .slice none 0 0] 29 (0, 0)) ∧ Below w.heap.size w (((w.alloc (.cells #[.int .i64 R, .int .i64 C, .slice (some ⟨yb, 0, none⟩) n ycap] 29)).alloc (.cells #[.int .i64 0, .int .i64 oa, .int .i64 ob, .int .i64 on, .int .i32 p, .int .u8 f, .int .u32 gg, .int .u32 bb] 41)).alloc (.cells #[.int .i64 0, .int .i64 0, .slice none 0 0] 29))) := Lib.hid (by
    subst hs
    have b1 := (Below.refl (w.alloc (.cells #[.int .i64 R, .int .i64 C, .slice (some ⟨yb, 0, none⟩) n ycap] 29)).heap.size (w.alloc (.cells #[.int .i64 R, .int .i64 C, .slice (some ⟨yb, 0, none⟩) n ycap] 29))).alloc (Nat.le_refl _) (.cells #[.int .i64 0, .int .i64 oa, .int .i64 ob, .int .i64 on, .int .i32 p, .int .u8 f, .int .u32 gg, .int .u32 bb] 41)
    have b2 := (Below.refl ((w.alloc (.cells #[.int .i64 R, .int .i64 C, .slice (some ⟨yb, 0, none⟩) n ycap] 29)).alloc (.cells #[.int .i64 0, .int .i64 oa, .int .i64 ob, .int .i64 on, .int .i32 p, .int .u8 f, .int .u32 gg, .int .u32 bb] 41)).heap.size ((w.alloc (.cells #[.int .i64 R, .int .i64 C, .slice (some ⟨yb, 0, none⟩) n ycap] 29)).alloc (.cells #[.int .i64 0, .int .i64 oa, .int .i64 ob, .int .i64 on, .int .i32 p, .int .u8 f, .int .u32 gg, .int .u32 bb] 41))).alloc (Nat.le_refl _) (.cells #[.int .i64 0, .int .i64 0, .slice none 0 0] 29)
    refine ⟨?_, ?_, ?_, hb0⟩
    · exact (b2.block w.heap.size (by simp; omega)).trans ((b1.block w.heap.size (by simp)).trans (heap_alloc_new w _))
    · refine (b2.block (w.heap.size + 1) (by simp)).trans ?_
      have := heap_alloc_new (w.alloc (.cells #[.int .i64 R, .int .i64 C, .slice (some ⟨yb, 0, none⟩) n ycap] 29)) (.cells #[.int .i64 0, .int .i64 oa, .int .i64 ob, .int .i64 on, .int .i32 p, .int .u8 f, .int .u32 gg, .int .u32 bb] 41)
      simpa using this
    · have := heap_alloc_new ((w.alloc (.cells #[.int .i64 R, .int .i64 C, .slice (some ⟨yb, 0, none⟩) n ycap] 29)).alloc (.cells #[.int .i64 0, .int .i64 oa, .int .i64 ob, .int .i64 on, .int .i32 p, .int .u8 f, .int .u32 gg, .int .u32 bb] 41)) (.cells #[.int .i64 0, .int .i64 0, .slice none 0 0] 29)
      simpa using this)
  have HG0 := Lib.hid hG
  have HY0 := Lib.hid hY
  clear hG hY hn hyg hyb hO hBg hBb hf hc hyv hcell hb0
  go_enter Try.func10, Try.ntmps10
  go_upto_region 1 with fail
  simp only [hs] at HU0 ⊢
  generalize (((w.alloc (.cells #[.int .i64 R, .int .i64 C, .slice (some ⟨yb, 0, none⟩) n ycap] 29)).alloc (.cells #[.int .i64 0, .int .i64 oa, .int .i64 ob, .int .i64 on, .int .i32 p, .int .u8 f, .int .u32 gg, .int .u32 bb] 41)).alloc (.cells #[.int .i64 0, .int .i64 0, .slice none 0 0] 29)) = U at HU0 ⊢
  obtain ⟨o0, o1, o2, o3, o4, o5, o6, o7⟩ := op_cells HU0.out.2.1
  go_wp2_with fail
  refine (HCE.out _).mono ?_
  rintro e w0 ⟨rfl, hb1⟩
  have hsz0 : s + 3 ≤ w0.heap.size := by have := lt_of_block HU0.out.2.2.1; have := hb1.size; omega
  have hbA := (Below.refl w0.heap.size w0).alloc (Nat.le_refl _) (.cells #[.int .i32 cp, .bool c0, .bool c1, .bool c2, .bool c3, .bool c4, .bool c5, .bool c6, .bool c7, .int .u32 cg, .int .u32 cb] 49)
  have hbX := hb1.trans (hbA.mono hb1.size)
  have D1 : Hid (Dx s w0.heap.size #[.int .i64 R, .int .i64 C, .slice (some ⟨yb, 0, none⟩) n ycap] #[.int .i64 0, .int .i64 oa, .int .i64 ob, .int .i64 on, .int .i32 p, .int .u8 f, .int .u32 gg, .int .u32 bb] ⟨p, f, gg, bb⟩ (w0.alloc (.cells #[.int .i32 cp, .bool c0, .bool c1, .bool c2, .bool c3, .bool c4, .bool c5, .bool c6, .bool c7, .int .u32 cg, .int .u32 cb] 49))) := Lib.hid
    ⟨(hbX.block _ (lt_of_block HU0.out.1)).trans HU0.out.1, (hbX.block _ (lt_of_block HU0.out.2.1)).trans HU0.out.2.1, (hbX.block _ (lt_of_block HU0.out.2.2.1)).trans HU0.out.2.2.1, by rw [Hc.out ()]; exact heap_alloc_new w0 _, hsz0⟩
  have HBW0 : Below w.heap.size w (w0.alloc (.cells #[.int .i32 cp, .bool c0, .bool c1, .bool c2, .bool c3, .bool c4, .bool c5, .bool c6, .bool c7, .int .u32 cg, .int .u32 cb] 49)) := by
    rw [hs]
    have hq0 := HU0.out.2.2.2
    exact hq0.trans (hbX.mono (by rw [← hs]; exact hq0.size))
  have HG1 := Lib.hid (HG0.out.below HBW0)
  have HY1 := Lib.hid (HY0.out.below HBW0)
  have HBW := Lib.hid (And.intro HBW0 (show s + 3 ≤ (w0.alloc (.cells #[.int .i32 cp, .bool c0, .bool c1, .bool c2, .bool c3, .bool c4, .bool c5, .bool c6, .bool c7, .int .u32 cg, .int .u32 cb] 49)).heap.size from Nat.le_trans hsz0 (by simp)))
  obtain ⟨kb, hkb⟩ : ∃ c, w0.heap.size = c := ⟨_, rfl⟩
  clear hb1 hsz0 hbA hbX HBW0 HU0 HG0 HY0 HCE hs o0 o1 o2 o3 o4 o5 o6 o7
  go_upto_region 2 with fail
  generalize (w0.alloc (.cells #[.int .i32 cp, .bool c0, .bool c1, .bool c2, .bool c3, .bool c4, .bool c5, .bool c6, .bool c7, .int .u32 cg, .int .u32 cb] 49)) = w1 at D1 HG1 HY1 HBW ⊢
  simp only [hkb] at D1 ⊢
  clear hkb
  obtain ⟨x0, x1, x2⟩ := D1.out.three
  obtain ⟨o0, o1, o2, o3, o4, o5, o6, o7⟩ := op_cells D1.out.o
  have hcc := D1.out.c
  rw [Hc.out ()] at hcc
  obtain ⟨k0, k1, k2, k3, k4, k5, k6, k7, k8, k9, k10⟩ := cells11 hcc
  clear hcc
  go_upto_region 3 with fail
  go_cut [11] (fun a wx => a = .bool (!btwB R oa ob on) ∧ wx = w1)
  case first =>
    obtain ⟨W, hW⟩ : ∃ W, (!btwB R oa ob on) = W := ⟨_, rfl⟩
    have HW := Lib.hid hW
    have hW2 : W = (decide (oa < 0) || decide (ob < oa) || decide ((R : Int) ≤ ob) || decide (on < 0)) := by
      rw [← hW]
      unfold btwB hasR
      rw [Bool.eq_iff_iff]
      simp
      omega
    by_cases h1 : oa < 0
    · obtain rfl : W = true := by rw [hW2]; simp [h1]
      have p1 : decide (oa < 0) = true := by simpa using h1
      clear hW hW2 h1
      go_wp2
      go_meet
      exact ⟨by rw [HW.out], rfl⟩
    have p1 : decide (oa < 0) = false := by simpa using h1
    by_cases h2 : ob < oa
    · obtain rfl : W = true := by rw [hW2]; simp [h2]
      have p2 : decide (ob < oa) = true := by simpa using h2
      have p2b : decide (oa > ob) = true := p2
      clear hW hW2 h1 h2
      go_wp2
      go_meet
      exact ⟨by rw [HW.out], rfl⟩
    have p2 : decide (ob < oa) = false := by simpa using h2
    have p2b : decide (oa > ob) = false := p2
    by_cases h3 : (R : Int) ≤ ob
    · obtain rfl : W = true := by rw [hW2]; simp [h3]
      have p3 : decide ((R : Int) ≤ ob) = true := by simpa using h3
      have p3b : decide (ob ≥ (R : Int)) = true := p3
      clear hW hW2 h1 h2 h3
      go_wp2
      go_meet
      exact ⟨by rw [HW.out], rfl⟩
    have p3 : decide ((R : Int) ≤ ob) = false := by simpa using h3
    have p3b : decide (ob ≥ (R : Int)) = false := p3
    by_cases h4 : on < 0
    · obtain rfl : W = true := by rw [hW2]; simp [h4]
      have p4 : decide (on < 0) = true := by simpa using h4
      clear hW hW2 h1 h2 h3 h4
      go_wp2
      go_meet
      exact ⟨by rw [HW.out], rfl⟩
    have p4 : decide (on < 0) = false := by simpa using h4
    obtain rfl : W = false := by rw [hW2, p1, p2, p3, p4]; rfl
    clear hW hW2 h1 h2 h3 h4
    go_wp2
    go_meet
    exact ⟨by rw [HW.out], rfl⟩
  case rest =>
    obtain ⟨rfl, rfl⟩ := hcut
    go_upto_if 40 with fail
    go_cut [12] (fun z wx => z = .int .i64 (by60 on) ∧ wx = wc)
    case first =>
      obtain ⟨W, hW⟩ : ∃ W, by60 on = W := ⟨_, rfl⟩
      have HW := Lib.hid hW
      unfold by60 at hW
      by_cases h1 : 60 < on
      · rw [if_pos h1] at hW
        subst hW
        have p1 : decide (60 < on) = true := by simpa using h1
        have p2 : decide (on > 60) = true := p1
        clear h1
        rw [p1]
        go_wp2
        go_meet
        exact ⟨by rw [HW.out], rfl⟩
      · rw [if_neg h1] at hW
        have p1 : decide (60 < on) = false := by simpa using h1
        have p2 : decide (on > 60) = false := p1
        by_cases h2 : 0 < on
        · rw [if_pos h2] at hW
          have p3 : decide (0 < on) = true := by simpa using h2
          have p4 : decide (on > 0) = true := p3
          subst hW
          clear h1 h2
          rw [p1]
          go_wp2
          go_meet
          exact ⟨by rw [HW.out], rfl⟩
        · rw [if_neg h2] at hW
          have p3 : decide (0 < on) = false := by simpa using h2
          have p4 : decide (on > 0) = false := p3
          subst hW
          clear h1 h2
          rw [p1]
          go_wp2
          go_meet
          exact ⟨by rw [HW.out], rfl⟩
    case rest =>
      obtain ⟨rfl, rfl⟩ := hcut
      have HK : ∃ (E : Int) (R3 C3 n3 : Nat) (L3 : List Ce), R3 * C3 = n3 ∧ OkL L3 ∧ Calls Try.prog 18 #[.pointer (some ⟨g, 0, none⟩), .int .i64 oa, .int .i64 ob, .agg #[.int .i32 p, .int .u8 f, .int .u32 gg, .int .u32 bb]] wc (PP B s g yb E R3 C3 L3 wc) ∧ ∀ W, YR W yb L → Calls Try.prog 33 #[.agg #[.int .i64 R, .int .i64 C, .slice (some ⟨yb, 0, none⟩) n ycap], .int .i64 oa, .int .i64 ob, .agg #[.int .i32 cp, .bool c0, .bool c1, .bool c2, .bool c3, .bool c4, .bool c5, .bool c6, .bool c7, .int .u32 cg, .int .u32 cb]] W (RP yb E R3 C3 n3 L3 W) := by
        cases hq : hasC R C oa ob with
        | false =>
          skip
          exact ⟨1, R, C, n, L, HN.out, HOK.out.1, (put_gr HG1.out oa ob ⟨p, f, gg, bb⟩).mono (by rintro e w9 ⟨e1, e2, e3⟩; exact ⟨b, cap, b, by rw [e1, hq]; rfl, by rw [hq, if_neg (by decide)] at e2; exact e2, e3, HS1.out.2.1, HS1.out.2.2, by have := HS1.out.1; omega, by have := HS1.out.1; omega, HS1.out.1, HS1.out.2.1, fun e => HS1.out.2.2 e.symm, .inl HS1.out.1, by obtain ⟨cur, hcu, _⟩ := HG1.out.row; exact .inr ⟨cur, hcu⟩⟩), fun W hW => (show Calls _ _ _ _ _ from by rw [← HYV.out ()]; exact rput_no hq ⟨p, f, gg, bb⟩).mono (by rintro e w9 ⟨e1, e2⟩; exact ⟨yb, ycap, e1, hW.below e2, .inl rfl, e2⟩)⟩
        | true =>
          obtain ⟨i, j, rfl, rfl, hi, hj⟩ := has_bounds hq
          have hkn : i * C + j < n := by have := ix_lt hi hj; rw [HN.out] at this; exact this
          exact ⟨0, R, C, n, L.set (i * C + j) ⟨p, f, gg, bb⟩, HN.out, okL_set HOK.out.1 HOK.out.2, (put_gr HG1.out (i : Int) (j : Int) ⟨p, f, gg, bb⟩).mono (by rintro e w9 ⟨e1, e2, e3⟩; exact ⟨b, cap, b, by rw [e1, hq]; rfl, by rw [hq, if_pos rfl, Int.toNat_natCast, Int.toNat_natCast] at e2; exact e2, e3, HS1.out.2.1, HS1.out.2.2, by have := HS1.out.1; omega, by have := HS1.out.1; omega, HS1.out.1, HS1.out.2.1, fun e => HS1.out.2.2 e.symm, .inl HS1.out.1, by obtain ⟨cur, hcu, _⟩ := HG1.out.row; exact .inr ⟨cur, hcu⟩⟩), fun W hW => (show Calls _ _ _ _ _ from by rw [← HYV.out ()]; exact rput_yes (cap := ycap) hW HLN.out (by have := HPS.out; omega) (by have := HPS.out; omega) hq rfl rfl hkn ⟨p, f, gg, bb⟩).mono (fun _ _ h => rp_of h)⟩
      obtain ⟨E, R3, C3, n3, L3, hn3, hok3, hpc, hrc⟩ := HK
      have HN3 := Lib.hid (And.intro hn3 hok3)
      have HPC := Lib.hid hpc
      have HRC := Lib.hid hrc
      clear hn3 hok3 hpc hrc
      go_wp2_with fail
      refine HPC.out.mono ?_
      rintro e w2 ⟨b2, cap2, k, rfl, hG2, hgr, hBb, hyb2, hbs1, hbs2, hks, hBk, hky, hbw, hkt⟩
      have D2 := Lib.hid (D1.out.grown hgr hks)
      have HY2 := Lib.hid (HY1.out.grown hgr (fun e => hky (by injection e with e; exact e.symm)))
      have HG2 := Lib.hid hG2
      have HGR := Lib.hid hgr
      have HNS := Lib.hid (And.intro hBb (And.intro hyb2 (And.intro hbs1 (And.intro hbs2 (And.intro hBk hkt)))))
      clear hG2 hgr hBb hyb2 hbs1 hbs2 hks hBk hky hbw hkt HPC D1 x0 x1 x2 o0 o1 o2 o3 o4 o5 o6 o7 k0 k1 k2 k3 k4 k5 k6 k7 k8 k9 k10
      obtain ⟨x0, x1, x2⟩ := D2.out.three
      obtain ⟨o0, o1, o2, o3, o4, o5, o6, o7⟩ := op_cells D2.out.o
      have hcc := D2.out.c
      rw [Hc.out ()] at hcc
      obtain ⟨k0, k1, k2, k3, k4, k5, k6, k7, k8, k9, k10⟩ := cells11 hcc
      clear hcc
      go_wp2_with fail
      refine (HRC.out _ HY2.out).mono ?_
      rintro e w3 ⟨y2, yc2, rfl, hyr, hor, hb3⟩
      have hws := lt_of_block D2.out.c
      have hlt := D2.out.lt
      have HYN := Lib.hid (show y2 ≠ s ∧ y2 ≠ s + 2 ∧ y2 ≠ g ∧ y2 ≠ b2 from by
        rcases hor with rfl | h
        · exact ⟨by have := HS0.out.2.2.2.1; omega, by have := HS0.out.2.2.2.1; omega, HS0.out.2.2.2.2.1, HNS.out.2.1⟩
        · exact ⟨by omega, by omega, by have := HG2.out.lt; omega, by have := HG2.out.row.lt; omega⟩)
      have HYR := Lib.hid hyr
      clear hws hlt hor hyr
      have D3 := Lib.hid (D2.out.next hb3)
      have D4 := Lib.hid (D3.out.set #[.int .i64 R3, .int .i64 C3, .slice (some ⟨y2, 0, none⟩) n3 yc2])
      have HB3 := Lib.hid hb3
      clear hb3 x0 x1 x2 o0 o1 o2 o3 o4 o5 o6 o7 k0 k1 k2 k3 k4 k5 k6 k7 k8 k9 k10
      go_wp2_with (first | (refine wpList_store_row rfl 29 (.tmp 4) (.tmp 66) rfl s #[.int .i64 R3, .int .i64 C3, .slice (some ⟨y2, 0, none⟩) n3 yc2] rfl rfl 29 _ D3.out.g gy_info rfl (gy_one _ _ rfl) ?_; obtain ⟨x0, x1, x2⟩ := D4.out.three) | refine wpList_store_row rfl 29 (.tmp 6) (.tmp 197) rfl (s + 2) #[.int .i64 R3, .int .i64 C3, .slice (some ⟨y2, 0, none⟩) n3 yc2] rfl rfl 29 _ D4.out.z gy_info rfl (gy_one _ _ rfl) ?_)
      exact bodyPost_ret (results_cell_tmp Try.results10 _ _ (s + 2) 29 _ (0, 0) _ (.bool true) rfl rfl (setRow_heap _ _ _ _ _ _ D4.out.z) Try.underlying29 rfl gy_info) rfl (by
        have hz := bo_end (R := R3) (C := C3) (ycap2 := yc2) (A := #[.int .i64 R3, .int .i64 C3, .slice (some ⟨y2, 0, none⟩) n3 yc2]) (A2 := #[.int .i64 R3, .int .i64 C3, .slice (some ⟨y2, 0, none⟩) n3 yc2]) HS0.out.1 HS0.out.2.1 HS0.out.2.2.1 HBW.out.1 HBW.out.2 HG2.out HGR.out HNS.out.1 ⟨HNS.out.2.2.1, HNS.out.2.2.2.1⟩ HNS.out.2.2.2.2.1 HNS.out.2.2.2.2.2 HB3.out HYR.out ⟨HYN.out.1, HYN.out.2.1⟩ HYN.out.2.2.1 HYN.out.2.2.2 (HN3.out.2) HS0.out.2.2.2.2.2
        rw [HN3.out.1] at hz
        exact hz)
set_option maxRecDepth 100000 in
set_option maxHeartbeats 64000000 in
theorem do_7 {B g b cap R C yb ycap n s : Nat} {L : List Ce} {w : World} (hs : w.heap.size = s) (hG : Gr g b cap R C L w) (hY : YR w yb L) (hn : R * C = n) (hyg : yb ≠ g) (hyb : yb ≠ b) (hO : OkL L) (hBg : B ≤ g) (hBb : B ≤ b) (kd oa ob on p f gg bb : Int) (hf : 0 ≤ f ∧ f < 256) (hk0 : ¬ kd = 0) (hk1 : ¬ kd = 1) (hk2 : ¬ kd = 2) (hk3 : ¬ kd = 3) (hk4 : ¬ kd = 4) (hk5 : ¬ kd = 5) (hk6 : ¬ kd = 6) :
    Calls Try.prog 10 #[.pointer (some ⟨g, 0, none⟩), XV R C yb n ycap, .agg #[.int .i64 kd, .int .i64 oa, .int .i64 ob, .int .i64 on, .int .i32 p, .int .u8 f, .int .u32 gg, .int .u32 bb]] w (DoPost B g w) := by
  obtain ⟨cp, c0, c1, c2, c3, c4, c5, c6, c7, cg, cb, hc⟩ := yC_form ⟨p, f, gg, bb⟩
  have hcell := fun W => l_cell ⟨p, f, gg, bb⟩ W hf.1 hf.2
  have hyv : yV ⟨p, f, gg, bb⟩ = .agg #[.int .i32 cp, .bool c0, .bool c1, .bool c2, .bool c3, .bool c4, .bool c5, .bool c6, .bool c7, .int .u32 cg, .int .u32 cb] := by unfold yV; rw [hc]
  rw [hyv] at hcell
  have HCE : Hid (∀ W, Calls Try.prog 13 #[.agg #[.int .i32 p, .int .u8 f, .int .u32 gg, .int .u32 bb]] W fun e w' => e = .returned (.agg #[.int .i32 cp, .bool c0, .bool c1, .bool c2, .bool c3, .bool c4, .bool c5, .bool c6, .bool c7, .int .u32 cg, .int .u32 cb]) ∧ Below W.heap.size W w') := Lib.hid hcell
  have Hc := Lib.hid (fun (_ : Unit) => hc)
  have HYV := Lib.hid (fun (_ : Unit) => hyv)
  have HN := Lib.hid hn
  have HLN := Lib.hid (hG.len.trans hn)
  have HPS := Lib.hid (show 1 ≤ R ∧ R ≤ 12 ∧ 1 ≤ C ∧ C ≤ 40 ∧ 1 ≤ n ∧ n ≤ 480 from ⟨hG.pos.1, hG.pos.2.1, hG.pos.2.2.1, hG.pos.2.2.2, by rw [← hn]; exact Nat.mul_pos hG.pos.1 hG.pos.2.2.1, by rw [← hn]; exact hG.room.2.1⟩)
  have HOK := Lib.hid (And.intro hO (show OkC ⟨p, f, gg, bb⟩ from hf))
  have HS0 := Lib.hid (show w.heap.size = s ∧ B ≤ s ∧ g < s ∧ yb < s ∧ yb ≠ g ∧ B ≤ g from ⟨hs, by have := hG.lt; omega, by rw [← hs]; exact hG.lt, by rw [← hs]; exact hY.1, hyg, hBg⟩)
  have HS1 := Lib.hid (show b < s ∧ B ≤ b ∧ yb ≠ b from ⟨by rw [← hs]; exact hG.row.lt, hBb, hyb⟩)
  have hb0 : Below w.heap.size w (((w.alloc (.cells #[.int .i64 R, .int .i64 C, .slice (some ⟨yb, 0, none⟩) n ycap] 29)).alloc (.cells #[.int .i64 kd, .int .i64 oa, .int .i64 ob, .int .i64 on, .int .i32 p, .int .u8 f, .int .u32 gg, .int .u32 bb] 41)).alloc (.cells #[.int .i64 0, .int .i64 0, .slice none 0 0] 29)) := (((Below.refl _ _).alloc (Nat.le_refl _) _).alloc (by simp) _).alloc (by simp; omega) _
  have HU0 : Hid ((((w.alloc (.cells #[.int .i64 R, .int .i64 C, .slice (some ⟨yb, 0, none⟩) n ycap] 29)).alloc (.cells #[.int .i64 kd, .int .i64 oa, .int .i64 ob, .int .i64 on, .int .i32 p, .int .u8 f, .int .u32 gg, .int .u32 bb] 41)).alloc (.cells #[.int .i64 0, .int .i64 0, .slice none 0 0] 29)).heap[s]? = some (.cells #[.int .i64 R, .int .i64 C, .slice (some ⟨yb, 0, none⟩) n ycap] 29 (0, 0)) ∧ (((w.alloc (.cells #[.int .i64 R, .int .i64 C, .slice (some ⟨yb, 0, none⟩) n ycap] 29)).alloc (.cells #[.int .i64 kd, .int .i64 oa, .int .i64 ob, .int .i64 on, .int .i32 p, .int .u8 f, .int .u32 gg, .int .u32 bb] 41)).alloc (.cells #[.int .i64 0, .int .i64 0, .slice none 0 0] 29)).heap[s + 1]? = some (.cells #[.int .i64 kd, .int .i64 oa, .int .i64 ob, .int .i64 on, .int .i32 p, .int .u8 f, .int .u32 gg, .int .u32 bb] 41 (0, 0)) ∧ (((w.alloc (.cells #[.int .i64 R, .int .i64 C, .slice (some ⟨yb, 0, none⟩) n ycap] 29)).alloc (.cells #[.int .i64 kd, .int .i64 oa, .int .i64 ob, .int .i64 on, .int .i32 p, .int .u8 f, .int .u32 gg, .int .u32 bb] 41)).alloc (.cells #[.int .i64 0, .int .i64 0, .slice none 0 0] 29)).heap[s + 2]? = some (.cells #[.int .i64 0, .int .i64 0, .slice none 0 0] 29 (0, 0)) ∧ Below w.heap.size w (((w.alloc (.cells #[.int .i64 R, .int .i64 C, .slice (some ⟨yb, 0, none⟩) n ycap] 29)).alloc (.cells #[.int .i64 kd, .int .i64 oa, .int .i64 ob, .int .i64 on, .int .i32 p, .int .u8 f, .int .u32 gg, .int .u32 bb] 41)).alloc (.cells #[.int .i64 0, .int .i64 0, .slice none 0 0] 29))) := Lib.hid (by
    subst hs
    have b1 := (Below.refl (w.alloc (.cells #[.int .i64 R, .int .i64 C, .slice (some ⟨yb, 0, none⟩) n ycap] 29)).heap.size (w.alloc (.cells #[.int .i64 R, .int .i64 C, .slice (some ⟨yb, 0, none⟩) n ycap] 29))).alloc (Nat.le_refl _) (.cells #[.int .i64 kd, .int .i64 oa, .int .i64 ob, .int .i64 on, .int .i32 p, .int .u8 f, .int .u32 gg, .int .u32 bb] 41)
    have b2 := (Below.refl ((w.alloc (.cells #[.int .i64 R, .int .i64 C, .slice (some ⟨yb, 0, none⟩) n ycap] 29)).alloc (.cells #[.int .i64 kd, .int .i64 oa, .int .i64 ob, .int .i64 on, .int .i32 p, .int .u8 f, .int .u32 gg, .int .u32 bb] 41)).heap.size ((w.alloc (.cells #[.int .i64 R, .int .i64 C, .slice (some ⟨yb, 0, none⟩) n ycap] 29)).alloc (.cells #[.int .i64 kd, .int .i64 oa, .int .i64 ob, .int .i64 on, .int .i32 p, .int .u8 f, .int .u32 gg, .int .u32 bb] 41))).alloc (Nat.le_refl _) (.cells #[.int .i64 0, .int .i64 0, .slice none 0 0] 29)
    refine ⟨?_, ?_, ?_, hb0⟩
    · exact (b2.block w.heap.size (by simp; omega)).trans ((b1.block w.heap.size (by simp)).trans (heap_alloc_new w _))
    · refine (b2.block (w.heap.size + 1) (by simp)).trans ?_
      have := heap_alloc_new (w.alloc (.cells #[.int .i64 R, .int .i64 C, .slice (some ⟨yb, 0, none⟩) n ycap] 29)) (.cells #[.int .i64 kd, .int .i64 oa, .int .i64 ob, .int .i64 on, .int .i32 p, .int .u8 f, .int .u32 gg, .int .u32 bb] 41)
      simpa using this
    · have := heap_alloc_new ((w.alloc (.cells #[.int .i64 R, .int .i64 C, .slice (some ⟨yb, 0, none⟩) n ycap] 29)).alloc (.cells #[.int .i64 kd, .int .i64 oa, .int .i64 ob, .int .i64 on, .int .i32 p, .int .u8 f, .int .u32 gg, .int .u32 bb] 41)) (.cells #[.int .i64 0, .int .i64 0, .slice none 0 0] 29)
      simpa using this)
  have HG0 := Lib.hid hG
  have HY0 := Lib.hid hY
  clear hG hY hn hyg hyb hO hBg hBb hf hc hyv hcell hb0
  go_enter Try.func10, Try.ntmps10
  go_upto_region 1 with fail
  simp only [hs] at HU0 ⊢
  generalize (((w.alloc (.cells #[.int .i64 R, .int .i64 C, .slice (some ⟨yb, 0, none⟩) n ycap] 29)).alloc (.cells #[.int .i64 kd, .int .i64 oa, .int .i64 ob, .int .i64 on, .int .i32 p, .int .u8 f, .int .u32 gg, .int .u32 bb] 41)).alloc (.cells #[.int .i64 0, .int .i64 0, .slice none 0 0] 29)) = U at HU0 ⊢
  obtain ⟨o0, o1, o2, o3, o4, o5, o6, o7⟩ := op_cells HU0.out.2.1
  go_wp2_with fail
  refine (HCE.out _).mono ?_
  rintro e w0 ⟨rfl, hb1⟩
  have hsz0 : s + 3 ≤ w0.heap.size := by have := lt_of_block HU0.out.2.2.1; have := hb1.size; omega
  have hbA := (Below.refl w0.heap.size w0).alloc (Nat.le_refl _) (.cells #[.int .i32 cp, .bool c0, .bool c1, .bool c2, .bool c3, .bool c4, .bool c5, .bool c6, .bool c7, .int .u32 cg, .int .u32 cb] 49)
  have hbX := hb1.trans (hbA.mono hb1.size)
  have D1 : Hid (Dx s w0.heap.size #[.int .i64 R, .int .i64 C, .slice (some ⟨yb, 0, none⟩) n ycap] #[.int .i64 kd, .int .i64 oa, .int .i64 ob, .int .i64 on, .int .i32 p, .int .u8 f, .int .u32 gg, .int .u32 bb] ⟨p, f, gg, bb⟩ (w0.alloc (.cells #[.int .i32 cp, .bool c0, .bool c1, .bool c2, .bool c3, .bool c4, .bool c5, .bool c6, .bool c7, .int .u32 cg, .int .u32 cb] 49))) := Lib.hid
    ⟨(hbX.block _ (lt_of_block HU0.out.1)).trans HU0.out.1, (hbX.block _ (lt_of_block HU0.out.2.1)).trans HU0.out.2.1, (hbX.block _ (lt_of_block HU0.out.2.2.1)).trans HU0.out.2.2.1, by rw [Hc.out ()]; exact heap_alloc_new w0 _, hsz0⟩
  have HBW0 : Below w.heap.size w (w0.alloc (.cells #[.int .i32 cp, .bool c0, .bool c1, .bool c2, .bool c3, .bool c4, .bool c5, .bool c6, .bool c7, .int .u32 cg, .int .u32 cb] 49)) := by
    rw [hs]
    have hq0 := HU0.out.2.2.2
    exact hq0.trans (hbX.mono (by rw [← hs]; exact hq0.size))
  have HG1 := Lib.hid (HG0.out.below HBW0)
  have HY1 := Lib.hid (HY0.out.below HBW0)
  have HBW := Lib.hid (And.intro HBW0 (show s + 3 ≤ (w0.alloc (.cells #[.int .i32 cp, .bool c0, .bool c1, .bool c2, .bool c3, .bool c4, .bool c5, .bool c6, .bool c7, .int .u32 cg, .int .u32 cb] 49)).heap.size from Nat.le_trans hsz0 (by simp)))
  obtain ⟨kb, hkb⟩ : ∃ c, w0.heap.size = c := ⟨_, rfl⟩
  clear hb1 hsz0 hbA hbX HBW0 HU0 HG0 HY0 HCE hs o0 o1 o2 o3 o4 o5 o6 o7
  go_upto_region 2 with fail
  generalize (w0.alloc (.cells #[.int .i32 cp, .bool c0, .bool c1, .bool c2, .bool c3, .bool c4, .bool c5, .bool c6, .bool c7, .int .u32 cg, .int .u32 cb] 49)) = w1 at D1 HG1 HY1 HBW ⊢
  simp only [hkb] at D1 ⊢
  clear hkb
  obtain ⟨x0, x1, x2⟩ := D1.out.three
  obtain ⟨o0, o1, o2, o3, o4, o5, o6, o7⟩ := op_cells D1.out.o
  have hcc := D1.out.c
  rw [Hc.out ()] at hcc
  obtain ⟨k0, k1, k2, k3, k4, k5, k6, k7, k8, k9, k10⟩ := cells11 hcc
  clear hcc
  go_upto_region 3 with fail
  go_cut [11] (fun a wx => a = .bool (!btwB R oa ob on) ∧ wx = w1)
  case first =>
    obtain ⟨W, hW⟩ : ∃ W, (!btwB R oa ob on) = W := ⟨_, rfl⟩
    have HW := Lib.hid hW
    have hW2 : W = (decide (oa < 0) || decide (ob < oa) || decide ((R : Int) ≤ ob) || decide (on < 0)) := by
      rw [← hW]
      unfold btwB hasR
      rw [Bool.eq_iff_iff]
      simp
      omega
    by_cases h1 : oa < 0
    · obtain rfl : W = true := by rw [hW2]; simp [h1]
      have p1 : decide (oa < 0) = true := by simpa using h1
      clear hW hW2 h1
      go_wp2
      go_meet
      exact ⟨by rw [HW.out], rfl⟩
    have p1 : decide (oa < 0) = false := by simpa using h1
    by_cases h2 : ob < oa
    · obtain rfl : W = true := by rw [hW2]; simp [h2]
      have p2 : decide (ob < oa) = true := by simpa using h2
      have p2b : decide (oa > ob) = true := p2
      clear hW hW2 h1 h2
      go_wp2
      go_meet
      exact ⟨by rw [HW.out], rfl⟩
    have p2 : decide (ob < oa) = false := by simpa using h2
    have p2b : decide (oa > ob) = false := p2
    by_cases h3 : (R : Int) ≤ ob
    · obtain rfl : W = true := by rw [hW2]; simp [h3]
      have p3 : decide ((R : Int) ≤ ob) = true := by simpa using h3
      have p3b : decide (ob ≥ (R : Int)) = true := p3
      clear hW hW2 h1 h2 h3
      go_wp2
      go_meet
      exact ⟨by rw [HW.out], rfl⟩
    have p3 : decide ((R : Int) ≤ ob) = false := by simpa using h3
    have p3b : decide (ob ≥ (R : Int)) = false := p3
    by_cases h4 : on < 0
    · obtain rfl : W = true := by rw [hW2]; simp [h4]
      have p4 : decide (on < 0) = true := by simpa using h4
      clear hW hW2 h1 h2 h3 h4
      go_wp2
      go_meet
      exact ⟨by rw [HW.out], rfl⟩
    have p4 : decide (on < 0) = false := by simpa using h4
    obtain rfl : W = false := by rw [hW2, p1, p2, p3, p4]; rfl
    clear hW hW2 h1 h2 h3 h4
    go_wp2
    go_meet
    exact ⟨by rw [HW.out], rfl⟩
  case rest =>
    obtain ⟨rfl, rfl⟩ := hcut
    go_upto_if 40 with fail
    go_cut [12] (fun z wx => z = .int .i64 (by60 on) ∧ wx = wc)
    case first =>
      obtain ⟨W, hW⟩ : ∃ W, by60 on = W := ⟨_, rfl⟩
      have HW := Lib.hid hW
      unfold by60 at hW
      by_cases h1 : 60 < on
      · rw [if_pos h1] at hW
        subst hW
        have p1 : decide (60 < on) = true := by simpa using h1
        have p2 : decide (on > 60) = true := p1
        clear h1
        rw [p1]
        go_wp2
        go_meet
        exact ⟨by rw [HW.out], rfl⟩
      · rw [if_neg h1] at hW
        have p1 : decide (60 < on) = false := by simpa using h1
        have p2 : decide (on > 60) = false := p1
        by_cases h2 : 0 < on
        · rw [if_pos h2] at hW
          have p3 : decide (0 < on) = true := by simpa using h2
          have p4 : decide (on > 0) = true := p3
          subst hW
          clear h1 h2
          rw [p1]
          go_wp2
          go_meet
          exact ⟨by rw [HW.out], rfl⟩
        · rw [if_neg h2] at hW
          have p3 : decide (0 < on) = false := by simpa using h2
          have p4 : decide (on > 0) = false := p3
          subst hW
          clear h1 h2
          rw [p1]
          go_wp2
          go_meet
          exact ⟨by rw [HW.out], rfl⟩
    case rest =>
      obtain ⟨rfl, rfl⟩ := hcut
      have z0 : (kd == 0) = false := by simpa using hk0
      have z1 : (kd == 1) = false := by simpa using hk1
      have z2 : (kd == 2) = false := by simpa using hk2
      have z3 : (kd == 3) = false := by simpa using hk3
      have z4 : (kd == 4) = false := by simpa using hk4
      have z5 : (kd == 5) = false := by simpa using hk5
      have z6 : (kd == 6) = false := by simpa using hk6
      clear hk0 hk1 hk2 hk3 hk4 hk5 hk6
      go_wp2_with (refine wpList_store_row rfl 29 (.tmp 6) (.tmp 197) rfl (s + 2) #[.int .i64 R, .int .i64 C, .slice (some ⟨yb, 0, none⟩) n ycap] rfl rfl 29 _ D1.out.z gy_info rfl (gy_one _ _ rfl) ?_)
      exact bodyPost_ret (results_cell_tmp Try.results10 _ _ (s + 2) 29 _ (0, 0) _ (.bool true) rfl rfl (setRow_heap _ _ _ _ _ _ D1.out.z) Try.underlying29 rfl gy_info) rfl (by
        have hz := bo_same (R := R) (C := C) (ycap := ycap) (A2 := #[.int .i64 R, .int .i64 C, .slice (some ⟨yb, 0, none⟩) n ycap]) (k := b) HS0.out.1 HS0.out.2.1 HS0.out.2.2.1 HBW.out.1 HBW.out.2 HG1.out (World.grownBy.refl _ _) HS1.out.2.1 ⟨by have := HS1.out.1; omega, by have := HS1.out.1; omega⟩ HS1.out.2.1 (by obtain ⟨cur, hcu, _⟩ := HG1.out.row; exact .inr ⟨cur, hcu⟩) HY1.out (by have := HS0.out.2.2.2.1; omega) HS0.out.2.2.2.2.1 HS1.out.2.2 HOK.out.1 HS0.out.2.2.2.2.2
        rw [HN.out] at hz
        exact hz)
end Go.Proofs.Ytahmnipcdkcpiaa
