/-
  Proved here: of the document's views: rows of cells in memory, Same; the law's As.
-/
import Derived.Test.YtjihcpnaebghnaaDoorIm
import Derived.ChangeKeysEq
import Derived.BigRegion
set_option linter.unusedSimpArgs false
set_option linter.unusedVariables false
namespace Go.Proofs.YtjihcpnaebghnaaDoor
open Go.RowKit
theorem info_wview : (Tryd.prog.info? 34).map (·.size) = some 6 := by kernel_rfl
/-- Cells of the document's that can be read. -/
def CY (W : World) (A : Option Addr) (L : List Ce) : Prop := 0 < L.length → ∃ b, A = some ⟨b, 0, none⟩ ∧ YR W b L
theorem CY.below {W X : World} {A : Option Addr} {L : List Ce} (h : CY W A L) (hb : Below W.heap.size W X) : CY X A L := fun hp => by
  obtain ⟨b, e, hr⟩ := h hp
  exact ⟨b, e, hr.below hb⟩
/-- A document's view of this call's own, in block hb. -/
structure VY (U : World) (hb : Nat) (R C row col : Int) (vis : Bool) (M : List Ce) (v : Value) (W : World) : Prop where
  blk : W.heap[hb]? = some (.cells #[.int .i64 R, .int .i64 C, v, .int .i64 row, .int .i64 col, .bool vis] 34 (0, 0))
  own : W.ownsRow (hb + 1) 80 11 v M.length (flatY M)
  below : Below U.heap.size U W
  gt : U.heap.size ≤ hb
section
variable {U : World} {hb : Nat} {R C row col : Int} {vis : Bool} {M : List Ce} {v : Value} {W X : World}
theorem VY.next (H : VY U hb R C row col vis M v W) (h : Below W.heap.size W X) : VY U hb R C row col vis M v X :=
  ⟨(h.block _ (lt_of_block H.blk)).trans H.blk, own_below H.own h, H.below.trans (h.mono H.below.size), H.gt⟩
theorem VY.cy {A : Option Addr} {n c : Nat} (H : VY U hb R C row col vis M (.slice A n c) W) : CY W A M := fun hp => by
  obtain ⟨b, cap, e, hr, _⟩ := RowY.of_own H.own hp
  injection e with e1 e2 e3
  exact ⟨b, e1, hr.yr⟩
theorem VY.put {n : Nat} {M2 : List Ce} {v2 : Value} (H : VY U hb R C row col vis M v W) (hg : W.grownBy X v.ownBlock) (ho : X.ownsRow (hb + 1) 80 11 v2 n (flatY M2)) (hn : n = M2.length) : VY U hb R C row col vis M2 v2 (X.setCell ⟨hb, 2, none⟩ v2) := by
  subst hn
  have hne : ∀ k, v.ownBlock = some k → hb + 1 ≤ k := ownBlock_le H.own
  have hb1 := (hg.block hb (lt_of_block H.blk) (by intro e; have := hne hb e.symm; omega)).trans H.blk
  have hgt := H.gt
  refine ⟨?_, ?_, (H.below.grown hg H.below.size (fun k hk => by have := hne k hk; omega)).setCell (by show U.heap.size ≤ hb; omega) v2, H.gt⟩
  · rw [heap_setCell_same X _ 2 _ _ v2 hb1]; rfl
  · exact ownsRow_setCell_below ho (a := ⟨hb, 2, none⟩) (by show hb < hb + 1; omega) v2
theorem CY.set {A : Option Addr} {n c rb : Nat} (H : VY U hb R C row col vis M (.slice A n c) W) (hr : rb < U.heap.size) (cs : Array Value) : CY (W.setRow rb cs) A M := fun hp => by
  have hg := grown_setRow W rb cs
  obtain ⟨b, cap, e, hy, _⟩ := RowY.of_own H.own hp
  injection e with e1 e2 e3
  have hne : (Value.slice A n c).ownBlock ≠ some rb := fun e => by have := ownBlock_le H.own rb e; have := H.gt; omega
  exact ⟨b, e1, hy.yr.grown hg (by intro e; apply hne; rw [e1]; exact e)⟩
end
set_option maxRecDepth 100000 in
set_option maxHeartbeats 8000000 in
theorem r_same17 {R C R2 C2 : Int} {A1 A2 : Option Addr} {n1 c1 n2 c2 : Nat} {L M : List Ce} {w : World} (h : CY w A1 L) (k : CY w A2 M) (hL : L.length = n1) (hM : M.length = n2) (hm1 : n1 ≤ 1000) (hm2 : n2 ≤ 1000) (oL : OkL L) (oM : OkL M) :
    Calls Tryd.prog 37 #[.agg #[.int .i64 R, .int .i64 C, .slice A1 n1 c1], .agg #[.int .i64 R2, .int .i64 C2, .slice A2 n2 c2]] w fun e w' => e = .returned (.bool (decide (R = R2 ∧ C = C2 ∧ L = M))) ∧ Below w.heap.size w w' := by
  have HB : Hid (Below w.heap.size w ((w.alloc (.cells #[.int .i64 R, .int .i64 C, .slice A1 n1 c1] 32)).alloc (.cells #[.int .i64 R2, .int .i64 C2, .slice A2 n2 c2] 32))) := Lib.hid (((Below.refl _ _).alloc (Nat.le_refl _) _).alloc (by simp) _)
  obtain ⟨D, hD⟩ : ∃ D, decide (R = R2 ∧ C = C2 ∧ L = M) = D := ⟨_, rfl⟩
  rw [hD]
  by_cases hR : R = R2
  case neg =>
    obtain rfl : false = D := by rw [← hD]; simp [hR]
    have p1 : (R != R2) = true := by simpa using hR
    have p2 : (R == R2) = false := by simpa using hR
    clear hR hD h k hL hM oL oM
    skip
    go_enter Tryd.func37, Tryd.ntmps37
    go_wp2
    go_ret
    exact ⟨rfl, HB.out⟩
  subst hR
  have eR1 : ((R : Int) != (R : Int)) = false := by simp
  have eR2 : (R != R) = false := by simp
  by_cases hC : C = C2
  case neg =>
    obtain rfl : false = D := by rw [← hD]; simp [hC]
    have p1 : (C != C2) = true := by simpa using hC
    have p2 : (C == C2) = false := by simpa using hC
    clear hC hD h k hL hM oL oM
    skip
    go_enter Tryd.func37, Tryd.ntmps37
    go_wp2
    go_ret
    exact ⟨rfl, HB.out⟩
  subst hC
  have eC1 : ((C : Int) != (C : Int)) = false := by simp
  have eC2 : (C != C) = false := by simp
  by_cases hn : n1 = n2
  case neg =>
    obtain rfl : false = D := by
      rw [← hD]; simp
      intro e; exact hn (by rw [← hL, ← hM, e])
    have p1 : ((n1 : Int) != (n2 : Int)) = true := by simp; omega
    have p2 : ((n1 : Int) == (n2 : Int)) = false := by simp; omega
    have p3 : (n1 != n2) = true := by simp; omega
    have p4 : (n1 == n2) = false := by simp; omega
    clear hn hD h k hL hM oL oM
    skip
    go_enter Tryd.func37, Tryd.ntmps37
    go_wp2
    go_ret
    exact ⟨rfl, HB.out⟩
  subst hn
  have en11 : ((n1 : Int) != (n1 : Int)) = false := by simp
  have en12 : (n1 != n1) = false := by simp
  have HD1 := Lib.hid (fun (e : L = M) => show true = D by rw [← hD]; simp [e])
  have HD2 := Lib.hid (fun (e : L ≠ M) => show false = D by rw [← hD]; simp [e])
  have HYL := Lib.hid (h.below HB.out)
  have HYM := Lib.hid (k.below HB.out)
  have HL := Lib.hid hL
  have HM := Lib.hid hM
  have HOL := Lib.hid oL
  have HOM := Lib.hid oM
  have HX0 : Hid (((w.alloc (.cells #[.int .i64 R, .int .i64 C, .slice A1 n1 c1] 32)).alloc (.cells #[.int .i64 R, .int .i64 C, .slice A2 n1 c2] 32)).heap[w.heap.size]? = some (.cells #[.int .i64 R, .int .i64 C, .slice A1 n1 c1] 32 (0, 0)) ∧ ((w.alloc (.cells #[.int .i64 R, .int .i64 C, .slice A1 n1 c1] 32)).alloc (.cells #[.int .i64 R, .int .i64 C, .slice A2 n1 c2] 32)).heap[w.heap.size + 1]? = some (.cells #[.int .i64 R, .int .i64 C, .slice A2 n1 c2] 32 (0, 0))) := Lib.hid
    ⟨(((Below.refl (w.alloc (.cells #[.int .i64 R, .int .i64 C, .slice A1 n1 c1] 32)).heap.size (w.alloc (.cells #[.int .i64 R, .int .i64 C, .slice A1 n1 c1] 32))).alloc (Nat.le_refl _) (.cells #[.int .i64 R, .int .i64 C, .slice A2 n1 c2] 32)).block w.heap.size (by simp)).trans (heap_alloc_new w _), by
      have := heap_alloc_new (w.alloc (.cells #[.int .i64 R, .int .i64 C, .slice A1 n1 c1] 32)) (.cells #[.int .i64 R, .int .i64 C, .slice A2 n1 c2] 32)
      simpa using this⟩
  clear hD h k hL hM oL oM
  go_enter Tryd.func37, Tryd.ntmps37
  go_wp2
  generalize (((w.alloc (.cells #[.int .i64 R, .int .i64 C, .slice A1 n1 c1] 32)).alloc (.cells #[.int .i64 R, .int .i64 C, .slice A2 n1 c2] 32))) = U at HB HYL HYM HX0 ⊢
  have HZ := Lib.hid (And.intro (Below.refl U.heap.size U) (show L.take 0 = M.take 0 from rfl))
  go_loopw [5] (fun kv wr => ∃ i : Nat, kv = .int .i64 i ∧ i ≤ n1 ∧ Hid (Below U.heap.size U wr ∧ L.take i = M.take i)) (fun kv _ => n1 - (intOf kv).toNat)
  case atStart => exact ⟨0, rfl, by omega, HZ⟩
  case round =>
    obtain ⟨i, rfl, hi, HS⟩ := hrel
    clear HZ
    have hx1 := (HS.out.1.block _ (lt_of_block HX0.out.1)).trans HX0.out.1
    have hx2 := (HS.out.1.block _ (lt_of_block HX0.out.2)).trans HX0.out.2
    have a2 : wr.cell? ⟨w.heap.size, 2, none⟩ = some (.slice A1 n1 c1) := by unfold World.cell?; simp only [hx1]; rfl
    have a3 : wr.cell? ⟨w.heap.size + 1, 2, none⟩ = some (.slice A2 n1 c2) := by unfold World.cell?; simp only [hx2]; rfl
    have a4 : wr.drew.cell? ⟨w.heap.size, 2, none⟩ = some (.slice A1 n1 c1) := a2
    have a5 : wr.drew.cell? ⟨w.heap.size + 1, 2, none⟩ = some (.slice A2 n1 c2) := a3
    clear hx1 hx2
    by_cases hin : i < n1
    · have d1 : decide ((i : Int) < (n1 : Int)) = true := by simp; omega
      have d1' : decide (i < n1) = true := by simp; omega
      have g3 : (0 : Int) ≤ (i : Int) := by omega
      have g4 : (i : Int) < (n1 : Int) := by omega
      have w1 : IntKind.i64.wrap ((i : Int) + 1) = (i : Int) + 1 := IntWalk.i64_in _ (by omega)
      have hiL : i < L.length := by rw [HL.out]; exact hin
      have hiM : i < M.length := by rw [HM.out]; exact hin
      obtain ⟨b1, rfl, hyl⟩ := HYL.out (by omega)
      obtain ⟨b2, rfl, hym⟩ := HYM.out (by omega)
      obtain ⟨xp, x0, x1, x2, x3, x4, x5, x6, x7, xg, xb, hx⟩ := yC_form (ceAt L i)
      obtain ⟨yp, y0, y1, y2, y3, y4, y5, y6, y7, yg, yb, hy⟩ := yC_form (ceAt M i)
      obtain ⟨k0, k1, k2, k3, k4, k5, k6, k7, k8, k9, k10⟩ := ((hyl.below HS.out.1).below (Below.refl wr.heap.size wr).drew).eleven hiL hx
      obtain ⟨l0, l1, l2, l3, l4, l5, l6, l7, l8, l9, l10⟩ := ((hym.below HS.out.1).below (Below.refl wr.heap.size wr).drew).eleven hiM hy
      have HTK := Lib.hid (fun (e : ceAt L i = ceAt M i) => take_succ_ce hiL hiM HS.out.2 e)
      have HNE := Lib.hid (fun (e : ceAt L i ≠ ceAt M i) => HD2.out (fun h => e (by subst h; rfl)))
      have HBD := Lib.hid (HS.out.1.drew)
      have HEC : ∀ W, (Op.equalIn 10000 80 (.agg #[.int .i32 xp, .bool x0, .bool x1, .bool x2, .bool x3, .bool x4, .bool x5, .bool x6, .bool x7, .int .u32 xg, .int .u32 xb]) (.agg #[.int .i32 yp, .bool y0, .bool y1, .bool y2, .bool y3, .bool y4, .bool y5, .bool y6, .bool y7, .int .u32 yg, .int .u32 yb])).run Tryd.prog W = .ok (decide (ceAt L i = ceAt M i)) W := fun W => by
        have hz := eq_yc (okL_at HOL.out hiL) (okL_at HOM.out hiM) W
        unfold yV at hz
        rw [hx, hy] at hz
        exact hz
      clear hx hy hiL hiM hyl hym HD2 HYL HYM HL HM HOL HOM HS HX0
      by_cases he : ceAt L i = ceAt M i
      · have HS2 := Lib.hid (And.intro HBD.out (HTK.out he))
        simp only [decide_eq_true he] at HEC
        clear HTK HNE HBD he
        go_wp2
        go_big_region
        clear HEC k0 k1 k2 k3 k4 k5 k6 k7 k8 k9 k10 l0 l1 l2 l3 l4 l5 l6 l7 l8 l9 l10
        go_wp2
        go_roundw
        case rel => exact ⟨i + 1, by go_num, by omega, HS2⟩
        case measure => simp [intOf]; omega
      · have HDD := Lib.hid (fun (_ : Unit) => HNE.out he)
        simp only [decide_eq_false he] at HEC
        clear HTK HNE he
        go_wp2
        go_big_region
        clear HEC k0 k1 k2 k3 k4 k5 k6 k7 k8 k9 k10 l0 l1 l2 l3 l4 l5 l6 l7 l8 l9 l10
        go_wp2
        go_ret
        have hD := HDD.out ()
        exact ⟨by first | rfl | (subst hD; rfl), HB.out.trans (HBD.out.mono HB.out.size)⟩
    · have d1 : decide ((i : Int) < (n1 : Int)) = false := by simp; omega
      have d1' : decide (i < n1) = false := by simp; omega
      have hD : true = D := HD1.out (by
        have h := HS.out.2
        rw [List.take_of_length_le (by rw [HL.out]; omega), List.take_of_length_le (by rw [HM.out]; omega)] at h
        exact h)
      have HBZ := Lib.hid HS.out.1
      clear HD1 HD2 HL HM HS HYL HYM HOL HOM HX0 a4 a5 hi hin
      have HDD := Lib.hid (fun (_ : Unit) => hD)
      clear hD
      go_wp2
      go_ret
      have hD := HDD.out ()
      exact ⟨by first | rfl | (subst hD; rfl), HB.out.trans (HBZ.out.mono HB.out.size)⟩
set_option maxRecDepth 100000 in
set_option maxHeartbeats 8000000 in
theorem r_viewsame {w : World} {A A2 : Option Addr} {n n2 cap cap2 : Nat} {L M : List Ce} (hA : CY w A L) (hA2 : CY w A2 M) (hL : L.length = n) (hM : M.length = n2) (hn : n ≤ 1000) (hn2 : n2 ≤ 1000) (oL : OkL L) (oM : OkL M) (R C row col R2 C2 row2 col2 : Int) (vis vis2 : Bool) :
    Calls Tryd.prog 12 #[.agg #[.int .i64 R, .int .i64 C, .slice A n cap, .int .i64 row, .int .i64 col, .bool vis], .agg #[.int .i64 R2, .int .i64 C2, .slice A2 n2 cap2, .int .i64 row2, .int .i64 col2, .bool vis2]] w fun e w' => e = .returned (.bool (sameW R C row col vis L R2 C2 row2 col2 vis2 M)) ∧ Below w.heap.size w w' := by
  generalize hW : sameW R C row col vis L R2 C2 row2 col2 vis2 M = W
  have HW := Lib.hid hW
  have hEQ := fun (X : World) (hX : Below w.heap.size w X) => r_same17 (R := R) (C := C) (R2 := R2) (C2 := C2) (c1 := cap) (c2 := cap2) (hA.below hX) (hA2.below hX) hL hM hn hn2 oL oM
  obtain ⟨D, hD⟩ : ∃ D, decide (R = R2 ∧ C = C2 ∧ L = M) = D := ⟨_, rfl⟩
  rw [hD] at hEQ
  have HEQ := Lib.hid hEQ
  have HDD := Lib.hid hD
  have hba := (Below.refl w.heap.size w).alloc (Nat.le_refl _) (.cells #[.int .i64 R, .int .i64 C, .slice A n cap, .int .i64 row, .int .i64 col, .bool vis] 34)
  have hbb := (Below.refl (w.alloc (.cells #[.int .i64 R, .int .i64 C, .slice A n cap, .int .i64 row, .int .i64 col, .bool vis] 34)).heap.size (w.alloc (.cells #[.int .i64 R, .int .i64 C, .slice A n cap, .int .i64 row, .int .i64 col, .bool vis] 34))).alloc (Nat.le_refl _) (.cells #[.int .i64 R2, .int .i64 C2, .slice A2 n2 cap2, .int .i64 row2, .int .i64 col2, .bool vis2] 34)
  have HB0 := hba.trans (hbb.mono hba.size)
  have HC0 := (hbb.block w.heap.size (by simp)).trans (heap_alloc_new w (.cells #[.int .i64 R, .int .i64 C, .slice A n cap, .int .i64 row, .int .i64 col, .bool vis] 34))
  have HC1 := heap_alloc_new (w.alloc (.cells #[.int .i64 R, .int .i64 C, .slice A n cap, .int .i64 row, .int .i64 col, .bool vis] 34)) (.cells #[.int .i64 R2, .int .i64 C2, .slice A2 n2 cap2, .int .i64 row2, .int .i64 col2, .bool vis2] 34)
  obtain ⟨vb, hvb⟩ : ∃ b, w.heap.size = b := ⟨_, rfl⟩
  rw [show (w.alloc (.cells #[.int .i64 R, .int .i64 C, .slice A n cap, .int .i64 row, .int .i64 col, .bool vis] 34)).heap.size = w.heap.size + 1 by simp] at HC1
  clear hW hA hA2 hL hM hn hn2 oL oM hba hbb hEQ hD
  go_enter Tryd.func12, Tryd.ntmps12
  go_upto_region 1 with fail
  simp only [hvb] at HC0 HC1 ⊢
  generalize ((w.alloc (.cells #[.int .i64 R, .int .i64 C, .slice A n cap, .int .i64 row, .int .i64 col, .bool vis] 34)).alloc (.cells #[.int .i64 R2, .int .i64 C2, .slice A2 n2 cap2, .int .i64 row2, .int .i64 col2, .bool vis2] 34)) = U at HB0 HC0 HC1 ⊢
  have HB := Lib.hid HB0
  have HX := Lib.hid HC0
  have HY := Lib.hid HC1
  obtain ⟨x0, x1, x2, x3, x4, x5⟩ := six_cells HC0
  obtain ⟨y0, y1, y2, y3, y4, y5⟩ := six_cells HC1
  clear HB0 HC0 HC1 hvb
  go_wp2_with fail
  refine (HEQ.out _ HB.out).mono ?_
  rintro e w1 ⟨rfl, b1⟩
  clear x0 x1 x2 x3 x4 x5 y0 y1 y2 y3 y4 y5
  obtain ⟨x0, x1, x2, x3, x4, x5⟩ := six_cells ((b1.block _ (lt_of_block HX.out)).trans HX.out)
  obtain ⟨y0, y1, y2, y3, y4, y5⟩ := six_cells ((b1.block _ (lt_of_block HY.out)).trans HY.out)
  have HB1 := Lib.hid (HB.out.trans (b1.mono HB.out.size))
  clear b1 HEQ
  cases D with
  | false =>
    have HV := Lib.hid (show W = false from by
      rw [← HW.out]; unfold sameW
      have := of_decide_eq_false HDD.out
      by_cases a : R = R2 <;> by_cases b : C = C2 <;> by_cases c : L = M <;> simp_all)
    go_wp2
    go_ret
    exact ⟨by rw [HV.out]; rfl, HB1.out⟩
  | true =>
    obtain ⟨e1, e2, e3⟩ := of_decide_eq_true HDD.out
    have HVV := Lib.hid (show W = (decide (row = row2) && decide (col = col2) && decide (vis = vis2)) from by
      rw [← HW.out]; unfold sameW; simp [e1, e2, e3])
    clear e1 e2 e3
    by_cases h0 : row = row2
    · have p0 : (row == row2) = true := by simpa using h0
      have p0' : decide (row = row2) = true := by simpa using h0
      by_cases h1 : col = col2
      · have p1 : (col == col2) = true := by simpa using h1
        have p1' : decide (col = col2) = true := by simpa using h1
        by_cases h2 : vis = vis2
        · have p2 : (vis == vis2) = true := by simpa using h2
          have HV := Lib.hid (show W = true from by rw [HVV.out]; simp [h0, h1, h2])
          clear h0 h1 h2
          go_wp2
          go_ret
          exact ⟨by rw [HV.out]; rfl, HB1.out⟩
        · have p2 : (vis == vis2) = false := by simpa using h2
          have HV := Lib.hid (show W = false from by rw [HVV.out]; simp [h2])
          clear h0 h1 h2
          go_wp2
          go_ret
          exact ⟨by rw [HV.out]; rfl, HB1.out⟩
      · have p1 : (col == col2) = false := by simpa using h1
        have p1' : decide (col = col2) = false := by simpa using h1
        have HV := Lib.hid (show W = false from by rw [HVV.out]; simp [h1])
        clear h0 h1
        go_wp2
        go_ret
        exact ⟨by rw [HV.out]; rfl, HB1.out⟩
    · have p0 : (row == row2) = false := by simpa using h0
      have p0' : decide (row = row2) = false := by simpa using h0
      have HV := Lib.hid (show W = false from by rw [HVV.out]; simp [h0])
      clear h0
      go_wp2
      go_ret
      exact ⟨by rw [HV.out]; rfl, HB1.out⟩
set_option maxRecDepth 100000 in
set_option maxHeartbeats 16000000 in
theorem as_view {w : World} {A : Option Addr} {n cap : Nat} {L : List Ce} (hA : CR w A L) (hl : L.length = n) (hn : n ≤ 1000) (ho : ∀ c ∈ L, CeOk c) (R C row col : Int) (vis : Bool) :
    Calls Tryd.prog 9 #[vV R C A n cap row col vis] w fun e w' => ∃ A1 c1, e = .returned (.agg #[.int .i64 R, .int .i64 C, .slice A1 n c1, .int .i64 row, .int .i64 col, .bool vis]) ∧ CY w' A1 L ∧ Below w.heap.size w w' := by
  have hba := (Below.refl w.heap.size w).alloc (Nat.le_refl _) (.cells #[.int .i64 R, .int .i64 C, .slice A n cap, .int .i64 row, .int .i64 col, .bool vis] 24)
  have hbb := (Below.refl (w.alloc (.cells #[.int .i64 R, .int .i64 C, .slice A n cap, .int .i64 row, .int .i64 col, .bool vis] 24)).heap.size (w.alloc (.cells #[.int .i64 R, .int .i64 C, .slice A n cap, .int .i64 row, .int .i64 col, .bool vis] 24))).alloc (Nat.le_refl _) (.cells #[.int .i64 0, .int .i64 0, .slice none 0 0, .int .i64 0, .int .i64 0, .bool false] 34)
  have HB0 := hba.trans (hbb.mono hba.size)
  have HC0 := (hbb.block w.heap.size (by simp)).trans (heap_alloc_new w (.cells #[.int .i64 R, .int .i64 C, .slice A n cap, .int .i64 row, .int .i64 col, .bool vis] 24))
  have HC1 := heap_alloc_new (w.alloc (.cells #[.int .i64 R, .int .i64 C, .slice A n cap, .int .i64 row, .int .i64 col, .bool vis] 24)) (.cells #[.int .i64 0, .int .i64 0, .slice none 0 0, .int .i64 0, .int .i64 0, .bool false] 34)
  obtain ⟨vb, hvb⟩ : ∃ b, w.heap.size = b := ⟨_, rfl⟩
  rw [show (w.alloc (.cells #[.int .i64 R, .int .i64 C, .slice A n cap, .int .i64 row, .int .i64 col, .bool vis] 24)).heap.size = w.heap.size + 1 by simp] at HC1
  have HVB := Lib.hid hvb
  have HL := Lib.hid hl
  have HN6 := Lib.hid hn
  have HO := Lib.hid ho
  have HCR := Lib.hid (hA.below HB0)
  clear hA hl hn ho hba hbb
  go_enter Tryd.func9, Tryd.ntmps9
  go_upto_region 1 with fail
  simp only [hvb] at HC0 HC1 ⊢
  generalize ((w.alloc (.cells #[.int .i64 R, .int .i64 C, .slice A n cap, .int .i64 row, .int .i64 col, .bool vis] 24)).alloc (.cells #[.int .i64 0, .int .i64 0, .slice none 0 0, .int .i64 0, .int .i64 0, .bool false] 34)) = U at HB0 HC0 HC1 HCR ⊢
  have HB := Lib.hid HB0
  have HC := Lib.hid HC0
  have HZ := Lib.hid HC1
  obtain ⟨x0, x1, x2, x3, x4, x5⟩ := six_cells HC0
  clear HB0 HC0 HC1 hvb
  obtain ⟨hb, hhb⟩ : ∃ b, U.heap.size = b := ⟨_, rfl⟩
  have HV0 : Hid (VY U hb R C row col vis [] (.slice none 0 0) (U.alloc (.cells #[.int .i64 R, .int .i64 C, .slice none 0 0, .int .i64 row, .int .i64 col, .bool vis] 34))) := Lib.hid (by
    have hn := heap_alloc_new U (.cells #[.int .i64 R, .int .i64 C, .slice none 0 0, .int .i64 row, .int .i64 col, .bool vis] 34)
    rw [hhb] at hn
    exact ⟨hn, World.ownsRow_nil _ _ _ _, (Below.refl _ _).alloc (Nat.le_refl _) _, by omega⟩)
  go_upto_region 2 with fail
  try simp only [hhb]
  generalize (U.alloc (.cells #[.int .i64 R, .int .i64 C, .slice none 0 0, .int .i64 row, .int .i64 col, .bool vis] 34)) = V at HV0 ⊢
  clear hhb x0 x1 x2 x3 x4 x5
  obtain ⟨x0, x1, x2, x3, x4, x5⟩ := six_cells ((HV0.out.below.block _ (lt_of_block HC.out)).trans HC.out)
  go_wp2
  go_loopw [4] (fun iv wr => ∃ (i : Nat) (A1 : Option Addr) (n1 c1 : Nat), iv = .int .i64 i ∧ i ≤ n ∧ Hid (VY U hb R C row col vis (L.take i) (.slice A1 n1 c1) wr) ∧ Hid (n1 = i)) (fun iv _ => n - (intOf iv).toNat)
  case atStart => exact ⟨0, none, 0, 0, rfl, by omega, HV0, Lib.hid rfl⟩
  case round =>
    obtain ⟨i, A1, n1, c1, rfl, hi, HVY, HN1⟩ := hrel
    clear HV0 x0 x1 x2 x3 x4 x5
    obtain ⟨x0, x1, x2, x3, x4, x5⟩ := six_cells ((HVY.out.below.block _ (lt_of_block HC.out)).trans HC.out)
    by_cases hin : i < n
    · have e1 : decide ((i : Int) < (n : Int)) = true := by simp; omega
      have e1' : decide (i < n) = true := by simp; omega
      have g1 : (0 : Int) ≤ (i : Int) := by omega
      have g2 : (i : Int) < (n : Int) := by omega
      have wr1 : IntKind.i64.wrap ((i : Int) + 1) = (i : Int) + 1 := IntWalk.i64_in _ (by have := HN6.out; omega)
      have HML := Lib.hid (show (L.take i).length = n1 from by rw [List.length_take, HL.out, HN1.out]; omega)
      have HIN := Lib.hid hin
      obtain ⟨b, off, rfl, hbl, hcs⟩ := HCR.out (by rw [HL.out]; omega)
      have hcel := hcs i (by rw [HL.out]; omega)
      have hcok := HO.out (ceAt L i) (ceAt_mem (by rw [HL.out]; omega))
      have htk : L.take i ++ [ceAt L i] = L.take (i + 1) := by
        rw [List.take_succ_eq_append_getElem (by rw [HL.out]; exact hin)]
        congr 1
        simp [ceAt, List.getD, show i < L.length by rw [HL.out]; exact hin]
      obtain ⟨⟨p, f, gg, bb⟩, hce⟩ : ∃ c, ceAt L i = c := ⟨_, rfl⟩
      rw [hce] at hcel hcok htk
      obtain ⟨f0, f1, f2, f3, f4, f5, f6, f7, hf⟩ := eight (ofF_len 8 f)
      obtain ⟨ey, _⟩ := yV_st (p := p) (gg := gg) (bb := bb) hf
      have hlc := fun W => l_cell ⟨p, f, gg, bb⟩ W hcok.f.1 hcok.f.2
      rw [ey] at hlc
      unfold cV at hlc
      dsimp only at hlc
      have HLC := Lib.hid hlc
      have HTK := Lib.hid htk
      have HYC := Lib.hid (fun (_ : Unit) => show (yC ⟨p, f, gg, bb⟩).toArray = (#[.int .i32 p, .bool f0, .bool f1, .bool f2, .bool f3, .bool f4, .bool f5, .bool f6, .bool f7, .int .u32 gg, .int .u32 bb] : Array Value) from by unfold yC styL; dsimp only; rw [hf]; rfl)
      have HCL := Lib.hid (fun (X : World) (hX : Below U.heap.size U X) => ce_four (fun j v hv => (hX.cell (p := ⟨b, off + i * 4 + j, none⟩) hbl).trans (hcel j v hv)))
      have hdr := (Below.refl wr.heap.size wr).drew
      have HVD := Lib.hid (HVY.out.next hdr)
      clear hi hin hcel hcok hce hf ey hlc htk hbl hcs
      go_upto_region 5 with fail
      clear x0 x1 x2 x3 x4 x5
      refine wp_region_held_drew (S := fun W => Below U.heap.size U W) (by kernel_rfl) HVD.out.below (fun hHeld => ?_)
      obtain ⟨X, hX⟩ : ∃ X, wr.drew = X := ⟨_, rfl⟩
      simp only [hX] at hHeld HVD ⊢
      clear HVY hX hdr
      have HVY := HVD
      clear HVD
      refine wpAnyH_take (i := 0) (v := ?_) (by simp; rfl) (by kernel_rfl) (by kernel_rfl) (by kernel_rfl) (by exact fun _ _ _ h => h) (Or.inl ⟨by rfl, fun wx hSx => ?_⟩) hHeld ?_
      rotate_left
      · clear hSx; go_simp; (try with_reducible rfl)
      simp only [Act.put, List.setIfInBounds_toArray, List.set_cons_zero, List.set_cons_succ]
      refine wpAnyH_take (i := 1) (v := ?_) (by simp; rfl) (by kernel_rfl) (by kernel_rfl) (by kernel_rfl) (by exact fun _ _ _ h => h) (Or.inl ⟨by rfl, fun wx hSx => ?_⟩) hHeld ?_
      rotate_left
      · clear hSx; go_simp; (try with_reducible rfl)
      simp only [Act.put, List.setIfInBounds_toArray, List.set_cons_zero, List.set_cons_succ]
      refine wpAnyH_take (i := 3) (v := ?_) (by simp; rfl) (by kernel_rfl) (by kernel_rfl) (by kernel_rfl) (by exact fun _ _ _ h => h) (Or.inl ⟨by rfl, fun wx hSx => ?_⟩) hHeld ?_
      rotate_left
      · clear hSx; go_simp; (try with_reducible rfl)
      simp only [Act.put, List.setIfInBounds_toArray, List.set_cons_zero, List.set_cons_succ]
      refine wpAnyH_take (i := 4) (v := ?_) (by simp; rfl) (by kernel_rfl) (by kernel_rfl) (by kernel_rfl) (by exact fun _ _ _ h => h) (Or.inl ⟨by rfl, fun wx hSx => ?_⟩) hHeld ?_
      rotate_left
      · obtain ⟨s0, s1, s2, s3, s4, s5⟩ := six_cells ((hSx.block _ (lt_of_block HC.out)).trans HC.out); clear hSx; go_simp; (try with_reducible rfl)
      simp only [Act.put, List.setIfInBounds_toArray, List.set_cons_zero, List.set_cons_succ]
      refine wpAnyH_take (i := 5) (v := ?_) (by simp; rfl) (by kernel_rfl) (by kernel_rfl) (by kernel_rfl) (by exact fun _ _ _ h => h) (Or.inl ⟨by rfl, fun wx hSx => ?_⟩) hHeld ?_
      rotate_left
      · clear hSx; go_simp; (try with_reducible rfl)
      simp only [Act.put, List.setIfInBounds_toArray, List.set_cons_zero, List.set_cons_succ]
      refine wpAnyH_take (i := 6) (v := ?_) (by simp; rfl) (by kernel_rfl) (by kernel_rfl) (by kernel_rfl) (by exact fun _ _ _ h => h) (Or.inl ⟨by rfl, fun wx hSx => ?_⟩) hHeld ?_
      rotate_left
      · clear hSx; go_simp; (try with_reducible rfl)
      simp only [Act.put, List.setIfInBounds_toArray, List.set_cons_zero, List.set_cons_succ]
      refine wpAnyH_take (i := 7) (v := ?_) (by simp; rfl) (by kernel_rfl) (by kernel_rfl) (by kernel_rfl) (by exact fun _ _ _ h => h) (Or.inl ⟨by rfl, fun wx hSx => ?_⟩) hHeld ?_
      rotate_left
      · obtain ⟨k0, k1, k2, k3⟩ := HCL.out wx hSx; clear hSx; go_simp; (try with_reducible rfl)
      simp only [Act.put, List.setIfInBounds_toArray, List.set_cons_zero, List.set_cons_succ]
      refine wpAnyH_ready (rs := [2, 8]) (by kernel_rfl) (by simp) ?_
      refine AllReadyH.cons (by simp; rfl) (fun K0 hK0 => ?_) (AllReadyH.cons (by simp; rfl) (fun K0 hK0 => ?_) AllReadyH.nil)
      · obtain ⟨s0, s1, s2, s3, s4, s5⟩ := six_cells HVY.out.blk
        go_simp
        refine hK0.out _ _ HVY.out.below (fun _ => ?_)
        clear hK0 K0 s0 s1 s2 s3 s4 s5
        refine wpAnyH_ready (rs := [8]) (by kernel_rfl) (by simp) ?_
        refine AllReadyH.cons (by simp; rfl) (fun K0 hK0 => ?_) AllReadyH.nil
        go_simp
        refine (HLC.out _).mono ?_
        rintro e c1 ⟨rfl, hbV⟩
        have HV2 := Lib.hid (HVY.out.next hbV)
        clear HVY hbV
        have HVY := HV2
        clear HV2
        refine hK0.out _ _ HVY.out.below (fun _ => ?_)
        clear hK0 K0 hHeld
        have hHeld := HVY.out.below
        refine wpAnyH_ready (rs := [9]) (by kernel_rfl) (by simp) ?_
        refine AllReadyH.cons (by simp; rfl) (fun K0 hK0 => ?_) AllReadyH.nil
        go_simp
        have HV2 := Lib.hid (HVY.out.next ((Below.refl c1.heap.size c1).alloc (Nat.le_refl _) (.cells #[.int .i32 p, .bool f0, .bool f1, .bool f2, .bool f3, .bool f4, .bool f5, .bool f6, .bool f7, .int .u32 gg, .int .u32 bb] 80)))
        have HBK := Lib.hid (heap_alloc_new c1 (.cells #[.int .i32 p, .bool f0, .bool f1, .bool f2, .bool f3, .bool f4, .bool f5, .bool f6, .bool f7, .int .u32 gg, .int .u32 bb] 80))
        clear HVY
        have HVY := HV2
        clear HV2
        obtain ⟨fb, hfb⟩ : ∃ g, c1.heap.size = g := ⟨_, rfl⟩
        rw [hfb] at HBK ⊢
        clear hfb
        generalize (c1.alloc (.cells #[.int .i32 p, .bool f0, .bool f1, .bool f2, .bool f3, .bool f4, .bool f5, .bool f6, .bool f7, .int .u32 gg, .int .u32 bb] 80)) = b2 at HVY HBK ⊢
        refine hK0.out _ _ HVY.out.below (fun _ => ?_)
        clear hK0 K0 hHeld
        have hHeld := HVY.out.below
        refine wpAnyH_ready (rs := [10]) (by kernel_rfl) (by simp) ?_
        refine AllReadyH.cons (by simp; rfl) (fun K0 hK0 => ?_) AllReadyH.nil
        have how := HVY.out.own
        rw [HML.out] at how
        obtain ⟨v2, W2, hrun, ho, hg, hat⟩ := app_y (c := ⟨p, f, gg, bb⟩) how (by rw [HYC.out ()]; exact HBK.out) (by have := HN6.out; have := HN1.out; have := HIN.out; omega) (by have := lt_of_block HVY.out.blk; omega)
        refine step_app rfl (.tmp 26) (.tmp 33) _ rfl _ _ rfl rfl hrun ?_
        simp only [Act.put, List.setIfInBounds_toArray, List.set_cons_zero, List.set_cons_succ]
        obtain ⟨A2, c2, hv2, _⟩ := own_slice ho
        subst hv2
        have HPV := Lib.hid (HTK.out ▸ HVY.out.put hg ho (by rw [List.length_append, HML.out]; rfl))
        have q0 := Lib.hid ((hg.block hb (lt_of_block HVY.out.blk) (by intro e; have := ownBlock_le HVY.out.own hb e.symm; omega)).trans HVY.out.blk)
        have HB3 := Lib.hid (HVY.out.below.grown hg HVY.out.below.size (fun k hk => by have := ownBlock_le HVY.out.own k hk; have := HVY.out.gt; omega))
        clear hrun ho hg hat how
        refine hK0.out _ _ HB3.out (fun _ => ?_)
        clear hK0 K0 hHeld
        have hHeld := HB3.out
        refine wpAnyH_take (i := 11) (v := ?_) (by simp; rfl) (by kernel_rfl) (by kernel_rfl) (by kernel_rfl) (by exact fun _ _ _ h => h) (Or.inl ⟨by rfl, fun wx hSx => ?_⟩) hHeld ?_
        rotate_left
        · clear hSx; go_simp; (try with_reducible rfl)
        simp only [Act.put, List.setIfInBounds_toArray, List.set_cons_zero, List.set_cons_succ]
        refine wpAnyH_take (i := 12) (v := ?_) (by simp; rfl) (by kernel_rfl) (by kernel_rfl) (by kernel_rfl) (by exact fun _ _ _ h => h) (Or.inl ⟨by rfl, fun wx hSx => ?_⟩) hHeld ?_
        rotate_left
        · clear hSx; go_simp; (try with_reducible rfl)
        simp only [Act.put, List.setIfInBounds_toArray, List.set_cons_zero, List.set_cons_succ]
        refine wpAnyH_ready (rs := [13]) (by kernel_rfl) (by simp) ?_
        refine AllReadyH.cons (by simp; rfl) (fun K0 hK0 => ?_) AllReadyH.nil
        obtain ⟨s0, s1, s2, s3, s4, s5⟩ := six_cells q0.out
        have q1 := frozen_of_row W2 hb 2 _ _ q0.out
        go_simp
        refine hK0.out _ _ HPV.out.below (fun _ => ?_)
        clear hK0 K0 hHeld s0 s1 s2 s3 s4 s5 q1
        have hHeld := HPV.out.below
        refine wpAnyH_done (by kernel_rfl) ?_ _
        generalize (W2.setCell ⟨hb, 2, none⟩ (.slice A2 (n1 + 1) c2)) = W3 at HPV ⊢
        go_wp2
        go_roundw
        case rel => exact ⟨i + 1, A2, n1 + 1, c2, by go_num, by have := HIN.out; omega, HPV, Lib.hid (by have := HN1.out; omega)⟩
        case measure => have := HIN.out; simp [intOf]; omega
      · go_simp
        refine (HLC.out _).mono ?_
        rintro e c0 ⟨rfl, hbV⟩
        have HV2 := Lib.hid (HVY.out.next hbV)
        clear HVY hbV
        have HVY := HV2
        clear HV2
        refine hK0.out _ _ HVY.out.below (fun _ => ?_)
        clear hK0 K0 hHeld
        have hHeld := HVY.out.below
        refine wpAnyH_ready (rs := [2, 9]) (by kernel_rfl) (by simp) ?_
        refine AllReadyH.cons (by simp; rfl) (fun K0 hK0 => ?_) (AllReadyH.cons (by simp; rfl) (fun K0 hK0 => ?_) AllReadyH.nil)
        · obtain ⟨s0, s1, s2, s3, s4, s5⟩ := six_cells HVY.out.blk
          go_simp
          refine hK0.out _ _ HVY.out.below (fun _ => ?_)
          clear hK0 K0 s0 s1 s2 s3 s4 s5
          refine wpAnyH_ready (rs := [9]) (by kernel_rfl) (by simp) ?_
          refine AllReadyH.cons (by simp; rfl) (fun K0 hK0 => ?_) AllReadyH.nil
          go_simp
          have HV2 := Lib.hid (HVY.out.next ((Below.refl c0.heap.size c0).alloc (Nat.le_refl _) (.cells #[.int .i32 p, .bool f0, .bool f1, .bool f2, .bool f3, .bool f4, .bool f5, .bool f6, .bool f7, .int .u32 gg, .int .u32 bb] 80)))
          have HBK := Lib.hid (heap_alloc_new c0 (.cells #[.int .i32 p, .bool f0, .bool f1, .bool f2, .bool f3, .bool f4, .bool f5, .bool f6, .bool f7, .int .u32 gg, .int .u32 bb] 80))
          clear HVY
          have HVY := HV2
          clear HV2
          obtain ⟨fb, hfb⟩ : ∃ g, c0.heap.size = g := ⟨_, rfl⟩
          rw [hfb] at HBK ⊢
          clear hfb
          generalize (c0.alloc (.cells #[.int .i32 p, .bool f0, .bool f1, .bool f2, .bool f3, .bool f4, .bool f5, .bool f6, .bool f7, .int .u32 gg, .int .u32 bb] 80)) = b2 at HVY HBK ⊢
          refine hK0.out _ _ HVY.out.below (fun _ => ?_)
          clear hK0 K0 hHeld
          have hHeld := HVY.out.below
          refine wpAnyH_ready (rs := [10]) (by kernel_rfl) (by simp) ?_
          refine AllReadyH.cons (by simp; rfl) (fun K0 hK0 => ?_) AllReadyH.nil
          have how := HVY.out.own
          rw [HML.out] at how
          obtain ⟨v2, W2, hrun, ho, hg, hat⟩ := app_y (c := ⟨p, f, gg, bb⟩) how (by rw [HYC.out ()]; exact HBK.out) (by have := HN6.out; have := HN1.out; have := HIN.out; omega) (by have := lt_of_block HVY.out.blk; omega)
          refine step_app rfl (.tmp 26) (.tmp 33) _ rfl _ _ rfl rfl hrun ?_
          simp only [Act.put, List.setIfInBounds_toArray, List.set_cons_zero, List.set_cons_succ]
          obtain ⟨A2, c2, hv2, _⟩ := own_slice ho
          subst hv2
          have HPV := Lib.hid (HTK.out ▸ HVY.out.put hg ho (by rw [List.length_append, HML.out]; rfl))
          have q0 := Lib.hid ((hg.block hb (lt_of_block HVY.out.blk) (by intro e; have := ownBlock_le HVY.out.own hb e.symm; omega)).trans HVY.out.blk)
          have HB3 := Lib.hid (HVY.out.below.grown hg HVY.out.below.size (fun k hk => by have := ownBlock_le HVY.out.own k hk; have := HVY.out.gt; omega))
          clear hrun ho hg hat how
          refine hK0.out _ _ HB3.out (fun _ => ?_)
          clear hK0 K0 hHeld
          have hHeld := HB3.out
          refine wpAnyH_take (i := 11) (v := ?_) (by simp; rfl) (by kernel_rfl) (by kernel_rfl) (by kernel_rfl) (by exact fun _ _ _ h => h) (Or.inl ⟨by rfl, fun wx hSx => ?_⟩) hHeld ?_
          rotate_left
          · clear hSx; go_simp; (try with_reducible rfl)
          simp only [Act.put, List.setIfInBounds_toArray, List.set_cons_zero, List.set_cons_succ]
          refine wpAnyH_take (i := 12) (v := ?_) (by simp; rfl) (by kernel_rfl) (by kernel_rfl) (by kernel_rfl) (by exact fun _ _ _ h => h) (Or.inl ⟨by rfl, fun wx hSx => ?_⟩) hHeld ?_
          rotate_left
          · clear hSx; go_simp; (try with_reducible rfl)
          simp only [Act.put, List.setIfInBounds_toArray, List.set_cons_zero, List.set_cons_succ]
          refine wpAnyH_ready (rs := [13]) (by kernel_rfl) (by simp) ?_
          refine AllReadyH.cons (by simp; rfl) (fun K0 hK0 => ?_) AllReadyH.nil
          obtain ⟨s0, s1, s2, s3, s4, s5⟩ := six_cells q0.out
          have q1 := frozen_of_row W2 hb 2 _ _ q0.out
          go_simp
          refine hK0.out _ _ HPV.out.below (fun _ => ?_)
          clear hK0 K0 hHeld s0 s1 s2 s3 s4 s5 q1
          have hHeld := HPV.out.below
          refine wpAnyH_done (by kernel_rfl) ?_ _
          generalize (W2.setCell ⟨hb, 2, none⟩ (.slice A2 (n1 + 1) c2)) = W3 at HPV ⊢
          go_wp2
          go_roundw
          case rel => exact ⟨i + 1, A2, n1 + 1, c2, by go_num, by have := HIN.out; omega, HPV, Lib.hid (by have := HN1.out; omega)⟩
          case measure => have := HIN.out; simp [intOf]; omega
        · go_simp
          have HV2 := Lib.hid (HVY.out.next ((Below.refl c0.heap.size c0).alloc (Nat.le_refl _) (.cells #[.int .i32 p, .bool f0, .bool f1, .bool f2, .bool f3, .bool f4, .bool f5, .bool f6, .bool f7, .int .u32 gg, .int .u32 bb] 80)))
          have HBK := Lib.hid (heap_alloc_new c0 (.cells #[.int .i32 p, .bool f0, .bool f1, .bool f2, .bool f3, .bool f4, .bool f5, .bool f6, .bool f7, .int .u32 gg, .int .u32 bb] 80))
          clear HVY
          have HVY := HV2
          clear HV2
          obtain ⟨fb, hfb⟩ : ∃ g, c0.heap.size = g := ⟨_, rfl⟩
          rw [hfb] at HBK ⊢
          clear hfb
          generalize (c0.alloc (.cells #[.int .i32 p, .bool f0, .bool f1, .bool f2, .bool f3, .bool f4, .bool f5, .bool f6, .bool f7, .int .u32 gg, .int .u32 bb] 80)) = b1 at HVY HBK ⊢
          refine hK0.out _ _ HVY.out.below (fun _ => ?_)
          clear hK0 K0 hHeld
          have hHeld := HVY.out.below
          refine wpAnyH_ready (rs := [2]) (by kernel_rfl) (by simp) ?_
          refine AllReadyH.cons (by simp; rfl) (fun K0 hK0 => ?_) AllReadyH.nil
          obtain ⟨s0, s1, s2, s3, s4, s5⟩ := six_cells HVY.out.blk
          go_simp
          refine hK0.out _ _ HVY.out.below (fun _ => ?_)
          clear hK0 K0 s0 s1 s2 s3 s4 s5
          refine wpAnyH_ready (rs := [10]) (by kernel_rfl) (by simp) ?_
          refine AllReadyH.cons (by simp; rfl) (fun K0 hK0 => ?_) AllReadyH.nil
          have how := HVY.out.own
          rw [HML.out] at how
          obtain ⟨v2, W2, hrun, ho, hg, hat⟩ := app_y (c := ⟨p, f, gg, bb⟩) how (by rw [HYC.out ()]; exact HBK.out) (by have := HN6.out; have := HN1.out; have := HIN.out; omega) (by have := lt_of_block HVY.out.blk; omega)
          refine step_app rfl (.tmp 26) (.tmp 33) _ rfl _ _ rfl rfl hrun ?_
          simp only [Act.put, List.setIfInBounds_toArray, List.set_cons_zero, List.set_cons_succ]
          obtain ⟨A2, c2, hv2, _⟩ := own_slice ho
          subst hv2
          have HPV := Lib.hid (HTK.out ▸ HVY.out.put hg ho (by rw [List.length_append, HML.out]; rfl))
          have q0 := Lib.hid ((hg.block hb (lt_of_block HVY.out.blk) (by intro e; have := ownBlock_le HVY.out.own hb e.symm; omega)).trans HVY.out.blk)
          have HB3 := Lib.hid (HVY.out.below.grown hg HVY.out.below.size (fun k hk => by have := ownBlock_le HVY.out.own k hk; have := HVY.out.gt; omega))
          clear hrun ho hg hat how
          refine hK0.out _ _ HB3.out (fun _ => ?_)
          clear hK0 K0 hHeld
          have hHeld := HB3.out
          refine wpAnyH_take (i := 11) (v := ?_) (by simp; rfl) (by kernel_rfl) (by kernel_rfl) (by kernel_rfl) (by exact fun _ _ _ h => h) (Or.inl ⟨by rfl, fun wx hSx => ?_⟩) hHeld ?_
          rotate_left
          · clear hSx; go_simp; (try with_reducible rfl)
          simp only [Act.put, List.setIfInBounds_toArray, List.set_cons_zero, List.set_cons_succ]
          refine wpAnyH_take (i := 12) (v := ?_) (by simp; rfl) (by kernel_rfl) (by kernel_rfl) (by kernel_rfl) (by exact fun _ _ _ h => h) (Or.inl ⟨by rfl, fun wx hSx => ?_⟩) hHeld ?_
          rotate_left
          · clear hSx; go_simp; (try with_reducible rfl)
          simp only [Act.put, List.setIfInBounds_toArray, List.set_cons_zero, List.set_cons_succ]
          refine wpAnyH_ready (rs := [13]) (by kernel_rfl) (by simp) ?_
          refine AllReadyH.cons (by simp; rfl) (fun K0 hK0 => ?_) AllReadyH.nil
          obtain ⟨s0, s1, s2, s3, s4, s5⟩ := six_cells q0.out
          have q1 := frozen_of_row W2 hb 2 _ _ q0.out
          go_simp
          refine hK0.out _ _ HPV.out.below (fun _ => ?_)
          clear hK0 K0 hHeld s0 s1 s2 s3 s4 s5 q1
          have hHeld := HPV.out.below
          refine wpAnyH_done (by kernel_rfl) ?_ _
          generalize (W2.setCell ⟨hb, 2, none⟩ (.slice A2 (n1 + 1) c2)) = W3 at HPV ⊢
          go_wp2
          go_roundw
          case rel => exact ⟨i + 1, A2, n1 + 1, c2, by go_num, by have := HIN.out; omega, HPV, Lib.hid (by have := HN1.out; omega)⟩
          case measure => have := HIN.out; simp [intOf]; omega
    · have e1 : decide ((i : Int) < (n : Int)) = false := by simp; omega
      have e1' : decide (i < n) = false := by simp; omega
      obtain rfl : i = n := by omega
      obtain rfl : n1 = i := HN1.out
      have HZR := Lib.hid ((HVY.out.below.block _ (lt_of_block HZ.out)).trans HZ.out)
      have HVL : Hid (VY U hb R C row col vis L (.slice A1 n1 c1) wr) := Lib.hid (by
        have hz := HVY.out
        rw [List.take_of_length_le (by rw [HL.out]; exact Nat.le_refl _)] at hz
        exact hz)
      have HRB := Lib.hid (show w.heap.size ≤ vb + 1 by have := HVB.out; omega)
      have HBT := Lib.hid (HB.out.trans (HVY.out.below.mono HB.out.size))
      obtain ⟨s0, s1, s2, s3, s4, s5⟩ := six_cells HVY.out.blk
      clear hi hin
      go_wp2_with (refine wpList_store_row rfl 34 (.tmp 2) (.tmp 37) rfl (vb + 1) #[.int .i64 R, .int .i64 C, .slice A1 n1 c1, .int .i64 row, .int .i64 col, .bool vis] rfl rfl 34 _ HZR.out info_wview rfl (by simp [Value.oneCell']) ?_)
      exact bodyPost_ret (results_cell_row Tryd.results9 _ _ (vb + 1) 34 #[.int .i64 R, .int .i64 C, .slice A1 n1 c1, .int .i64 row, .int .i64 col, .bool vis] (0, 0) _ rfl (setRow_heap _ _ _ #[.int .i64 R, .int .i64 C, .slice A1 n1 c1, .int .i64 row, .int .i64 col, .bool vis] _ _ HZR.out) Tryd.underlying34 rfl info_wview) rfl ⟨A1, ⟨c1, rfl⟩, CY.set HVL.out (lt_of_block HZ.out) _, below_setRow HBT.out HRB.out _⟩
end Go.Proofs.YtjihcpnaebghnaaDoor
