/-
  Proved here: FragParts walked: it returns true, whatever comes in, and nothing that was there is changed.
-/
import Derived.Test.YtmklcghoeapfbaaDoorFb2
import Derived.Test.YtmklcghoeapfbaaDoorFy
namespace Go.Proofs.YtmklcghoeapfbaaDoor
open Go.RowKit

set_option maxRecDepth 100000 in
set_option maxHeartbeats 1000000 in
theorem parts_guard (id ix ct : Int) (A B : Option Addr) (m c lb cb : Nat) (w : World) (hT : Tab w) (h : 600 < m ∨ 600 < lb) :
    Calls Tryd.prog 3 #[PV id ix ct A m c, .slice B lb cb] w (Tru w) := by
  have hb0 : Below w.heap.size w (w.alloc (.cells #[.int .u64 id, .int .i64 ix, .int .i64 ct, .slice A m c] 25)) := (Below.refl _ _).alloc (Nat.le_refl _) _
  have HT := Lib.hid (alive_any _ (hT.below hb0 hT.big))
  have HB := Lib.hid hb0
  clear hb0
  by_cases h1 : 600 < m
  · have d1 : decide ((600 : Int) < (m : Int)) = true := by simp; omega
    go_enter Tryd.func3, Tryd.ntmps3
    go_wp2_with fail
    refine HT.out.mono ?_
    rintro e w1 ⟨rfl, hb1⟩
    have hfin := HB.out.trans (hb1.mono HB.out.size)
    go_wp2
    go_ret
    exact ⟨rfl, hfin⟩
  · have d1 : decide ((600 : Int) < (m : Int)) = false := by simp; omega
    have d2 : decide ((600 : Int) < (lb : Int)) = true := by simp; omega
    go_enter Tryd.func3, Tryd.ntmps3
    go_wp2_with fail
    refine HT.out.mono ?_
    rintro e w1 ⟨rfl, hb1⟩
    have hfin := HB.out.trans (hb1.mono HB.out.size)
    go_wp2
    go_ret
    exact ⟨rfl, hfin⟩

/-- What the last test reads. -/
structure Q16 (U : World) (g : Nat) (p : Prt) (A : Option Addr) (m c : Nat) (AW : Option Addr) (wb : List Int) (W : World) : Prop where
  below : Below U.heap.size U W
  p4 : P4 U g 0 p.id p.ix p.ct A m c
  cv : RB U U.heap.size AW wb
theorem Q16.to {U : World} {g : Nat} {p : Prt} {A : Option Addr} {m c : Nat} {AW : Option Addr} {wb : List Int} {W W' : World} (h : Q16 U g p A m c AW wb W) (hb : Below W.heap.size W W') : Q16 U g p A m c AW wb W' := ⟨h.below.trans (hb.mono h.below.size), h.p4, h.cv⟩
abbrev S16 (U : World) (g : Nat) (p : Prt) (A : Option Addr) (m c : Nat) (AW : Option Addr) (wb : List Int) (nW cW : Nat) (W : World) : Prop :=
  W.cell? ⟨g, 0, none⟩ = some (.int .u64 p.id) ∧ W.cell? ⟨g, 1, none⟩ = some (.int .i64 p.ix) ∧ W.cell? ⟨g, 2, none⟩ = some (.int .i64 p.ct) ∧ W.cell? ⟨g, 3, none⟩ = some (.slice A m c) ∧
  (convert 23 9 (.slice AW nW cW)).run Tryd.prog W = .ok (.string (strOfNums wb)) W ∧ Hid (Q16 U g p A m c AW wb W)
theorem Q16.of {U : World} {g : Nat} {p : Prt} {A : Option Addr} {m c : Nat} {AW : Option Addr} {wb : List Int} {nW cW : Nat} {W : World} (hn : wb.length = nW) (h : Hid (Q16 U g p A m c AW wb W)) : S16 U g p A m c AW wb nW cW W := by
  obtain ⟨a0, a1, a2, a3⟩ := h.out.p4.below h.out.below h.out.p4.lt
  exact ⟨a0, a1, a2, a3, conv_n cW (h.out.cv.below h.out.below) hn, h⟩
/-- What the test on four parts reads. -/
structure Four (U : World) (g1 g2 g3 g4 : Nat) (p q : Prt) (A A1 A2 : Option Addr) (m c n c1 c2 : Nat) : Prop where
  p1 : P4 U g1 0 p.id p.ix p.ct A m c
  p2 : P4 U g2 0 p.id p.ix p.ct A m c
  p3 : P4 U g3 0 q.id q.ix q.ct A1 n c1
  p4 : P4 U g4 0 q.id q.ix q.ct A2 n c2
abbrev SW (U : World) (g1 g2 g3 g4 : Nat) (p q : Prt) (A A1 A2 : Option Addr) (m c n c1 c2 : Nat) (W : World) : Prop :=
  W.cell? ⟨g1, 0, none⟩ = some (.int .u64 p.id) ∧ W.cell? ⟨g1, 1, none⟩ = some (.int .i64 p.ix) ∧ W.cell? ⟨g1, 2, none⟩ = some (.int .i64 p.ct) ∧ W.cell? ⟨g1, 3, none⟩ = some (.slice A m c) ∧
  W.cell? ⟨g2, 0, none⟩ = some (.int .u64 p.id) ∧ W.cell? ⟨g2, 1, none⟩ = some (.int .i64 p.ix) ∧ W.cell? ⟨g2, 2, none⟩ = some (.int .i64 p.ct) ∧ W.cell? ⟨g2, 3, none⟩ = some (.slice A m c) ∧
  W.cell? ⟨g3, 0, none⟩ = some (.int .u64 q.id) ∧ W.cell? ⟨g3, 1, none⟩ = some (.int .i64 q.ix) ∧ W.cell? ⟨g3, 2, none⟩ = some (.int .i64 q.ct) ∧ W.cell? ⟨g3, 3, none⟩ = some (.slice A1 n c1) ∧
  W.cell? ⟨g4, 0, none⟩ = some (.int .u64 q.id) ∧ W.cell? ⟨g4, 1, none⟩ = some (.int .i64 q.ix) ∧ W.cell? ⟨g4, 2, none⟩ = some (.int .i64 q.ct) ∧ W.cell? ⟨g4, 3, none⟩ = some (.slice A2 n c2) ∧ Hid (Below U.heap.size U W)
theorem SW.of {U : World} {g1 g2 g3 g4 : Nat} {p q : Prt} {A A1 A2 : Option Addr} {m c n c1 c2 : Nat} {W : World} (hU : Hid (Four U g1 g2 g3 g4 p q A A1 A2 m c n c1 c2)) (h : Hid (Below U.heap.size U W)) : SW U g1 g2 g3 g4 p q A A1 A2 m c n c1 c2 W := by
  obtain ⟨a0, a1, a2, a3⟩ := hU.out.p1.below h.out hU.out.p1.lt
  obtain ⟨b0, b1, b2, b3⟩ := hU.out.p2.below h.out hU.out.p2.lt
  obtain ⟨d0, d1, d2, d3⟩ := hU.out.p3.below h.out hU.out.p3.lt
  obtain ⟨e0, e1, e2, e3⟩ := hU.out.p4.below h.out hU.out.p4.lt
  exact ⟨a0, a1, a2, a3, b0, b1, b2, b3, d0, d1, d2, d3, e0, e1, e2, e3, h⟩
theorem SW.last {U : World} {g1 g2 g3 g4 : Nat} {p q : Prt} {A A1 A2 : Option Addr} {m c n c1 c2 : Nat} {W : World} (h : SW U g1 g2 g3 g4 p q A A1 A2 m c n c1 c2 W) : Below U.heap.size U W := by
  obtain ⟨_, _, _, _, _, _, _, _, _, _, _, _, _, _, _, _, h⟩ := h
  exact h.out
theorem SW.to {U : World} {g1 g2 g3 g4 : Nat} {p q : Prt} {A A1 A2 : Option Addr} {m c n c1 c2 : Nat} {W W' : World} (hU : Hid (Four U g1 g2 g3 g4 p q A A1 A2 m c n c1 c2)) (hb : Below W.heap.size W W') (h : SW U g1 g2 g3 g4 p q A A1 A2 m c n c1 c2 W) : SW U g1 g2 g3 g4 p q A A1 A2 m c n c1 c2 W' :=
  SW.of hU (Lib.hid (h.last.trans (hb.mono h.last.size)))

set_option maxRecDepth 100000 in
set_option maxHeartbeats 4000000 in
theorem parts_in (p : Prt) (bs : List Int) (A B : Option Addr) (m c lb cb : Nat) (w : World) (hT : Tab w) (hm : p.d.length = m) (hm6 : m ≤ 600) (hlb : bs.length = lb) (hb6 : lb ≤ 600)
    (hO : (0 ≤ p.id ∧ p.id < 18446744073709551616) ∧ (-9223372036854775808 ≤ p.ct ∧ p.ct < 9223372036854775808) ∧ (-9223372036854775808 ≤ p.ix ∧ p.ix < 9223372036854775808)) (hR : RB w w.heap.size A p.d) (hA : A = none → c = 0)
    (hRb : RB w w.heap.size B bs) (hcb : lb ≤ cb) (hmb : cb ≤ maxLen) (hBn : B = none → cb = 0) (hBy : Bytes bs) :
    Calls Tryd.prog 3 #[PV p.id p.ix p.ct A m c, .slice B lb cb] w (Tru w) := by
  have d1 : decide ((600 : Int) < (m : Int)) = false := by simp; omega
  have d2 : decide ((600 : Int) < (lb : Int)) = false := by simp; omega
  have hmx : m ≤ maxLen := by unfold maxLen; omega
  obtain ⟨U0, hU0⟩ : ∃ U0, U0 = w.alloc (.cells #[.int .u64 p.id, .int .i64 p.ix, .int .i64 p.ct, .slice A m c] 25) := ⟨_, rfl⟩
  have hb0 : Below w.heap.size w U0 := by rw [hU0]; exact (Below.refl _ _).alloc (Nat.le_refl _) _
  have HP0 := Lib.hid (show P4 U0 w.heap.size 0 p.id p.ix p.ct A m c by rw [hU0]; exact P4.blk (heap_alloc_new _ _))
  have HAS := Lib.hid (as_any p.id p.ix p.ct A m c U0)
  rw [hU0] at HAS
  have HM := Lib.hid hm
  have HLB := Lib.hid hlb
  have HO := Lib.hid hO
  have HR := Lib.hid hR
  have HRb := Lib.hid hRb
  have HBy := Lib.hid hBy
  have HU0 := Lib.hid hU0
  have HB0 := Lib.hid hb0
  clear hm hlb hO hR hRb hBy hU0 hb0
  go_enter Tryd.func3, Tryd.ntmps3
  go_wp2_with fail
  refine HAS.out.mono ?_
  rintro e w1 ⟨rfl, hb1⟩
  rw [← HU0.out] at hb1
  obtain ⟨U1, hU1⟩ : ∃ U1, U1 = w1.alloc (.cells #[.int .u64 p.id, .int .i64 p.ix, .int .i64 p.ct, .slice A m c] 27) := ⟨_, rfl⟩
  have hb01 : Below U0.heap.size U0 U1 := by rw [hU1]; exact hb1.alloc hb1.size _
  have hbw1 := HB0.out.trans (hb01.mono HB0.out.size)
  have HP1 := Lib.hid (HP0.out.below hb01 HP0.out.lt)
  have HX1 := Lib.hid (show P4 U1 w1.heap.size 0 p.id p.ix p.ct A m c by rw [hU1]; exact P4.blk (heap_alloc_new _ _))
  have HWR := Lib.hid (write_any p A m c U1 HM.out HO.out ((HR.out.below hbw1).keep' hbw1.size) hA hmx (hT.below hbw1 hT.big))
  have hw1w : w.heap.size < w1.heap.size := by have := HP0.out.lt; have := hb1.size; omega
  rw [hU1] at HWR
  obtain ⟨a0, a1, a2, a3⟩ := HP1.out
  rw [hU1] at a0 a1 a2 a3
  have HU1 := Lib.hid hU1
  have HBW1 := Lib.hid hbw1
  clear hb1 hb01 hbw1 hU1
  go_wp2_with fail
  refine HWR.out.mono ?_
  rintro e w2 ⟨vW, rfl, hW2, hb2⟩
  clear a0 a1 a2 a3
  rw [← HU1.out] at hW2 hb2
  have hbw2 := HBW1.out.trans (hb2.mono HBW1.out.size)
  have HP2 := Lib.hid (HP1.out.below hb2 HP1.out.lt)
  have HX2 := Lib.hid (HX1.out.below hb2 HX1.out.lt)
  have hl2 : w1.heap.size < w2.heap.size := HX2.out.lt
  have hrow0 : (w2.alloc (.cells #[] 5)).ownsRow w2.heap.size 5 1 (.slice (some ⟨w2.heap.size, 0, none⟩) 0 0) 0 [] := World.ownsRow_made w2 #[] 0 (Nat.le_refl _) (by unfold maxLen; omega) rfl
  obtain ⟨v3, w3, hrun3, hown3, hgr3⟩ := app_bytes (xs := []) cb ((HRb.out.below hbw2).alloc hbw2.size (.cells #[] 5)) hBn hrow0 (by rw [HLB.out]; omega) (by simp)
  rw [HLB.out, Nat.zero_add] at hown3
  rw [HLB.out] at hrun3
  have hb3 : Below w2.heap.size w2 w3 := ((Below.refl _ _).alloc (Nat.le_refl _) _).grown hgr3 (by simp) (fun k hk => lit_le (Nat.le_refl _) hk)
  have hbw3 := hbw2.trans (hb3.mono hbw2.size)
  rw [List.nil_append] at hown3
  obtain ⟨AO, cO, rfl, hRO, hO1, hO2, _⟩ := RB.of_own (bs := bs) (by rw [HLB.out]; exact hown3)
  rw [HLB.out] at hO1 hrun3 hown3
  have HRN := Lib.hid hrun3
  have HRD := Lib.hid (read_any bs AO cO w3 hRO (by rw [HLB.out]; exact hO1) hO2 (by rw [HLB.out]; omega) HBy.out (hT.below hbw3 hT.big))
  rw [HLB.out] at HRD
  have HRR := Lib.hid (fun W (hb : Below w.heap.size w W) => rread_any bs B cb W ((HRb.out.below hb).keep' hb.size) (by rw [HLB.out]; exact hcb) hmb (by rw [HLB.out]; omega) HBy.out)
  obtain ⟨Q, hQ⟩ : ∃ Q, readS bs = Q := ⟨_, rfl⟩
  rw [hQ] at HRD HRR
  clear hQ
  obtain ⟨q, er⟩ := Q
  unfold ReadPost at HRD
  unfold RReadPost at HRR
  simp only at HRD HRR
  rw [HLB.out] at HRR
  obtain ⟨n, hn⟩ : ∃ n, q.d.length = n := ⟨_, rfl⟩
  have HN := Lib.hid hn
  rw [hn] at HRD HRR
  have HO3 := Lib.hid hown3
  have HB3 := Lib.hid hb3
  have HW2 := Lib.hid hW2
  have HBW2 := Lib.hid hbw2
  have HBW3 := Lib.hid hbw3
  clear hn hrun3 hown3 hgr3 hb3 hRO hO1 hO2 hrow0 hb2 hW2 hbw2 hbw3
  go_wp2_with (first | (at_builtin; refine wpList_app rfl (.tmp 31) (.tmp 32) _ rfl _ _ rfl rfl HRN.out ?_))
  refine HRD.out.mono ?_
  rintro e w4 ⟨A4, c4, rfl, hown4, hb4⟩
  obtain ⟨U4, hU4⟩ : ∃ U4, U4 = w4.alloc (.cells #[.int .u64 q.id, .int .i64 q.ix, .int .i64 q.ct, .slice A4 n c4] 25) := ⟨_, rfl⟩
  have hb34 : Below w3.heap.size w3 U4 := by rw [hU4]; exact hb4.alloc hb4.size _
  have HY4 := Lib.hid (show P4 U4 w4.heap.size 0 q.id q.ix q.ct A4 n c4 by rw [hU4]; exact P4.blk (heap_alloc_new _ _))
  have HO4 := Lib.hid (show U4.ownsRow w3.heap.size 5 1 (.slice A4 n c4) n (B8 q.d) by rw [hU4]; exact own_below hown4 ((Below.refl _ _).alloc (Nat.le_refl _) _))
  have HOO := Lib.hid (own_below HO3.out hb34)
  have HB34 := Lib.hid hb34
  have hs34 := hb34.size
  have hs4 := hb4.size
  have HU4 := Lib.hid hU4
  have HBB := Lib.hid (HB3.out.trans (hb34.mono HB3.out.size))
  have hob : ∀ g, (Value.slice AO lb cO).ownBlock = some g → w2.heap.size ≤ g ∧ g < w3.heap.size := fun g hg => ⟨ownBlock_le HO3.out g hg, (HO3.out.lt g hg).2⟩
  have HOB := Lib.hid hob
  clear hown4 hb4 hb34 hU4 hob
  go_wp2
  rw [← HU4.out]
  go_loopw [11] (fun i wr => ∃ (k : Nat) (zs : List Int), k ≤ lb ∧ zs.length = lb ∧ i = .int .i64 k ∧ wr.ownsRow w2.heap.size 5 1 (.slice AO lb cO) lb (B8 zs) ∧ Below w2.heap.size w2 wr ∧ U4.grownBy wr (Value.slice AO lb cO).ownBlock) (fun i _ => lb - (intOf i).toNat)
  case atStart => exact ⟨0, bs, Nat.zero_le _, HLB.out, rfl, HOO.out, HBB.out, World.grownBy.refl _ _⟩
  case round =>
    obtain ⟨k, zs, hk, hzl, rfl, hoz, hbz, hgz⟩ := hrel
    have HZL := Lib.hid hzl
    clear hzl
    by_cases hlt : k < lb
    · obtain ⟨g, cg, hform, hgb, hgl⟩ := hoz.form (by omega)
      injection hform with hA _ hc
      subst hA
      subst hc
      have hck := hoz.cellAt k (by omega)
      rw [B8_getElem (by rw [HZL.out]; exact hlt)] at hck
      have hfr := hoz.frozenAt k
      obtain ⟨z, hz⟩ : ∃ z, zs.getD k 0 = z := ⟨_, rfl⟩
      rw [hz] at hck
      clear hz
      have hst := hoz.stored k (.int .u8 (bits BinOp.xor IntKind.u8 z 255))
      rw [B8_set] at hst
      have hb' : Below w2.heap.size w2 (wr.setCell ⟨g, k, none⟩ (.int .u8 (bits BinOp.xor IntKind.u8 z 255))) := hbz.setCell (p := ⟨g, k, none⟩) hgb _
      have hg' := grown_store hgz hst.2 rfl
      have hst1 := hst.1
      have HL2 : Hid ((zs.set k (bits BinOp.xor IntKind.u8 z 255)).length = lb) := List.length_set.trans HZL.out
      clear hst hoz hbz hgz
      go_wp2
      go_roundw
      case rel => exact ⟨k + 1, _, by omega, HL2.out, by go_num, hst1, hb', hg'⟩
      case measure => simp [intOf]; omega
    · have hbwr := HBW2.out.trans (hbz.mono HBW2.out.size)
      have HBR := Lib.hid hbwr
      have HRR2 := Lib.hid (HRR.out wr hbwr)
      have hfar : ∀ g, g < U4.heap.size → (g < w2.heap.size ∨ w3.heap.size ≤ g) → wr.heap[g]? = U4.heap[g]? := fun g h1 h2 => hgz.block g h1 (fun e => by have := HOB.out g e.symm; omega)
      have HX := Lib.hid (HX2.out.below hbz HX2.out.lt)
      have HPw := Lib.hid (HP2.out.below hbz HP2.out.lt)
      have hYw : P4 wr w4.heap.size 0 q.id q.ix q.ct A4 n c4 := by
        have hl4 := HY4.out.lt
        obtain ⟨y0, y1, y2, y3⟩ := HY4.out
        exact ⟨(World.cell?_of_block (hfar w4.heap.size hl4 (.inr hs4))).trans y0, (World.cell?_of_block (hfar w4.heap.size hl4 (.inr hs4))).trans y1, (World.cell?_of_block (hfar w4.heap.size hl4 (.inr hs4))).trans y2, (World.cell?_of_block (hfar w4.heap.size hl4 (.inr hs4))).trans y3⟩
      have HYw := Lib.hid hYw
      have HOq := Lib.hid (own_far HO4.out hgz (fun g hg => (HOB.out g hg).2))
      have HWr := Lib.hid (own_below HW2.out hbz)
      clear hoz hbz hgz hfar hbwr hYw
      go_wp2_with fail
      refine HRR2.out.mono ?_
      rintro e w6 ⟨A6, c6, rfl, hR6, hb6⟩
      obtain ⟨U6, hU6⟩ : ∃ U6, U6 = w6.alloc (.cells #[.int .u64 q.id, .int .i64 q.ix, .int .i64 q.ct, .slice A6 n c6] 27) := ⟨_, rfl⟩
      have hbr6 : Below wr.heap.size wr U6 := by rw [hU6]; exact hb6.alloc hb6.size _
      have hbw6 := HBR.out.trans (hbr6.mono HBR.out.size)
      have HF := Lib.hid (show Four U6 w.heap.size w1.heap.size w4.heap.size w6.heap.size p q A A4 A6 m c n c4 c6 from
        ⟨HPw.out.below hbr6 HPw.out.lt, HX.out.below hbr6 HX.out.lt, HYw.out.below hbr6 HYw.out.lt, by rw [hU6]; exact P4.blk (heap_alloc_new _ _)⟩)
      have hRA4 : RB U6 U6.heap.size A4 q.d := by
        obtain ⟨A5, c5, e5, h51, _⟩ := RB.of_own (bs := q.d) (v := .slice A4 n c4) (base := w3.heap.size) (by rw [HN.out]; exact own_below HOq.out hbr6)
        injection e5 with e5 _ _
        subst e5
        exact h51
      have hRA6 : RB U6 U6.heap.size A6 q.d := by
        rw [hU6]
        exact ((hR6.keep' hb6.size).alloc (Nat.le_refl _) _).keep' (by simp)
      have HSM := Lib.hid (fun W (hb : Below U6.heap.size U6 W) => same_true q.id q.ix q.ct q.d n HN.out A4 A6 c4 c6 W ((hRA4.below hb).keep' hb.size) ((hRA6.below hb).keep' hb.size))
      have HWU := Lib.hid (own_below HWr.out hbr6)
      have hR1 := HO.out
      have HRI := Lib.hid (fun W => right_any p.id p.ix p.ct A m c W hR1.1.1 hR1.1.2 hR1.2.1.1 hR1.2.1.2 hmx)
      have HRI2 := Lib.hid (fun W => rright_any p.id p.ix p.ct A m c W hR1.1.1 hR1.1.2 hR1.2.1.1 hR1.2.1.2 hmx)
      unfold RightPost at HRI HRI2
      have HWS := Lib.hid (show wrS p = if rgt p.id p.ix p.ct m = true then (wrB p, 0) else ([], 3) by rw [← HM.out]; rfl)
      have HRGT := Lib.hid (show rgt p.id p.ix p.ct m = true → p.ok = true from fun h => by rw [← HM.out] at h; exact h)
      obtain ⟨Bv, hBv⟩ : ∃ Bv, rgt p.id p.ix p.ct m = Bv := ⟨_, rfl⟩
      rw [hBv] at HRI HRI2 HWS HRGT
      have hBB : (Bv != Bv) = false := by simp
      have hEE : (er != er) = false := by simp
      have HUD := Lib.hid (show Below U6.heap.size U6 U6.drew from belowN (Below.refl _ _) 1)
      have HBW6 := Lib.hid hbw6
      have HU6 := Lib.hid hU6
      clear hBv hR1 hb6 hbr6 hbw6 hRA4 hRA6 hR6 hU6
      go_wp2
      rw [← HU6.out]
      go_region_held3 (SW U6 w.heap.size w1.heap.size w4.heap.size w6.heap.size p q A A4 A6 m c n c4 c6)
        (first | exact SW.of HF HUD | assumption | exact SW.to HF (by assumption) (by assumption))
        (first | (go_at_call 12; refine (HRI.out _).mono ?_; rintro e wy ⟨rfl, hby⟩) | (go_at_call 13; refine (HRI2.out _).mono ?_; rintro e wy ⟨rfl, hby⟩) | (go_at_call 8; refine (as_any _ _ _ _ _ _ _).mono ?_; rintro e wy ⟨rfl, hby⟩) | (go_at_call 14; refine (HSM.out _ (SW.last (by assumption))).mono ?_; rintro e wy ⟨rfl, hby⟩))
      have hSB := SW.last (U := U6) (W := wy) (by assumption)
      have HX6 := Lib.hid (HF.out.p2.below hSB HF.out.p2.lt)
      have HBY := Lib.hid (HBW6.out.trans (hSB.mono HBW6.out.size))
      have HWY := Lib.hid (own_below HWU.out hSB)
      clear hSB
      obtain ⟨x0, x1, x2, x3⟩ := HX6.out
      rw [Nat.zero_add] at x1 x2 x3
      cases Bv
      · have hw1 : (wrS p).1 = [] := by rw [HWS.out]; rfl
        have hw2 : (wrS p).2 = 3 := by rw [HWS.out]; rfl
        rw [hw1] at HWY
        rw [hw2]
        obtain ⟨AW, cW, rfl, _⟩ := own_slice HWY.out
        clear hw1 hw2
        go_wp2_with fail
        refine (HRI2.out _).mono ?_
        rintro e wz ⟨rfl, hbz⟩
        have hbwz := HBY.out.trans (hbz.mono HBY.out.size)
        have HT5 := Lib.hid (alive_any wz (hT.below hbwz hT.big))
        have HBZ := Lib.hid hbwz
        clear x0 x1 x2 x3 hbz hbwz
        go_wp2_with fail
        refine HT5.out.mono ?_
        rintro e wa ⟨rfl, hba⟩
        have hfin := HBZ.out.trans (hba.mono HBZ.out.size)
        go_wp2
        go_ret
        exact ⟨rfl, hfin⟩
      · have hw1 : (wrS p).1 = wrB p := by rw [HWS.out]; rfl
        have hw2 : (wrS p).2 = 0 := by rw [HWS.out]; rfl
        rw [hw1] at HWY
        rw [hw2]
        obtain ⟨AW, cW, rfl, hRW, _⟩ := RB.of_own HWY.out
        clear hw1 hw2
        have hok := HRGT.out rfl
        go_wp2_with fail
        refine (HRI2.out _).mono ?_
        rintro e U2 ⟨rfl, hbz⟩
        have hbwz := HBY.out.trans (hbz.mono HBY.out.size)
        have HQ := Lib.hid (show Q16 U2 w1.heap.size p A m c AW (wrB p) U2.drew from ⟨belowN (Below.refl _ _) 1, HX6.out.below hbz HX6.out.lt, (hRW.below hbz).keep' hbz.size⟩)
        have HT16 := Lib.hid (alive_any U2.drew (hT.below (belowN hbwz 1) hT.big))
        have HRW := Lib.hid (fun W (h : Q16 U2 w1.heap.size p A m c AW (wrB p) W) => rwrite_any p A m c W HM.out hok ((HR.out.below (hbwz.trans (h.below.mono hbwz.size))).keep' (Nat.le_trans hbwz.size h.below.size)) hA)
        have HBZ := Lib.hid hbwz
        obtain ⟨WB, hWB⟩ : ∃ WB, wrB p = WB := ⟨_, rfl⟩
        rw [hWB] at HQ HRW ⊢
        obtain ⟨nW, hnW⟩ : ∃ nW, WB.length = nW := ⟨_, rfl⟩
        have HWN := Lib.hid hnW
        rw [hnW]
        have ss : ((strOfNums WB).toList == (strOfNums WB).toList) = true := by simp
        clear x0 x1 x2 x3 hbz hbwz hok hRW hWB hnW
        go_wp2
        refine wp_region_held_drew (S := S16 U2 w1.heap.size p A m c AW WB nW cW) (by kernel_rfl) (Q16.of HWN.out HQ) (fun hHeld => ?_)
        refine wpAnyH_ready (rs := [0]) (by kernel_rfl) (by simp) ?_
        refine AllReadyH.cons (by simp; rfl) (fun K0 hK0 => ?_) AllReadyH.nil
        go_simp
        refine HT16.out.mono ?_
        rintro e wa ⟨rfl, hba⟩
        have HQA := Lib.hid (HQ.out.to hba)
        clear hba
        refine hK0.out _ _ (Q16.of HWN.out HQA) (fun hHeld => ?_)
        clear hK0 K0
        refine wpAnyH_take (i := 1) (v := ?_) (by simp; rfl) (by kernel_rfl) (by kernel_rfl) (by kernel_rfl) (by exact fun _ _ _ h => h) (Or.inl ⟨by rfl, fun wx hSx => ?_⟩) hHeld ?_
        rotate_left
        · clear hSx; go_simp; (try with_reducible rfl)
        simp only [Act.put, List.setIfInBounds_toArray, List.set_cons_zero, List.set_cons_succ]
        refine wpAnyH_take (i := 2) (v := ?_) (by simp; rfl) (by kernel_rfl) (by kernel_rfl) (by kernel_rfl) (by exact fun _ _ _ h => h) (Or.inl ⟨by rfl, fun wx hSx => ?_⟩) hHeld ?_
        rotate_left
        · clear hSx; go_simp; (try with_reducible rfl)
        simp only [Act.put, List.setIfInBounds_toArray, List.set_cons_zero, List.set_cons_succ]
        refine wpAnyH_take (i := 3) (v := ?_) (by simp; rfl) (by kernel_rfl) (by kernel_rfl) (by kernel_rfl) (by exact fun _ _ _ h => h) (Or.inl ⟨by rfl, fun wx hSx => ?_⟩) hHeld ?_
        rotate_left
        · clear hSx; go_simp; (try with_reducible rfl)
        simp only [Act.put, List.setIfInBounds_toArray, List.set_cons_zero, List.set_cons_succ]
        refine wpAnyH_take (i := 4) (v := ?_) (by simp; rfl) (by kernel_rfl) (by kernel_rfl) (by kernel_rfl) (by exact fun _ _ _ h => h) (Or.inl ⟨by rfl, fun wx hSx => ?_⟩) hHeld ?_
        rotate_left
        · clear hSx; go_simp; (try with_reducible rfl)
        simp only [Act.put, List.setIfInBounds_toArray, List.set_cons_zero, List.set_cons_succ]
        refine wpAnyH_take (i := 5) (v := ?_) (by simp; rfl) (by kernel_rfl) (by kernel_rfl) (by kernel_rfl) (by exact fun _ _ _ h => h) (Or.inl ⟨by rfl, fun wx hSx => ?_⟩) hHeld ?_
        rotate_left
        · clear hSx; go_simp; (try with_reducible rfl)
        simp only [Act.put, List.setIfInBounds_toArray, List.set_cons_zero, List.set_cons_succ]
        refine wpAnyH_take (i := 6) (v := ?_) (by simp; rfl) (by kernel_rfl) (by kernel_rfl) (by kernel_rfl) (by exact fun _ _ _ h => h) (Or.inl ⟨by rfl, fun wx hSx => ?_⟩) hHeld ?_
        rotate_left
        · clear hSx; go_simp; (try with_reducible rfl)
        simp only [Act.put, List.setIfInBounds_toArray, List.set_cons_zero, List.set_cons_succ]
        refine wpAnyH_take (i := 7) (v := ?_) (by simp; rfl) (by kernel_rfl) (by kernel_rfl) (by kernel_rfl) (by exact fun _ _ _ h => h) (Or.inl ⟨by rfl, fun wx hSx => ?_⟩) hHeld ?_
        rotate_left
        · obtain ⟨_, _, _, _, hcv, _⟩ := hSx; go_simp; (try with_reducible rfl)
        simp only [Act.put, List.setIfInBounds_toArray, List.set_cons_zero, List.set_cons_succ]
        refine wpAnyH_take (i := 8) (v := ?_) (by simp; rfl) (by kernel_rfl) (by kernel_rfl) (by kernel_rfl) (by exact fun _ _ _ h => h) (Or.inl ⟨by rfl, fun wx hSx => ?_⟩) hHeld ?_
        rotate_left
        · obtain ⟨c0, c1, c2, c3, _, _⟩ := hSx; go_simp; (try with_reducible rfl)
        simp only [Act.put, List.setIfInBounds_toArray, List.set_cons_zero, List.set_cons_succ]
        refine wpAnyH_ready (rs := [9]) (by kernel_rfl) (by simp) ?_
        refine AllReadyH.cons (by simp; rfl) (fun K0 hK0 => ?_) AllReadyH.nil
        go_simp
        refine (HRW.out _ HQA.out).mono ?_
        rintro e wb ⟨vb, rfl, hob, hbb⟩
        have HQB := Lib.hid (HQA.out.to hbb)
        obtain ⟨AB, cB, rfl, hRB16, _⟩ := RB.of_own hob
        have hcB := conv_any cB hRB16
        have HCB := Lib.hid hcB
        clear hob hbb hRB16 hcB
        refine hK0.out _ _ (Q16.of HWN.out HQB) (fun hHeld => ?_)
        clear hK0 K0 HQA
        refine wpAnyH_ready (rs := [10]) (by kernel_rfl) (by simp) ?_
        refine AllReadyH.cons (by simp; rfl) (fun K0 hK0 => ?_) AllReadyH.nil
        have hcB := HCB.out
        go_simp
        refine hK0.out _ _ (Q16.of HWN.out HQB) (fun hHeld => ?_)
        clear hK0 K0 hcB
        refine wpAnyH_take (i := 11) (v := ?_) (by simp; rfl) (by kernel_rfl) (by kernel_rfl) (by kernel_rfl) (by exact fun _ _ _ h => h) (Or.inl ⟨by rfl, fun wx hSx => ?_⟩) hHeld ?_
        rotate_left
        · clear hSx; go_simp; (try with_reducible rfl)
        simp only [Act.put, List.setIfInBounds_toArray, List.set_cons_zero, List.set_cons_succ]
        refine wpAnyH_take (i := 12) (v := ?_) (by simp; rfl) (by kernel_rfl) (by kernel_rfl) (by kernel_rfl) (by exact fun _ _ _ h => h) (Or.inl ⟨by rfl, fun wx hSx => ?_⟩) hHeld ?_
        rotate_left
        · clear hSx; go_simp; (try with_reducible rfl)
        simp only [Act.put, List.setIfInBounds_toArray, List.set_cons_zero, List.set_cons_succ]
        refine wpAnyH_take (i := 13) (v := ?_) (by simp; rfl) (by kernel_rfl) (by kernel_rfl) (by kernel_rfl) (by exact fun _ _ _ h => h) (Or.inl ⟨by rfl, fun wx hSx => ?_⟩) hHeld ?_
        rotate_left
        · clear hSx; go_simp; (try with_reducible rfl)
        simp only [Act.put, List.setIfInBounds_toArray, List.set_cons_zero, List.set_cons_succ]
        refine wpAnyH_done (by kernel_rfl) ?_ _
        have hfin := HBZ.out.trans (HQB.out.below.mono HBZ.out.size)
        go_wp2
        go_ret
        exact ⟨rfl, hfin⟩
end Go.Proofs.YtmklcghoeapfbaaDoor
