/-
  Proved here: FragBack walked where its guard does not strike: it returns true, and nothing that was there is changed.
-/
import Derived.Test.YtmklcghoeapfbaaDoorFb
namespace Go.Proofs.YtmklcghoeapfbaaDoor
open Go.RowKit

/-- A part's cells, at o in block g. -/
def P4 (W : World) (g o : Nat) (id ix ct : Int) (A : Option Addr) (n c : Nat) : Prop :=
  W.cell? ⟨g, o, none⟩ = some (.int .u64 id) ∧ W.cell? ⟨g, o + 1, none⟩ = some (.int .i64 ix) ∧ W.cell? ⟨g, o + 2, none⟩ = some (.int .i64 ct) ∧ W.cell? ⟨g, o + 3, none⟩ = some (.slice A n c)
theorem P4.lt {W : World} {g o : Nat} {id ix ct : Int} {A : Option Addr} {n c : Nat} (h : P4 W g o id ix ct A n c) : g < W.heap.size := World.block_lt_of_cell? W _ h.1
theorem P4.below {W W' : World} {g o : Nat} {id ix ct : Int} {A : Option Addr} {n c : Nat} {B : Nat} (h : P4 W g o id ix ct A n c) (hb : Below B W W') (hg : g < B) : P4 W' g o id ix ct A n c :=
  ⟨(hb.cell (p := ⟨g, o, none⟩) hg).trans h.1, (hb.cell (p := ⟨g, o + 1, none⟩) hg).trans h.2.1, (hb.cell (p := ⟨g, o + 2, none⟩) hg).trans h.2.2.1, (hb.cell (p := ⟨g, o + 3, none⟩) hg).trans h.2.2.2⟩
theorem P4.blk {W : World} {g : Nat} {t : TypeId} {id ix ct : Int} {A : Option Addr} {n c : Nat} (h : W.heap[g]? = some (.cells #[.int .u64 id, .int .i64 ix, .int .i64 ct, .slice A n c] t (0, 0))) : P4 W g 0 id ix ct A n c := by
  refine ⟨?_, ?_, ?_, ?_⟩ <;> simp [World.cell?, h]
/-- What the test on two parts reads. -/
abbrev SV (U : World) (g b o : Nat) (id ix ct : Int) (A1 A2 : Option Addr) (n c1 c2 : Nat) (W : World) : Prop :=
  W.cell? ⟨g, 0, none⟩ = some (.int .u64 id) ∧ W.cell? ⟨g, 1, none⟩ = some (.int .i64 ix) ∧ W.cell? ⟨g, 2, none⟩ = some (.int .i64 ct) ∧ W.cell? ⟨g, 3, none⟩ = some (.slice A1 n c1) ∧
  W.cell? ⟨b, o, none⟩ = some (.int .u64 id) ∧ W.cell? ⟨b, o + 1, none⟩ = some (.int .i64 ix) ∧ W.cell? ⟨b, o + 2, none⟩ = some (.int .i64 ct) ∧ W.cell? ⟨b, o + 3, none⟩ = some (.slice A2 n c2) ∧ Hid (Below U.heap.size U W)
theorem SV.of {U : World} {g b o : Nat} {id ix ct : Int} {A1 A2 : Option Addr} {n c1 c2 : Nat} {W : World} (hU : Hid (P4 U g 0 id ix ct A1 n c1 ∧ P4 U b o id ix ct A2 n c2)) (h : Hid (Below U.heap.size U W)) : SV U g b o id ix ct A1 A2 n c1 c2 W := by
  obtain ⟨a0, a1, a2, a3⟩ := hU.out.1.below h.out hU.out.1.lt
  obtain ⟨b0, b1, b2, b3⟩ := hU.out.2.below h.out hU.out.2.lt
  exact ⟨a0, a1, a2, a3, b0, b1, b2, b3, h⟩
theorem SV.last {U : World} {g b o : Nat} {id ix ct : Int} {A1 A2 : Option Addr} {n c1 c2 : Nat} {W : World} (h : SV U g b o id ix ct A1 A2 n c1 c2 W) : Below U.heap.size U W := h.2.2.2.2.2.2.2.2.out
theorem SV.to {U : World} {g b o : Nat} {id ix ct : Int} {A1 A2 : Option Addr} {n c1 c2 : Nat} {W W' : World} (hU : Hid (P4 U g 0 id ix ct A1 n c1 ∧ P4 U b o id ix ct A2 n c2)) (hb : Below W.heap.size W W') (h : SV U g b o id ix ct A1 A2 n c1 c2 W) : SV U g b o id ix ct A1 A2 n c1 c2 W' :=
  SV.of hU (Lib.hid (h.last.trans (hb.mono h.last.size)))
/-- What the loop leaves. -/
structure BackAt (w2 : World) (ps : List Prt) (k : Nat) (bk : Value) (wr : World) : Prop where
  below : Below w2.heap.size w2 wr
  own : ∃ cs, wr.ownsRow w2.heap.size 25 4 bk k cs ∧ PO wr w2.heap.size cs (ps.take k)

set_option maxRecDepth 100000 in
set_option maxHeartbeats 4000000 in
theorem back_in (id : Int) (bs b : List Int) (A B : Option Addr) (l cap lb cb : Nat) (w : World) (hT : Tab w) (hl : bs.length = l) (h : l ≤ 24000) (h0 : 1 ≤ id) (h1 : id ≤ 4611686018427387903) (hR : RB w w.heap.size A bs) (hA : A = none → cap = 0) (hBb : Bytes bs)
    (hlb : b.length = lb) (h2 : lb ≤ 600) (hRb : RB w w.heap.size B b) (hb1 : lb ≤ cb) (hb2 : cb ≤ maxLen) (hB : Bytes b) :
    Calls Tryd.prog 5 #[.int .u64 id, .slice A l cap, .slice B lb cb] w (Tru w) := by
  have d1 : decide ((24000 : Int) < (l : Int)) = false := by simp; omega
  have d2 : decide ((600 : Int) < (lb : Int)) = false := by simp; omega
  have HS := Lib.hid (split_good id bs l hl A cap w h0 h1 h hR hA)
  have HL := Lib.hid hl
  have HBB := Lib.hid hBb
  have HLB := Lib.hid hlb
  have HBY := Lib.hid hB
  have HRb := Lib.hid hRb
  have HR := Lib.hid hR
  have hK0 := cntS_le h
  have hK1 := cntS_pos l
  have HLN := Lib.hid (splitS_length id bs)
  have HAT := Lib.hid (fun i (hi : i < cntS bs.length) => splitS_at (id := id) hi)
  have HPL := Lib.hid (fun i (hi : i < cntS bs.length) => partS_length (id := id) (K := cntS bs.length) hi)
  have HOK := Lib.hid (fun i (hi : i < cntS bs.length) => split_ok h0 h1 (by omega) hi)
  have HPO := Lib.hid (split_POk h0 h1 (show bs.length ≤ 24000 by omega))
  have HJS := Lib.hid (join_split h0 h1 (show bs.length ≤ 24000 by omega))
  have hcI := cntI_in h
  rw [hl] at HLN HAT HPL HOK
  obtain ⟨K, hK⟩ : ∃ K, cntS l = K := ⟨_, rfl⟩
  rw [hK] at hK0 hK1 HLN HAT HPL HOK hcI
  have HCI := Lib.hid hcI
  have HK := Lib.hid hK
  have HPS := Lib.hid (show ∀ p, p = splitS id bs → p = splitS id bs from fun _ h => h)
  obtain ⟨ps, hps⟩ : ∃ ps, splitS id bs = ps := ⟨_, rfl⟩
  rw [hps] at HLN HAT HOK HPO HJS
  unfold SplitPost at HS
  rw [hps] at HS
  clear hK hl hBb hlb hB hRb hR hcI hps HPS
  go_enter Tryd.func5, Tryd.ntmps5
  go_wp2_with fail
  refine HS.out.mono ?_
  rintro e w2 ⟨A2, rfl, hP2, hb2'⟩
  rw [HL.out, HK.out]
  have HP := Lib.hid hP2
  have HB2 := Lib.hid hb2'
  clear hP2 hb2'
  go_wp2_with fail
  refine (count_any _ _).mono ?_
  rw [HCI.out]
  rintro e w' ⟨rfl, rfl⟩
  have H0 := Lib.hid (show BackAt w2 ps 0 (.slice none 0 0) w2 from ⟨Below.refl _ _, [], World.ownsRow_nil _ _ _ _, by simp [PO]⟩)
  go_wp2
  go_loopw [9, 10] (fun bk i wr => ∃ k : Nat, k ≤ K ∧ i = .int .i64 k ∧ BackAt w2 ps k bk wr) (fun _ i _ => K - (intOf i).toNat)
  case atStart => exact ⟨0, by omega, rfl, H0.out⟩
  case round =>
    clear H0
    obtain ⟨k, hk, rfl, hBA⟩ := hrel
    have HBA := Lib.hid hBA
    clear hBA
    have hs2 := HBA.out.below.size
    by_cases hlt : k < K
    · obtain ⟨bl, off, hAe, hbl, hc⟩ := HP.out (by rw [HLN.out]; omega)
      subst hAe
      obtain ⟨c0, c1, c2, A', c', c3, hRB, hdc, hcm, hAn⟩ := hc k (by rw [HLN.out]; omega)
      have HOKk := Lib.hid (HOK.out k hlt)
      have HPOk := Lib.hid (HPO.out k (by rw [HLN.out]; exact hlt))
      have hml := ok_len HOKk.out
      have hsz := (szN_le (pAt ps k).id).2
      have hBd : Bytes (pAt ps k).d := by rw [HAT.out k hlt]; exact HBB.out.cut _ _
      have HWB := Lib.hid (wrB_length (pAt ps k))
      have HBW := Lib.hid (wrB_bytes HOKk.out hBd)
      have HRW := Lib.hid (read_wr HOKk.out)
      have HWS := Lib.hid (show wrS (pAt ps k) = (wrB (pAt ps k), 0) by rw [wrS, if_pos HOKk.out])
      have HTK := Lib.hid (ptake_snoc (ps := ps) (k := k) (by rw [HLN.out]; exact hlt))
      have hq : P4 wr bl (off + k * 4) (pAt ps k).id (pAt ps k).ix (pAt ps k).ct A' (pAt ps k).d.length c' := P4.below (B := w2.heap.size) ⟨c0, c1, c2, c3⟩ HBA.out.below hbl
      have HRBk := Lib.hid (hRB.below HBA.out.below)
      clear hc c0 c1 c2 c3 hBd hRB
      obtain ⟨p, hp⟩ : ∃ p, pAt ps k = p := ⟨_, rfl⟩
      rw [hp] at HOKk HPOk hml hsz HWB HBW HRW HWS HTK hq HRBk hdc
      clear hp
      obtain ⟨pid, pix, pct, d⟩ := p
      obtain ⟨m, hm⟩ : ∃ m, d.length = m := ⟨_, rfl⟩
      have HM := Lib.hid hm
      simp only at hml hsz hq hdc HRBk
      rw [hm] at hml hq hdc
      clear hm
      have HQ := Lib.hid hq
      have hmx : m ≤ maxLen := by omega
      have HWR := Lib.hid (write_any ⟨pid, pix, pct, d⟩ A' m c' wr HM.out HPOk.out (HRBk.out.keep' hs2) hAn hmx (hT.below (HB2.out.trans (HBA.out.below.mono HB2.out.size)) hT.big))
      rw [HWS.out] at HWR
      obtain ⟨q0, q1, q2, q3⟩ := hq
      obtain ⟨L, hL⟩ : ∃ L, (wrB ⟨pid, pix, pct, d⟩).length = L := ⟨_, rfl⟩
      have hL512 : L ≤ 500 := by have := HWB.out; simp only at this; rw [hL, HM.out] at this; omega
      have HLL := Lib.hid hL
      clear hL
      have g3 : (0 : Int) ≤ (k : Int) := by omega
      have g4 : (k : Int) < (K : Int) := by omega
      go_wp2_with fail
      refine HWR.out.mono ?_
      rintro e w3 ⟨v3, rfl, hown3, hb3⟩
      have hbw3 : Below w2.heap.size w2 w3 := HBA.out.below.trans (hb3.mono hs2)
      obtain ⟨A3, c3, rfl, hR3, h31, h32, h33⟩ := RB.of_own (bs := wrB ⟨pid, pix, pct, d⟩) hown3
      have HRD := Lib.hid (read_any (wrB ⟨pid, pix, pct, d⟩) A3 c3 w3 hR3 h31 h32 (by rw [HLL.out]; omega) HBW.out (hT.below (HB2.out.trans (hbw3.mono HB2.out.size)) hT.big))
      rw [HRW.out] at HRD
      unfold ReadPost at HRD
      rw [HLL.out] at HRD ⊢
      simp only at HRD
      rw [HM.out] at HRD
      clear q0 q1 q2 q3 hR3 hown3
      go_wp2_with fail
      refine HRD.out.mono ?_
      rintro e w4 ⟨A4, c4, rfl, hown4, hb4⟩
      have hbw4 : Below wr.heap.size wr w4 := hb3.trans (hb4.mono hb3.size)
      obtain ⟨U, hU⟩ : ∃ U, U = w4.alloc (.cells #[.int .u64 pid, .int .i64 pix, .int .i64 pct, .slice A4 m c4] 25) := ⟨_, rfl⟩
      have hbU : Below wr.heap.size wr U := by rw [hU]; exact hbw4.alloc hbw4.size _
      have hUP : P4 U w4.heap.size 0 pid pix pct A4 m c4 := by rw [hU]; exact P4.blk (heap_alloc_new _ _)
      have hUQ : P4 U bl (off + k * 4) pid pix pct A' m c' := HQ.out.below hbU (by omega)
      have HU := Lib.hid (And.intro hUP hUQ)
      have HUD := Lib.hid (show Below U.heap.size U U.drew from belowN (Below.refl _ _) 1)
      have hR4 : RB U U.heap.size A4 d := by
        obtain ⟨A5, c5, e5, h51, _⟩ := RB.of_own (bs := d) (v := .slice A4 m c4) (base := w3.heap.size) (by rw [HM.out]; exact hown4)
        injection e5 with e5 _ _
        subst e5
        rw [hU]
        exact (h51.alloc (Nat.le_refl _) _).keep' (by simp)
      have hR5 : RB U U.heap.size A' d := ((HRBk.out.keep' hs2).below hbU).keep' hbU.size
      have HSM := Lib.hid (fun W (hb : Below U.heap.size U W) => same_true pid pix pct d m HM.out A4 A' c4 c' W ((hR4.below hb).keep' hb.size) ((hR5.below hb).keep' hb.size))
      have hL5 : decide ((512 : Int) < (L : Int)) = false := by simp; omega
      have HBU := Lib.hid hbU
      have HUU := Lib.hid hU
      have hbw34 := hbw4.size
      have hown4' : U.ownsRow w2.heap.size 5 1 (.slice A4 m c4) m (B8 d) := by
        rw [hU]
        exact own_mono (own_below hown4 ((Below.refl _ _).alloc (Nat.le_refl _) _)) hbw3.size
      have HO4 := Lib.hid hown4'
      clear hown4' hown4 hb4 hbw4 hb3 hbw3 hbU hUP hUQ hR4 hR5 hU
      go_wp2
      rw [← HUU.out]
      go_region_held3 (SV U w4.heap.size bl (off + k * 4) pid pix pct A4 A' m c4 c')
        (first | exact SV.of HU HUD | assumption | exact SV.to HU (by assumption) (by assumption))
        (first | (go_at_call 8; refine (as_any _ _ _ _ _ _ _).mono ?_; rintro e wy ⟨rfl, hby⟩) | (go_at_call 14; refine (HSM.out _ (SV.last (by assumption))).mono ?_; rintro e wy ⟨rfl, hby⟩))
      have hSB := SV.last (U := U) (W := wy) (by assumption)
      have hPY := HU.out.1.below hSB HU.out.1.lt
      obtain ⟨cs, hrow, hPO⟩ := HBA.out.own
      have hUs : w2.heap.size ≤ U.heap.size := Nat.le_trans hs2 HBU.out.size
      have hrow1 := own_below (own_below (own_below hrow HBU.out) hSB) ((Below.refl _ _).alloc (Nat.le_refl wy.heap.size) (.cells #[.int .u64 pid, .int .i64 pix, .int .i64 pct, .slice A4 m c4] 25))
      have hPO1 := ((hPO.below HBU.out).below hSB).below ((Below.refl _ _).alloc (Nat.le_refl wy.heap.size) (.cells #[.int .u64 pid, .int .i64 pix, .int .i64 pct, .slice A4 m c4] 25))
      have hd1 := own_below (own_below HO4.out hSB) ((Below.refl _ _).alloc (Nat.le_refl wy.heap.size) (.cells #[.int .u64 pid, .int .i64 pix, .int .i64 pct, .slice A4 m c4] 25))
      obtain ⟨v5, w5, hrun5, hown5, hgr5, _⟩ := app_part (fb := wy.heap.size) hrow1 (heap_alloc_new _ _) (by omega) (by have := hSB.size; simp; omega)
      have hoth := own_other hrow1 (by decide)
      have hPO5 := hPO1.kept hgr5 hoth
      have hd5 := own_u8_kept hd1 hgr5 hoth
      have hby : Below w2.heap.size w2 wy := (HBA.out.below.trans (HBU.out.mono hs2)).trans (hSB.mono hUs)
      have hb5 : Below w2.heap.size w2 w5 := (hby.alloc hby.size _).grown hgr5 (by have := hby.size; simp; omega) (ownBlock_le hrow1)
      have HNX := Lib.hid (show BackAt w2 ps (k + 1) v5 w5 from ⟨hb5, _, hown5, by
        rw [HTK.out]
        exact PO.snoc (p := ⟨pid, pix, pct, d⟩) (by show w5.ownsRow _ _ _ _ d.length _; rw [HM.out]; exact hd5) hPO5⟩)
      have HR5 := Lib.hid hrun5
      obtain ⟨y0, y1, y2, y3⟩ := hPY
      rw [Nat.zero_add] at y1 y2 y3
      clear hrow hPO hrow1 hPO1 hd1 hrun5 hown5 hgr5 hoth hPO5 hd5 hb5 hby
      go_wp2_with (first | (at_builtin; refine wpList_app rfl (.tmp 95) (.tmp 97) _ rfl _ _ rfl rfl HR5.out ?_))
      go_roundw
      case rel => exact ⟨k + 1, by omega, by go_num, HNX.out⟩
      case measure => simp [intOf]; omega
    · obtain rfl : k = K := by omega
      obtain ⟨cs, hrow, hPO⟩ := HBA.out.own
      have hbwr : Below w.heap.size w wr := HB2.out.trans (HBA.out.below.mono HB2.out.size)
      have htk : ps.take k = ps := List.take_of_length_le (by rw [HLN.out]; exact Nat.le_refl _)
      rw [htk] at hPO
      obtain ⟨A6, c6, rfl, h61, h62, _⟩ := own_slice hrow
      have hPS := PS.of_rows HLN.out hrow hPO.toPC (Nat.le_refl _)
      have HJ := Lib.hid (join_any ps k HLN.out A6 c6 wr hPS HPO.out (by unfold maxLen; omega))
      rw [HJS.out] at HJ
      unfold BytPost at HJ
      simp only at HJ
      rw [HL.out] at HJ
      have HBWR := Lib.hid hbwr
      clear hrow hPO hPS htk hbwr h61 h62
      go_wp2_with fail
      refine HJ.out.mono ?_
      rintro e w6 ⟨v6, rfl, hown6, hb6⟩
      have hbw6 := HBWR.out.trans (hb6.mono HBWR.out.size)
      obtain ⟨A7, c7, rfl, hR7, _⟩ := RB.of_own (bs := bs) (v := v6) (by rw [HL.out]; exact hown6)
      have HRD := Lib.hid (read_any b B cb w6 ((HRb.out.below hbw6).keep' hbw6.size) (by rw [HLB.out]; exact hb1) hb2 (by rw [HLB.out]; omega) HBY.out (hT.below hbw6 hT.big))
      rw [HLB.out] at HRD
      have HRW := Lib.hid (wr_read HBY.out)
      have HRG := Lib.hid (readS_rng b)
      obtain ⟨q, hq⟩ : ∃ q, readS b = q := ⟨_, rfl⟩
      rw [hq] at HRD HRW HRG
      clear hq
      obtain ⟨⟨qid, qix, qct, qd⟩, er⟩ := q
      unfold ReadPost at HRD
      simp only at HRD HRW HRG
      obtain ⟨m, hm⟩ : ∃ m, qd.length = m := ⟨_, rfl⟩
      have HM := Lib.hid hm
      rw [hm] at HRD
      rw [HL.out]
      clear hm hown6 hb6
      go_wp2_with fail
      refine HRD.out.mono ?_
      rintro e w8 ⟨A9, c9, rfl, hown9, hb9⟩
      have hbw8 := hbw6.trans (hb9.mono hbw6.size)
      obtain ⟨U, hU⟩ : ∃ U, U = w8.alloc (.cells #[.int .u64 qid, .int .i64 qix, .int .i64 qct, .slice A9 m c9] 25) := ⟨_, rfl⟩
      have hbU : Below w6.heap.size w6 U := by rw [hU]; exact hb9.alloc hb9.size _
      have hbwU := hbw6.trans (hbU.mono hbw6.size)
      obtain ⟨A10, c10, e10, hR10, h101, h102, h103⟩ := RB.of_own (bs := qd) (v := .slice A9 m c9) (base := w6.heap.size) (by rw [HM.out]; exact hown9)
      have hRq : RB U U.heap.size A9 qd := by
        injection e10 with e10 _ _
        subst e10
        rw [hU]
        exact (hR10.alloc (Nat.le_refl _) _).keep' (by simp)
      have hcc : c9 = c10 := by injection e10
      have hAA : A9 = A10 := by injection e10
      have hRU7 := (hR7.below hbU).keep' hbU.size
      have HWR := Lib.hid (write_any ⟨qid, qix, qct, qd⟩ A9 m c9 U HM.out HRG.out hRq (by rw [hcc, hAA]; exact h103) (by rw [HM.out] at h101; omega) (hT.below hbwU hT.big))
      have HUB := Lib.hid hbwU
      rw [hU] at HWR
      have HU := Lib.hid hU
      have HR7 := Lib.hid hRU7
      clear hown9 hb9 hbw8 hbw6 hbU hbwU e10 hR10 h101 h102 h103 hRq hcc hAA hRU7 hU hR7
      go_wp2_with fail
      refine HWR.out.mono ?_
      rintro e w10 ⟨v10, rfl, hown10, hb10⟩
      rw [← HU.out] at hown10 hb10
      have hbw10 := HUB.out.trans (hb10.mono HUB.out.size)
      have HTT := Lib.hid (alive_any w10 (hT.below hbw10 hT.big))
      go_wp2_with fail
      refine HTT.out.mono ?_
      rintro e w11 ⟨rfl, hb11⟩
      have hfin := hbw10.trans (hb11.mono hbw10.size)
      have hb710 := hb10.trans (hb11.mono hb10.size)
      have k1 := conv_n c7 (HR7.out.below hb710) HL.out
      have k2 := conv_n cap (HR.out.below hfin) HL.out
      have ss : ((strOfNums bs).toList == (strOfNums bs).toList) = true := by simp
      have HF := Lib.hid hfin
      have HB11 := Lib.hid hb11
      clear hb11 hbw10 hb710 hb10 hfin
      by_cases he : er = 0
      · have hw := HRW.out he
        have hw1 : (wrS ⟨qid, qix, qct, qd⟩).1 = b := by rw [hw]
        have hw2 : (wrS ⟨qid, qix, qct, qd⟩).2 = 0 := by rw [hw]
        rw [hw1] at hown10
        rw [hw2]
        obtain ⟨A12, c12, rfl, hR12, _⟩ := RB.of_own (bs := b) hown10
        rw [HLB.out]
        have k3 := conv_n c12 (hR12.below HB11.out) HLB.out
        have k4 := conv_n cb (HRb.out.below HF.out) HLB.out
        have ss2 : ((strOfNums b).toList == (strOfNums b).toList) = true := by simp
        have he1 : (er != 0) = false := by simp [he]
        clear hw hw1 hw2 hown10 hR12 he
        go_wp2
        go_ret
        exact ⟨rfl, HF.out⟩
      · have he1 : (er != 0) = true := by simpa using he
        clear he hown10
        go_wp2
        go_ret
        exact ⟨rfl, HF.out⟩
end Go.Proofs.YtmklcghoeapfbaaDoor
