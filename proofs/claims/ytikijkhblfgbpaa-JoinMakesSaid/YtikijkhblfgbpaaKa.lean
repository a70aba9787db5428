/-
  Proved here: JoinMakes walked: it returns true, whatever the frame and the order, and nothing that was there is changed.
-/
import Derived.Test.YtikijkhblfgbpaaJz
namespace Go.Proofs.Ytikijkhblfgbpaa
open Go.RowKit Go.Maps Go.Sort

def falses : List Value := List.replicate 64 (.bool false)
theorem zeroB : ∀ w, (zeroValue 51).run Try.prog w = .ok (.agg falses.toArray) w := fun w => by kernel_rfl
def BL (l : List Bool) : List Value := l.map Value.bool
theorem BL_set (l : List Bool) (i : Nat) (b : Bool) : (BL l).set i (.bool b) = BL (l.set i b) := by simp [BL]
def Box (w : World) (g : Nat) (cm : List Bool) : Prop := w.heap[g]? = some (.cells (BL cm).toArray 51 (0, 0)) ∧ cm.length = 64
theorem Box.cell {w : World} {g : Nat} {cm : List Bool} (h : Box w g cm) {k : Nat} (hk : k < 64) : w.cell? ⟨g, k, none⟩ = some (.bool (cmA cm k)) ∧ w.frozen? ⟨g, k, none⟩ = false := by
  have hl := h.2
  have h0 : w.heap[g]? = some (.cells (BL cm).toArray 51 (0, 0)) := h.1
  refine ⟨?_, by simp [World.frozen?, h0]⟩
  simp [World.cell?, h0, BL, cmA, List.getD, show k < cm.length by omega]
theorem Box.stays {w w' : World} {g : Nat} {cm : List Bool} (h : Box w g cm) (hs : Stays w w') : Box w' g cm := ⟨hs _ _ _ _ h.1 (by decide) (by decide), h.2⟩
theorem Box.below {w w' : World} {g : Nat} {cm : List Bool} (h : Box w g cm) (hb : Below w.heap.size w w') : Box w' g cm := h.stays (Stays.below hb)

theorem cmA_zeros (m i : Nat) : cmA (List.replicate m false) i = false := by
  unfold cmA
  rw [List.getD_eq_getElem?_getD, List.getElem?_replicate]
  split <;> rfl
/-- A step that turns one row of cells that are neither a Table's, nor a frame's, nor bytes. -/
theorem TabAt.other {w w' : World} {base t r : Nat} {T : TV} {C : Array Value} {ty : TypeId} (h : TabAt w base t T) (hg : w.grownBy w' (some r)) (ho : w.heap[r]? = some (.cells C ty (0, 0))) (n1 : ty ≠ 47) (n2 : ty ≠ 59) (n3 : ty ≠ 5) : TabAt w' base t T := by
  obtain ⟨b, hb, ht, hm⟩ := h.map
  have htl := (Array.getElem?_eq_some_iff.1 ht).1
  have hm0 := hm
  obtain ⟨es, clock, hbo, _⟩ := hm0
  have htg : some t ≠ some r := fun e => by injection e with e; subst e; rw [ht] at ho; injection ho with ho; injection ho with _ e2; exact n1 e2.symm
  have hbg : some b ≠ some r := fun e => by injection e with e; subst e; rw [hbo] at ho; cases ho
  refine ⟨h.le, ⟨b, hb, (hg.block _ htl htg).trans ht, hm.kept hg hbg⟩, fun f hf => ?_, h.apart, h.fl0, h.fl1, h.few⟩
  have hF := h.frames f hf
  obtain ⟨C', hC, _⟩ := hF.row
  exact hF.grown hg (fun e => by subst e; rw [hC] at ho; injection ho with ho; injection ho with _ e2; exact n2 e2.symm) ho (fun cur e => by injection e with _ e2; exact n3 e2)
/-- What JoinMakes holds from round to round. -/
structure MK (w1 : World) (t g : Nat) (id : Int) (bs : List Int) (K : Nat) (cm : List Bool) (T : TV) (W : World) : Prop where
  tab : TabAt W w1.heap.size t T
  good : GoodT T
  held : Held id bs K cm T
  box : Box W g cm
  below : Below w1.heap.size w1 W
  le : w1.heap.size ≤ g

theorem MK.store {w1 : World} {t g : Nat} {id : Int} {bs : List Int} {K : Nat} {cm : List Bool} {T : TV} {W : World} {k : Nat} (hT : TabAt W w1.heap.size t T) (hG : GoodT T) (hH : Held id bs K (cm.set k true) T) (hB : Box W g cm) (hb : Below w1.heap.size w1 W) (hle : w1.heap.size ≤ g) :
    MK w1 t g id bs K (cm.set k true) T (W.setCell ⟨g, k, none⟩ (.bool true)) := by
  have hg := cell_grown W g k (.bool true)
  refine ⟨hT.other hg hB.1 (by decide) (by decide) (by decide), hG, hH, ⟨?_, by rw [List.length_set]; exact hB.2⟩, hb.trans (below_grown hg hle hb.size), hle⟩
  have h5 := heap_setCell_same W g k _ _ (.bool true) hB.1
  rw [h5]
  simp only [List.setIfInBounds_toArray, BL_set]

set_option maxRecDepth 100000 in
set_option maxHeartbeats 4000000 in
theorem makes_in (id : Int) (bs os : List Int) (A O : Option Addr) (l cap lo co : Nat) (w : World) (h0 : 1 ≤ id) (h1 : id ≤ 4611686018427387903) (hl : bs.length = l) (h8 : l ≤ 8000) (hA : A = none → cap = 0) (hR : RB w w.heap.size A bs)
    (hlo : os.length = lo) (hOm : lo ≤ 140737488355328) (hO : RB w w.heap.size O os) (hB : Bytes os) :
    Calls Try.prog 4 #[.int .u64 id, .slice A l cap, .slice O lo co] w fun e w' => e = .returned (.bool true) ∧ Below w.heap.size w w' := by
  have hSp := split_good id bs l hl A cap w h0 h1 (by omega) hR hA
  obtain ⟨K, hK⟩ : ∃ K, K = cntS bs.length := ⟨_, rfl⟩
  have hK1 : 1 ≤ K := by rw [hK]; exact cntS_pos _
  have hK2 : K ≤ 50 := by rw [hK]; exact cntS_le (by omega)
  have HS := Lib.hid hSp
  have HK := Lib.hid hK
  have HL := Lib.hid hl
  have HLO := Lib.hid hlo
  have HO := Lib.hid hO
  have HB := Lib.hid hB
  have HR := Lib.hid hR
  have HZ : ∃ ZA : Array Value, ZA = (BL (List.replicate 64 false)).toArray ∧ (∀ w, (zeroValue 51).run Try.prog w = .ok (.agg ZA) w) ∧ (ZA = #[]) = False := ⟨_, rfl, fun w => by rw [zeroB w]; rfl, by simp [BL]⟩
  obtain ⟨ZA, hZA, hz, hne⟩ := HZ
  have HZA := Lib.hid hZA
  clear hSp hK hl hlo hO hB hR hZA hA
  go_enter Try.func4, Try.ntmps4
  go_wp2_with fail
  refine HS.out.mono ?_
  rintro e w1 ⟨A2, rfl, hP1, hb1⟩
  rw [← HK.out]
  obtain ⟨b, off, rfl, hb, hc⟩ := hP1 (by rw [splitS_length]; exact cntS_pos _)
  have HPB := Lib.hid hb
  have HPC := Lib.hid hc
  have HB1 := Lib.hid hb1
  have eK : ((K : Int) == 0) = false := by simp; omega
  clear hP1 hb1 hb hc
  go_wp2_with fail
  refine (new_any w1).mono ?_
  rintro e w2 ⟨t, rfl, hT, hb2⟩
  have HT := Lib.hid hT
  have HB2 := Lib.hid hb2
  clear hT hb2
  go_wp2
  have H0 : Hid (MK w1 t w2.heap.size id bs K (List.replicate 64 false) ⟨1, []⟩ (w2.alloc (Obj.cells ZA 51))) := Lib.hid (by
    have hb : Below w2.heap.size w2 (w2.alloc (Obj.cells ZA 51)) := (Below.refl _ _).alloc (Nat.le_refl _) _
    have hn : ∀ i, i < 64 → cmA (List.replicate 64 false) i = false := fun i _ => cmA_zeros 64 i
    refine ⟨HT.out.keep hb, fun y hy => absurd hy (by simp), .inr ⟨?_, .inl ⟨hn, rfl⟩⟩, ⟨?_, by simp⟩, HB2.out.trans (hb.mono HB2.out.size), HB2.out.size⟩
    · rw [leftS_none hn (by omega)]; omega
    · rw [heap_alloc_new, HZA.out])
  have hl0 : leftS (List.replicate 64 false) K = K := leftS_none (fun i _ => cmA_zeros 64 i) (by omega)
  have HL0 := Lib.hid hl0
  clear hl0 hz hne
  obtain ⟨g, hg⟩ : ∃ g, w2.heap.size = g := ⟨_, rfl⟩
  rw [hg] at H0 ⊢
  clear hg
  go_loopw [11, 12] (fun lf i wr => ∃ (j : Nat) (cm : List Bool) (T : TV), i = .int .i64 j ∧ lf = .int .i64 (leftS cm K : Nat) ∧ (j ≤ lo ∨ j + leftS cm K ≤ lo + K) ∧ Hid (MK w1 t g id bs K cm T wr)) (fun lf i _ => (lo - (intOf i).toNat) + (intOf lf).toNat)
  case atStart => exact ⟨0, _, _, rfl, by rw [HL0.out], .inl (by omega), H0⟩
  case round =>
    clear H0 HL0 HT HB2 HZA HS
    obtain ⟨j, cm, T, rfl, rfl, hj, HM⟩ := hrel
    obtain ⟨lf, hlf⟩ : ∃ lf, leftS cm K = lf := ⟨_, rfl⟩
    have hlK : lf ≤ K := by rw [← hlf]; exact leftS_le cm K
    rw [hlf] at hj ⊢
    have HLF := Lib.hid hlf
    clear hlf
    by_cases hz : 0 < lf
    · have hmod : (j : Int).tmod (K : Int) = ((j % K : Nat) : Int) := by rw [Int.tmod_eq_emod_of_nonneg (by omega)]; omega
      have hKne : ((K : Int) == 0) = false := by simp; omega
      by_cases hlt : j < lo
      · obtain ⟨bo, oo, rfl, hbo, hco⟩ := HO.out (by rw [HLO.out]; omega)
        have hbw : bo < wr.heap.size := by have := HB1.out.size; have := HM.out.below.size; omega
        have hcell : wr.cell? ⟨bo, oo + j, none⟩ = some (.int .u8 (os.getD j 0)) := (HM.out.below.cell (p := ⟨bo, oo + j, none⟩) (by have := HB1.out.size; show bo < _; omega)).trans ((HB1.out.cell (p := ⟨bo, oo + j, none⟩) hbo).trans (hco j (by rw [HLO.out]; omega)))
        obtain ⟨b0, b1⟩ := HB.out j
        obtain ⟨x, hx⟩ : ∃ x, os.getD j 0 = x := ⟨_, rfl⟩
        rw [hx] at hcell b0 b1
        clear hx hco
        obtain ⟨y, rfl⟩ : ∃ y : Nat, x = y := ⟨x.toNat, by omega⟩
        have hmod2 : (y : Int).tmod (K : Int) = ((y % K : Nat) : Int) := by rw [Int.tmod_eq_emod_of_nonneg (by omega)]; omega
        have hwy : IntKind.i64.wrap (y : Int) = (y : Int) := IntWalk.i64_in _ (by omega)
        obtain ⟨k, hk⟩ : ∃ k : Nat, y % K = k := ⟨_, rfl⟩
        have hkK : k < K := by rw [← hk]; exact Nat.mod_lt _ (by omega)
        rw [hk] at hmod2
        clear hk
        obtain ⟨c0, c1, c2, A', c', c3, hRp, _, _, hAp⟩ := HPC.out k (by rw [splitS_length, ← HK.out]; exact hkK)
        have hpe : pAt (splitS id bs) k = partS id bs K k := by rw [splitS_at (by rw [← HK.out]; exact hkK), ← HK.out]
        rw [hpe] at c0 c1 c2 c3 hRp
        have e0 := (HM.out.below.cell (p := ⟨b, off + k * 4, none⟩) HPB.out).trans c0
        have e1 := (HM.out.below.cell (p := ⟨b, off + k * 4 + 1, none⟩) HPB.out).trans c1
        have e2 := (HM.out.below.cell (p := ⟨b, off + k * 4 + 2, none⟩) HPB.out).trans c2
        have e3 := (HM.out.below.cell (p := ⟨b, off + k * 4 + 3, none⟩) HPB.out).trans c3
        have hml : (partS id bs K k).d.length ≤ 480 := by rw [partS_length (by rw [← HK.out]; exact hkK)]; unfold lenS; omega
        obtain ⟨m, hm⟩ : ∃ m, (partS id bs K k).d.length = m := ⟨_, rfl⟩
        rw [hm] at e3 hml
        have hPk : POk1 (partS id bs K k) := by unfold POk1; simp only [partS]; omega
        have HPU := Lib.hid (put_any HM.out.tab HM.out.good (partS id bs K k) hPk A' m c' hm (by omega) hAp ((hRp.below HM.out.below).keep' HM.out.below.size) HM.out.below.size)
        simp only [partS] at e0 e1 e2
        simp only [partS] at HPU
        have hbr : b < wr.heap.size := Nat.lt_of_lt_of_le HPB.out HM.out.below.size
        have hkK' : (k : Int) < (K : Int) := by omega
        clear c0 c1 c2 c3 hRp hAp hpe hPk
        cases hcb : cmA cm k
        · have HC := Lib.hid hcb
          clear hcb
          go_wp2_with fail
          refine HPU.out.mono ?_
          rintro e w3 ⟨T', v, is, E, d, rfl, hS, hT3, hG3, hb3, hst, hv⟩
          obtain ⟨rfl, his, hbs, hH⟩ := put_new h0 h1 (by rw [HL.out]; omega) HK.out (by omega) hkK HM.out.box.2 HM.out.held (by rw [HLF.out]; exact hz) HC.out hS
          have hset := leftS_set (cm := cm) (k := k) (by rw [HM.out.box.2]; omega) HC.out hkK
          rw [HLF.out] at hset
          have hBx := HM.out.box.stays hst
          have hkl : k < 64 := by omega
          obtain ⟨hck, hfk⟩ := hBx.cell hkl
          have HM3 := Lib.hid (MK.store (k := k) hT3 hG3 hH hBx (HM.out.below.trans hb3) HM.out.le)
          have hgr := cell_grown w3 g k (.bool true)
          have hv3 := hv.kept hgr (row_other hv hBx.1 (fun cur e => by injection e with _ e2; exact absurd e2 (by decide)))
          rw [HC.out] at hck
          obtain ⟨lf', hlf'⟩ : ∃ lf', leftS (cm.set k true) K = lf' := ⟨_, rfl⟩
          have HLF' := Lib.hid hlf'
          rw [hlf'] at his hset
          clear hlf'
          obtain rfl : lf = lf' + 1 := hset.symm
          have hk64 : (k : Int) < 64 := by omega
          have hjw : IntKind.i64.wrap ((j : Int) + 1) = (j : Int) + 1 := IntWalk.i64_in _ (by omega)
          obtain ⟨W3, hW3⟩ : ∃ W3, w3.setCell ⟨g, k, none⟩ (.bool true) = W3 := ⟨_, rfl⟩
          rw [hW3] at HM3 hv3
          have HRF := Lib.hid (((HR.out.below HB1.out).keep' HB1.out.size).below HM3.out.below)
          have HV3 := Lib.hid hv3
          have HIS := Lib.hid his
          have HBS := Lib.hid hbs
          clear hS hT3 hG3 hb3 hst hv hBx e0 e1 e2 e3 HPU hH hgr hset hv3 hbs his
          by_cases hz0 : lf' = 0
          · have hd0 : is = true := by rw [HIS.out]; simp [hz0]
            obtain rfl := HBS.out hd0
            subst hd0
            obtain ⟨A5, c5, rfl, hR5, _⟩ := RB.of_own HV3.out
            have k5 := conv_any c5 hR5
            have k6 := convN cap HRF.out HL.out 0
            change (convert 28 9 (.slice A l cap)).run Try.prog W3 = .ok (.string (strOfNums d)) W3 at k6
            have ss : ((strOfNums d).toList == (strOfNums d).toList) = true := by simp
            have hzb : ((lf' : Int) == 0) = true := by simp [hz0]
            clear hR5
            go_wp2
            go_roundw
            case rel => exact ⟨j + 1, cm.set k true, T', by go_num, by rw [HLF'.out, hz0]; rfl, by rw [HLF'.out]; omega, HM3.out⟩
            case measure => simp [intOf]; omega
          · have hd0 : is = false := by rw [HIS.out]; simp [hz0]
            subst hd0
            have hzb : ((lf' : Int) == 0) = false := by simp [hz0]
            obtain ⟨A5, c5, rfl, _⟩ := own_slice HV3.out
            go_wp2
            go_roundw
            case rel => exact ⟨j + 1, cm.set k true, T', by go_num, by rw [HLF'.out], by rw [HLF'.out]; omega, HM3.out⟩
            case measure => simp [intOf]; omega
        · have HC := Lib.hid hcb
          clear hcb
          go_wp2_with fail
          refine HPU.out.mono ?_
          rintro e w3 ⟨T', v, is, E, d, rfl, hS, hT3, hG3, hb3, hst, hv⟩
          obtain ⟨rfl, rfl, rfl⟩ := put_old h0 h1 (by rw [HL.out]; omega) HK.out (by omega) hkK HM.out.held (by rw [HLF.out]; exact hz) HC.out hS
          have hBx := HM.out.box.stays hst
          have HM3 := Lib.hid (show MK w1 t g id bs K cm T' w3 from ⟨hT3, hG3, HM.out.held, hBx, HM.out.below.trans hb3, HM.out.le⟩)
          obtain ⟨hck, _⟩ := hBx.cell (show k < 64 by omega)
          rw [HC.out] at hck
          have hk64 : (k : Int) < 64 := by omega
          have hjw : IntKind.i64.wrap ((j : Int) + 1) = (j : Int) + 1 := IntWalk.i64_in _ (by omega)
          clear hS hT3 hG3 hb3 hst hv hBx e0 e1 e2 e3 HPU
          go_wp2
          go_roundw
          case rel => exact ⟨j + 1, cm, T', by go_num, by rw [HLF.out], by omega, HM3.out⟩
          case measure => simp [intOf]; omega
      · have hge : lo ≤ j := by omega
        have hlt2 : ¬ (j : Int) < (lo : Int) := by omega
        go_wp2
        obtain ⟨wo, rfl⟩ : ∃ wo : World, wo = wr := ⟨_, rfl⟩
        go_loopw [13] (fun kv wr2 => ∃ k : Nat, kv = .int .i64 k ∧ k < K ∧ (∀ i, i < k → cmA cm i = true) ∧ wr2 = wo) (fun kv _ => K - (intOf kv).toNat)
        case atStart => exact ⟨0, rfl, by omega, fun i hi => absurd hi (by omega), rfl⟩
        case round =>
          obtain ⟨k, rfl, hkK, hall, rfl⟩ := hrel
          obtain ⟨hck0, _⟩ := HM.out.box.cell (show k < 64 by omega)
          have hk64' : (k : Int) < 64 := by omega
          have HALL := Lib.hid hall
          clear hall
          cases hcb : cmA cm k
          · have HC := Lib.hid hcb
            rw [hcb] at hck0
            clear hcb HALL
            obtain ⟨c0, c1, c2, A', c', c3, hRp, _, _, hAp⟩ := HPC.out k (by rw [splitS_length, ← HK.out]; exact hkK)
            have hpe : pAt (splitS id bs) k = partS id bs K k := by rw [splitS_at (by rw [← HK.out]; exact hkK), ← HK.out]
            rw [hpe] at c0 c1 c2 c3 hRp
            have e0 := (HM.out.below.cell (p := ⟨b, off + k * 4, none⟩) HPB.out).trans c0
            have e1 := (HM.out.below.cell (p := ⟨b, off + k * 4 + 1, none⟩) HPB.out).trans c1
            have e2 := (HM.out.below.cell (p := ⟨b, off + k * 4 + 2, none⟩) HPB.out).trans c2
            have e3 := (HM.out.below.cell (p := ⟨b, off + k * 4 + 3, none⟩) HPB.out).trans c3
            have hml : (partS id bs K k).d.length ≤ 480 := by rw [partS_length (by rw [← HK.out]; exact hkK)]; unfold lenS; omega
            obtain ⟨m, hm⟩ : ∃ m, (partS id bs K k).d.length = m := ⟨_, rfl⟩
            rw [hm] at e3 hml
            have hPk : POk1 (partS id bs K k) := by unfold POk1; simp only [partS]; omega
            have HPU := Lib.hid (put_any HM.out.tab HM.out.good (partS id bs K k) hPk A' m c' hm (by omega) hAp ((hRp.below HM.out.below).keep' HM.out.below.size) HM.out.below.size)
            simp only [partS] at e0 e1 e2
            simp only [partS] at HPU
            have hbr : b < wr.heap.size := Nat.lt_of_lt_of_le HPB.out HM.out.below.size
            have hkK' : (k : Int) < (K : Int) := by omega
            clear c0 c1 c2 c3 hRp hAp hpe hPk
            go_wp2_with fail
            refine HPU.out.mono ?_
            rintro e w3 ⟨T', v, is, E, d, rfl, hS, hT3, hG3, hb3, hst, hv⟩
            obtain ⟨rfl, his, hbs, hH⟩ := put_new h0 h1 (by rw [HL.out]; omega) HK.out (by omega) hkK HM.out.box.2 HM.out.held (by rw [HLF.out]; exact hz) HC.out hS
            have hset := leftS_set (cm := cm) (k := k) (by rw [HM.out.box.2]; omega) HC.out hkK
            rw [HLF.out] at hset
            have hBx := HM.out.box.stays hst
            have hkl : k < 64 := by omega
            obtain ⟨hck, hfk⟩ := hBx.cell hkl
            have HM3 := Lib.hid (MK.store (k := k) hT3 hG3 hH hBx (HM.out.below.trans hb3) HM.out.le)
            have hgr := cell_grown w3 g k (.bool true)
            have hv3 := hv.kept hgr (row_other hv hBx.1 (fun cur e => by injection e with _ e2; exact absurd e2 (by decide)))
            rw [HC.out] at hck
            obtain ⟨lf', hlf'⟩ : ∃ lf', leftS (cm.set k true) K = lf' := ⟨_, rfl⟩
            have HLF' := Lib.hid hlf'
            rw [hlf'] at his hset
            clear hlf'
            obtain rfl : lf = lf' + 1 := hset.symm
            have hk64 : (k : Int) < 64 := by omega
            have hjw : IntKind.i64.wrap ((j : Int) + 1) = (j : Int) + 1 := IntWalk.i64_in _ (by omega)
            obtain ⟨W3, hW3⟩ : ∃ W3, w3.setCell ⟨g, k, none⟩ (.bool true) = W3 := ⟨_, rfl⟩
            rw [hW3] at HM3 hv3
            have HRF := Lib.hid (((HR.out.below HB1.out).keep' HB1.out.size).below HM3.out.below)
            have HV3 := Lib.hid hv3
            have HIS := Lib.hid his
            have HBS := Lib.hid hbs
            clear hS hT3 hG3 hb3 hst hv hBx e0 e1 e2 e3 HPU hH hgr hset hv3 hbs his
            by_cases hz0 : lf' = 0
            · have hd0 : is = true := by rw [HIS.out]; simp [hz0]
              obtain rfl := HBS.out hd0
              subst hd0
              obtain ⟨A5, c5, rfl, hR5, _⟩ := RB.of_own HV3.out
              have k5 := conv_any c5 hR5
              have k6 := convN cap HRF.out HL.out 0
              change (convert 28 9 (.slice A l cap)).run Try.prog W3 = .ok (.string (strOfNums d)) W3 at k6
              have ss : ((strOfNums d).toList == (strOfNums d).toList) = true := by simp
              have hzb : ((lf' : Int) == 0) = true := by simp [hz0]
              clear hR5
              go_wp2
              go_roundw
              case rel => exact ⟨j + 1, cm.set k true, T', by go_num, by rw [HLF'.out, hz0]; rfl, by rw [HLF'.out]; omega, HM3.out⟩
              case measure => simp [intOf]; omega
            · have hd0 : is = false := by rw [HIS.out]; simp [hz0]
              subst hd0
              have hzb : ((lf' : Int) == 0) = false := by simp [hz0]
              obtain ⟨A5, c5, rfl, _⟩ := own_slice HV3.out
              go_wp2
              go_roundw
              case rel => exact ⟨j + 1, cm.set k true, T', by go_num, by rw [HLF'.out], by rw [HLF'.out]; omega, HM3.out⟩
              case measure => simp [intOf]; omega
          · have hk1 : k + 1 < K := by
              rcases Nat.lt_or_ge (k + 1) K with h | h
              · exact h
              · have := leftS_zero (cm := cm) (n := K) |>.2 (fun i hi => by
                  rcases Nat.lt_or_ge i k with h' | h'
                  · exact HALL.out i h'
                  · obtain rfl : i = k := by omega
                    exact hcb)
                rw [HLF.out] at this
                omega
            have HC := Lib.hid hcb
            rw [hcb] at hck0
            clear hcb
            go_wp2
            go_roundw
            case rel => exact ⟨k + 1, by go_num, hk1, fun i hi => by
              rcases Nat.lt_or_ge i k with h' | h'
              · exact HALL.out i h'
              · obtain rfl : i = k := by omega
                exact HC.out, by first | rfl | trivial⟩
            case measure => simp [intOf]; omega
    · obtain rfl : lf = 0 := by omega
      obtain ⟨c0, c1, c2, A', c', c3, hRp, _, _, hAp⟩ := HPC.out 0 (by rw [splitS_length, ← HK.out]; omega)
      have hpe : pAt (splitS id bs) 0 = partS id bs K 0 := by rw [splitS_at (by rw [← HK.out]; omega), ← HK.out]
      rw [hpe] at c0 c1 c2 c3 hRp
      have e0 : wr.cell? ⟨b, off, none⟩ = _ := (HM.out.below.cell (p := ⟨b, off + 0 * 4, none⟩) HPB.out).trans c0
      have e1 : wr.cell? ⟨b, off + 1, none⟩ = _ := (HM.out.below.cell (p := ⟨b, off + 0 * 4 + 1, none⟩) HPB.out).trans c1
      have e2 : wr.cell? ⟨b, off + 2, none⟩ = _ := (HM.out.below.cell (p := ⟨b, off + 0 * 4 + 2, none⟩) HPB.out).trans c2
      have e3 : wr.cell? ⟨b, off + 3, none⟩ = _ := (HM.out.below.cell (p := ⟨b, off + 0 * 4 + 3, none⟩) HPB.out).trans c3
      have hml : (partS id bs K 0).d.length ≤ 480 := by rw [partS_length (by rw [← HK.out]; omega)]; unfold lenS; omega
      obtain ⟨m, hm⟩ : ∃ m, (partS id bs K 0).d.length = m := ⟨_, rfl⟩
      rw [hm] at e3 hml
      have hPk : POk1 (partS id bs K 0) := by unfold POk1; simp only [partS]; omega
      have HPU := Lib.hid (put_any HM.out.tab HM.out.good (partS id bs K 0) hPk A' m c' hm (by omega) hAp ((hRp.below HM.out.below).keep' HM.out.below.size) HM.out.below.size)
      simp only [partS] at e0 e1 e2
      simp only [partS] at HPU
      have hkK' : (0 : Int) < (K : Int) := by omega
      clear c0 c1 c2 c3 hRp hAp hpe hPk
      go_wp2_with fail
      refine HPU.out.mono ?_
      rintro e w3 ⟨T', v, is, E, d, rfl, hS, hT3, hG3, hb3, hst, hv⟩
      obtain rfl := put_done (k := 0) h0 h1 (by rw [HL.out]; omega) HK.out (by omega) HM.out.held HLF.out hS
      have HB3 := Lib.hid (HB1.out.trans ((HM.out.below.trans hb3).mono HB1.out.size))
      obtain ⟨A5, c5, rfl, _⟩ := own_slice hv
      clear hS hT3 hG3 hb3 hst hv e0 e1 e2 e3 HPU
      go_wp2_with fail
      refine (alive_any _).mono ?_
      rintro e w4 ⟨rfl, h4⟩
      have H4 := Lib.hid (HB3.out.trans (h4.mono HB3.out.size))
      clear h4
      go_wp2
      go_ret
      exact ⟨rfl, H4.out⟩
end Go.Proofs.Ytikijkhblfgbpaa
