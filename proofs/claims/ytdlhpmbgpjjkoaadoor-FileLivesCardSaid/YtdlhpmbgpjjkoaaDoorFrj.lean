/-
  Proved here, where sha's table lies as the program lays it: FileLives, of a description that may be.
-/
import Derived.Test.YtdlhpmbgpjjkoaaDoorFrk
import Derived.Test.YtdlhpmbgpjjkoaaDoorPlF
import Derived.Deep.CutBlock
set_option linter.unusedSimpArgs false
set_option linter.unusedVariables false
namespace Go.Proofs.YtdlhpmbgpjjkoaaDoor
open Go.RowKit
theorem own_ri {w : World} {base n : Nat} {e : TypeId} {A : Option Addr} {c : Nat} {ys : List Int} (h : w.ownsRow base e 1 (.slice A n c) n (NV .u8 ys)) (hl : ys.length = n) : RI .u8 w A ys := fun hp => by
  obtain ⟨k, rfl, _, hlt, hc⟩ := own_cells h hl (by omega)
  exact ⟨k, 0, rfl, hlt, fun i hi => by rw [Nat.zero_add]; exact hc i (by omega)⟩
theorem TI.only {w w' : World} {A : Option Addr} {ys : List Bool} {k : Nat} (h : TI w A ys) (hA : ∀ a, A = some a → a.block ≠ k) (ho : Only k w w') : TI w' A ys := fun hp => by
  obtain ⟨b, off, e, hlt, hc⟩ := h hp
  exact ⟨b, off, e, Nat.lt_of_lt_of_le hlt ho.size, fun i hi => (World.cell?_of_block (ho.block b hlt (hA _ e))).trans (hc i hi)⟩
theorem FOp.below {w w' : World} {b o : Nat} {x : FOp} (h : cellsFOp w b o x) (hlt : b < w.heap.size) (hb : Below w.heap.size w w') : cellsFOp w' b o x :=
  ⟨(hb.cell (p := ⟨b, o, none⟩) hlt).trans h.1, (hb.cell (p := ⟨b, o + 1, none⟩) hlt).trans h.2.1, (hb.cell (p := ⟨b, o + 2, none⟩) hlt).trans h.2.2⟩
/-- A call's block. -/
def OB (w : World) (k : Nat) (x : FOp) : Prop := w.heap[k]? = some (.cells #[.int .i64 x.kd, .int .i64 x.n, .int .u64 x.c] 40 (0, 0))
theorem OB.cells {w : World} {k : Nat} {x : FOp} (h : OB w k x) : w.cell? ⟨k, 0, none⟩ = some (.int .i64 x.kd) ∧ w.cell? ⟨k, 1, none⟩ = some (.int .i64 x.n) ∧ w.cell? ⟨k, 2, none⟩ = some (.int .u64 x.c) := by
  unfold OB at h
  simp [World.cell?, h]
theorem OB.below {w w' : World} {k : Nat} {x : FOp} (h : OB w k x) (hb : Below w.heap.size w w') : OB w' k x := (hb.block k (lt_of_block h)).trans h
theorem OB.only {w w' : World} {k g : Nat} {x : FOp} (h : OB w k x) (hk : k ≠ g) (ho : Only g w w') : OB w' k x := (ho.block k (lt_of_block h) hk).trans h
theorem OB.only2 {w w' : World} {k g l : Nat} {x : FOp} (h : OB w k x) (hk : k ≠ g) (hl : k ≠ l) (ho : Only2 g l w w') : OB w' k x := (ho.block k (lt_of_block h) hk hl).trans h
section
variable {W : World} {gs : Nat} {id : Nat} {nm : ByteArray} {sum : List Nat} {g l : Nat} {bs : List Int} {N b p : Nat} {z : Bool}
theorem peek_any {w : World} (h : Sd w gs id nm sum bs N b p z) : Calls Tryd.prog 9 #[.pointer (some ⟨gs, 0, none⟩)] w fun e w' => ∃ (n : Int) (is : Bool), e = .returned (.tuple #[.int .i64 n, .bool is]) ∧ Below w.heap.size w w' ∧ ((stS z N b = 0 ∧ is = true ∧ ∃ j : Nat, IsNext N b p j ∧ n = (lenS bs.length j : Nat)) ∨ (stS z N b ≠ 0 ∧ is = false ∧ n = 0)) := by
  by_cases hz : stS z N b = 0
  · obtain ⟨rfl, hf⟩ := stS_zero.1 hz
    refine (peek_go h hf).mono ?_
    rintro e w' ⟨j, rfl, hj, hb⟩
    exact ⟨_, _, rfl, hb, .inl ⟨hz, rfl, j, hj, rfl⟩⟩
  · refine (peek_stop h hz).mono ?_
    rintro e w' ⟨rfl, hb⟩
    exact ⟨_, _, rfl, hb, .inr ⟨hz, rfl, rfl⟩⟩
theorem rnext_not {w : World} {d : Nat} (h : Rs w d g l bs N b p z) : Calls Tryd.prog 10 #[.pointer (some ⟨g, 0, none⟩), .bool false] w fun e w' => ∃ k : Int, e = .returned (.int .i64 k) ∧ w = w' ∧ ((stS z N b = 0 ∧ ∃ j : Nat, IsNext N b p j ∧ k = (j : Nat)) ∨ (stS z N b ≠ 0 ∧ k = -1)) := by
  by_cases hz : stS z N b = 0
  · refine (rnext_go h hz false).mono ?_
    rintro e w' ⟨j, rfl, hj, _, _, hw⟩
    exact ⟨_, rfl, hw rfl, .inl ⟨hz, j, hj, rfl⟩⟩
  · refine (rnext_stop h hz false).mono ?_
    rintro e w' ⟨rfl, rfl⟩
    exact ⟨_, rfl, rfl, .inr ⟨hz, rfl⟩⟩
end
set_option maxRecDepth 100000 in
set_option maxHeartbeats 16000000 in
theorem lives_in {id : Nat} {nm : ByteArray} {bs : List Int} {n c : Nat} {A : Option Addr} (hn : bs.length = n) (hnm : nm.size ≤ 60) (hI : rI id nm n = true) (hb : ∀ i, 0 ≤ bs.getD i 0) (hc : n ≤ c) (hm : c ≤ maxLen) (hz : A = none → c = 0) {A2 : Option Addr} {m k2 : Nat} {ops : List FOp} (w : World) (hr : RI .u8 w A bs) (hops : SlFOp w A2 m k2 ops) (hT : Tab w) :
    Calls Tryd.prog 3 #[.int .u64 id, .string nm, .slice A n c, .slice A2 m k2] w fun e w' => e = .returned (.bool true) ∧ Below w.heap.size w w' := by
  have hn4 : n ≤ 4096 := by
    simp [rI] at hI
    omega
  have d0 : decide ((4200 : Int) < (n : Int)) = false := by simp; omega
  have d1 : ¬ (4200 : Int) < (n : Int) := by omega
  have d2 : decide ((60 : Int) < (nm.size : Int)) = false := by simp; omega
  have d3 : ¬ (60 : Int) < (nm.size : Int) := by omega
  obtain ⟨X, hX⟩ : ∃ X, sumB bs = X := ⟨_, rfl⟩
  have HXE := Lib.hid hX
  have HTT := Lib.hid hT
  have HOPS := Lib.hid hops
  have HRI := Lib.hid hr
  have HNN := Lib.hid hn
  have HN4 := Lib.hid hn4
  have HCM := Lib.hid (And.intro hc (And.intro hm hz))
  have HPOS := Lib.hid hb
  have hd : ∀ a, A = some a → 0 < bs.length → a.block < w.heap.size := fun a ha hp => by
    obtain ⟨b', off, e, hlt, _⟩ := hr hp
    rw [ha] at e
    injection e with e
    rw [e]
    exact hlt
  have HD := Lib.hid hd
  have HNEW := Lib.hid (hX ▸ fnew_yes (id := id) (nm := nm) hn (by omega) hI hb hc hm hz w hr hT)
  have HRT := Lib.hid (fun W => hI ▸ sright_any id nm n (by omega) Z32 W)
  obtain ⟨N, hN⟩ : ∃ N, (n + 63) / 64 = N := ⟨_, rfl⟩
  rw [hN] at HNEW
  have HNE := Lib.hid hN
  have hm9 : m ≤ 9223372036854775807 := by have := hops.le; have := hops.max; unfold maxLen at this; omega
  clear hn hnm hI hb hc hm hz hr hops hT hX hd hN hn4
  go_enter Tryd.func3, Tryd.ntmps3
  go_wp2_with fail
  refine HNEW.out.mono ?_
  rintro e w1 ⟨gs, rfl, hg, hs, hb⟩
  have HG := Lib.hid hg
  have HS1 := Lib.hid hs
  have HB1 := Lib.hid hb
  clear hg hs hb HNEW
  go_wp2_with (refine wpList_build_to rfl 34 _ rfl (infL id nm n Z32).toArray (by kernel_rfl) ?_)
  refine (HRT.out _).mono ?_
  rintro e w2 ⟨rfl, hb⟩
  have HS2 := Lib.hid (HS1.out.below hb)
  have HB2 := Lib.hid (HB1.out.trans (hb.mono HB1.out.size))
  have HRN := Lib.hid (rnew_any (d := w.heap.size) HNN.out HN4.out HCM.out.1 HCM.out.2.1 HCM.out.2.2 w2 (HRI.out.below HB2.out) HD.out HB2.out.size)
  clear hb HS1 HB1 HRT
  go_wp2_with fail
  refine HRN.out.mono ?_
  rintro e w3 ⟨g, l, rfl, hl, hs, hb⟩
  rw [HNE.out] at hs
  have HF3 := Lib.hid (show Fs w gs id nm X g l bs N 0 0 false w3 from ⟨HS2.out.below hb, hs, HB2.out.trans (hb.mono HB2.out.size), HG.out, by have := HS2.out.lt; omega⟩)
  have hgl : gs < l ∧ l < g := ⟨HF3.out.gl, HF3.out.rs.ne⟩
  have HGL := Lib.hid hgl
  clear hl hs hb HS2 HB2 HRN HG hgl
  go_wp2
  go_loopw [12] (fun iv wr => ∃ (i b p : Nat) (z : Bool), iv = .int .i64 i ∧ i ≤ m ∧ i ≤ 60 ∧ Hid (Fs w gs id nm X g l bs N b p z wr)) (fun iv _ => 60 - (intOf iv).toNat)
  case atStart => exact ⟨0, 0, 0, false, rfl, by omega, by omega, HF3⟩
  case round =>
    obtain ⟨i, b, p, z, rfl, him, hi60, HF⟩ := hrel
    clear HF3
    by_cases hin : i < m ∧ i < 60
    · obtain ⟨hin1, hin2⟩ := hin
      have e1 : decide ((i : Int) < (m : Int)) = true := by simp; omega
      have e2 : decide (i < m) = true := by simp; omega
      have e3 : decide ((i : Int) < 60) = true := by simp; omega
      have e4 : decide (i < 60) = true := by simp; omega
      have g1 : (0 : Int) ≤ (i : Int) := by omega
      have g2 : (i : Int) < (m : Int) := by omega
      have w1 : IntKind.i64.wrap ((i : Int) + 1) = (i : Int) + 1 := IntWalk.i64_in _ (by omega)
      obtain ⟨ob, off, rfl, hob, hcs⟩ := HOPS.out.reads (by rw [HOPS.out.len_eq]; omega)
      have hcs' := hcs i (by rw [HOPS.out.len_eq]; exact hin1)
      have hcc := HOPS.out.ok i (by rw [HOPS.out.len_eq]; exact hin1)
      obtain ⟨x, hx⟩ : ∃ x, atFOp ops i = x := ⟨_, rfl⟩
      rw [hx] at hcs' hcc
      obtain ⟨x0, x1, x2⟩ := FOp.below hcs' hob HF.out.below
      obtain ⟨o, ho⟩ : ∃ o, off + i * 3 = o := ⟨_, rfl⟩
      rw [ho] at x0 x1 x2
      have HCC := Lib.hid hcc
      have HOB0 := Lib.hid (show OB (wr.alloc (.cells #[.int .i64 x.kd, .int .i64 x.n, .int .u64 x.c] 40)) wr.heap.size x from heap_alloc_new _ _)
      have HF0 := Lib.hid (HF.out.to ((Below.refl wr.heap.size wr).alloc (Nat.le_refl _) (.cells #[.int .i64 x.kd, .int .i64 x.n, .int .u64 x.c] 40)))
      have HOG := Lib.hid (show g < wr.heap.size from HF.out.rs.lt)
      have ho3 : off + 3 * i = o := by omega
      clear hcs hcs' hcc hx hob HF
      go_upto_region 13 with fail
      obtain ⟨ko, hko⟩ : ∃ k, wr.heap.size = k := ⟨_, rfl⟩
      obtain ⟨V, hV⟩ : ∃ V, wr.alloc (.cells #[.int .i64 x.kd, .int .i64 x.n, .int .u64 x.c] 40) = V := ⟨_, rfl⟩
      rw [hV] at HOB0 HF0 ⊢
      rw [hko] at HOB0 HOG ⊢
      clear hV hko x0 x1 x2 ho ho3
      go_wp2_with fail
      refine (peek_any HF0.out.sd).mono ?_
      rintro e w4 ⟨nP, isP, rfl, hb, hP⟩
      have HF4 := Lib.hid (HF0.out.to hb)
      have HOB4 := Lib.hid (HOB0.out.below hb)
      have HP := Lib.hid hP
      clear hb hP HF0 HOB0
      go_wp2_with fail
      refine (rnext_not HF4.out.rs).mono ?_
      rintro e w5 ⟨kP, rfl, rfl, hK⟩
      have HK := Lib.hid hK
      clear hK
      go_upto_region 15 with fail
      go_cut [113] (fun bv wx => ∃ W', bv = .bool false ∧ W' = wx ∧ Hid (Below w4.heap.size w4 W'))
      case first =>
        rcases HP.out with ⟨hz, rfl, j, hj, hnl⟩ | ⟨hz, rfl, rfl⟩
        · have hk : ∃ j' : Nat, IsNext N b p j' ∧ kP = (j' : Nat) := by
            rcases HK.out with ⟨_, h⟩ | ⟨h, _⟩
            · exact h
            · exact absurd hz h
          obtain ⟨j', hj', rfl⟩ := hk
          obtain rfl := hj'.one hj
          have HBY := Lib.hid (rbytes_sd HF4.out.rs hj.1)
          obtain ⟨ll, hll⟩ : ∃ y, lenS bs.length j' = y := ⟨_, rfl⟩
          rw [hll] at HBY hnl
          have p1 : decide ((0 : Int) ≤ (j' : Int)) = true := by simp
          have p2 : (nP != (ll : Int)) = false := by simp [hnl]
          have p3 : (nP == (ll : Int)) = true := by simp [hnl]
          clear HP HK hz hj hj' hll hnl
          go_wp2_with fail
          refine HBY.out.mono ?_
          rintro e w6 ⟨A6, c6, rfl, _, md, rfl⟩
          have HB6 := Lib.hid (belowN (Below.refl w4.heap.size w4) md)
          go_wp2
          go_meet
          exact ⟨_, rfl, rfl, HB6⟩
        · have hk : kP = -1 := by
            rcases HK.out with ⟨h, _⟩ | ⟨_, h⟩
            · exact absurd h hz
            · exact h
          subst hk
          have HB6 := Lib.hid (Below.refl w4.heap.size w4)
          clear HP HK hz
          go_wp2
          go_meet
          exact ⟨_, rfl, rfl, HB6⟩
      case rest =>
        obtain ⟨w6, rfl, rfl, hb⟩ := hcut
        have HF6 := Lib.hid (HF4.out.to hb.out)
        have HOB6 := Lib.hid (HOB4.out.below hb.out)
        clear hb HF4 HOB4 HP HK
        obtain ⟨r5, hr5⟩ : ∃ r, i % 5 = r := ⟨_, rfl⟩
        have hr60 : r5 ≤ 60 := by omega
        have w5 : ((i : Int)).tmod 5 = (r5 : Int) := by rw [Int.tmod_eq_emod_of_nonneg (by omega)]; omega
        have w6 : IntKind.i64.wrap (r5 : Int) = (r5 : Int) := IntWalk.i64_in _ (by omega)
        have HCO := Lib.hid (lcosts_any HF6.out.sd HF6.out.rs r5 hr60)
        clear hr5
        go_wp2_with fail
        refine HCO.out.mono ?_
        rintro e w7 ⟨rfl, hb⟩
        have HF7 := Lib.hid (HF6.out.to hb)
        have HOB7 := Lib.hid (HOB6.out.below hb)
        clear hb HF6 HOB6 HCO hr60
        obtain ⟨y0, y1, y2⟩ := HOB7.out.cells
        go_wp2_with fail
        refine (rof_any x.n HCC.out _).mono ?_
        rintro e w8 ⟨vo, rfl, hO⟩
        have HF8 := Lib.hid (HF7.out.to hO.below)
        have HOB8 := Lib.hid (HOB7.out.below hO.below)
        obtain ⟨Ao, co, rfl, hzo, hTI⟩ := hO.ti
        have HTI := Lib.hid hTI
        have HAO := Lib.hid (show ∀ a, Ao = some a → g < a.block from fun a ha => by
          subst ha
          have h1 := ownBlock_le hO.own a.block rfl
          have h2 := HF7.out.rs.lt
          omega)
        obtain ⟨mo, hmo⟩ : ∃ q, (ofL x.n x.c).length = q := ⟨_, rfl⟩
        rw [hmo]
        have HMO := Lib.hid hmo
        obtain ⟨rb, hrb⟩ : ∃ q, rB x.n x.c = q := ⟨_, rfl⟩
        rw [hrb]
        have HRB := Lib.hid hrb
        clear hO hTI hzo hmo hrb HF7 HOB7 y0 y1 y2
        obtain ⟨y0, y1, y2⟩ := HOB8.out.cells
        go_upto_block 2 with fail
        clear y0 y1 y2
        go_cut [16] (fun kv wx => ∃ (kv' : Value) (b' p' : Nat) (z' : Bool) (W' : World), kv' = kv ∧ W' = wx ∧ Hid (Fs w gs id nm X g l bs N b' p' z' W'))
        case rest =>
          obtain ⟨kv', b', p', z', w9, rfl, rfl, HF9⟩ := hcut
          clear HF8 HOB8 HTI HAO HMO HRB
          as_aux_lemma =>
            obtain ⟨lf, hlf⟩ : ∃ q, lfS z' N b' = q := ⟨_, rfl⟩
            obtain ⟨st, hst⟩ : ∃ q, stS z' N b' = q := ⟨_, rfl⟩
            have HLF := Lib.hid (hlf ▸ left_sd HF9.out.sd)
            have HLR := Lib.hid (fun W (hb : Below w9.heap.size w9 W) => hlf ▸ rleft_sd (HF9.out.rs.below hb))
            have HSF := Lib.hid (fun W (hb : Below w9.heap.size w9 W) => hst ▸ state_sd (HF9.out.sd.below hb))
            have HSR := Lib.hid (fun W (hb : Below w9.heap.size w9 W) => hst ▸ rstate_sd (HF9.out.rs.below hb))
            have s1 : ((lf : Int) != (lf : Int)) = false := by simp
            have s2 : ((lf : Int) == (lf : Int)) = true := by simp
            have s3 : (st != st) = false := by simp
            have s4 : (st == st) = true := by simp
            clear hlf hst
            go_wp2_with fail
            refine HLF.out.mono ?_
            rintro e w10 ⟨rfl, hb⟩
            have HB10 := Lib.hid hb
            clear hb HLF
            go_wp2_with fail
            refine (HLR.out _ HB10.out).mono ?_
            rintro e w11 ⟨rfl, rfl⟩
            go_wp2_with fail
            refine (HSF.out _ HB10.out).mono ?_
            rintro e w12 ⟨rfl, hb⟩
            have HB12 := Lib.hid (HB10.out.trans (hb.mono HB10.out.size))
            clear hb HB10 HLR HSF
            go_wp2_with fail
            refine (HSR.out _ HB12.out).mono ?_
            rintro e w13 ⟨rfl, rfl⟩
            have HF13 := Lib.hid (HF9.out.to HB12.out)
            clear HSR HB12 HF9
            go_wp2
            go_roundw
            case rel => exact ⟨i + 1, b', p', z', by go_num, by omega, by omega, HF13⟩
            case measure => simp [intOf]; omega
        case first =>
          obtain ⟨y0, y1, y2⟩ := HOB8.out.cells
          by_cases k0 : x.kd = 0
          · have q0 : (x.kd == 0) = true := by simp [k0]
            have HKD := Lib.hid k0
            clear k0 y0 y1 y2 HTI HMO HRB
            by_cases hz : stS z N b = 0
            · have hzz := stS_zero.1 hz
              have HZ := Lib.hid hz
              have HZF := Lib.hid hzz.1
              as_aux_lemma =>
                have HX := Lib.hid (pnext_go (show Sd w8 gs id nm X bs N b p false from by rw [← hzz.1]; exact HF8.out.sd) hzz.2)
                clear hz hzz
                go_wp2_with fail
                refine HX.out.mono ?_
                rintro e w9 ⟨j, v, rfl, hj, hv, hs, ho⟩
                have hr9 := HF8.out.rs.only1 HF8.out.gl HF8.out.wg ho
                have HS9 := Lib.hid hs
                have HO9 := Lib.hid ho
                have HJ := Lib.hid hj
                obtain ⟨Av, cv, rfl, _⟩ := own_slice hv
                have HV9 := Lib.hid hv
                have HRX := Lib.hid (rnext_go hr9 HZ.out true)
                clear hj hv hs ho hr9 HX
                go_wp2_with fail
                refine HRX.out.mono ?_
                rintro e w10 ⟨j', rfl, hj', hs2, ho2, _⟩
                obtain rfl := hj'.one HJ.out
                rw [if_pos rfl] at hs2
                have HF10 := Lib.hid (show Fs w gs id nm X g l bs N b (j' + 1) false w10 from HF8.out.both HS9.out HO9.out hs2 (Only2.of1 ho2))
                have hav : ∀ a, Av = some a → a.block ≠ g := fun a ha => by
                  subst ha
                  have h1 := ownBlock_le HV9.out a.block rfl
                  have h2 := HF8.out.rs.lt
                  omega
                have hlen := cutL_len (bs := bs) (i := j') (by have := HF8.out.rs.num; have := HJ.out.1; omega)
                have hri := own_ri (own_only HV9.out hav ho2) hlen
                obtain ⟨A9, c9, hri9, hby⟩ := rbytes_run HF10.out.rs HJ.out.1
                obtain ⟨ll, hll⟩ : ∃ y, lenS bs.length j' = y := ⟨_, rfl⟩
                rw [hll] at hlen hby ⊢
                have HBY := Lib.hid hby
                have HCV8 : Hid (∀ m, (convert 23 9 (.slice Av ll cv)).run Tryd.prog (w10.drewN m) = .ok (.string (strOfNums (cutL bs j'))) (w10.drewN m)) := Lib.hid (fun m => conv_text hlen cv (hri.below (belowN (Below.refl w10.heap.size w10) m)))
                have HCV9 : Hid (∀ m, (convert 23 9 (.slice (some A9) ll c9)).run Tryd.prog (w10.drewN m) = .ok (.string (strOfNums (cutL bs j'))) (w10.drewN m)) := Lib.hid (fun m => conv_text hlen c9 (hri9.below (belowN (Below.refl w10.heap.size w10) m)))
                obtain ⟨S, hS⟩ : ∃ S, strOfNums (cutL bs j') = S := ⟨_, rfl⟩
                rw [hS] at HCV8 HCV9
                have hcv8 := HCV8.out
                have hcv9 := HCV9.out
                have ss : (S.toList == S.toList) = true := by simp
                have p1 : decide ((0 : Int) ≤ (j' : Int)) = true := by simp
                have p2 : ((j' : Int) != (j' : Int)) = false := by simp
                have p3 : ((j' : Int) == (j' : Int)) = true := by simp
                have HFQ := Lib.hid (fun m => HF10.out.to (belowN (Below.refl w10.heap.size w10) m))
                clear hj' hs2 ho2 hav hlen hri hri9 hby hll hS HRX HV9 HS9 HO9 HCV8 HCV9 HF10
                go_wp2
                go_quiet ((go_at_call 11; exact HBY.out _))
                clear hcv8 hcv9
                go_wp2
                go_meet
                exact ⟨_, _, _, _, _, rfl, rfl, Lib.hid (HFQ.out _)⟩
            · have HZ := Lib.hid hz
              have HX := Lib.hid (pnext_stop HF8.out.sd hz)
              clear hz
              go_wp2_with fail
              refine HX.out.mono ?_
              rintro e w9 ⟨rfl, hb⟩
              have HF9 := Lib.hid (HF8.out.to hb)
              have HRX := Lib.hid (rnext_stop HF9.out.rs HZ.out true)
              clear hb HX HF8
              go_wp2_with fail
              refine HRX.out.mono ?_
              rintro e w10 ⟨rfl, rfl⟩
              have HFQ := Lib.hid (fun m => HF9.out.to (belowN (Below.refl w9.heap.size w9) m))
              clear HF9 HRX
              go_wp2
              go_quiet (fail)
              go_wp2
              go_meet
              exact ⟨_, _, _, _, _, rfl, rfl, Lib.hid (HFQ.out _)⟩
          have q0 : (x.kd == 0) = false := by simp [k0]
          clear k0
          by_cases k1 : x.kd = 1
          · have q1 : (x.kd == 1) = true := by simp [k1]
            clear k1 y0
            as_aux_lemma =>
              obtain ⟨rf, hrf⟩ : ∃ q, rfS z N x.n x.c = q := ⟨_, rfl⟩
              have HX := Lib.hid (hrf ▸ kn_any HF8.out.sd (n := x.n) HCC.out)
              have HY := Lib.hid (fun W' (h : Rs W' w.heap.size g l bs N b p z) (hT : TI W' Ao (ofL x.n x.c)) => HRB.out ▸ hrf ▸ rkn_any h false (k := co) HMO.out hT (fun a ha => by have := HAO.out a ha; have := HGL.out; omega))
              have s1 : (rf != rf) = false := by simp
              have s2 : (rf == rf) = true := by simp
              clear hrf
              go_wp2_with fail
              refine HX.out.mono ?_
              rintro e w9 ⟨rfl, hs, ho⟩
              have HS9 := Lib.hid hs
              have HO9 := Lib.hid ho
              have HR9 := Lib.hid (HF8.out.rs.only1 HF8.out.gl HF8.out.wg ho)
              have HT9 := Lib.hid (TI.only HTI.out (fun a ha => by have := HAO.out a ha; have := HGL.out; omega) ho)
              clear hs ho HX y1 y2
              go_wp2_with fail
              refine (HY.out _ HR9.out HT9.out).mono ?_
              rintro e w10 ⟨rfl, hs2, ho2⟩
              have HF10 := Lib.hid (HF8.out.both HS9.out HO9.out hs2 ho2)
              clear hs2 ho2 HS9 HO9 HR9 HT9 HY HF8
              go_wp2
              go_meet
              exact ⟨_, _, _, _, _, rfl, rfl, HF10⟩
          clear y0 y1 y2
          obtain ⟨y0, y1, y2⟩ := HOB8.out.cells
          have q1 : (x.kd == 1) = false := by simp [k1]
          clear k1
          by_cases k2' : x.kd = 2
          · have q2 : (x.kd == 2) = true := by simp [k2']
            clear k2' y0
            as_aux_lemma =>
              obtain ⟨rf, hrf⟩ : ∃ q, rfS z N x.n x.c = q := ⟨_, rfl⟩
              have HX := Lib.hid (hrf ▸ an_any HF8.out.sd (n := x.n) HCC.out)
              have HY := Lib.hid (fun W' (h : Rs W' w.heap.size g l bs N b p z) (hT : TI W' Ao (ofL x.n x.c)) => HRB.out ▸ hrf ▸ rkn_any h true (k := co) HMO.out hT (fun a ha => by have := HAO.out a ha; have := HGL.out; omega))
              have s1 : (rf != rf) = false := by simp
              have s2 : (rf == rf) = true := by simp
              clear hrf
              go_wp2_with fail
              refine HX.out.mono ?_
              rintro e w9 ⟨rfl, hs, ho⟩
              have HS9 := Lib.hid hs
              have HO9 := Lib.hid ho
              have HR9 := Lib.hid (HF8.out.rs.only1 HF8.out.gl HF8.out.wg ho)
              have HT9 := Lib.hid (TI.only HTI.out (fun a ha => by have := HAO.out a ha; have := HGL.out; omega) ho)
              clear hs ho HX y1 y2
              go_wp2_with fail
              refine (HY.out _ HR9.out HT9.out).mono ?_
              rintro e w10 ⟨rfl, hs2, ho2⟩
              have HF10 := Lib.hid (HF8.out.both HS9.out HO9.out hs2 ho2)
              clear hs2 ho2 HS9 HO9 HR9 HT9 HY HF8
              go_wp2
              go_meet
              exact ⟨_, _, _, _, _, rfl, rfl, HF10⟩
          have q2 : (x.kd == 2) = false := by simp [k2']
          clear k2' y0 y1 y2 HTI HAO HMO HRB
          by_cases k3 : x.kd = 3
          · have q3 : (x.kd == 3) = true := by simp [k3]
            clear k3
            as_aux_lemma =>
              obtain ⟨rf, hrf⟩ : ∃ q, ceS z N b = q := ⟨_, rfl⟩
              obtain ⟨zf, hzf⟩ : ∃ q, czS z N b = q := ⟨_, rfl⟩
              have HX := Lib.hid (hzf ▸ hrf ▸ ca_any HF8.out.sd)
              have HY := Lib.hid (fun W' (h : Rs W' w.heap.size g l bs N b p z) => hzf ▸ hrf ▸ rca_any h)
              have s1 : (rf != rf) = false := by simp
              have s2 : (rf == rf) = true := by simp
              clear hrf hzf
              go_wp2_with fail
              refine HX.out.mono ?_
              rintro e w9 ⟨rfl, hs, ho⟩
              have HS9 := Lib.hid hs
              have HO9 := Lib.hid ho
              have HR9 := Lib.hid (HF8.out.rs.only1 HF8.out.gl HF8.out.wg ho)
              clear hs ho HX
              go_wp2_with fail
              refine (HY.out _ HR9.out).mono ?_
              rintro e w10 ⟨rfl, hs2, ho2⟩
              have HF10 := Lib.hid (HF8.out.both HS9.out HO9.out hs2 ho2)
              clear hs2 ho2 HS9 HO9 HR9 HY HF8
              go_wp2
              go_meet
              exact ⟨_, _, _, _, _, rfl, rfl, HF10⟩
          · have q3 : (x.kd == 3) = false := by simp [k3]
            clear k3
            go_wp2
            go_meet
            exact ⟨_, _, _, _, _, rfl, rfl, HF8⟩
    · go_upto_region 10 with fail
      go_cut [77] (fun bv wx => ∃ W', bv = .bool false ∧ W' = wx ∧ W' = wr)
      case first =>
        by_cases him2 : i < m
        · have e1 : decide ((i : Int) < (m : Int)) = true := by simp; omega
          have e2 : decide (i < m) = true := by simp; omega
          have e3 : decide ((i : Int) < 60) = false := by simp; omega
          have e4 : decide (i < 60) = false := by simp; omega
          go_wp2
          go_meet
          exact ⟨_, rfl, rfl, rfl⟩
        · have e1 : decide ((i : Int) < (m : Int)) = false := by simp; omega
          have e2 : decide (i < m) = false := by simp; omega
          go_wp2
          go_meet
          exact ⟨_, rfl, rfl, rfl⟩
      case rest =>
        obtain ⟨W', rfl, rfl, rfl⟩ := hcut
        as_aux_lemma =>
          have HIN := Lib.hid (HNN.out ▸ finfo_sd HF.out.sd)
          have hX32 := HF.out.sd.sum32
          have HX32 := Lib.hid hX32
          have HSR := Lib.hid (show (Tryd.prog.info? 34).map (·.size) = some (infL id nm n X).toArray.size by rw [List.size_toArray, infL_len hX32]; exact info_inf)
          have HE := Lib.hid (show (infL 0 ⟨#[]⟩ 0 Z32).toArray.size = (infL id nm n X).toArray.size by rw [List.size_toArray, List.size_toArray, infL_len hX32, infL_len (by simp [Z32])])
          have HA := Lib.hid (show (infL id nm n X).toArray.all (·.oneCell') = true by simpa using infL_one id nm n X)
          clear hX32
          go_wp2_with fail
          refine HIN.out.mono ?_
          rintro e v1 ⟨rfl, hb⟩
          have HBV := Lib.hid (HF.out.below.trans (hb.mono HF.out.below.size))
          clear hb HIN HF
          go_wp2_with (refine wpList_store_row rfl 34 _ _ rfl v1.heap.size (infL id nm n X).toArray rfl rfl 34 (infL 0 ⟨#[]⟩ 0 Z32).toArray (heap_alloc_new _ _) HSR.out HE.out HA.out ?_)
          have hrow := setRow_heap (v1.alloc (.cells (infL 0 ⟨#[]⟩ 0 Z32).toArray 34)) v1.heap.size _ (infL id nm n X).toArray _ _ (heap_alloc_new v1 (.cells (infL 0 ⟨#[]⟩ 0 Z32).toArray 34))
          have hbw := below_setRow ((Below.refl v1.heap.size v1).alloc (Nat.le_refl _) (.cells (infL 0 ⟨#[]⟩ 0 Z32).toArray 34)) (Nat.le_refl _) (infL id nm n X).toArray
          obtain ⟨U0, hU0⟩ : ∃ U, (v1.alloc (.cells (infL 0 ⟨#[]⟩ 0 Z32).toArray 34)).setRow v1.heap.size (infL id nm n X).toArray = U := ⟨_, rfl⟩
          have hsz : U0.heap.size = v1.heap.size + 1 := by rw [← hU0]; simp [World.setRow]
          rw [hU0] at hrow hbw
          have hal := (Below.refl U0.heap.size U0).alloc (Nat.le_refl _) (.cells Z40.toArray 57)
          have hz0 : (U0.alloc (.cells Z40.toArray 57)).cell? ⟨v1.heap.size + 1, 0, none⟩ = some (.int .u64 0) := by
            rw [← hsz, cell_of_row _ _ 0 _ _ _ (heap_alloc_new U0 (.cells Z40.toArray 57))]
            rfl
          have HRU := Lib.hid ((hal.block _ (lt_of_block hrow)).trans hrow)
          have HBU := Lib.hid ((HBV.out.trans (hbw.mono HBV.out.size)).trans (hal.mono (Nat.le_trans HBV.out.size hbw.size)))
          have HZ0 := Lib.hid hz0
          have hlt : v1.heap.size + 1 < (U0.alloc (.cells Z40.toArray 57)).heap.size := by simp; omega
          have HLT := Lib.hid hlt
          change Calls _ _ _ (((v1.alloc (.cells (infL 0 ⟨#[]⟩ 0 Z32).toArray 34)).setRow v1.heap.size (infL id nm n X).toArray).alloc (.cells Z40.toArray 57)) _
          rw [hU0]
          obtain ⟨U, hU⟩ : ∃ U, U0.alloc (.cells Z40.toArray 57) = U := ⟨_, rfl⟩
          rw [hU] at HRU HBU HZ0 HLT ⊢
          obtain ⟨ki, hki⟩ : ∃ k, v1.heap.size = k := ⟨_, rfl⟩
          rw [hki] at HRU HZ0 HLT ⊢
          clear hrow hbw hU0 hsz hal hz0 hlt hU hki HBV HSR HE HA
          refine (pnext_nil _).mono ?_
          rintro e w' ⟨rfl, rfl⟩
          have HPK := Lib.hid (peek_zero HZ0.out)
          go_upto_region 42 with (go_at_call 9; refine HPK.out.mono ?_; rintro e wx ⟨rfl, rfl⟩)
          have HTU := Lib.hid (HTT.out.to HBU.out)
          have HAL := Lib.hid (fun W' (hb : Below U.heap.size U W') => alive_any W' (HTU.out.to hb))
          have HSH := Lib.hid (show ∀ W' h, RS W' (some ⟨h, 0, none⟩) [natL bs] → Below U.heap.size U W' → Calls Tryd.prog 25 #[.slice (some ⟨h, 0, none⟩) 1 1] W' fun e w' => e = .returned (.agg (V8 X).toArray) ∧ Below W'.heap.size W' w' from fun W' h hr hb => HXE.out ▸ sha_rs bs hr (by rw [HNN.out]; have := HN4.out; omega) () (HTU.out.to hb))
          have HCI := Lib.hid (show ∀ W', Below U.heap.size U W' → ∀ (j : Nat) v, (infL id nm n X)[j]? = some v → W'.cell? ⟨ki, j, none⟩ = some v from fun W' hb j v hv => by
            rw [cell_of_row W' ki j _ _ _ ((hb.block _ (lt_of_block HRU.out)).trans HRU.out), List.getElem?_toArray]
            exact hv)
          have HS2 := Lib.hid (show (Tryd.prog.info? 34).map (·.size) = some (infL id nm n X).length by rw [infL_len HX32.out]; exact info_inf)
          have HBI := Lib.hid (built_inf id nm n HX32.out)
          have HRIU := Lib.hid (HRI.out.below HBU.out)
          have HAN := Lib.hid (fun W' (hb : Below U.heap.size U W') => anew_zero ((hb.cell (p := ⟨ki + 1, 0, none⟩) HLT.out).trans HZ0.out) (Nat.lt_of_lt_of_le HLT.out hb.size) 0 0)
          have HSZ := Lib.hid (fun W' (hb : Below U.heap.size U W') => state_zero_b ((hb.cell (p := ⟨ki + 1, 0, none⟩) HLT.out).trans HZ0.out))
          have heq := fun W' => eqInf (id := id) (n := n) (nm := nm) HX32.out W'
          have HD := Lib.hid (belowN (Below.refl U.heap.size U) 1)
          clear HPK HRU HZ0 HX32
          refine wp_region_held_drew (S := fun W => Below U.heap.size U W) (by kernel_rfl) HD.out (fun hHeld => ?_)
          refine wpAnyH_ready (rs := [0]) (by kernel_rfl) (by simp) ?_
          refine AllReadyH.cons (by simp; rfl) (fun K0 hK0 => ?_) AllReadyH.nil
          go_simp
          refine (HAL.out _ hHeld).mono ?_
          rintro e a0 ⟨rfl, hba0⟩
          have hY : Below U.heap.size U a0 := hHeld.trans (hba0.mono hHeld.size)
          refine hK0.out _ _ hY (fun _ => ?_)
          clear hK0 K0 hHeld hba0
          have hHeld := hY
          clear hY
          refine wpAnyH_take (i := 1) (v := ?_) (by simp; rfl) (by kernel_rfl) (by kernel_rfl) (by kernel_rfl) (by exact fun _ _ _ h => h) (Or.inl ⟨by rfl, fun wx hSx => ?_⟩) hHeld ?_
          rotate_left
          · clear hSx; go_simp; (try with_reducible rfl)
          simp only [Act.put, List.setIfInBounds_toArray, List.set_cons_zero, List.set_cons_succ]
          refine wpAnyH_take (i := 2) (v := ?_) (by simp; rfl) (by kernel_rfl) (by kernel_rfl) (by kernel_rfl) (by exact fun _ _ _ h => h) (Or.inl ⟨by rfl, fun wx hSx => ?_⟩) hHeld ?_
          rotate_left
          · (refine exec_load_at 34 (.tmp 22) ?_ ki 0 ?_ (infL id nm n X) _ ?_ Tryd.underlying34 rfl HS2.out; rfl; rfl; exact fun j v hv => by rw [Nat.zero_add]; exact HCI.out _ hSx j v hv)
          simp only [Act.put, List.setIfInBounds_toArray, List.set_cons_zero, List.set_cons_succ]
          refine wpAnyH_take (i := 3) (v := ?_) (by simp; rfl) (by kernel_rfl) (by kernel_rfl) (by kernel_rfl) (by exact fun _ _ _ h => h) (Or.inl ⟨by rfl, fun wx hSx => ?_⟩) hHeld ?_
          rotate_left
          · clear hSx; go_simp; (try with_reducible rfl)
          simp only [Act.put, List.setIfInBounds_toArray, List.set_cons_zero, List.set_cons_succ]
          refine wpAnyH_take (i := 4) (v := ?_) (by simp; rfl) (by kernel_rfl) (by kernel_rfl) (by kernel_rfl) (by exact fun _ _ _ h => h) (Or.inl ⟨by rfl, fun wx hSx => ?_⟩) hHeld ?_
          rotate_left
          · clear hSx; go_simp; (try with_reducible rfl)
          simp only [Act.put, List.setIfInBounds_toArray, List.set_cons_zero, List.set_cons_succ]
          refine wpAnyH_take (i := 5) (v := ?_) (by simp; rfl) (by kernel_rfl) (by kernel_rfl) (by kernel_rfl) (by exact fun _ _ _ h => h) (Or.inl ⟨by rfl, fun wx hSx => ?_⟩) hHeld ?_
          rotate_left
          · clear hSx; go_simp; (try with_reducible rfl)
          simp only [Act.put, List.setIfInBounds_toArray, List.set_cons_zero, List.set_cons_succ]
          refine wpAnyH_take (i := 6) (v := ?_) (by simp; rfl) (by kernel_rfl) (by kernel_rfl) (by kernel_rfl) (by exact fun _ _ _ h => h) (Or.inl ⟨by rfl, fun wx hSx => ?_⟩) hHeld ?_
          rotate_left
          · clear hSx; go_simp; (try with_reducible rfl)
          simp only [Act.put, List.setIfInBounds_toArray, List.set_cons_zero, List.set_cons_succ]
          refine wpAnyH_take (i := 7) (v := ?_) (by simp; rfl) (by kernel_rfl) (by kernel_rfl) (by kernel_rfl) (by exact fun _ _ _ h => h) (Or.inl ⟨by rfl, fun wx hSx => ?_⟩) hHeld ?_
          rotate_left
          · clear hSx; go_simp; (try with_reducible rfl)
          simp only [Act.put, List.setIfInBounds_toArray, List.set_cons_zero, List.set_cons_succ]
          refine wpAnyH_ready (rs := [8]) (by kernel_rfl) (by simp) ?_
          refine AllReadyH.cons (by simp; rfl) (fun K0 hK0 => ?_) AllReadyH.nil
          go_simp
          have hA := (Below.refl a0.heap.size a0).alloc (Nat.le_refl _) (.cells #[.slice A n c] 23)
          have HRS := Lib.hid (rs_one bs n a0 A c HNN.out HPOS.out HCM.out.1 HCM.out.2.1 (HRIU.out.below hHeld))
          obtain ⟨h2, hh2⟩ : ∃ h, a0.heap.size = h := ⟨_, rfl⟩
          obtain ⟨s1, hV⟩ : ∃ V, a0.alloc (.cells #[.slice A n c] 23) = V := ⟨_, rfl⟩
          try rw [hh2] at HRS
          try rw [hh2]
          rw [hV] at hA HRS ⊢
          have hY : Below U.heap.size U s1 := hHeld.trans (hA.mono hHeld.size)
          refine hK0.out _ _ hY (fun _ => ?_)
          clear hK0 K0 hA hV
          have hHeld2 := hHeld
          clear hHeld
          have hHeld := hY
          clear hY
          refine wpAnyH_ready (rs := [9]) (by kernel_rfl) (by simp) ?_
          refine AllReadyH.cons (by simp; rfl) (fun K0 hK0 => ?_) AllReadyH.nil
          go_simp
          refine (HSH.out _ _ HRS.out hHeld).mono ?_
          rintro e o2 ⟨rfl, hbo2⟩
          have hY : Below U.heap.size U o2 := hHeld.trans (hbo2.mono hHeld.size)
          refine hK0.out _ _ hY (fun _ => ?_)
          clear hK0 K0 hHeld hbo2
          have hHeld := hY
          clear hY
          refine wpAnyH_take (i := 10) (v := ?_) (by simp; rfl) (by kernel_rfl) (by kernel_rfl) (by kernel_rfl) (by exact fun _ _ _ h => h) (Or.inl ⟨by rfl, fun wx hSx => ?_⟩) hHeld ?_
          rotate_left
          · (refine exec_build 34 ?_ ?_ (infL id nm n X).toArray ?_; rotate_left; rfl; (simp only [List.map_toArray, List.map_cons, List.map_nil]; exact HBI.out))
          simp only [Act.put, List.setIfInBounds_toArray, List.set_cons_zero, List.set_cons_succ]
          refine wpAnyH_take (i := 11) (v := ?_) (by simp; rfl) (by kernel_rfl) (by kernel_rfl) (by kernel_rfl) (by exact fun _ _ _ h => h) (Or.inl ⟨by rfl, fun wx hSx => ?_⟩) hHeld ?_
          rotate_left
          · clear hSx; go_simp; (try with_reducible rfl)
          simp only [Act.put, List.setIfInBounds_toArray, List.set_cons_zero, List.set_cons_succ]
          refine wpAnyH_take (i := 12) (v := ?_) (by simp; rfl) (by kernel_rfl) (by kernel_rfl) (by kernel_rfl) (by exact fun _ _ _ h => h) (Or.inl ⟨by rfl, fun wx hSx => ?_⟩) hHeld ?_
          rotate_left
          · clear hSx; go_simp; (try with_reducible rfl)
          simp only [Act.put, List.setIfInBounds_toArray, List.set_cons_zero, List.set_cons_succ]
          refine wpAnyH_take (i := 13) (v := ?_) (by simp; rfl) (by kernel_rfl) (by kernel_rfl) (by kernel_rfl) (by exact fun _ _ _ h => h) (Or.inl ⟨by rfl, fun wx hSx => ?_⟩) hHeld ?_
          rotate_left
          · clear hSx; go_simp; (try with_reducible rfl)
          simp only [Act.put, List.setIfInBounds_toArray, List.set_cons_zero, List.set_cons_succ]
          refine wpAnyH_take (i := 14) (v := ?_) (by simp; rfl) (by kernel_rfl) (by kernel_rfl) (by kernel_rfl) (by exact fun _ _ _ h => h) (Or.inl ⟨by rfl, fun wx hSx => ?_⟩) hHeld ?_
          rotate_left
          · clear hSx; go_simp; (try with_reducible rfl)
          simp only [Act.put, List.setIfInBounds_toArray, List.set_cons_zero, List.set_cons_succ]
          refine wpAnyH_take (i := 15) (v := ?_) (by simp; rfl) (by kernel_rfl) (by kernel_rfl) (by kernel_rfl) (by exact fun _ _ _ h => h) (Or.inl ⟨by rfl, fun wx hSx => ?_⟩) hHeld ?_
          rotate_left
          · clear hSx; go_simp; (try with_reducible rfl)
          simp only [Act.put, List.setIfInBounds_toArray, List.set_cons_zero, List.set_cons_succ]
          refine wpAnyH_take (i := 16) (v := ?_) (by simp; rfl) (by kernel_rfl) (by kernel_rfl) (by kernel_rfl) (by exact fun _ _ _ h => h) (Or.inl ⟨by rfl, fun wx hSx => ?_⟩) hHeld ?_
          rotate_left
          · clear hSx; go_simp; (try with_reducible rfl)
          simp only [Act.put, List.setIfInBounds_toArray, List.set_cons_zero, List.set_cons_succ]
          refine wpAnyH_take (i := 17) (v := ?_) (by simp; rfl) (by kernel_rfl) (by kernel_rfl) (by kernel_rfl) (by exact fun _ _ _ h => h) (Or.inl ⟨by rfl, fun wx hSx => ?_⟩) hHeld ?_
          rotate_left
          · clear hSx; go_simp; (try with_reducible rfl)
          simp only [Act.put, List.setIfInBounds_toArray, List.set_cons_zero, List.set_cons_succ]
          refine wpAnyH_take (i := 18) (v := ?_) (by simp; rfl) (by kernel_rfl) (by kernel_rfl) (by kernel_rfl) (by exact fun _ _ _ h => h) (Or.inl ⟨by rfl, fun wx hSx => ?_⟩) hHeld ?_
          rotate_left
          · clear hSx; go_simp; (try with_reducible rfl)
          simp only [Act.put, List.setIfInBounds_toArray, List.set_cons_zero, List.set_cons_succ]
          refine wpAnyH_take (i := 19) (v := ?_) (by simp; rfl) (by kernel_rfl) (by kernel_rfl) (by kernel_rfl) (by exact fun _ _ _ h => h) (Or.inl ⟨by rfl, fun wx hSx => ?_⟩) hHeld ?_
          rotate_left
          · clear hSx; go_simp; (try with_reducible rfl)
          simp only [Act.put, List.setIfInBounds_toArray, List.set_cons_zero, List.set_cons_succ]
          refine wpAnyH_take (i := 20) (v := ?_) (by simp; rfl) (by kernel_rfl) (by kernel_rfl) (by kernel_rfl) (by exact fun _ _ _ h => h) (Or.inl ⟨by rfl, fun wx hSx => ?_⟩) hHeld ?_
          rotate_left
          · clear hSx; go_simp; (try with_reducible rfl)
          simp only [Act.put, List.setIfInBounds_toArray, List.set_cons_zero, List.set_cons_succ]
          refine wpAnyH_take (i := 21) (v := ?_) (by simp; rfl) (by kernel_rfl) (by kernel_rfl) (by kernel_rfl) (by exact fun _ _ _ h => h) (Or.inl ⟨by rfl, fun wx hSx => ?_⟩) hHeld ?_
          rotate_left
          · clear hSx; go_simp; (try with_reducible rfl)
          simp only [Act.put, List.setIfInBounds_toArray, List.set_cons_zero, List.set_cons_succ]
          refine wpAnyH_take (i := 22) (v := ?_) (by simp; rfl) (by kernel_rfl) (by kernel_rfl) (by kernel_rfl) (by exact fun _ _ _ h => h) (Or.inl ⟨by rfl, fun wx hSx => ?_⟩) hHeld ?_
          rotate_left
          · clear hSx; go_simp; (try with_reducible rfl)
          simp only [Act.put, List.setIfInBounds_toArray, List.set_cons_zero, List.set_cons_succ]
          refine wpAnyH_take (i := 23) (v := ?_) (by simp; rfl) (by kernel_rfl) (by kernel_rfl) (by kernel_rfl) (by exact fun _ _ _ h => h) (Or.inl ⟨by rfl, fun wx hSx => ?_⟩) hHeld ?_
          rotate_left
          · (refine exec_build 38 ?_ ?_ #[.int .i64 0, .int .u64 0] ?_; rotate_left; rfl; (simp only [List.map_toArray, List.map_nil]; exact built_map))
          simp only [Act.put, List.setIfInBounds_toArray, List.set_cons_zero, List.set_cons_succ]
          refine wpAnyH_ready (rs := [24]) (by kernel_rfl) (by simp) ?_
          refine AllReadyH.cons (by simp; rfl) (fun K0 hK0 => ?_) AllReadyH.nil
          go_simp
          refine (know_nil 0 0 _).mono ?_
          rintro e k3 ⟨rfl, hbk3⟩
          have hY : Below U.heap.size U k3 := hHeld.trans (hbk3.mono hHeld.size)
          refine hK0.out _ _ hY (fun _ => ?_)
          clear hK0 K0 hHeld hbk3
          have hHeld := hY
          clear hY
          refine wpAnyH_take (i := 25) (v := ?_) (by simp; rfl) (by kernel_rfl) (by kernel_rfl) (by kernel_rfl) (by exact fun _ _ _ h => h) (Or.inl ⟨by rfl, fun wx hSx => ?_⟩) hHeld ?_
          rotate_left
          · clear hSx; go_simp; (try with_reducible rfl)
          simp only [Act.put, List.setIfInBounds_toArray, List.set_cons_zero, List.set_cons_succ]
          refine wpAnyH_take (i := 26) (v := ?_) (by simp; rfl) (by kernel_rfl) (by kernel_rfl) (by kernel_rfl) (by exact fun _ _ _ h => h) (Or.inl ⟨by rfl, fun wx hSx => ?_⟩) hHeld ?_
          rotate_left
          · clear hSx; go_simp; (try with_reducible rfl)
          simp only [Act.put, List.setIfInBounds_toArray, List.set_cons_zero, List.set_cons_succ]
          refine wpAnyH_take (i := 27) (v := ?_) (by simp; rfl) (by kernel_rfl) (by kernel_rfl) (by kernel_rfl) (by exact fun _ _ _ h => h) (Or.inl ⟨by rfl, fun wx hSx => ?_⟩) hHeld ?_
          rotate_left
          · clear hSx; go_simp; (try with_reducible rfl)
          simp only [Act.put, List.setIfInBounds_toArray, List.set_cons_zero, List.set_cons_succ]
          refine wpAnyH_take (i := 28) (v := ?_) (by simp; rfl) (by kernel_rfl) (by kernel_rfl) (by kernel_rfl) (by exact fun _ _ _ h => h) (Or.inl ⟨by rfl, fun wx hSx => ?_⟩) hHeld ?_
          rotate_left
          · (refine exec_build 38 ?_ ?_ #[.int .i64 0, .int .u64 0] ?_; rotate_left; rfl; (simp only [List.map_toArray, List.map_nil]; exact built_map))
          simp only [Act.put, List.setIfInBounds_toArray, List.set_cons_zero, List.set_cons_succ]
          refine wpAnyH_ready (rs := [29]) (by kernel_rfl) (by simp) ?_
          refine AllReadyH.cons (by simp; rfl) (fun K0 hK0 => ?_) AllReadyH.nil
          go_simp
          refine (HAN.out _ hHeld).mono ?_
          rintro e n4 ⟨rfl, hbn4⟩
          have hY : Below U.heap.size U n4 := hHeld.trans (hbn4.mono hHeld.size)
          refine hK0.out _ _ hY (fun _ => ?_)
          clear hK0 K0 hHeld hbn4
          have hHeld := hY
          clear hY
          refine wpAnyH_take (i := 30) (v := ?_) (by simp; rfl) (by kernel_rfl) (by kernel_rfl) (by kernel_rfl) (by exact fun _ _ _ h => h) (Or.inl ⟨by rfl, fun wx hSx => ?_⟩) hHeld ?_
          rotate_left
          · clear hSx; go_simp; (try with_reducible rfl)
          simp only [Act.put, List.setIfInBounds_toArray, List.set_cons_zero, List.set_cons_succ]
          refine wpAnyH_take (i := 31) (v := ?_) (by simp; rfl) (by kernel_rfl) (by kernel_rfl) (by kernel_rfl) (by exact fun _ _ _ h => h) (Or.inl ⟨by rfl, fun wx hSx => ?_⟩) hHeld ?_
          rotate_left
          · clear hSx; go_simp; (try with_reducible rfl)
          simp only [Act.put, List.setIfInBounds_toArray, List.set_cons_zero, List.set_cons_succ]
          refine wpAnyH_take (i := 32) (v := ?_) (by simp; rfl) (by kernel_rfl) (by kernel_rfl) (by kernel_rfl) (by exact fun _ _ _ h => h) (Or.inl ⟨by rfl, fun wx hSx => ?_⟩) hHeld ?_
          rotate_left
          · clear hSx; go_simp; (try with_reducible rfl)
          simp only [Act.put, List.setIfInBounds_toArray, List.set_cons_zero, List.set_cons_succ]
          refine wpAnyH_take (i := 33) (v := ?_) (by simp; rfl) (by kernel_rfl) (by kernel_rfl) (by kernel_rfl) (by exact fun _ _ _ h => h) (Or.inl ⟨by rfl, fun wx hSx => ?_⟩) hHeld ?_
          rotate_left
          · clear hSx; go_simp; (try with_reducible rfl)
          simp only [Act.put, List.setIfInBounds_toArray, List.set_cons_zero, List.set_cons_succ]
          refine wpAnyH_ready (rs := [34]) (by kernel_rfl) (by simp) ?_
          refine AllReadyH.cons (by simp; rfl) (fun K0 hK0 => ?_) AllReadyH.nil
          go_simp
          refine (cancel_nil_b _).mono ?_
          rintro e c5 ⟨rfl, hbc5⟩
          have hY : Below U.heap.size U c5 := hHeld.trans (hbc5.mono hHeld.size)
          refine hK0.out _ _ hY (fun _ => ?_)
          clear hK0 K0 hHeld hbc5
          have hHeld := hY
          clear hY
          refine wpAnyH_take (i := 35) (v := ?_) (by simp; rfl) (by kernel_rfl) (by kernel_rfl) (by kernel_rfl) (by exact fun _ _ _ h => h) (Or.inl ⟨by rfl, fun wx hSx => ?_⟩) hHeld ?_
          rotate_left
          · clear hSx; go_simp; (try with_reducible rfl)
          simp only [Act.put, List.setIfInBounds_toArray, List.set_cons_zero, List.set_cons_succ]
          refine wpAnyH_take (i := 36) (v := ?_) (by simp; rfl) (by kernel_rfl) (by kernel_rfl) (by kernel_rfl) (by exact fun _ _ _ h => h) (Or.inl ⟨by rfl, fun wx hSx => ?_⟩) hHeld ?_
          rotate_left
          · clear hSx; go_simp; (try with_reducible rfl)
          simp only [Act.put, List.setIfInBounds_toArray, List.set_cons_zero, List.set_cons_succ]
          refine wpAnyH_take (i := 37) (v := ?_) (by simp; rfl) (by kernel_rfl) (by kernel_rfl) (by kernel_rfl) (by exact fun _ _ _ h => h) (Or.inl ⟨by rfl, fun wx hSx => ?_⟩) hHeld ?_
          rotate_left
          · clear hSx; go_simp; (try with_reducible rfl)
          simp only [Act.put, List.setIfInBounds_toArray, List.set_cons_zero, List.set_cons_succ]
          refine wpAnyH_take (i := 38) (v := ?_) (by simp; rfl) (by kernel_rfl) (by kernel_rfl) (by kernel_rfl) (by exact fun _ _ _ h => h) (Or.inl ⟨by rfl, fun wx hSx => ?_⟩) hHeld ?_
          rotate_left
          · clear hSx; go_simp; (try with_reducible rfl)
          simp only [Act.put, List.setIfInBounds_toArray, List.set_cons_zero, List.set_cons_succ]
          refine wpAnyH_take (i := 40) (v := ?_) (by simp; rfl) (by kernel_rfl) (by kernel_rfl) (by kernel_rfl) (by exact fun _ _ _ h => h) (Or.inl ⟨by rfl, fun wx hSx => ?_⟩) hHeld ?_
          rotate_left
          · clear hSx; go_simp; (try with_reducible rfl)
          simp only [Act.put, List.setIfInBounds_toArray, List.set_cons_zero, List.set_cons_succ]
          refine wpAnyH_ready (rs := [39]) (by kernel_rfl) (by simp) ?_
          refine AllReadyH.cons (by simp; rfl) (fun K0 hK0 => ?_) AllReadyH.nil
          go_simp
          refine (left_nil_b _).mono ?_
          rintro e l6 ⟨rfl, hbl6⟩
          have hY : Below U.heap.size U l6 := hHeld.trans (hbl6.mono hHeld.size)
          refine hK0.out _ _ hY (fun _ => ?_)
          clear hK0 K0 hHeld hbl6
          have hHeld := hY
          clear hY
          refine wpAnyH_ready (rs := [41]) (by kernel_rfl) (by simp) ?_
          refine AllReadyH.cons (by simp; rfl) (fun K0 hK0 => ?_) AllReadyH.nil
          go_simp
          refine (state_nil_b _).mono ?_
          rintro e t7 ⟨rfl, hbt7⟩
          have hY : Below U.heap.size U t7 := hHeld.trans (hbt7.mono hHeld.size)
          refine hK0.out _ _ hY (fun _ => ?_)
          clear hK0 K0 hHeld hbt7
          have hHeld := hY
          clear hY
          refine wpAnyH_take (i := 42) (v := ?_) (by simp; rfl) (by kernel_rfl) (by kernel_rfl) (by kernel_rfl) (by exact fun _ _ _ h => h) (Or.inl ⟨by rfl, fun wx hSx => ?_⟩) hHeld ?_
          rotate_left
          · clear hSx; go_simp; (try with_reducible rfl)
          simp only [Act.put, List.setIfInBounds_toArray, List.set_cons_zero, List.set_cons_succ]
          refine wpAnyH_ready (rs := [43]) (by kernel_rfl) (by simp) ?_
          refine AllReadyH.cons (by simp; rfl) (fun K0 hK0 => ?_) AllReadyH.nil
          go_simp
          refine (HSZ.out _ hHeld).mono ?_
          rintro e z8 ⟨rfl, hbz8⟩
          have hY : Below U.heap.size U z8 := hHeld.trans (hbz8.mono hHeld.size)
          refine hK0.out _ _ hY (fun _ => ?_)
          clear hK0 K0 hHeld hbz8
          have hHeld := hY
          clear hY
          refine wpAnyH_take (i := 44) (v := ?_) (by simp; rfl) (by kernel_rfl) (by kernel_rfl) (by kernel_rfl) (by exact fun _ _ _ h => h) (Or.inl ⟨by rfl, fun wx hSx => ?_⟩) hHeld ?_
          rotate_left
          · clear hSx; go_simp; (try with_reducible rfl)
          simp only [Act.put, List.setIfInBounds_toArray, List.set_cons_zero, List.set_cons_succ]
          refine wpAnyH_take (i := 45) (v := ?_) (by simp; rfl) (by kernel_rfl) (by kernel_rfl) (by kernel_rfl) (by exact fun _ _ _ h => h) (Or.inl ⟨by rfl, fun wx hSx => ?_⟩) hHeld ?_
          rotate_left
          · clear hSx; go_simp; (try with_reducible rfl)
          simp only [Act.put, List.setIfInBounds_toArray, List.set_cons_zero, List.set_cons_succ]
          refine wpAnyH_take (i := 46) (v := ?_) (by simp; rfl) (by kernel_rfl) (by kernel_rfl) (by kernel_rfl) (by exact fun _ _ _ h => h) (Or.inl ⟨by rfl, fun wx hSx => ?_⟩) hHeld ?_
          rotate_left
          · clear hSx; go_simp; (try with_reducible rfl)
          simp only [Act.put, List.setIfInBounds_toArray, List.set_cons_zero, List.set_cons_succ]
          refine wpAnyH_take (i := 47) (v := ?_) (by simp; rfl) (by kernel_rfl) (by kernel_rfl) (by kernel_rfl) (by exact fun _ _ _ h => h) (Or.inl ⟨by rfl, fun wx hSx => ?_⟩) hHeld ?_
          rotate_left
          · clear hSx; go_simp; (try with_reducible rfl)
          simp only [Act.put, List.setIfInBounds_toArray, List.set_cons_zero, List.set_cons_succ]
          refine wpAnyH_done (by kernel_rfl) ?_ _
          have HE := Lib.hid (HBU.out.trans (hHeld.mono HBU.out.size))
          clear hHeld
          go_wp2
          go_ret
          exact ⟨rfl, HE.out⟩
end Go.Proofs.YtdlhpmbgpjjkoaaDoor
