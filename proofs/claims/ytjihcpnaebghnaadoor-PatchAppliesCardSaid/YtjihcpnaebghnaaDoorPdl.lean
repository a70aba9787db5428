/-
  Proved here: of the document's patches: Diff.
-/
import Derived.Test.YtjihcpnaebghnaaDoorPdk
set_option linter.unusedSimpArgs false
set_option linter.unusedVariables false
namespace Go.Proofs.YtjihcpnaebghnaaDoor
open Go.RowKit
theorem CY.app {W0 W W' : World} {A : Option Addr} {L : List Ce} {u : Value} {xs : List Int} (h : CY W A L) (ho : Own8 W0 u xs W) (hu : u = .slice none 0 0 ∨ 1 ≤ xs.length) (hg : W.grownBy W' u.ownBlock) : CY W' A L := fun hp => by
  obtain ⟨b, e, hy⟩ := h hp
  refine ⟨b, e, hy.grown hg (fun e2 => ?_)⟩
  obtain ⟨p, hp0⟩ : ∃ p, (flatY L)[0]? = some (.int .i32 p) := by
    match L, hp with
    | c :: L, _ => exact ⟨c.p, rfl⟩
  have h1 := hy.2 0 _ hp0
  rcases hu with rfl | hx
  · cases e2
  · obtain ⟨A0, c0, rfl, _⟩ := own_slice ho.own
    obtain ⟨g, rfl, _, _, hc⟩ := own_cells ho.own rfl hx
    have hgb : g = b := by simpa [Value.ownBlock] using e2.symm
    subst hgb
    have h2 := hc 0 hx
    rw [h1] at h2
    injection h2 with h2
    injection h2 with h2
    cases h2
theorem dB_eq_step {O L : List Ce} {i g : Nat} {Rn : List Ce} (hO : i < O.length) (hL : i < L.length) (h : ceAt O i = ceAt L i) : dB g Rn (O.drop i) (L.drop i) = flushB g Rn ++ dB (if Rn.length = 0 then g + 1 else 1) [] (O.drop (i + 1)) (L.drop (i + 1)) := by
  rw [drop_cons hO, drop_cons hL]
  show (if _ then _ else _) = _
  rw [if_pos h]
theorem dB_ne_step {O L : List Ce} {i g : Nat} {Rn : List Ce} (hO : i < O.length) (hL : i < L.length) (h : ceAt O i ≠ ceAt L i) : dB g Rn (O.drop i) (L.drop i) = dB g (Rn ++ [ceAt L i]) (O.drop (i + 1)) (L.drop (i + 1)) := by
  rw [drop_cons hO, drop_cons hL]
  show (if _ then _ else _) = _
  rw [if_neg h]
theorem dB_stop {O L : List Ce} {i g : Nat} {Rn : List Ce} (hO : O.length ≤ i) : dB g Rn (O.drop i) (L.drop i) = flushB g Rn := by
  rw [List.drop_eq_nil_of_le hO]
  unfold dB; rfl
theorem flush_pos {g n : Nat} {Rn : List Ce} (h : Rn.length = n) (hn : 0 < n) : flushB g Rn = numB (g : Int) ++ (numB (n : Int) ++ cellsB Rn) := by
  unfold flushB
  rw [if_neg (by omega), h]
set_option maxRecDepth 100000 in
set_option maxHeartbeats 32000000 in
theorem r_diff {w : World} {X Y : Option Addr} {na ca nb cb : Nat} {La L : List Ce} (hX : CY w X La) (hY : CY w Y L) (hla : La.length = na) (hlb : L.length = nb) (hoa : ∀ c ∈ La, CeOk c) (hob : ∀ c ∈ L, CeOk c) (Ra Ca rowa cola : Int) (visa : Bool) (R C row col : Int) (vis : Bool) (hra : rightW Ra Ca rowa cola La = true) (hrb : rightW R C row col L = true) :
    Calls Tryd.prog 34 #[.agg #[.int .i64 Ra, .int .i64 Ca, .slice X na ca, .int .i64 rowa, .int .i64 cola, .bool visa], .agg #[.int .i64 R, .int .i64 C, .slice Y nb cb, .int .i64 row, .int .i64 col, .bool vis]] w fun e w' => ∃ u, e = .returned u ∧ Own8 w u (patchB Ra Ca La R C row col vis L) w' := by
  obtain ⟨_, _, ra3, ra4, ra5, _⟩ := rightW_parts hra
  obtain ⟨_, _, rb3, rb4, rb5, rb6⟩ := rightW_parts hrb
  have hplen := patchB_len (vis := vis) hra hrb hob
  have hbl := base_len hra hrb
  have hbm := base_mem (Ra := Ra) (Ca := Ca) (R := R.toNat) (C := C.toNat) (fun c hc => ⟨hoa c hc, ra3 c hc⟩ : LOk La)
  have hba := (Below.refl w.heap.size w).alloc (Nat.le_refl _) (.cells #[.int .i64 Ra, .int .i64 Ca, .slice X na ca, .int .i64 rowa, .int .i64 cola, .bool visa] 34)
  have hbb := (Below.refl (w.alloc (.cells #[.int .i64 Ra, .int .i64 Ca, .slice X na ca, .int .i64 rowa, .int .i64 cola, .bool visa] 34)).heap.size (w.alloc (.cells #[.int .i64 Ra, .int .i64 Ca, .slice X na ca, .int .i64 rowa, .int .i64 cola, .bool visa] 34))).alloc (Nat.le_refl _) (.cells #[.int .i64 R, .int .i64 C, .slice Y nb cb, .int .i64 row, .int .i64 col, .bool vis] 34)
  have HB0 := hba.trans (hbb.mono hba.size)
  have HC0 := (hbb.block w.heap.size (by simp)).trans (heap_alloc_new w (.cells #[.int .i64 Ra, .int .i64 Ca, .slice X na ca, .int .i64 rowa, .int .i64 cola, .bool visa] 34))
  have HC1 := heap_alloc_new (w.alloc (.cells #[.int .i64 Ra, .int .i64 Ca, .slice X na ca, .int .i64 rowa, .int .i64 cola, .bool visa] 34)) (.cells #[.int .i64 R, .int .i64 C, .slice Y nb cb, .int .i64 row, .int .i64 col, .bool vis] 34)
  obtain ⟨vb, hvb⟩ : ∃ b, w.heap.size = b := ⟨_, rfl⟩
  rw [show (w.alloc (.cells #[.int .i64 Ra, .int .i64 Ca, .slice X na ca, .int .i64 rowa, .int .i64 cola, .bool visa] 34)).heap.size = w.heap.size + 1 by simp] at HC1
  have HAH := Lib.hid (fun (W : World) => r_head (w := W) (A := Y) (n := nb) (cap := cb) (R := R) (C := C) (row := row) (col := col) (vis := vis) (by omega) (by omega) (by omega) (by omega))
  obtain ⟨P, hP⟩ : ∃ P, patchB Ra Ca La R C row col vis L = P := ⟨_, rfl⟩
  have hPd : [R, C, row, col, if vis = true then 1 else 0] ++ dB 0 [] (baseL Ra Ca La R.toNat C.toNat) L = P := hP
  have h5 : ([R, C, row, col, if vis = true then 1 else 0] : List Int).length = 5 := rfl
  obtain ⟨H5, hH5⟩ : ∃ l : List Int, [R, C, row, col, if vis = true then 1 else 0] = l := ⟨_, rfl⟩
  rw [hH5] at hPd HAH h5
  rw [hP] at hplen ⊢
  obtain ⟨Rn0, rfl⟩ : ∃ k : Nat, R = k := ⟨R.toNat, by omega⟩
  obtain ⟨Cn0, rfl⟩ : ∃ k : Nat, C = k := ⟨C.toNat, by omega⟩
  simp only [Int.toNat_natCast] at hPd hbl hbm
  have HBS := Lib.hid (fun (W : World) (hb : Below w.heap.size w W) => r_base (ca := ca) (hX.below hb) hla Ra Ca rowa cola visa (R := Rn0) (C := Cn0) (by omega))
  have HCR := Lib.hid (fun (W : World) (hb : Below w.heap.size w W) => hY.below hb)
  obtain ⟨O, hO⟩ : ∃ O, baseL Ra Ca La Rn0 Cn0 = O := ⟨_, rfl⟩
  rw [hO] at hPd hbl HBS hbm
  have HPD := Lib.hid (fun (_ : Unit) => hPd)
  have HLL := Lib.hid (show O.length = nb ∧ L.length = nb ∧ nb ≤ 480 ∧ 1 ≤ nb ∧ P.length ≤ 8165 from ⟨by omega, hlb, by omega, by omega, hplen.2⟩)
  have HOK := Lib.hid (show LOk O ∧ LOk L from ⟨hbm, fun c hc => ⟨hob c hc, rb3 c hc⟩⟩)
  have H55 := Lib.hid h5
  clear hX hY hla hlb hoa hob hba hbb hra hrb ra3 ra4 ra5 rb3 rb4 rb5 rb6 hplen hbl hP hPd hH5 hO hbm h5
  go_enter Tryd.func34, Tryd.ntmps34
  go_upto_region 1 with fail
  simp only [hvb] at HC0 HC1 ⊢
  generalize ((w.alloc (.cells #[.int .i64 Ra, .int .i64 Ca, .slice X na ca, .int .i64 rowa, .int .i64 cola, .bool visa] 34)).alloc (.cells #[.int .i64 (Rn0 : Int), .int .i64 (Cn0 : Int), .slice Y nb cb, .int .i64 row, .int .i64 col, .bool vis] 34)) = U at HB0 HC0 HC1 ⊢
  obtain ⟨y0, y1, y2, y3, y4, y5⟩ := six_cells HC1
  have HB := Lib.hid HB0
  have HCA := Lib.hid HC0
  have HCB := Lib.hid HC1
  clear HB0 HC0 HC1 hvb
  go_wp2_with fail
  refine (HAH.out _).mono ?_
  rintro e w3 ⟨u3, rfl, o3⟩
  obtain ⟨A3, c3, rfl, _⟩ := own_slice o3.own
  rw [H55.out]
  have HO3 := Lib.hid (show Own8 U (.slice A3 5 c3) H5 w3 from by have := o3; rwa [H55.out] at this)
  clear y0 y1 y2 y3 y4 y5 HAH o3
  obtain ⟨x0, x1, x2, x3, x4, x5⟩ := six_cells ((HO3.out.below.block _ (lt_of_block HCA.out)).trans HCA.out)
  obtain ⟨y0, y1, y2, y3, y4, y5⟩ := six_cells ((HO3.out.below.block _ (lt_of_block HCB.out)).trans HCB.out)
  go_wp2_with fail
  refine (HBS.out _ (HB.out.trans (HO3.out.below.mono HB.out.size))).mono ?_
  rintro e w4 ⟨AO, N, cc, rfl, g3, g2, g4⟩
  obtain rfl : nb = N := by rw [← g3]; exact HLL.out.1.symm
  have HTW0 := Lib.hid (show Two8 U (.slice A3 5 c3) (.slice none 0 0) H5 (cellsB []) w4 from ⟨HO3.out.to g4, (Own8.new w4).from (HO3.out.to g4).below, fun k _ e => by cases e⟩)
  have HCO0 := Lib.hid g2
  clear g2 g3 g4 HBS x0 x1 x2 x3 x4 x5 y0 y1 y2 y3 y4 y5 HO3 HCA
  go_wp2
  go_loopw [5, 7, 8, 9, 10] (fun ov rv nv gv iv wr => ∃ (i g n : Nat) (Rn : List Ce) (A1 : Option Addr) (m1 c1 : Nat) (A2 : Option Addr) (m2 c2 : Nat) (xs : List Int), ov = .slice A1 m1 c1 ∧ rv = .slice A2 m2 c2 ∧ nv = .int .i64 n ∧ gv = .int .i64 g ∧ iv = .int .i64 i ∧ i ≤ nb + 1 ∧ Hid (Two8 U (.slice A1 m1 c1) (.slice A2 m2 c2) xs (cellsB Rn) wr) ∧ Hid (CY wr AO O) ∧ Hid (LOk Rn ∧ Rn.length = n ∧ n ≤ i ∧ g ≤ i ∧ 5 ≤ xs.length ∧ (Rn = [] → (.slice A2 m2 c2 : Value) = .slice none 0 0)) ∧ Hid (Unit → (i ≤ nb ∧ xs ++ dB g Rn (O.drop i) (L.drop i) = P) ∨ (i = nb + 1 ∧ xs = P))) (fun _ _ _ _ iv _ => nb + 1 - (intOf iv).toNat)
  case atStart => exact ⟨0, 0, 0, [], _, _, _, _, _, _, _, rfl, rfl, rfl, rfl, rfl, by omega, HTW0, HCO0, Lib.hid ⟨(fun c hc => by cases hc), rfl, by omega, by omega, by have := H55.out; omega, fun _ => rfl⟩, Lib.hid (fun _ => .inl ⟨by omega, by rw [List.drop_zero, List.drop_zero]; exact HPD.out ()⟩)⟩
  case round =>
    obtain ⟨i, g, n, Rn, A1, m1, c1, A2, m2, c2, xs, rfl, rfl, rfl, rfl, rfl, hi, HTW, HCO, HI, HEQ⟩ := hrel
    clear HTW0 HCO0 HPD
    by_cases hin : i ≤ nb
    · have e1 : decide ((i : Int) ≤ (nb : Int)) = true := by simp; omega
      have e1' : decide (i ≤ nb) = true := by simp; omega
      have wi1 : IntKind.i64.wrap ((i : Int) + 1) = (i : Int) + 1 := IntWalk.i64_in _ (by have := HLL.out; omega)
      have HIN := Lib.hid hin
      have hEQ : xs ++ dB g Rn (O.drop i) (L.drop i) = P := by
        rcases HEQ.out () with h | h
        · exact h.2
        · omega
      have hXL : xs.length ≤ 8165 := by have := congrArg List.length hEQ; rw [List.length_append] at this; have := HLL.out; omega
      have HXL := Lib.hid hXL
      have HE := Lib.hid (fun (_ : Unit) => hEQ)
      have hdw := (Below.refl wr.heap.size wr).drew
      have HTD := Lib.hid (HTW.out.to hdw)
      have HCD := Lib.hid (HCO.out.below hdw)
      have hvx := (HTW.out.a.below.block _ (lt_of_block HCB.out)).trans HCB.out
      have HVD := Lib.hid ((hdw.block _ (lt_of_block hvx)).trans hvx)
      clear hi hin hEQ hXL HEQ hvx hdw HTW HCO
      by_cases hlt : i < nb
      · have e2 : decide ((i : Int) < (nb : Int)) = true := by simp; omega
        have e2' : decide (i < nb) = true := by simp; omega
        have g3 : (0 : Int) ≤ (i : Int) := by omega
        have g4 : (i : Int) < (nb : Int) := by omega
        have hiO : i < O.length := by rw [HLL.out.1]; exact hlt
        have hiL : i < L.length := by rw [HLL.out.2.1]; exact hlt
        obtain ⟨b1, rfl, hyo⟩ := HCD.out (by omega)
        obtain ⟨b2, rfl, hyl⟩ := (HCR.out wr.drew (HB.out.trans (HTD.out.a.below.mono HB.out.size))) (by omega)
        obtain ⟨xp, x0, x1, x2, x3, x4, x5, x6, x7, xg, xb, hx⟩ := yC_form (ceAt O i)
        obtain ⟨yp, y0, y1, y2, y3, y4, y5, y6, y7, yg, yb, hy⟩ := yC_form (ceAt L i)
        obtain ⟨k0, k1, k2, k3, k4, k5, k6, k7, k8, k9, k10⟩ := hyo.eleven hiO hx
        obtain ⟨l0, l1, l2, l3, l4, l5, l6, l7, l8, l9, l10⟩ := hyl.eleven hiL hy
        obtain ⟨s0, s1, s2, s3, s4, s5⟩ := six_cells HVD.out
        have HCK := Lib.hid (HOK.out.2 (ceAt L i) (ceAt_mem hiL))
        have HEC : ∀ W, (Op.equalIn 10000 80 (.agg #[.int .i32 xp, .bool x0, .bool x1, .bool x2, .bool x3, .bool x4, .bool x5, .bool x6, .bool x7, .int .u32 xg, .int .u32 xb]) (.agg #[.int .i32 yp, .bool y0, .bool y1, .bool y2, .bool y3, .bool y4, .bool y5, .bool y6, .bool y7, .int .u32 yg, .int .u32 yb])).run Tryd.prog W = .ok (decide (ceAt O i = ceAt L i)) W := fun W => by
          have hz := eq_yc (HOK.out.1 (ceAt O i) (ceAt_mem hiO)).1.f (HOK.out.2 (ceAt L i) (ceAt_mem hiL)).1.f W
          unfold yV at hz
          rw [hx, hy] at hz
          exact hz
        have HPC : Hid (∀ W : World, Calls Tryd.prog 65 #[.agg #[.int .i32 yp, .bool y0, .bool y1, .bool y2, .bool y3, .bool y4, .bool y5, .bool y6, .bool y7, .int .u32 yg, .int .u32 yb]] W fun e w' => ∃ u, e = .returned u ∧ Own8 W u (cellB (ceAt L i)) w') := Lib.hid (fun W => by
          have hz := r_putcell (w := W) HCK.out.1 HCK.out.2
          unfold yV at hz
          rw [hy] at hz
          exact hz)
        have HIL := Lib.hid (And.intro hiO hiL)
        have HLT := Lib.hid hlt
        clear hx hy hyo hyl hiO hiL hlt
        by_cases he : ceAt O i = ceAt L i
        · simp only [decide_eq_true he] at HEC
          have HNX := Lib.hid (fun (_ : Unit) => show (i + 1 ≤ nb ∧ (xs ++ flushB g Rn) ++ dB (if Rn.length = 0 then g + 1 else 1) [] (O.drop (i + 1)) (L.drop (i + 1)) = P) ∨ (i + 1 = nb + 1 ∧ xs ++ flushB g Rn = P) from .inl ⟨HLT.out, by
            have := HE.out ()
            rw [dB_eq_step HIL.out.1 HIL.out.2 he] at this
            simpa using this⟩)
          clear he HE HPC
          go_wp2
          go_big_region
          clear HEC k0 k1 k2 k3 k4 k5 k6 k7 k8 k9 k10 l0 l1 l2 l3 l4 l5 l6 l7 l8 l9 l10 s0 s1 s2 s3 s4 s5
          rcases Nat.eq_zero_or_pos n with hn0 | hn0
          · subst hn0
            have hR0 : Rn = [] := List.eq_nil_of_length_eq_zero HI.out.2.1
            subst hR0
            have wg1 : IntKind.i64.wrap ((g : Int) + 1) = (g : Int) + 1 := IntWalk.i64_in _ (by have := HLL.out; have := HI.out; have := HIN.out; omega)
            have HNE := Lib.hid (fun (_ : Unit) => show (i + 1 ≤ nb ∧ xs ++ dB (g + 1) [] (O.drop (i + 1)) (L.drop (i + 1)) = P) ∨ (i + 1 = nb + 1 ∧ xs = P) from by
              have := HNX.out ()
              rw [flush_nil, List.append_nil] at this
              exact this)
            clear HNX
            go_wp2
            go_roundw
            case rel => exact ⟨i + 1, g + 1, 0, [], _, _, _, _, _, _, xs, rfl, rfl, rfl, by go_num, by go_num, by have := HIN.out; omega, HTD, HCD, Lib.hid ⟨HI.out.1, rfl, by omega, by have := HI.out; omega, HI.out.2.2.2.2.1, HI.out.2.2.2.2.2⟩, HNE⟩
            case measure => have := HIN.out; simp [intOf]; omega
          · have p1 : decide ((0 : Int) < (n : Int)) = true := by simp; omega
            have p1' : decide ((n : Int) > 0) = true := p1
            have p1n : decide (0 < n) = true := by simp; omega
            have ug : IntKind.u64.wrap (g : Int) = (g : Int) := IntWalk.u64_in _ (by have := HLL.out; have := HI.out; have := HIN.out; omega)
            have un : IntKind.u64.wrap (n : Int) = (n : Int) := IntWalk.u64_in _ (by have := HLL.out; have := HI.out; have := HIN.out; omega)
            have HNE := Lib.hid (fun (_ : Unit) => show (i + 1 ≤ nb ∧ (((xs ++ numB (g : Int)) ++ numB (n : Int)) ++ cellsB Rn) ++ dB 1 [] (O.drop (i + 1)) (L.drop (i + 1)) = P) ∨ (i + 1 = nb + 1 ∧ ((xs ++ numB (g : Int)) ++ numB (n : Int)) ++ cellsB Rn = P) from by
              have := HNX.out ()
              rw [flush_pos HI.out.2.1 hn0, if_neg (by rw [HI.out.2.1]; omega)] at this
              simpa only [List.append_assoc] using this)
            have HSZ := Lib.hid (show (numB (g : Int)).length ≤ 8 ∧ (numB (n : Int)).length ≤ 8 ∧ (cellsB Rn).length ≤ 13 * 480 from ⟨by rw [numB_length]; exact (szN_le _).2, by rw [numB_length]; exact (szN_le _).2, by have := (cellsB_len Rn HI.out.1).2; have := HI.out; have := HIN.out; have := HLL.out; omega⟩)
            have HBG := Lib.hid (And.intro (show 0 ≤ (g : Int) ∧ (g : Int) < 4611686018427387904 by have := HLL.out; have := HI.out; have := HIN.out; omega) (show 0 ≤ (n : Int) ∧ (n : Int) < 4611686018427387904 by have := HLL.out; have := HI.out; have := HIN.out; omega))
            clear HNX hn0
            go_wp2_with fail
            refine (rput8 (g : Int) _ HBG.out.1.1 HBG.out.1.2).mono ?_
            rintro e w6 ⟨u6, rfl, o6⟩
            obtain ⟨A7, c7, W7, hrun, ht7, hg7⟩ := (HTD.out.to o6.below).app (zs := numB (g : Int)) (z := u6) o6.rit (by have := HXL.out; have := HSZ.out; omega)
            have HC7 := Lib.hid ((HCD.out.below o6.below).app (HTD.out.to o6.below).a (.inr (by have := HI.out; omega)) hg7)
            obtain ⟨X7, hX7⟩ : ∃ x, xs ++ numB (g : Int) = x := ⟨_, rfl⟩
            obtain ⟨n7, hn7⟩ : ∃ x, xs.length + (numB (g : Int)).length = x := ⟨_, rfl⟩
            have HL7 := Lib.hid (show X7.length = n7 ∧ n7 ≤ 8200 ∧ 1 ≤ n7 from ⟨by rw [← hX7, List.length_append, hn7], by have := HXL.out; have := HSZ.out; omega, by have := HI.out; omega⟩)
            have HXX := Lib.hid (show xs.length ≤ X7.length from by rw [← hX7, List.length_append]; omega)
            rw [hn7] at hrun ht7
            rw [hX7] at ht7 HNE
            have HRUN := Lib.hid hrun
            have HT7 := Lib.hid ht7
            clear hrun ht7 hg7 o6 hX7 hn7 HCD HTD
            go_wp2_with (at_builtin; refine wpList_app rfl (.tmp 57) (.tmp 60) _ rfl _ _ rfl rfl HRUN.out ?_)
            refine (rput8 (n : Int) _ HBG.out.2.1 HBG.out.2.2).mono ?_
            rintro e w8 ⟨u8, rfl, o8⟩
            obtain ⟨A9, c9, W9, hrun9, ht9, hg9⟩ := (HT7.out.to o8.below).app (zs := numB (n : Int)) (z := u8) o8.rit (by have := HL7.out; have := HSZ.out; omega)
            have HC9 := Lib.hid ((HC7.out.below o8.below).app (HT7.out.to o8.below).a (.inr (by have := HL7.out; omega)) hg9)
            obtain ⟨X9, hX9⟩ : ∃ x, X7 ++ numB (n : Int) = x := ⟨_, rfl⟩
            obtain ⟨n9, hn9⟩ : ∃ x, X7.length + (numB (n : Int)).length = x := ⟨_, rfl⟩
            have HL9 := Lib.hid (show X9.length = n9 ∧ n9 ≤ 8300 ∧ 1 ≤ n9 from ⟨by rw [← hX9, List.length_append, hn9], by have := HL7.out; have := HSZ.out; omega, by have := HL7.out; omega⟩)
            rw [hn9] at hrun9 ht9
            rw [hX9] at ht9 HNE
            obtain ⟨A10, c10, W10, hrun10, ht10, hg10⟩ := ht9.app (zs := cellsB Rn) (z := .slice A2 m2 c2) ht9.b.rit (by have := HL9.out; have := HSZ.out; omega)
            have HC10 := Lib.hid (HC9.out.app ht9.a (.inr (by have := HL9.out; omega)) hg10)
            have HT10 := Lib.hid (show Two8 U (.slice A10 (X9.length + (cellsB Rn).length) c10) (.slice none 0 0) (X9 ++ cellsB Rn) (cellsB []) W10 from ⟨ht10.a, (Own8.new W10).from ht10.a.below, fun k _ e => by cases e⟩)
            have HRUN9 := Lib.hid hrun9
            have HRUN10 := Lib.hid hrun10
            have HX10 := Lib.hid (show 5 ≤ (X9 ++ cellsB Rn).length from by
              have h1 := HI.out.2.2.2.2.1
              have h2 := HL7.out
              have h3 := HL9.out
              rw [List.length_append]
              have h4 : X7.length ≤ X9.length := by rw [← hX9, List.length_append]; omega
              have h5 : xs.length ≤ X7.length := HXX.out
              omega)
            clear hrun9 ht9 hg9 o8 hX9 hn9 hrun10 ht10 hg10 HT7 HC7 HC9
            go_wp2_with (at_builtin; first | refine wpList_app rfl (.tmp 62) (.tmp 65) _ rfl _ _ rfl rfl HRUN9.out ?_ | refine wpList_app rfl (.tmp 67) (.tmp 68) _ rfl _ _ rfl rfl HRUN10.out ?_)
            go_roundw
            case rel => exact ⟨i + 1, 1, 0, [], _, _, _, _, _, _, X9 ++ cellsB Rn, rfl, rfl, rfl, by go_num, by go_num, by have := HIN.out; omega, HT10, HC10, Lib.hid ⟨(fun c hc => by cases hc), rfl, by omega, by omega, HX10.out, fun _ => rfl⟩, HNE⟩
            case measure => have := HIN.out; simp [intOf]; omega
        · simp only [decide_eq_false he] at HEC
          have HNX := Lib.hid (fun (_ : Unit) => show xs ++ dB g (Rn ++ [ceAt L i]) (O.drop (i + 1)) (L.drop (i + 1)) = P from by
            have := HE.out ()
            rwa [dB_ne_step HIL.out.1 HIL.out.2 he] at this)
          have HRN := Lib.hid (show LOk (Rn ++ [ceAt L i]) ∧ (Rn ++ [ceAt L i]).length = n + 1 ∧ Rn ++ [ceAt L i] ≠ [] from ⟨fun c hc => by
            rcases List.mem_append.1 hc with h | h
            · exact HI.out.1 c h
            · rw [List.mem_singleton.1 h]; exact HCK.out, by rw [List.length_append, HI.out.2.1]; rfl, by simp⟩)
          have HCB2 := Lib.hid (show cellsB (Rn ++ [ceAt L i]) = cellsB Rn ++ cellB (ceAt L i) from by rw [cellsB_app]; simp [cellsB])
          obtain ⟨Bc, hBc⟩ : ∃ B, cellB (ceAt L i) = B := ⟨_, rfl⟩
          have HBL := Lib.hid (show Bc.length ≤ 13 ∧ (cellsB Rn).length ≤ 13 * n from ⟨by rw [← hBc]; exact (cellB_len HCK.out.1 HCK.out.2).2, by have := (cellsB_len Rn HI.out.1).2; rwa [HI.out.2.1] at this⟩)
          rw [hBc] at HPC HCB2
          have wn1 : IntKind.i64.wrap ((n : Int) + 1) = (n : Int) + 1 := IntWalk.i64_in _ (by have := HLL.out; have := HI.out; have := HIN.out; omega)
          clear he HE hBc HCK
          go_wp2
          go_big_region
          go_wp2_with fail
          refine (HPC.out _).mono ?_
          rintro e w6 ⟨u6, rfl, o6⟩
          have hcy6 := HCD.out.below o6.below
          have ht6 := HTD.out.to o6.below
          obtain ⟨A9, c9, W9, hrun, ht9, hg9⟩ := ht6.symm.app (zs := Bc) (z := u6) o6.rit (by have := HBL.out; have := HI.out; have := HIN.out; have := HLL.out; omega)
          have HCO9 := Lib.hid (hcy6.app ht6.b (by
            by_cases hr : Rn = []
            · exact .inl (HI.out.2.2.2.2.2 hr)
            · right
              have := (cellsB_len Rn HI.out.1).1
              have : 1 ≤ Rn.length := by cases Rn with | nil => exact absurd rfl hr | cons _ _ => simp
              omega) hg9)
          have HRUN := Lib.hid hrun
          have HT9 := Lib.hid ht9
          clear hrun ht9 hg9 ht6 hcy6 o6 HPC HCD HTD HEC k0 k1 k2 k3 k4 k5 k6 k7 k8 k9 k10 l0 l1 l2 l3 l4 l5 l6 l7 l8 l9 l10 s0 s1 s2 s3 s4 s5
          go_wp2_with (at_builtin; refine wpList_app rfl (.tmp 44) (.tmp 51) _ rfl _ _ rfl rfl HRUN.out ?_)
          go_roundw
          case rel => exact ⟨i + 1, g, n + 1, Rn ++ [ceAt L i], _, _, _, _, _, _, xs, rfl, rfl, by go_num, rfl, by go_num, by have := HLT.out; omega, Lib.hid (by rw [HCB2.out]; exact HT9.out.symm), HCO9, Lib.hid ⟨HRN.out.1, HRN.out.2.1, by have := HI.out; omega, by have := HI.out; omega, HI.out.2.2.2.2.1, fun h => absurd h HRN.out.2.2⟩, Lib.hid (fun _ => .inl ⟨HLT.out, HNX.out ()⟩)⟩
          case measure => have := HLT.out; simp [intOf]; omega
      · have e2 : decide ((i : Int) < (nb : Int)) = false := by simp; omega
        have e2' : decide (i < nb) = false := by simp; omega
        have HNX := Lib.hid (fun (_ : Unit) => show (i + 1 ≤ nb ∧ (xs ++ flushB g Rn) ++ dB (if Rn.length = 0 then g + 1 else 1) [] (O.drop (i + 1)) (L.drop (i + 1)) = P) ∨ (i + 1 = nb + 1 ∧ xs ++ flushB g Rn = P) from .inr ⟨by have := HIN.out; omega, by
          have := HE.out ()
          rwa [dB_stop (by rw [HLL.out.1]; omega)] at this⟩)
        clear hlt HE
        go_wp2
        try go_big_region
        rcases Nat.eq_zero_or_pos n with hn0 | hn0
        · subst hn0
          have hR0 : Rn = [] := List.eq_nil_of_length_eq_zero HI.out.2.1
          subst hR0
          have wg1 : IntKind.i64.wrap ((g : Int) + 1) = (g : Int) + 1 := IntWalk.i64_in _ (by have := HLL.out; have := HI.out; have := HIN.out; omega)
          have HNE := Lib.hid (fun (_ : Unit) => show (i + 1 ≤ nb ∧ xs ++ dB (g + 1) [] (O.drop (i + 1)) (L.drop (i + 1)) = P) ∨ (i + 1 = nb + 1 ∧ xs = P) from by
            have := HNX.out ()
            rw [flush_nil, List.append_nil] at this
            exact this)
          clear HNX
          go_wp2
          go_roundw
          case rel => exact ⟨i + 1, g + 1, 0, [], _, _, _, _, _, _, xs, rfl, rfl, rfl, by go_num, by go_num, by have := HIN.out; omega, HTD, HCD, Lib.hid ⟨HI.out.1, rfl, by omega, by have := HI.out; omega, HI.out.2.2.2.2.1, HI.out.2.2.2.2.2⟩, HNE⟩
          case measure => have := HIN.out; simp [intOf]; omega
        · have p1 : decide ((0 : Int) < (n : Int)) = true := by simp; omega
          have p1' : decide ((n : Int) > 0) = true := p1
          have p1n : decide (0 < n) = true := by simp; omega
          have ug : IntKind.u64.wrap (g : Int) = (g : Int) := IntWalk.u64_in _ (by have := HLL.out; have := HI.out; have := HIN.out; omega)
          have un : IntKind.u64.wrap (n : Int) = (n : Int) := IntWalk.u64_in _ (by have := HLL.out; have := HI.out; have := HIN.out; omega)
          have HNE := Lib.hid (fun (_ : Unit) => show (i + 1 ≤ nb ∧ (((xs ++ numB (g : Int)) ++ numB (n : Int)) ++ cellsB Rn) ++ dB 1 [] (O.drop (i + 1)) (L.drop (i + 1)) = P) ∨ (i + 1 = nb + 1 ∧ ((xs ++ numB (g : Int)) ++ numB (n : Int)) ++ cellsB Rn = P) from by
            have := HNX.out ()
            rw [flush_pos HI.out.2.1 hn0, if_neg (by rw [HI.out.2.1]; omega)] at this
            simpa only [List.append_assoc] using this)
          have HSZ := Lib.hid (show (numB (g : Int)).length ≤ 8 ∧ (numB (n : Int)).length ≤ 8 ∧ (cellsB Rn).length ≤ 13 * 480 from ⟨by rw [numB_length]; exact (szN_le _).2, by rw [numB_length]; exact (szN_le _).2, by have := (cellsB_len Rn HI.out.1).2; have := HI.out; have := HIN.out; have := HLL.out; omega⟩)
          have HBG := Lib.hid (And.intro (show 0 ≤ (g : Int) ∧ (g : Int) < 4611686018427387904 by have := HLL.out; have := HI.out; have := HIN.out; omega) (show 0 ≤ (n : Int) ∧ (n : Int) < 4611686018427387904 by have := HLL.out; have := HI.out; have := HIN.out; omega))
          clear HNX hn0
          go_wp2_with fail
          refine (rput8 (g : Int) _ HBG.out.1.1 HBG.out.1.2).mono ?_
          rintro e w6 ⟨u6, rfl, o6⟩
          obtain ⟨A7, c7, W7, hrun, ht7, hg7⟩ := (HTD.out.to o6.below).app (zs := numB (g : Int)) (z := u6) o6.rit (by have := HXL.out; have := HSZ.out; omega)
          have HC7 := Lib.hid ((HCD.out.below o6.below).app (HTD.out.to o6.below).a (.inr (by have := HI.out; omega)) hg7)
          obtain ⟨X7, hX7⟩ : ∃ x, xs ++ numB (g : Int) = x := ⟨_, rfl⟩
          obtain ⟨n7, hn7⟩ : ∃ x, xs.length + (numB (g : Int)).length = x := ⟨_, rfl⟩
          have HL7 := Lib.hid (show X7.length = n7 ∧ n7 ≤ 8200 ∧ 1 ≤ n7 from ⟨by rw [← hX7, List.length_append, hn7], by have := HXL.out; have := HSZ.out; omega, by have := HI.out; omega⟩)
          have HXX := Lib.hid (show xs.length ≤ X7.length from by rw [← hX7, List.length_append]; omega)
          rw [hn7] at hrun ht7
          rw [hX7] at ht7 HNE
          have HRUN := Lib.hid hrun
          have HT7 := Lib.hid ht7
          clear hrun ht7 hg7 o6 hX7 hn7 HCD HTD
          go_wp2_with (at_builtin; refine wpList_app rfl (.tmp 57) (.tmp 60) _ rfl _ _ rfl rfl HRUN.out ?_)
          refine (rput8 (n : Int) _ HBG.out.2.1 HBG.out.2.2).mono ?_
          rintro e w8 ⟨u8, rfl, o8⟩
          obtain ⟨A9, c9, W9, hrun9, ht9, hg9⟩ := (HT7.out.to o8.below).app (zs := numB (n : Int)) (z := u8) o8.rit (by have := HL7.out; have := HSZ.out; omega)
          have HC9 := Lib.hid ((HC7.out.below o8.below).app (HT7.out.to o8.below).a (.inr (by have := HL7.out; omega)) hg9)
          obtain ⟨X9, hX9⟩ : ∃ x, X7 ++ numB (n : Int) = x := ⟨_, rfl⟩
          obtain ⟨n9, hn9⟩ : ∃ x, X7.length + (numB (n : Int)).length = x := ⟨_, rfl⟩
          have HL9 := Lib.hid (show X9.length = n9 ∧ n9 ≤ 8300 ∧ 1 ≤ n9 from ⟨by rw [← hX9, List.length_append, hn9], by have := HL7.out; have := HSZ.out; omega, by have := HL7.out; omega⟩)
          rw [hn9] at hrun9 ht9
          rw [hX9] at ht9 HNE
          obtain ⟨A10, c10, W10, hrun10, ht10, hg10⟩ := ht9.app (zs := cellsB Rn) (z := .slice A2 m2 c2) ht9.b.rit (by have := HL9.out; have := HSZ.out; omega)
          have HC10 := Lib.hid (HC9.out.app ht9.a (.inr (by have := HL9.out; omega)) hg10)
          have HT10 := Lib.hid (show Two8 U (.slice A10 (X9.length + (cellsB Rn).length) c10) (.slice none 0 0) (X9 ++ cellsB Rn) (cellsB []) W10 from ⟨ht10.a, (Own8.new W10).from ht10.a.below, fun k _ e => by cases e⟩)
          have HRUN9 := Lib.hid hrun9
          have HRUN10 := Lib.hid hrun10
          have HX10 := Lib.hid (show 5 ≤ (X9 ++ cellsB Rn).length from by
            have h1 := HI.out.2.2.2.2.1
            have h2 := HL7.out
            have h3 := HL9.out
            rw [List.length_append]
            have h4 : X7.length ≤ X9.length := by rw [← hX9, List.length_append]; omega
            have h5 : xs.length ≤ X7.length := HXX.out
            omega)
          clear hrun9 ht9 hg9 o8 hX9 hn9 hrun10 ht10 hg10 HT7 HC7 HC9
          go_wp2_with (at_builtin; first | refine wpList_app rfl (.tmp 62) (.tmp 65) _ rfl _ _ rfl rfl HRUN9.out ?_ | refine wpList_app rfl (.tmp 67) (.tmp 68) _ rfl _ _ rfl rfl HRUN10.out ?_)
          go_roundw
          case rel => exact ⟨i + 1, 1, 0, [], _, _, _, _, _, _, X9 ++ cellsB Rn, rfl, rfl, rfl, by go_num, by go_num, by have := HIN.out; omega, HT10, HC10, Lib.hid ⟨(fun c hc => by cases hc), rfl, by omega, by omega, HX10.out, fun _ => rfl⟩, HNE⟩
          case measure => have := HIN.out; simp [intOf]; omega
    · have e1 : decide ((i : Int) ≤ (nb : Int)) = false := by simp; omega
      have e1' : decide (i ≤ nb) = false := by simp; omega
      have HEN := Lib.hid (show xs = P from by
        rcases HEQ.out () with h | h
        · omega
        · exact h.2)
      clear hi hin HEQ
      go_wp2
      go_ret
      exact ⟨_, rfl, HEN.out ▸ HTW.out.a.from HB.out⟩
end Go.Proofs.YtjihcpnaebghnaaDoor
