/-
  Proved here: of the program's patches: Diff.
-/
import Derived.Test.YtjihcpnaebghnaaDoorPdc
import Derived.Test.YtjihcpnaebghnaaDoorIj
set_option linter.unusedSimpArgs false
set_option linter.unusedVariables false
namespace Go.Proofs.YtjihcpnaebghnaaDoor
open Go.RowKit
/-- A patch's bytes. -/
def patchB (Ra Ca : Int) (La : List Ce) (R C row col : Int) (vis : Bool) (L : List Ce) : List Int := [R, C, row, col, if vis = true then 1 else 0] ++ dB 0 [] (baseL Ra Ca La R.toNat C.toNat) L
theorem base_len {Ra Ca rowa cola R C row col : Int} {La L : List Ce} (ha : rightW Ra Ca rowa cola La = true) (hb : rightW R C row col L = true) : (baseL Ra Ca La R.toNat C.toNat).length = L.length := by
  obtain ⟨_, a2, _, _, _, a6⟩ := rightW_parts ha
  obtain ⟨_, b2, _, _, _, b6⟩ := rightW_parts hb
  unfold baseL
  obtain ⟨Rn, rfl⟩ : ∃ k : Nat, R = k := ⟨R.toNat, by omega⟩
  obtain ⟨Cn, rfl⟩ : ∃ k : Nat, C = k := ⟨C.toNat, by omega⟩
  simp only [Int.toNat_natCast]
  rw [← Int.natCast_mul] at b2
  split
  · rename_i h
    rw [h.1, h.2, ← Int.natCast_mul] at a2
    omega
  · rw [rep_len]; omega
theorem base_mem {Ra Ca : Int} {La : List Ce} {R C : Nat} (h : LOk La) : LOk (baseL Ra Ca La R C) := by
  unfold baseL
  split
  · exact h
  · intro c hc
    rw [List.eq_of_mem_replicate hc]
    exact lok_bl _ (by simp)
theorem patchB_len {Ra Ca rowa cola R C row col : Int} {La L : List Ce} {vis : Bool} (ha : rightW Ra Ca rowa cola La = true) (hb : rightW R C row col L = true) (ho : ∀ c ∈ L, CeOk c) : 5 ≤ (patchB Ra Ca La R C row col vis L).length ∧ (patchB Ra Ca La R C row col vis L).length ≤ 8165 := by
  obtain ⟨_, _, b3, b4, _, _⟩ := rightW_parts hb
  obtain ⟨n, _, _, _, h4, _, h6⟩ := runs_of L.length (baseL Ra Ca La R.toNat C.toNat) L (Nat.le_refl _) (base_len ha hb) (by omega) (fun c hc => ⟨ho c hc, b3 c hc⟩)
  unfold patchB
  simp
  omega
theorem RowAt.cr {W : World} {b cap : Nat} {L : List Ce} (h : RowAt W b cap L) : CR W (some ⟨b, 0, none⟩) L := fun _ => ⟨b, 0, rfl, h.lt, fun i hi j v hv => by
  have hj : j < 4 := (List.getElem?_eq_some_iff.1 hv).1
  have := h.cell hi hj
  rw [show 0 + i * 4 + j = i * 4 + j by omega, this, ← hv]
  simp [ceAt, List.getD, hi]⟩
theorem slice_seg {b off n cap f q cq o2 : Nat} (hc : cap = f + cq) (hq : q ≤ cq) (hq1 : 1 ≤ q) (ho : off + f * 4 = o2) {t : Int} (ht : t = ((f + q : Nat) : Int)) (W : World) :
    (Instr.slice 22 (.slice (some ⟨b, off, none⟩) n cap) (some (.int .i64 (f : Int))) (some (.int .i64 t)) none).run Tryd.prog W = .ok (.slice (some ⟨b, o2, none⟩) q cq) W := by
  subst ht
  have h1 : ((f + q : Nat) : Int) ≤ (cap : Int) := by omega
  have h2 : (0 : Int) ≤ ((f + q : Nat) : Int) := by omega
  have h3 : (f : Int) ≤ ((f + q : Nat) : Int) := by omega
  have h6 := run_sliceBound (P := Tryd.prog) W .i64 (f : Int) (f + q) .sliceB (by omega) h3
  have h4 : ¬ cap = f := by omega
  have ha : (⟨b, off, none⟩ : Addr).add (f * 4) = ⟨b, o2, none⟩ := by subst ho; unfold Addr.add; split <;> simp_all
  obtain ⟨i0, hi, _, hz1, _⟩ := info_parts infoCell
  have h7 := run_sliceBound (P := Tryd.prog) W .i64 ((f + q : Nat) : Int) cap .sliceAcap (by omega) h1
  have e1 : ((f + q : Nat) : Int) = (f : Int) + (q : Int) := by omega
  have e2 : ((f : Int) + (q : Int)).toNat = f + q := by omega
  rw [e1, e2] at h7
  have h8 : cap - f = cq := by omega
  simp [Instr.slice, run_underlying Tryd.underlying22, Instr.sliceBounds, h6, h7, hi, hz1, ha, h4, h8]
theorem CR.seg {W : World} {b off : Nat} {L : List Ce} (hlt : b < W.heap.size) (hcs : ∀ i, i < L.length → ∀ j v, (gC (ceAt L i))[j]? = some v → W.cell? ⟨b, off + i * 4 + j, none⟩ = some v) {f q o2 : Nat} (ho : off + f * 4 = o2) (hq : f + q ≤ L.length) : CR W (some ⟨b, o2, none⟩) ((L.drop f).take q) := fun _ => ⟨b, o2, rfl, hlt, fun i hi j v hv => by
  have hl : i < q := by simp at hi; omega
  have e : ceAt ((L.drop f).take q) i = ceAt L (f + i) := by
    have := seg_get (X := L) (b := f) (k := f + q) (i := i) (by omega) (by omega)
    rwa [show f + q - f = q by omega] at this
  rw [e] at hv
  have := hcs (f + i) (by omega) j v hv
  rwa [show off + (f + i) * 4 + j = o2 + i * 4 + j by omega] at this⟩
set_option maxRecDepth 100000 in
set_option maxHeartbeats 8000000 in
theorem p_diff_no {w : World} {A B : Option Addr} {na ca nb cb : Nat} {La L : List Ce} (hA : CR w A La) (hB : CR w B L) (hla : La.length = na) (hlb : L.length = nb) (hma : na ≤ 9223372036854775807) (hmb : nb ≤ 9223372036854775807) (hoa : ∀ c ∈ La, CeOk c) (hob : ∀ c ∈ L, CeOk c) (Ra Ca rowa cola : Int) (visa : Bool) (R C row col : Int) (vis : Bool) (hr : rightW Ra Ca rowa cola La = false ∨ rightW R C row col L = false) :
    Calls Tryd.prog 24 #[vV Ra Ca A na ca rowa cola visa, vV R C B nb cb row col vis] w fun e w' => e = .returned (.tuple #[.slice none 0 0, .int .i64 3]) ∧ Below w.heap.size w w' := by
  have hba := (Below.refl w.heap.size w).alloc (Nat.le_refl _) (.cells #[.int .i64 Ra, .int .i64 Ca, .slice A na ca, .int .i64 rowa, .int .i64 cola, .bool visa] 24)
  have hbb := (Below.refl (w.alloc (.cells #[.int .i64 Ra, .int .i64 Ca, .slice A na ca, .int .i64 rowa, .int .i64 cola, .bool visa] 24)).heap.size (w.alloc (.cells #[.int .i64 Ra, .int .i64 Ca, .slice A na ca, .int .i64 rowa, .int .i64 cola, .bool visa] 24))).alloc (Nat.le_refl _) (.cells #[.int .i64 R, .int .i64 C, .slice B nb cb, .int .i64 row, .int .i64 col, .bool vis] 24)
  have HB0 := hba.trans (hbb.mono hba.size)
  have HC0 := (hbb.block w.heap.size (by simp)).trans (heap_alloc_new w (.cells #[.int .i64 Ra, .int .i64 Ca, .slice A na ca, .int .i64 rowa, .int .i64 cola, .bool visa] 24))
  have HC1 := heap_alloc_new (w.alloc (.cells #[.int .i64 Ra, .int .i64 Ca, .slice A na ca, .int .i64 rowa, .int .i64 cola, .bool visa] 24)) (.cells #[.int .i64 R, .int .i64 C, .slice B nb cb, .int .i64 row, .int .i64 col, .bool vis] 24)
  obtain ⟨vb, hvb⟩ : ∃ b, w.heap.size = b := ⟨_, rfl⟩
  rw [show (w.alloc (.cells #[.int .i64 Ra, .int .i64 Ca, .slice A na ca, .int .i64 rowa, .int .i64 cola, .bool visa] 24)).heap.size = w.heap.size + 1 by simp] at HC1
  have HRA := Lib.hid (fun (W : World) (hb : Below w.heap.size w W) => p_viewright (cap := ca) (hA.below hb) hla hma hoa Ra Ca rowa cola visa)
  have HRB := Lib.hid (fun (W : World) (hb : Below w.heap.size w W) => p_viewright (cap := cb) (hB.below hb) hlb hmb hob R C row col vis)
  obtain ⟨za, hza⟩ : ∃ z, rightW Ra Ca rowa cola La = z := ⟨_, rfl⟩
  obtain ⟨zb, hzb⟩ : ∃ z, rightW R C row col L = z := ⟨_, rfl⟩
  rw [hza] at HRA hr
  rw [hzb] at HRB hr
  clear hA hB hla hlb hma hmb hoa hob hba hbb hza hzb
  go_enter Tryd.func24, Tryd.ntmps24
  go_upto_region 1 with fail
  simp only [hvb] at HC0 HC1 ⊢
  generalize ((w.alloc (.cells #[.int .i64 Ra, .int .i64 Ca, .slice A na ca, .int .i64 rowa, .int .i64 cola, .bool visa] 24)).alloc (.cells #[.int .i64 R, .int .i64 C, .slice B nb cb, .int .i64 row, .int .i64 col, .bool vis] 24)) = U at HB0 HC0 HC1 ⊢
  obtain ⟨x0, x1, x2, x3, x4, x5⟩ := six_cells HC0
  obtain ⟨y0, y1, y2, y3, y4, y5⟩ := six_cells HC1
  have HB := Lib.hid HB0
  have HCA := Lib.hid HC0
  have HCB := Lib.hid HC1
  clear HB0 HC0 HC1 hvb
  go_step3
  cases za with
  | false =>
    clear hr
    go_wp2_with fail
    refine (HRA.out _ HB.out).mono ?_
    rintro e w1 ⟨rfl, b1⟩
    have HB1 := Lib.hid (HB.out.trans (b1.mono HB.out.size))
    clear b1
    go_wp2
    rw [Exit.noGoto_ret]
    go_ret2
    exact ⟨rfl, HB1.out⟩
  | true =>
    obtain rfl : zb = false := by rcases hr with h | h; exact absurd h (by decide); exact h
    clear hr
    go_wp2_with fail
    refine (HRA.out _ HB.out).mono ?_
    rintro e w1 ⟨rfl, b1⟩
    have HB1 := Lib.hid (HB.out.trans (b1.mono HB.out.size))
    have HC1 := Lib.hid ((b1.block _ (lt_of_block HCB.out)).trans HCB.out)
    clear b1 y0 y1 y2 y3 y4 y5
    obtain ⟨y0, y1, y2, y3, y4, y5⟩ := six_cells HC1.out
    go_wp2_with fail
    refine (HRB.out _ HB1.out).mono ?_
    rintro e w2 ⟨rfl, b2⟩
    have HB2 := Lib.hid (HB1.out.trans (b2.mono HB1.out.size))
    clear b2
    go_wp2
    rw [Exit.noGoto_ret]
    go_ret2
    exact ⟨rfl, HB2.out⟩
set_option maxRecDepth 100000 in
set_option maxHeartbeats 16000000 in
theorem p_diff {w : World} {A B : Option Addr} {na ca nb cb : Nat} {La L : List Ce} (hA : CR w A La) (hB : CR w B L) (hla : La.length = na) (hlb : L.length = nb) (hcb : nb ≤ cb) (hoa : ∀ c ∈ La, CeOk c) (hob : ∀ c ∈ L, CeOk c) (hT : Tab w) (Ra Ca rowa cola : Int) (visa : Bool) (R C row col : Int) (vis : Bool) (hra : rightW Ra Ca rowa cola La = true) (hrb : rightW R C row col L = true) :
    Calls Tryd.prog 24 #[vV Ra Ca A na ca rowa cola visa, vV R C B nb cb row col vis] w fun e w' => ∃ u, e = .returned (.tuple #[u, .int .i64 0]) ∧ Own8 w u (patchB Ra Ca La R C row col vis L) w' := by
  obtain ⟨_, _, ra3, ra4, ra5, _⟩ := rightW_parts hra
  obtain ⟨_, _, rb3, rb4, rb5, rb6⟩ := rightW_parts hrb
  have hma : na ≤ 9223372036854775807 := by omega
  have hmb : nb ≤ 9223372036854775807 := by omega
  have hplen := patchB_len (vis := vis) hra hrb hob
  have hbl := base_len hra hrb
  have hba := (Below.refl w.heap.size w).alloc (Nat.le_refl _) (.cells #[.int .i64 Ra, .int .i64 Ca, .slice A na ca, .int .i64 rowa, .int .i64 cola, .bool visa] 24)
  have hbb := (Below.refl (w.alloc (.cells #[.int .i64 Ra, .int .i64 Ca, .slice A na ca, .int .i64 rowa, .int .i64 cola, .bool visa] 24)).heap.size (w.alloc (.cells #[.int .i64 Ra, .int .i64 Ca, .slice A na ca, .int .i64 rowa, .int .i64 cola, .bool visa] 24))).alloc (Nat.le_refl _) (.cells #[.int .i64 R, .int .i64 C, .slice B nb cb, .int .i64 row, .int .i64 col, .bool vis] 24)
  have HB0 := hba.trans (hbb.mono hba.size)
  have HC0 := (hbb.block w.heap.size (by simp)).trans (heap_alloc_new w (.cells #[.int .i64 Ra, .int .i64 Ca, .slice A na ca, .int .i64 rowa, .int .i64 cola, .bool visa] 24))
  have HC1 := heap_alloc_new (w.alloc (.cells #[.int .i64 Ra, .int .i64 Ca, .slice A na ca, .int .i64 rowa, .int .i64 cola, .bool visa] 24)) (.cells #[.int .i64 R, .int .i64 C, .slice B nb cb, .int .i64 row, .int .i64 col, .bool vis] 24)
  obtain ⟨vb, hvb⟩ : ∃ b, w.heap.size = b := ⟨_, rfl⟩
  rw [show (w.alloc (.cells #[.int .i64 Ra, .int .i64 Ca, .slice A na ca, .int .i64 rowa, .int .i64 cola, .bool visa] 24)).heap.size = w.heap.size + 1 by simp] at HC1
  have HRA := Lib.hid (fun (W : World) (hb : Below w.heap.size w W) => p_viewright (cap := ca) (hA.below hb) hla hma hoa Ra Ca rowa cola visa)
  have HRB := Lib.hid (fun (W : World) (hb : Below w.heap.size w W) => p_viewright (cap := cb) (hB.below hb) hlb hmb hob R C row col vis)
  rw [hra] at HRA
  rw [hrb] at HRB
  have HAH := Lib.hid (fun (W : World) => p_appendhead (w := W) (A := B) (n := nb) (cap := cb) R C row col vis (by omega))
  obtain ⟨P, hP⟩ : ∃ P, patchB Ra Ca La R C row col vis L = P := ⟨_, rfl⟩
  have hPd : [R, C, row, col, if vis = true then 1 else 0] ++ dB 0 [] (baseL Ra Ca La R.toNat C.toNat) L = P := hP
  obtain ⟨H5, hH5⟩ : ∃ l : List Int, [R, C, row, col, if vis = true then 1 else 0] = l := ⟨_, rfl⟩
  rw [hH5] at hPd HAH
  rw [hP] at hplen ⊢
  obtain ⟨Rn, rfl⟩ : ∃ k : Nat, R = k := ⟨R.toNat, by omega⟩
  obtain ⟨Cn, rfl⟩ : ∃ k : Nat, C = k := ⟨C.toNat, by omega⟩
  simp only [Int.toNat_natCast] at hPd hbl
  have HBS := Lib.hid (fun (W : World) (hb : Below w.heap.size w W) => p_base (cap := ca) (hA.below hb) hla (by omega) (by omega) Ra Ca rowa cola visa Rn Cn (by omega) (by omega))
  have HCR := Lib.hid (fun (W : World) (hb : Below w.heap.size w W) => hB.below hb)
  obtain ⟨O, hO⟩ : ∃ O, baseL Ra Ca La Rn Cn = O := ⟨_, rfl⟩
  rw [hO] at hPd hbl HBS
  have HPD := Lib.hid (fun (_ : Unit) => hPd)
  have HLL := Lib.hid (show O.length = nb ∧ L.length = nb ∧ nb ≤ 480 ∧ nb ≤ cb ∧ P.length ≤ 8165 from ⟨by omega, hlb, by omega, hcb, hplen.2⟩)
  have HOK := Lib.hid (And.intro hob rb3)
  have HT := Lib.hid hT
  clear hA hB hla hlb hma hmb hoa hob hba hbb hra hrb ra3 ra4 ra5 rb3 rb4 rb5 rb6 hplen hbl hP hPd hH5 hO hcb hT
  go_enter Tryd.func24, Tryd.ntmps24
  go_upto_region 1 with fail
  simp only [hvb] at HC0 HC1 ⊢
  generalize ((w.alloc (.cells #[.int .i64 Ra, .int .i64 Ca, .slice A na ca, .int .i64 rowa, .int .i64 cola, .bool visa] 24)).alloc (.cells #[.int .i64 (Rn : Int), .int .i64 (Cn : Int), .slice B nb cb, .int .i64 row, .int .i64 col, .bool vis] 24)) = U at HB0 HC0 HC1 ⊢
  obtain ⟨x0, x1, x2, x3, x4, x5⟩ := six_cells HC0
  obtain ⟨y0, y1, y2, y3, y4, y5⟩ := six_cells HC1
  have HB := Lib.hid HB0
  have HCA := Lib.hid HC0
  have HCB := Lib.hid HC1
  clear HB0 HC0 HC1 hvb
  go_step3
  go_wp2_with fail
  refine (HRA.out _ HB.out).mono ?_
  rintro e w1 ⟨rfl, b1⟩
  have HB1 := Lib.hid (HB.out.trans (b1.mono HB.out.size))
  have HCA1 := Lib.hid ((b1.block _ (lt_of_block HCA.out)).trans HCA.out)
  have HCB1 := Lib.hid ((b1.block _ (lt_of_block HCB.out)).trans HCB.out)
  clear b1 x0 x1 x2 x3 x4 x5 y0 y1 y2 y3 y4 y5 HCA HCB HRA
  obtain ⟨y0, y1, y2, y3, y4, y5⟩ := six_cells HCB1.out
  go_wp2_with fail
  refine (HRB.out _ HB1.out).mono ?_
  rintro e w2 ⟨rfl, b2⟩
  have HB2 := Lib.hid (HB1.out.trans (b2.mono HB1.out.size))
  have HCA2 := Lib.hid ((b2.block _ (lt_of_block HCA1.out)).trans HCA1.out)
  have HCB2 := Lib.hid ((b2.block _ (lt_of_block HCB1.out)).trans HCB1.out)
  clear b2 y0 y1 y2 y3 y4 y5 HCA1 HCB1 HRB HB1 HB
  obtain ⟨y0, y1, y2, y3, y4, y5⟩ := six_cells HCB2.out
  go_wp2_with fail
  refine (HAH.out _).mono ?_
  rintro e w3 ⟨u3, rfl, o3⟩
  obtain ⟨A3, c3, rfl, _⟩ := own_slice o3.own
  have HO3 := Lib.hid o3
  have HT2 := Lib.hid (HT.out.below HB2.out HT.out.big)
  clear y0 y1 y2 y3 y4 y5 HAH o3
  obtain ⟨x0, x1, x2, x3, x4, x5⟩ := six_cells ((HO3.out.below.block _ (lt_of_block HCA2.out)).trans HCA2.out)
  obtain ⟨y0, y1, y2, y3, y4, y5⟩ := six_cells ((HO3.out.below.block _ (lt_of_block HCB2.out)).trans HCB2.out)
  go_wp2_with fail
  refine (HBS.out _ (HB2.out.trans (HO3.out.below.mono HB2.out.size))).mono ?_
  rintro e w4 ⟨bb, N, cc, rfl, g1, g2, g3, g4⟩
  obtain rfl : N = nb := by rw [← g3]; exact HLL.out.1
  have HO4 := Lib.hid (HO3.out.to g4)
  have HR4 := Lib.hid g2
  clear g1 g2 g3 g4 HBS x0 x1 x2 x3 x4 x5 y0 y1 y2 y3 y4 y5 HO3 HCA2
  go_wp2
  go_step3
  go_wp2
  go_loopw [6, 8] (fun pv kv wr => ∃ (k : Nat) (A1 : Option Addr) (m1 c1 : Nat) (xs : List Int), pv = .slice A1 m1 c1 ∧ kv = .int .i64 k ∧ k ≤ N ∧ Hid (Own8 w2 (.slice A1 m1 c1) xs wr) ∧ Hid (RowAt wr bb cc O) ∧ Hid (Unit → xs ++ dB 0 [] (O.drop k) (L.drop k) = P)) (fun _ kv _ => N - (intOf kv).toNat)
  case atStart => exact ⟨0, _, _, _, _, rfl, rfl, by omega, HO4, HR4, Lib.hid (fun _ => by rw [List.drop_zero, List.drop_zero]; exact HPD.out ())⟩
  case round =>
    obtain ⟨k, A1, m1, c1, xs, rfl, rfl, hkn, HO, HR, HEQ⟩ := hrel
    clear HO4 HR4 HPD
    have HKN := Lib.hid hkn
    have HXL := Lib.hid (show xs.length ≤ 8165 from by have := congrArg List.length (HEQ.out ()); rw [List.length_append] at this; have := HLL.out.2.2.2.2; omega)
    obtain ⟨x0, x1, x2, x3, x4, x5⟩ := six_cells ((HO.out.below.block _ (lt_of_block HCB2.out)).trans HCB2.out)
    have HRE := Lib.hid (p_reach (ca := cc) (cb := cb) HR.out.cr (HCR.out _ (HB2.out.trans (HO.out.below.mono HB2.out.size))) HLL.out.1 HLL.out.2.1 (by have := HLL.out.2.2.1; omega) k hkn false)
    clear hkn
    go_wp2_with fail
    refine HRE.out.mono ?_
    rintro e w5 ⟨f, rfl, f1, f2, f3, f4, f5⟩
    have HO5 := Lib.hid (HO.out.to f5)
    have HR5 := Lib.hid (HR.out.below f5)
    have HF := Lib.hid (show (∀ i, k ≤ i → i < f → ceAt O i = ceAt L i) ∧ (f = N ∨ ceAt O f ≠ ceAt L f) ∧ k ≤ f ∧ f ≤ N from ⟨fun i h1 h2 => by simpa using f3 i h1 h2, by simpa using f4, f1, f2⟩)
    clear f1 f2 f3 f4 f5 HRE x0 x1 x2 x3 x4 x5 HO HR
    by_cases hfn : f = N
    · subst hfn
      have HEN := Lib.hid (show xs = P from by
        have := HEQ.out ()
        rw [dB_end (by rw [HLL.out.1, HLL.out.2.1]) (fun i h1 h2 => HF.out.1 i h1 (by rw [← HLL.out.2.1]; exact h2)), List.append_nil] at this
        exact this)
      go_wp2
      rw [Exit.noGoto_ret]
      go_ret2
      exact ⟨_, rfl, HEN.out ▸ HO5.out.from HB2.out⟩
    · have q1 : (f == N) = false := by simpa using hfn
      have q1' : decide (f = N) = false := by simpa using hfn
      have q2 : ((f : Int) == (N : Int)) = false := by simp; omega
      have q2' : decide ((f : Int) = (N : Int)) = false := by simp; omega
      have hfN : ¬ f = N := hfn
      obtain ⟨x0, x1, x2, x3, x4, x5⟩ := six_cells ((HO5.out.below.block _ (lt_of_block HCB2.out)).trans HCB2.out)
      have HRE := Lib.hid (p_reach (ca := cc) (cb := cb) HR5.out.cr (HCR.out _ (HB2.out.trans (HO5.out.below.mono HB2.out.size))) HLL.out.1 HLL.out.2.1 (by have := HLL.out.2.2.1; omega) f HF.out.2.2.2 true)
      clear hfn
      go_wp2_with fail
      refine HRE.out.mono ?_
      rintro e w6 ⟨t, rfl, f1, f2, f3, f4, f5⟩
      have HO6 := Lib.hid (HO5.out.to f5)
      have HR6 := Lib.hid (HR5.out.below f5)
      have HG := Lib.hid (show (∀ i, f ≤ i → i < t → ceAt O i ≠ ceAt L i) ∧ (t = N ∨ ceAt O t = ceAt L t) ∧ f < t ∧ t ≤ N from ⟨fun i h1 h2 => by simpa using f3 i h1 h2, by simpa using f4, by
        rcases Nat.lt_or_ge f t with h | h
        · exact h
        · obtain rfl : f = t := by omega
          rcases f4 with h4 | h4
          · exact absurd h4 hfN
          · rcases HF.out.2.1 with h5 | h5
            · exact absurd h5 hfN
            · exact absurd (by simpa using h4) h5, f2⟩)
      have HSG := Lib.hid (fun (_ : Unit) => show xs ++ (numB ((f - k : Nat) : Int) ++ (numB ((t - f : Nat) : Int) ++ (cellsB ((L.drop f).take (t - f)) ++ dB 0 [] (O.drop t) (L.drop t)))) = P from by
        rw [← dB_seg (by rw [HLL.out.1, HLL.out.2.1]) HF.out.2.2.1 HG.out.2.2.1 (by rw [HLL.out.2.1]; exact HG.out.2.2.2) HF.out.1 HG.out.1 (by rw [HLL.out.2.1]; exact HG.out.2.1)]
        exact HEQ.out ())
      clear f1 f2 f3 f4 f5 HRE x0 x1 x2 x3 x4 x5 HO5 HR5 q1 q1' q2 q2' hfN HEQ
      obtain ⟨d, hd⟩ : ∃ d, f = k + d := ⟨f - k, by have := HF.out.2.2.1; omega⟩
      obtain ⟨q, hq⟩ : ∃ q, t = f + q := ⟨t - f, by have := HG.out.2.2.1; omega⟩
      have HDQ := Lib.hid (And.intro hd hq)
      have s1 : IntKind.i64.wrap ((f : Int) - (k : Int)) = (d : Int) := by rw [show (f : Int) - (k : Int) = (d : Int) by omega]; exact IntWalk.i64_in _ (by have := HF.out; have := HLL.out.2.2.1; omega)
      have s2 : IntKind.i64.wrap ((t : Int) - (f : Int)) = (q : Int) := by rw [show (t : Int) - (f : Int) = (q : Int) by omega]; exact IntWalk.i64_in _ (by have := HG.out; have := HLL.out.2.2.1; omega)
      have HDB := Lib.hid (show d ≤ 480 ∧ q ≤ 480 ∧ 1 ≤ q from by have := HF.out; have := HG.out; have := HLL.out.2.2.1; omega)
      rw [show f - k = d by omega, show t - f = q by omega] at HSG
      clear hd hq
      go_wp2_with fail
      refine (p_appendnumber HO6.out (by have := HXL.out; omega) d (by have := HDB.out; omega) HT2.out).mono ?_
      rintro e w7 ⟨u7, rfl, o7, k7⟩
      have HR7 := Lib.hid (HR6.out.keepX HO6.out k7)
      have HX7 := Lib.hid (show (xs ++ numB (d : Int)).length ≤ 8173 from by rw [List.length_append, numB_length]; have := HXL.out; have := (szN_le (d : Int)).2; omega)
      obtain ⟨xs7, hx7⟩ : ∃ x, xs ++ numB (d : Int) = x := ⟨_, rfl⟩
      rw [hx7] at o7 HX7
      obtain ⟨A7, c7, rfl, _⟩ := own_slice o7.own
      have HO7 := Lib.hid o7
      clear o7 k7 HO6 HR6
      go_wp2_with fail
      refine (p_appendnumber HO7.out (by have := HX7.out; omega) q (by have := HDB.out; omega) HT2.out).mono ?_
      rintro e w8 ⟨u8, rfl, o8, k8⟩
      have HR8 := Lib.hid (HR7.out.keepX HO7.out k8)
      obtain ⟨xs8, hx8⟩ : ∃ x, xs7 ++ numB (q : Int) = x := ⟨_, rfl⟩
      rw [hx8] at o8
      obtain ⟨A8, c8, rfl, _⟩ := own_slice o8.own
      have HO8 := Lib.hid o8
      clear o8 k8 HO7 HR7
      obtain ⟨x0, x1, x2, x3, x4, x5⟩ := six_cells ((HO8.out.below.block _ (lt_of_block HCB2.out)).trans HCB2.out)
      have HCW := Lib.hid (HCR.out w2 HB2.out)
      obtain ⟨b, off, rfl, hlt, hcs⟩ := HCW.out (by have := HF.out; have := HG.out; have := HLL.out; omega)
      obtain ⟨o2, ho2⟩ : ∃ o, off + f * 4 = o := ⟨_, rfl⟩
      have HSC := Lib.hid (CR.seg hlt hcs (f := f) (q := q) ho2 (by have := HG.out; have := HDQ.out; have := HLL.out; omega))
      obtain ⟨cq, hcq⟩ : ∃ c, cb = f + c := ⟨cb - f, by have := HF.out; have := HLL.out; omega⟩
      have hsl := fun W => slice_seg (b := b) (off := off) (n := N) hcq (show q ≤ cq by have := HG.out; have := HDQ.out; have := HLL.out; omega) HDB.out.2.2 ho2 (show (t : Int) = ((f + q : Nat) : Int) by rw [HDQ.out.2]) W
      obtain ⟨S, hS⟩ : ∃ S, (L.drop f).take q = S := ⟨_, rfl⟩
      have HSL := Lib.hid (show S.length = q from by rw [← hS, List.length_take, List.length_drop]; have := HG.out; have := HDQ.out; have := HLL.out; omega)
      have HSM := Lib.hid (show ∀ c ∈ S, CeOk c ∧ cellR c = true from fun c hc => by
        have hm : c ∈ L := by rw [← hS] at hc; exact List.mem_of_mem_drop (List.mem_of_mem_take hc)
        exact ⟨HOK.out.1 c hm, HOK.out.2 c hm⟩)
      rw [hS] at HSC HSG
      clear hlt hcs hS ho2 hcq
      obtain ⟨T3, hT3⟩ : ∃ x, dB 0 [] (O.drop t) (L.drop t) = x := ⟨_, rfl⟩
      have HT3 := Lib.hid (fun (_ : Unit) => hT3)
      have HS8 := Lib.hid (fun (_ : Unit) => show (xs8 ++ cellsB (S.drop 0)) ++ T3 = P from by rw [List.drop_zero, ← hx8, ← hx7, ← hT3, ← HSG.out ()]; simp)
      clear hx8 hx7 hT3 HSG
      go_wp2
      go_loopw [6, 61] (fun pv iv wr2 => ∃ (i : Nat) (A2 : Option Addr) (m2 c2 : Nat) (ys : List Int), pv = .slice A2 m2 c2 ∧ iv = .int .i64 i ∧ i ≤ q ∧ Hid (Own8 w2 (.slice A2 m2 c2) ys wr2) ∧ Hid (RowAt wr2 bb cc O) ∧ Hid (Unit → (ys ++ cellsB (S.drop i)) ++ T3 = P)) (fun _ iv _ => q - (intOf iv).toNat)
      case atStart => exact ⟨0, _, _, _, _, rfl, rfl, by omega, HO8, HR8, HS8⟩
      case round =>
        obtain ⟨i, A2, m2, c2, ys, rfl, rfl, hi, HOI, HRI, HEI⟩ := hrel
        clear HO8 HR8 HS8
        by_cases hin : i < q
        · have e1 : decide ((i : Int) < (q : Int)) = true := by simp; omega
          have e1' : decide (i < q) = true := by simp; omega
          have g1 : (0 : Int) ≤ (i : Int) := by omega
          have g2 : (i : Int) < (q : Int) := by omega
          have wr1 : IntKind.i64.wrap ((i : Int) + 1) = (i : Int) + 1 := IntWalk.i64_in _ (by have := HDB.out; omega)
          have HYL := Lib.hid (show ys.length ≤ 8165 from by have := congrArg List.length (HEI.out ()); rw [List.length_append, List.length_append] at this; have := HLL.out.2.2.2.2; omega)
          have hcr := HSC.out.below HOI.out.below
          obtain ⟨b', off', hbe, hbl, hcs⟩ := hcr (by rw [HSL.out]; omega)
          obtain ⟨rfl, rfl⟩ : b = b' ∧ o2 = off' := by
            have : (⟨b, o2, none⟩ : Addr) = ⟨b', off', none⟩ := by injection hbe
            injection this with h1 h2
            exact ⟨h1, h2⟩
          have hcel := hcs i (by rw [HSL.out]; omega)
          have HCK := Lib.hid (HSM.out (ceAt S i) (ceAt_mem (by rw [HSL.out]; omega)))
          have hdrop := drop_cons (X := S) (k := i) (by rw [HSL.out]; omega)
          obtain ⟨⟨p, f8, gg, bb8⟩, hce⟩ : ∃ c, ceAt S i = c := ⟨_, rfl⟩
          rw [hce] at hcel HCK hdrop
          have HDR := Lib.hid (fun (_ : Unit) => hdrop)
          obtain ⟨k0, k1, k2, k3⟩ := ce_four hcel
          have hba := (Below.refl wr.heap.size wr).alloc (Nat.le_refl _) (.cells #[.int .i32 p, .int .u8 f8, .int .u32 gg, .int .u32 bb8] 88)
          have HOX := Lib.hid (HOI.out.to hba)
          have HRX := Lib.hid (HRI.out.below hba)
          have HTX := Lib.hid (heap_alloc_new wr (.cells #[.int .i32 p, .int .u8 f8, .int .u32 gg, .int .u32 bb8] 88))
          obtain ⟨tb, htb⟩ : ∃ t, wr.heap.size = t := ⟨_, rfl⟩
          have HIN := Lib.hid hin
          clear hi hin hcel hdrop hce HOI HRI hba hcr hbe hbl hcs
          go_upto_region 14 with fail
          simp only [htb] at HTX ⊢
          generalize (wr.alloc (.cells #[.int .i32 p, .int .u8 f8, .int .u32 gg, .int .u32 bb8] 88)) = X at HOX HRX HTX ⊢
          clear k0 k1 k2 k3 htb
          obtain ⟨k0, k1, k2, k3⟩ := four_at HTX.out
          obtain ⟨Bc, hBc⟩ : ∃ B, cellB ⟨p, f8, gg, bb8⟩ = B := ⟨_, rfl⟩
          have HPC := Lib.hid (hBc ▸ p_putcell (w := X) (c := ⟨p, f8, gg, bb8⟩) HCK.out.1 HCK.out.2 (HT2.out.below HOX.out.below HT2.out.big))
          have HBL := Lib.hid (show Bc.length ≤ 13 by rw [← hBc]; exact (cellB_len HCK.out.1 HCK.out.2).2)
          have HEX := Lib.hid (fun (_ : Unit) => show ((ys ++ Bc) ++ cellsB (S.drop (i + 1))) ++ T3 = P from by
            rw [← HEI.out (), HDR.out (), ← hBc]; simp [cellsB])
          clear hBc HDR HEI HCK
          go_wp2_with fail
          refine HPC.out.mono ?_
          rintro e X2 ⟨u2, rfl, o2'⟩
          obtain ⟨A6, c6, W6, hrun, o6, hg6⟩ := (HOX.out.to o2'.below).appg (ys := Bc) (u := u2) o2'.rit (by have := HBL.out; have := HYL.out; omega)
          obtain ⟨A9, c9, hv9, _⟩ := own_slice HOX.out.own
          have HR9 := Lib.hid ((HRX.out.below o2'.below).grown hg6 (fun e => own_ne (HOX.out.to o2'.below) (HRX.out.below o2'.below) e.symm))
          have HRUN := Lib.hid hrun
          have HO9 := Lib.hid o6
          clear hrun o6 hg6 o2' HPC HOX HRX k0 k1 k2 k3 hv9
          go_wp2_with (at_builtin; refine wpList_app rfl (.tmp 70) (.tmp 71) _ rfl _ _ rfl rfl HRUN.out ?_)
          go_roundw
          case rel => exact ⟨i + 1, _, _, _, _, rfl, by go_num, by have := HIN.out; omega, HO9, HR9, HEX⟩
          case measure => have := HIN.out; simp [intOf]; omega
        · have e1 : decide ((i : Int) < (q : Int)) = false := by simp; omega
          have e1' : decide (i < q) = false := by simp; omega
          have HEZ := Lib.hid (fun (_ : Unit) => show ys ++ dB 0 [] (O.drop t) (L.drop t) = P from by
            have := HEI.out ()
            rw [List.drop_eq_nil_of_le (by rw [HSL.out]; omega)] at this
            rw [HT3.out ()]
            simpa [cellsB] using this)
          clear hi hin HEI
          go_wp2
          go_roundw
          case rel => exact ⟨t, _, _, _, _, rfl, rfl, HG.out.2.2.2, HOI, HRI, HEZ⟩
          case measure => have := HG.out; have := HF.out; simp [intOf]; omega
end Go.Proofs.YtjihcpnaebghnaaDoor
