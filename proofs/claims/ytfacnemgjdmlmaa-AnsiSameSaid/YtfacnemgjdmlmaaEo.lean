/-
  Proved here: of the law of ansi: alive.
-/
import Derived.Test.YtfacnemgjdmlmaaEn
set_option linter.unusedSimpArgs false
set_option linter.unusedVariables false
namespace Go.Proofs.Ytfacnemgjdmlmaa
open Go.RowKit
theorem fed1 : feedsP (beginP 0) [27, 91, 49, 59, 109, 65] = (beginP 0, [⟨4, 0, 0, 0, 109, [1, 0], []⟩, ⟨1, 65, 0, 0, 0, [], []⟩]) := by rfl
theorem fed2 : feedsP (beginP 0) [27, 93, 48, 59, 120, 7, 10] = (beginP 0, [⟨5, 0, 0, 0, 0, [], [48, 59, 120]⟩, ⟨2, 10, 0, 0, 0, [], []⟩]) := by rfl
theorem two_of {es : List (Ev × Value)} {a b : Ev} (h : es.map Prod.fst = [a, b]) : es.length = 2 := by
  have := congrArg List.length h
  simpa using this
set_option maxRecDepth 100000 in
set_option maxHeartbeats 4000000 in
theorem alive_any (w : World) : Calls Try.prog 8 #[] w fun e w' => e = .returned (.bool true) ∧ Below w.heap.size w w' := by
  go_enter Try.func8, Try.ntmps8
  go_wp2_with fail
  refine (new_calls w).mono ?_
  rintro e w1 ⟨rfl, rfl⟩
  have hq := new_qs w
  have hb := (Below.refl w.heap.size w).alloc (Nat.le_refl _) (.cells (qC (beginP 0) (.slice none 0 0) (.slice none 0 0)) 42)
  generalize (w.alloc (.cells (qC (beginP 0) (.slice none 0 0) (.slice none 0 0)) 42)) = w1 at hq hb ⊢
  have hB1 : w.heap.size + 1 ≤ w1.heap.size := hq.big
  have HQ1 := Lib.hid (hq.below ((Below.refl _ _).alloc (Nat.le_refl _) (.cells (NV .i32 [27, 91, 49, 59, 109, 65]).toArray 21)))
  have HB1 := Lib.hid (hb.alloc hb.size (.cells (NV .i32 [27, 91, 49, 59, 109, 65]).toArray 21))
  have HF1 := Lib.hid (p_feed HQ1.out (good_begin 0 (by omega)) (A := some ⟨w1.heap.size, 0, none⟩) (n := 6) (cp := 6) (RI.lit w1 [27, 91, 49, 59, 109, 65] 21) rfl (by omega) (by omega) (fun _ b o q e => by
    injection e with e; injection e with e1; exact ⟨by omega, by simp [Value.ownBlock], by simp [Value.ownBlock]⟩))
  have HSZ1 := Lib.hid (show w.heap.size + 1 ≤ (w1.alloc (.cells (NV .i32 [27, 91, 49, 59, 109, 65]).toArray 21)).heap.size by simp; omega)
  clear hq hb hB1
  rw [fed1] at HF1
  go_wp2_with fail
  refine HF1.out.mono ?_
  generalize (w1.alloc (.cells (NV .i32 [27, 91, 49, 59, 109, 65]).toArray 21)) = U1 at HQ1 HB1 HSZ1 ⊢
  rintro e w2 ⟨vp, vt, v, es, rfl, hF, hM⟩
  have h2 := two_of hM
  obtain ⟨A1, c1, rfl, k1, k2, k3, hE, _⟩ := hF.evq HSZ1.out
  have hb2 := hF.belowW (w0 := w) (Nat.le_refl _) ⟨_, HQ1.out⟩ HB1.out
  have hbb := (Below.refl w2.heap.size w2).alloc (Nat.le_refl _) (.cells (NV .i32 [27, 93, 48, 59, 120, 7, 10]).toArray 21)
  have hF2 := hF.below hbb
  have HB2 := Lib.hid (hb2.alloc hb2.size (.cells (NV .i32 [27, 93, 48, 59, 120, 7, 10]).toArray 21))
  have HG2 := Lib.hid (p_feed hF2.q (good_begin 0 (by omega)) (A := some ⟨w2.heap.size, 0, none⟩) (n := 7) (cp := 7) (RI.lit w2 [27, 93, 48, 59, 120, 7, 10] 21) rfl (by omega) (by omega) (fun _ b o q e => by
    injection e with e; injection e with e1; refine ⟨?_, ?_, ?_⟩
    · have := hF.q.lt; omega
    · intro e; have := own_lt hF.q.op e.symm; omega
    · intro e; have := own_lt hF.q.ot e.symm; omega))
  rw [fed2] at HG2
  have HF2 := Lib.hid hF2
  have HM := Lib.hid (fun (_ : Unit) => hM)
  have HL := Lib.hid (fun (_ : Unit) => h2)
  rw [h2]
  clear hF hM hE k1 k2 k3 hb2 hbb hF2 HQ1 HF1
  go_wp2_with fail
  refine HG2.out.mono ?_
  generalize (w2.alloc (.cells (NV .i32 [27, 93, 48, 59, 120, 7, 10]).toArray 21)) = U2 at HB2 HF2 ⊢
  rintro e w3 ⟨vp2, vt2, v2, es2, rfl, hG, hM2⟩
  have h22 := two_of hM2
  have hszU : w.heap.size + 1 ≤ U2.heap.size := Nat.le_trans HSZ1.out HF2.out.f.size
  obtain ⟨A2, c2, rfl, _, _, _, hE2, ho2⟩ := hG.evq hszU
  have hF3 := HF2.out.step (by have := HSZ1.out; omega) hG.q hG.f hG.sp hG.st
  obtain ⟨A3, c3, hv, _, _, _, hE1, ho1⟩ := hF3.evq HSZ1.out
  injection hv with hv _ _
  subst hv
  rw [HM.out ()] at hE1
  rw [hM2] at hE2
  obtain ⟨b1, o1, rfl, _, hl1, hc1⟩ := hE1 (by simp)
  obtain ⟨b2, o2, rfl, _, hl2, hc2⟩ := hE2 (by simp)
  obtain rfl := ho1 _ _ _ rfl
  obtain rfl := ho2 _ _ _ rfl
  obtain ⟨Ap, cp, x0, x1, x2, x3, x4, x5, x6, _, xr, _⟩ := hc1 0 (by simp)
  obtain ⟨Aq, cq, y0, y1, _⟩ := hc1 1 (by simp)
  obtain ⟨Ar, cr, z0, z1, z2, z3, z4, z5, z6, _⟩ := hc2 0 (by simp)
  obtain ⟨As, cs, t0, _⟩ := hc2 1 (by simp)
  have a0 : w3.cell? ⟨b1, 0, none⟩ = some (.int .i64 4) := x0
  have a1 : w3.cell? ⟨b1, 1, none⟩ = some (.int .i32 0) := x1
  have a2 : w3.cell? ⟨b1, 2, none⟩ = some (.int .u8 0) := x2
  have a3 : w3.cell? ⟨b1, 3, none⟩ = some (.int .u8 0) := x3
  have a4 : w3.cell? ⟨b1, 4, none⟩ = some (.int .u8 109) := x4
  have a5 : w3.cell? ⟨b1, 5, none⟩ = some (.slice Ap 2 cp) := x5
  have a6 : w3.cell? ⟨b1, 6, none⟩ = some (.string ⟨#[]⟩) := x6
  have xr : RI .i64 w3 Ap [1, 0] := xr
  have hlit := OwnI.lit w3 [1, 0] 2 rfl (by omega)
  have hbl := hlit.below
  obtain ⟨Al, cl, hal, _, hri⟩ := hlit.ri
  injection hal with hal _ hcl
  subst hal
  have HS := Lib.hid (same_any (w := w3.alloc (.cells (NV .i64 [1, 0]).toArray 3)) (a0 := 4) (a1 := 0) (a2 := 0) (a3 := 0) (a4 := 109) (b0 := 4) (b1 := 0) (b2 := 0) (b3 := 0) (b4 := 109) (na := 2) (nb := 2) (ca := cp) (cb := 2) (sa := ⟨#[]⟩) (sb := ⟨#[]⟩) (RI.below xr hbl) hri rfl rfl (by omega) (by omega))
  rw [decide_eq_true (show SameE 4 0 0 0 109 4 0 0 0 109 ⟨#[]⟩ ⟨#[]⟩ [1, 0] [1, 0] from ⟨rfl, rfl, rfl, rfl, rfl, rfl, rfl⟩)] at HS
  have hbf := hG.belowW (w0 := w) (Nat.le_refl _) ⟨_, HF2.out.q⟩ HB2.out
  have HBF := Lib.hid (hbf.alloc hbf.size (.cells (NV .i64 [1, 0]).toArray 3))
  have HQF := Lib.hid (hG.q.below hbl)
  have HC := Lib.hid (fun (X : World) (hX : Below (w3.alloc (.cells (NV .i64 [1, 0]).toArray 3)).heap.size (w3.alloc (.cells (NV .i64 [1, 0]).toArray 3)) X) =>
    have hX3 : Below w3.heap.size w3 X := hbl.trans (hX.mono hbl.size)
    (⟨(hX3.cell (p := ⟨b1, 8, none⟩) hl1).trans y1, (hX3.cell (p := ⟨b2, 6, none⟩) hl2).trans z6, (hX3.cell (p := ⟨b2, 7, none⟩) hl2).trans t0⟩ : X.cell? ⟨b1, 8, none⟩ = some (.int .i32 65) ∧ X.cell? ⟨b2, 6, none⟩ = some (.string ⟨#[48, 59, 120]⟩) ∧ X.cell? ⟨b2, 7, none⟩ = some (.int .i64 2)))
  rw [h22]
  clear hG hM2 hE2 hF3 hE1 ho1 ho2 hc1 hc2 hl1 hl2 x0 x1 x2 x3 x4 x5 x6 xr y0 y1 z0 z1 z2 z3 z4 z5 z6 t0 hlit hbl hri hcl hbf HG2 HF2 HB2 HB1 HSZ1 hszU h22 HM HL h2
  go_wp2_with fail
  refine HS.out.mono ?_
  rintro e w5 ⟨rfl, hx⟩
  obtain ⟨q1, q2, q3⟩ := HC.out w5 hx
  have HQ5 := Lib.hid (HQF.out.below hx)
  have HB5 := Lib.hid (HBF.out.trans (hx.mono HBF.out.size))
  clear hx HC HS HQF HBF a0 a1 a2 a3 a4 a5 a6
  go_wp2_with fail
  refine (p_idle HQ5.out).mono ?_
  rintro e w6 ⟨rfl, rfl⟩
  go_wp2
  go_ret
  exact ⟨rfl, HB5.out⟩
end Go.Proofs.Ytfacnemgjdmlmaa
