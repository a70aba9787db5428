/-
  Proved here: the fixed calls of join's laws come out as they must, and nothing that was there is changed.
-/
import Derived.Test.YtikijkhblfgbpaaJb
namespace Go.Proofs.Ytikijkhblfgbpaa
open Go.RowKit Go.Maps Go.Sort

theorem cell_row {w : World} {p : Addr} {v : Value} (h : w.cell? p = some v) : ∃ c ty fr, w.heap[p.block]? = some (.cells c ty fr) := by
  unfold World.cell? at h
  split at h
  · rename_i c ty fr hh
    exact ⟨c, ty, fr, hh⟩
  · cases h
theorem RowsBut.cell {t g : Nat} {w w' : World} (h : RowsBut t g w w') {p : Addr} {v : Value} (h1 : p.block ≠ t) (h2 : p.block ≠ g) (hc : w.cell? p = some v) : w'.cell? p = some v := by
  obtain ⟨c, ty, fr, hh⟩ := cell_row hc
  rw [← hc]
  exact World.cell?_of_block ((h _ _ _ _ hh h1 h2).trans hh.symm)
theorem RowsBut.lt {t g : Nat} {w w' : World} (h : RowsBut t g w w') {p : Addr} {v : Value} (h1 : p.block ≠ t) (h2 : p.block ≠ g) (hc : w.cell? p = some v) : p.block < w'.heap.size := by
  obtain ⟨c, ty, fr, hh⟩ := cell_row hc
  exact (Array.getElem?_eq_some_iff.1 (h _ _ _ _ hh h1 h2)).1
theorem TabAt.ne {w : World} {base t : Nat} {T : TV} (h : TabAt w base t T) {b o : Nat} {v : Value} (hc : w.cell? ⟨b, o, none⟩ = some v) (hv : (∀ i, v ≠ .int .u64 i) ∧ ∀ m, v ≠ .map m) : b ≠ t := fun e => by
  subst e
  obtain ⟨b0, _, ht, _⟩ := h.map
  simp only [World.cell?, ht] at hc
  rcases o with _ | _ | o
  · simp at hc; exact hv.1 _ hc.symm
  · simp at hc; exact hv.2 _ hc.symm
  · simp at hc
theorem RB.rows {w w' : World} {base t g : Nat} {T : TV} {A : Option Addr} {d : List Int} (hT : TabAt w base t T) (h : RB w w.heap.size A d) (hg : w.heap.size ≤ g) (hk : RowsBut t g w w') : RB w' w'.heap.size A d := fun hl => by
  obtain ⟨b, off, e, hb, hc⟩ := h hl
  have hn : b ≠ t := hT.ne (hc 0 hl) ⟨fun i e => (by injection e with e; cases e), fun m e => (by cases e)⟩
  have hn2 : b ≠ g := by omega
  exact ⟨b, off, e, hk.lt (p := ⟨b, off + 0, none⟩) hn hn2 (hc 0 hl), fun i hi => hk.cell (p := ⟨b, off + i, none⟩) hn hn2 (hc i hi)⟩

/-- The frame of 500 bytes that are 0. -/
def Z500 : List Int := List.replicate 500 0
set_option maxRecDepth 100000 in
set_option maxHeartbeats 2000000 in
theorem alive_any (w : World) : Calls Try.prog 8 #[] w fun e w' => e = .returned (.bool true) ∧ Below w.heap.size w w' := by
  obtain ⟨M, hM, hmk0⟩ := make_zero 500 (by omega)
  have HMK := Lib.hid hmk0
  have hmk1 : ∀ W : World, ∃ W1, (Instr.makeSlice 28 (.int .i64 500) (.int .i64 500)).run Try.prog W = .ok (.slice (some ⟨W.heap.size, 0, none⟩) 500 500) W1 ∧ W1.heap[W.heap.size]? = some (.cells M 5 (0, 0)) ∧ Below W.heap.size W W1 := fun W =>
    ⟨_, hmk0 W, heap_alloc_new _ _, (Below.refl _ _).alloc (Nat.le_refl _) _⟩
  have hZl : Z500.length = 500 := by simp [Z500]
  have hRZ : ∀ W g, W.heap[g]? = some (.cells M 5 (0, 0)) → RB W W.heap.size (some ⟨g, 0, none⟩) Z500 := fun W g hC _ => ⟨_, _, rfl, lt_of_block hC, fun i hi => by
    rw [hZl] at hi
    have h1 : Z500.getD i 0 = 0 := zeros_at 500 i
    rw [h1]
    simp [World.cell?, hC, hM i hi]⟩
  have HS := Lib.hid (fun W g (hC : W.heap[g]? = some (.cells M 5 (0, 0))) => split_good 3 Z500 500 hZl (some ⟨g, 0, none⟩) 500 W (by omega) (by omega) (by omega) (hRZ W g hC) (fun h => by cases h))
  have HK := Lib.hid (show cntS Z500.length = 2 by rw [hZl]; rfl)
  have HZ := Lib.hid hZl
  have HM1 := Lib.hid hmk1
  clear hmk0 hmk1 hM hRZ hZl HMK
  go_enter Try.func8, Try.ntmps8
  go_wp2_with fail
  refine (new_any w).mono ?_
  rintro e w1 ⟨t, rfl, hT, hb1⟩
  obtain ⟨W1, hmk, hC, hb2⟩ := HM1.out w1
  have HT := Lib.hid (hT.keep hb2)
  have HB := Lib.hid (hb1.trans (hb2.mono hb1.size))
  have HSP := Lib.hid (HS.out W1 _ hC)
  clear hT hb1 hb2 hC
  go_wp2_with fail
  refine HSP.out.mono ?_
  rintro e w2 ⟨A2, rfl, hP2, hb2⟩
  rw [HK.out]
  have HT2 := Lib.hid (HT.out.keep hb2)
  have HB2 := Lib.hid (HB.out.trans (hb2.mono HB.out.size))
  have hl2 : (splitS 3 Z500).length = 2 := by rw [splitS_length, HK.out]
  obtain ⟨b, off, rfl, hbl, hcs⟩ := hP2 (by omega)
  obtain ⟨a0, a1, a2, A0, c0, a3, hR0, _, _, hA0⟩ := hcs 0 (by omega)
  obtain ⟨b0, b1, b2, A1, c1, b3, hR1, _, _, hA1⟩ := hcs 1 (by omega)
  have e0 : pAt (splitS 3 Z500) 0 = partS 3 Z500 2 0 := by rw [splitS_at (by rw [HK.out]; omega), HK.out]
  have e1 : pAt (splitS 3 Z500) 1 = partS 3 Z500 2 1 := by rw [splitS_at (by rw [HK.out]; omega), HK.out]
  have l0 : (partS 3 Z500 2 0).d.length = 480 := by rw [partS_length (by rw [HK.out]; omega), HZ.out]; rfl
  have l1 : (partS 3 Z500 2 1).d.length = 20 := by rw [partS_length (by rw [HK.out]; omega), HZ.out]; rfl
  rw [e0] at a0 a1 a2 a3 hR0
  rw [e1] at b0 b1 b2 b3 hR1
  rw [l0] at a3
  rw [l1] at b3
  obtain ⟨d0, hd0⟩ : ∃ d, d = (partS 3 Z500 2 0).d := ⟨_, rfl⟩
  obtain ⟨d1, hd1⟩ : ∃ d, d = (partS 3 Z500 2 1).d := ⟨_, rfl⟩
  rw [← hd0] at l0 hR0
  rw [← hd1] at l1 hR1
  simp only [partS] at a0 a1 a2 b0 b1 b2
  have hbt : b ≠ t := HT2.out.ne a3 ⟨fun i e => (by cases e), fun m e => (by cases e)⟩
  have HP1 := Lib.hid (alive_put1 HT2.out d1 l1 A1 c1 hA1 hR1 HB2.out.size)
  have HL0 := Lib.hid l0
  have HL1 := Lib.hid l1
  have HR0 := Lib.hid hR0
  have HA0 := Lib.hid hA0
  have HBT := Lib.hid hbt
  have HCA := Lib.hid (And.intro a0 (And.intro a1 (And.intro a2 a3)))
  clear hP2 hb2 hcs hR1 hA1 e0 e1 hd0 hd1 l0 l1 hl2 hR0 hA0 hbt
  go_wp2_with fail
  refine HP1.out.mono ?_
  rintro e w3 ⟨g, rfl, hT3, hg3, hr3, hb3⟩
  have hbg : b ≠ g := by have := hbl; omega
  obtain ⟨a0, a1, a2, a3⟩ := HCA.out
  have a0' : w3.cell? ⟨b, off, none⟩ = _ := hr3.cell (p := ⟨b, off + 0 * 4, none⟩) HBT.out hbg a0
  have a1' : w3.cell? ⟨b, off + 1, none⟩ = _ := hr3.cell (p := ⟨b, off + 0 * 4 + 1, none⟩) HBT.out hbg a1
  have a2' : w3.cell? ⟨b, off + 2, none⟩ = _ := hr3.cell (p := ⟨b, off + 0 * 4 + 2, none⟩) HBT.out hbg a2
  have a3' : w3.cell? ⟨b, off + 3, none⟩ = _ := hr3.cell (p := ⟨b, off + 0 * 4 + 3, none⟩) HBT.out hbg a3
  have hR3 := HR0.out.rows HT2.out hg3 hr3
  have HT3 := Lib.hid hT3
  have HB3 := Lib.hid (HB2.out.trans (hb3.mono (Nat.le_refl _)))
  have HP2 := Lib.hid (alive_put2 hT3 HL1.out d0 HL0.out A0 c0 HA0.out hR3 HB3.out.size)
  have HBG := Lib.hid hbg
  have HCB := Lib.hid (And.intro a0' (And.intro a1' (And.intro a2' a3')))
  clear hg3 hT3 hr3 hb3 hbg hR3 a0 a1 a2 a3 b0 b1 b2 b3 hbl HP1 HCA HR0
  go_wp2_with fail
  refine HP2.out.mono ?_
  rintro e w4 ⟨v4, xs, rfl, hv4, hT4, hr4, hb4⟩
  obtain ⟨A4, c4, rfl, _, _, _⟩ := own_slice hv4
  obtain ⟨a0, a1, a2, a3⟩ := HCB.out
  have a0' : w4.cell? ⟨b, off, none⟩ = _ := hr4.cell (p := ⟨b, off + 0 * 4, none⟩) HBT.out HBG.out a0
  have a1' : w4.cell? ⟨b, off + 1, none⟩ = _ := hr4.cell (p := ⟨b, off + 0 * 4 + 1, none⟩) HBT.out HBG.out a1
  have a2' : w4.cell? ⟨b, off + 2, none⟩ = _ := hr4.cell (p := ⟨b, off + 0 * 4 + 2, none⟩) HBT.out HBG.out a2
  have a3' : w4.cell? ⟨b, off + 3, none⟩ = _ := hr4.cell (p := ⟨b, off + 0 * 4 + 3, none⟩) HBT.out HBG.out a3
  have HT4 := Lib.hid hT4
  have HB4 := Lib.hid (HB3.out.trans hb4)
  have HP3 := Lib.hid (alive_put3 hT4 A0 c0)
  clear a0 a1 a2 a3 hT4 hb4 hr4 hv4
  go_wp2_with fail
  refine HP3.out.mono ?_
  rintro e w5 ⟨rfl, hb5⟩
  have HT5 := Lib.hid (HT4.out.keep hb5)
  have HB5 := Lib.hid (HB4.out.trans (hb5.mono HB4.out.size))
  clear a0' a1' a2' a3' hb5
  go_wp2_with (first
    | (go_at_call 14; refine (floor_any HT5.out).mono ?_; rintro e w' ⟨rfl, rfl⟩)
    | (go_at_call 12; refine (waits_any HT5.out).mono ?_; rintro e w6 ⟨v6, rfl, hrow, hnil, hb6⟩; have HB6 := Lib.hid (HB5.out.trans (hb6.mono HB5.out.size)); obtain ⟨A6, c6, rfl, _, _, _⟩ := own_slice hrow; clear hrow hnil hb6))
  go_ret
  exact ⟨rfl, HB6.out⟩
end Go.Proofs.Ytikijkhblfgbpaa
