/-
  Proved here: AnsiCancels.
-/
import Derived.Test.YtohhmpkmcodoeaaEp
import Derived.BigRegion
set_option linter.unusedSimpArgs false
set_option linter.unusedVariables false
namespace Go.Proofs.Ytohhmpkmcodoeaa
open Go.RowKit
/-- A far place of a long list, sixteen steps at once. -/
theorem set16 {α : Type} (x0 x1 x2 x3 x4 x5 x6 x7 x8 x9 x10 x11 x12 x13 x14 x15 : α) (l : List α) (n : Nat) (v : α) : (x0 :: x1 :: x2 :: x3 :: x4 :: x5 :: x6 :: x7 :: x8 :: x9 :: x10 :: x11 :: x12 :: x13 :: x14 :: x15 :: l).set (n + 16) v = x0 :: x1 :: x2 :: x3 :: x4 :: x5 :: x6 :: x7 :: x8 :: x9 :: x10 :: x11 :: x12 :: x13 :: x14 :: x15 :: l.set n v := rfl
theorem feed24 (s : PP) : feedsP s [24] = (beginP 0, []) := rfl
/-- A point that is printed. -/
def PrintOk (r : Int) : Prop := noneS r = false ∧ 32 ≤ r
theorem print_ok {r : Int} (h1 : 32 ≤ r) (h2 : r ≤ 1114111) (h3 : ¬ (55296 ≤ r ∧ r ≤ 57343)) (h4 : r ≠ 127) : PrintOk r := by
  refine ⟨?_, h1⟩
  have hp : isP r = true := isP_iff.2 (by omega)
  unfold noneS
  rw [hp]
  simpa using h4
/-- What begins with points that are printed begins with their prints. -/
theorem print_at {l : List Int} {i : Nat} (hi : i < l.length) (h : ∀ j, j ≤ i → PrintOk (l.getD j 0)) : i < (feedsS [] l).2.length ∧ (feedsS [] l).2.getD i evZ = ⟨1, l.getD i 0, 0, 0, 0, [], []⟩ := by
  have ht : ∀ r ∈ l.take (i + 1), noneS r = false ∧ 32 ≤ r := fun r hr => by
    obtain ⟨j, hj, rfl⟩ := List.getElem_of_mem hr
    rw [List.length_take] at hj
    have := h j (by omega)
    simpa [PrintOk, List.getD, show j < l.length by omega] using this
  have ha := feeds_app (l.take (i + 1)) (l.drop (i + 1)) []
  rw [List.take_append_drop, feeds_text ht] at ha
  rw [ha]
  have hl : i < ((l.take (i + 1)).map fun r => (⟨1, r, 0, 0, 0, [], []⟩ : Ev)).length := by rw [List.length_map, List.length_take]; omega
  refine ⟨?_, ?_⟩
  · dsimp only
    rw [List.length_append]; omega
  · dsimp only
    simp only [List.getD]
    rw [List.getElem?_append_left hl]
    simp [hi]
theorem print_all {l : List Int} (h : ∀ j, j < l.length → PrintOk (l.getD j 0)) : (feedsS [] l).2.length = l.length := by
  have ht : ∀ r ∈ l, noneS r = false ∧ 32 ≤ r := fun r hr => by
    obtain ⟨j, hj, rfl⟩ := List.getElem_of_mem hr
    have := h j hj
    simpa [PrintOk, List.getD, hj] using this
  rw [feeds_text ht]
  simp
set_option maxRecDepth 100000 in
set_option maxHeartbeats 8000000 in
theorem cancels_any {w : World} {A A0 : Option Addr} {n cp m cm : Nat} {l ms : List Int} (hR : RI .i32 w A l) (hl : l.length = n) (hcp : n ≤ cp) (hR2 : RI .i32 w A0 ms) (hl2 : ms.length = m) (hcm : m ≤ cm) (hmx : n ≤ maxLen) (hmx2 : m ≤ maxLen) :
    Calls Try.prog 6 #[.slice A n cp, .slice A0 m cm] w fun e w' => e = .returned (.bool true) ∧ Below w.heap.size w w' := by
  have HAL := Lib.hid (fun U => alive_any U)
  unfold maxLen at hmx hmx2
  have HR := Lib.hid hR
  have HLL := Lib.hid (fun (_ : Unit) => hl)
  have HR2 := Lib.hid hR2
  have HL2 := Lib.hid (fun (_ : Unit) => hl2)
  clear hR hl hR2 hl2
  by_cases h1 : 1500 < n
  · have e1 : decide (1500 < (n : Int)) = true := decide_eq_true (by omega)
    clear h1
    go_enter Try.func6, Try.ntmps6
    go_wp2_with fail
    refine (HAL.out _).mono ?_
    rintro e wx ⟨rfl, hx⟩
    have HX := Lib.hid hx
    clear hx
    go_wp2
    go_ret
    exact ⟨rfl, HX.out⟩
  have e1 : decide (1500 < (n : Int)) = false := decide_eq_false (by omega)
  by_cases h2 : 500 < m
  · have e2 : decide (500 < (m : Int)) = true := decide_eq_true (by omega)
    clear h1 h2
    go_enter Try.func6, Try.ntmps6
    go_wp2_with fail
    refine (HAL.out _).mono ?_
    rintro e wx ⟨rfl, hx⟩
    have HX := Lib.hid hx
    clear hx
    go_wp2
    go_ret
    exact ⟨rfl, HX.out⟩
  have e2 : decide (500 < (m : Int)) = false := decide_eq_false (by omega)
  have HB32 := Lib.hid (fun (h0 : 0 < n) (b o : Nat) (q : Option Nat) (e : A = some ⟨b, o, q⟩) => show b < w.heap.size from by
    obtain ⟨b', off, e', hlt, _⟩ := HR.out (by rw [HLL.out ()]; exact h0)
    rw [e] at e'
    injection e' with e'
    injection e' with e1 _ _
    rw [e1]; exact hlt)
  have HB33 := Lib.hid (fun (h0 : 0 < m) (b o : Nat) (q : Option Nat) (e : A0 = some ⟨b, o, q⟩) => show b < w.heap.size from by
    obtain ⟨b', off, e', hlt, _⟩ := HR2.out (by rw [HL2.out ()]; exact h0)
    rw [e] at e'
    injection e' with e'
    injection e' with e1 _ _
    rw [e1]; exact hlt)
  have HNM := Lib.hid (show n ≤ 1500 ∧ m ≤ 500 ∧ n ≤ cp ∧ m ≤ cm from ⟨by omega, by omega, hcp, hcm⟩)
  clear h1 h2
  go_enter Try.func6, Try.ntmps6
  go_wp2_with fail
  refine (new_calls w).mono ?_
  rintro e wx ⟨rfl, rfl⟩
  go_wp2_with fail
  refine (new_calls _).mono ?_
  rintro e wx ⟨rfl, rfl⟩
  have hnew := new_two (w := w)
  rw [show (w.alloc (.cells (qC (beginP 0) (.slice none 0 0) (.slice none 0 0)) 42)).heap.size = w.heap.size + 1 by simp]
  generalize ((w.alloc (.cells (qC (beginP 0) (.slice none 0 0) (.slice none 0 0)) 42)).alloc (.cells (qC (beginP 0) (.slice none 0 0) (.slice none 0 0)) 42)) = w2 at hnew ⊢
  obtain ⟨hp, hq, hb⟩ := hnew
  have HP2 := Lib.hid hp
  have HQ2 := Lib.hid hq
  have HB2 := Lib.hid hb
  have HF := Lib.hid (p_feed hp (good_begin 0 (by omega)) (A := A) (n := n) (cp := cp) (l := l) (RI.below HR.out hb) (HLL.out ()) (by have := HNM.out; omega) (by have := HNM.out; omega) (fun h0 b o q e => ⟨by have := HB32.out (by omega) b o q e; omega, by simp [Value.ownBlock], by simp [Value.ownBlock]⟩))
  clear hp hq hb
  go_wp2_with fail
  refine HF.out.mono ?_
  rintro e w3 ⟨vp, vt, v, es, rfl, hF, _⟩
  have hbb := (Below.refl w3.heap.size w3).alloc (Nat.le_refl _) (.cells (NV .i32 [24]).toArray 21)
  have hF3 := hF.below hbb
  have HG := Lib.hid (p_feed hF3.q (good_feeds _ (good_begin 0 (by omega))) (A := some ⟨w3.heap.size, 0, none⟩) (n := 1) (cp := 1) (RI.lit w3 [24] 21) rfl (by omega) (by omega) (fun _ b o q e => by
    injection e with e; injection e with e1; refine ⟨?_, ?_, ?_⟩
    · have := hF.q.lt; omega
    · intro e; have := own_lt hF.q.op e.symm; omega
    · intro e; have := own_lt hF.q.ot e.symm; omega))
  rw [feed24] at HG
  have HF3 := Lib.hid hF3
  clear hF hF3 hbb HF
  go_wp2_with fail
  refine HG.out.mono ?_
  generalize (w3.alloc (.cells (NV .i32 [24]).toArray 21)) = U3 at HF3 ⊢
  rintro e w4 ⟨vp2, vt2, v2, es2, rfl, hG, hM2⟩
  obtain rfl : es2 = [] := List.map_eq_nil_iff.1 hM2
  have hgw : w.heap.size < w2.heap.size := HP2.out.lt
  have hF4 := HF3.out.step hgw hG.q hG.f hG.sp hG.st
  obtain ⟨Az, cz, rfl, _⟩ := own_slice hG.own
  simp only [List.length_nil]
  have HF4 := Lib.hid hF4
  have HP4 := Lib.hid hG.q
  have hb4 := hF4.belowW (w0 := w) (Nat.le_refl _) ⟨_, HP2.out⟩ HB2.out
  have HB4 := Lib.hid hb4
  have HH := Lib.hid (p_feed hG.q (good_begin 0 (by omega)) (A := A0) (n := m) (cp := cm) (l := ms) (RI.below HR2.out hb4) (HL2.out ()) (by have := HNM.out; omega) (by have := HNM.out; omega) (fun h0 b o q e => by
    have hlt := HB33.out h0 b o q e
    refine ⟨by omega, fun e => ?_, fun e => ?_⟩
    · have := ownBlock_le hG.q.op b e.symm; omega
    · have := ownBlock_le hG.q.ot b e.symm; omega))
  clear hG hM2 hF4 hb4 HG HF3 hgw
  go_wp2_with fail
  refine (p_idle HP4.out).mono ?_
  rintro e wx ⟨rfl, rfl⟩
  rw [show ((beginP 0).pl == 0) = true from rfl]
  go_wp2_with fail
  refine HH.out.mono ?_
  rintro e w5 ⟨vp3, vt3, v3, es3, rfl, hH, hM3⟩
  have hgw : w.heap.size < w2.heap.size := HP2.out.lt
  have hF5 := HF4.out.step hgw hH.q hH.f hH.sp hH.st
  have hq5 := HQ2.out.other (vp2 := vp3) (vt2 := vt3) (s2 := beginP 0) hF5.f (by omega) (by omega)
  have hb5 := hF5.belowW (w0 := w) (Nat.le_refl _) ⟨_, HP2.out⟩ HB2.out
  have HI := Lib.hid (p_feed hq5 (good_begin 0 (by omega)) (A := A0) (n := m) (cp := cm) (l := ms) (RI.below HR2.out hb5) (HL2.out ()) (by have := HNM.out; omega) (by have := HNM.out; omega) (fun h0 b o q e => ⟨by have := HB33.out (by omega) b o q e; omega, by simp [Value.ownBlock], by simp [Value.ownBlock]⟩))
  have HE3 := Lib.hid (hH.evo (B := w.heap.size + 2) (Nat.le_trans HP2.out.big HF4.out.f.size))
  have HM3 := Lib.hid (fun (_ : Unit) => hM3)
  have HQ5 := Lib.hid hq5
  have HB5 := Lib.hid hb5
  have HSZ5 := Lib.hid (show w.heap.size + 2 ≤ w5.heap.size from Nat.le_trans HP2.out.big hF5.f.size)
  clear hH hM3 hF5 hq5 hb5 hgw HF4 HP4 HB4 HH
  go_wp2_with fail
  refine HI.out.mono ?_
  rintro e w6 ⟨vp4, vt4, v4, es4, rfl, hI, hM4⟩
  have hkb := hI.f.keepB (B := w.heap.size + 2) (by omega)
  have hb6 := hI.belowW (w0 := w) (by omega) ⟨_, HQ5.out⟩ HB5.out
  obtain ⟨Ab, cb, rfl, _, _, _, hqb, _⟩ := (HE3.out.keep hkb).evq
  obtain ⟨Ac, cc, rfl, _, hcc, _, hqc, _⟩ := (hI.evo (B := w.heap.size + 2) HSZ5.out).evq
  have hlen : es3.length = es4.length := by
    have h1 := congrArg List.length (HM3.out ())
    have h2 := congrArg List.length hM4
    rw [List.length_map] at h1 h2
    omega
  have hl4 : es4.length ≤ 500 := by
    have h2 := congrArg List.length hM4
    have h3 := feedsP_len ms (beginP 0)
    rw [List.length_map] at h2
    rw [HL2.out ()] at h3
    have := HNM.out
    omega
  rw [HM3.out ()] at hqb
  rw [hM4] at hqc
  have HALL := Lib.hid (all_true (n := es4.length) (ca := cb) (cb := cc) hqb.evr hqc.evr (by rw [← hM4, List.length_map]) (by omega) (fun i _ => ok_get (ok_feeds ms (good_begin 0 (by omega))) i))
  have HQC := Lib.hid hqc
  have HB6 := Lib.hid hb6
  have HL4 := Lib.hid (show (feedsP (beginP 0) ms).2.length = es4.length from by rw [← hM4, List.length_map])
  rw [hlen]
  obtain ⟨nc, hnc⟩ : ∃ k, es4.length = k := ⟨_, rfl⟩
  rw [hnc] at HALL HL4 hl4 ⊢
  have hff := (rel_feeds ms rel_zero (good_begin 0 (by omega))).2
  rw [hff] at HQC HL4
  have HFF := Lib.hid (fun (_ : Unit) => HL4.out)
  clear hI hM4 hkb hb6 hqb hqc hcc hlen hnc HI HE3 HM3 HQ5 HB5 HSZ5 HP2 HQ2 HB2 HR HLL HB32 hff HL4
  go_wp2_with fail
  refine HALL.out.mono ?_
  rintro e w7 ⟨rfl, hx⟩
  have HQ7 := Lib.hid (HQC.out.below hx)
  have HB7 := Lib.hid (HB6.out.trans (hx.mono HB6.out.size))
  clear hx HQC HB6 HALL
  go_wp2
  have HZ := Lib.hid (Below.refl w7.heap.size w7)
  go_loopw [14, 15] (fun kv iv wr => ∃ i : Nat, kv = .int .i64 i ∧ iv = .int .i64 i ∧ i ≤ m ∧ Hid (∀ j, j < i → PrintOk (ms.getD j 0)) ∧ Hid (Below w7.heap.size w7 wr)) (fun _ iv _ => m - (intOf iv).toNat)
  case atStart => exact ⟨0, rfl, rfl, by omega, Lib.hid (fun j hj => absurd hj (by omega)), HZ⟩
  case round =>
    obtain ⟨i, rfl, rfl, hi, HJ, HBW⟩ := hrel
    clear HZ
    by_cases hin : i < m
    · have d1 : decide ((i : Int) < (m : Int)) = true := by simp; omega
      have d1' : decide (i < m) = true := by simp; omega
      have g3 : (0 : Int) ≤ (i : Int) := by omega
      have g4 : (i : Int) < (m : Int) := by omega
      have w1 : IntKind.i64.wrap ((i : Int) + 1) = (i : Int) + 1 := IntWalk.i64_in _ (by have := HNM.out; omega)
      obtain ⟨bm, om, rfl, hbm, hcm'⟩ := HR2.out (by rw [HL2.out ()]; omega)
      have k0 := ((HBW.out.cell (p := ⟨bm, om + i, none⟩) (Nat.lt_of_lt_of_le hbm HB7.out.size)).trans (HB7.out.cell (p := ⟨bm, om + i, none⟩) hbm)).trans (hcm' i (by rw [HL2.out ()]; exact hin))
      obtain ⟨r, hr⟩ : ∃ x, ms.getD i 0 = x := ⟨_, rfl⟩
      rw [hr] at k0
      have HRI := Lib.hid (fun (_ : Unit) => hr)
      have HBX := Lib.hid (HB7.out.trans (HBW.out.mono HB7.out.size))
      clear hcm' hr hbm
      by_cases r32 : r < 32
      · have f1 : decide (r < 32) = true := by simpa using r32
        clear r32
        go_wp2_with fail
        refine (HAL.out _).mono ?_
        rintro e wx ⟨rfl, hx⟩
        have HX := Lib.hid (HBX.out.trans (hx.mono HBX.out.size))
        clear hx
        go_wp2
        go_ret
        exact ⟨rfl, HX.out⟩
      have f1 : decide (r < 32) = false := by simpa using r32
      by_cases r11 : 1114111 < r
      · have f2 : decide (1114111 < r) = true := by simpa using r11
        clear r32 r11
        go_wp2_with fail
        refine (HAL.out _).mono ?_
        rintro e wx ⟨rfl, hx⟩
        have HX := Lib.hid (HBX.out.trans (hx.mono HBX.out.size))
        clear hx
        go_wp2
        go_ret
        exact ⟨rfl, HX.out⟩
      have f2 : decide (1114111 < r) = false := by simpa using r11
      by_cases rd8 : 55296 ≤ r
      · have f3 : decide (55296 ≤ r) = true := by simpa using rd8
        by_cases rdf : r ≤ 57343
        · have f4 : decide (r ≤ 57343) = true := by simpa using rdf
          clear r32 r11 rd8 rdf
          go_wp2_with fail
          refine (HAL.out _).mono ?_
          rintro e wx ⟨rfl, hx⟩
          have HX := Lib.hid (HBX.out.trans (hx.mono HBX.out.size))
          clear hx
          go_wp2
          go_ret
          exact ⟨rfl, HX.out⟩
        have f4 : decide (r ≤ 57343) = false := by simpa using rdf
        have r127 : r ≠ 127 := by omega
        have f5 : (r == 127) = false := by simpa using r127
        have hpo := print_ok (by omega) (by omega) (fun e => rdf e.2) r127
        have hJ1 : ∀ j, j ≤ i → PrintOk (ms.getD j 0) := fun j hj => by
          rcases Nat.lt_or_ge j i with e | e
          · exact HJ.out j e
          · rw [show j = i by omega, HRI.out ()]; exact hpo
        have hpa := print_at (l := ms) (i := i) (by rw [HL2.out ()]; exact hin) hJ1
        rw [HFF.out (), HRI.out ()] at hpa
        obtain ⟨hlt, hev⟩ := hpa
        obtain ⟨bc, oc, rfl, _, hlc, hcc⟩ := HQ7.out (by rw [HFF.out ()]; omega)
        obtain ⟨Ax, cx, x0, x1, _⟩ := hcc i (by rw [HFF.out ()]; exact hlt)
        rw [hev] at x0 x1
        have y0 := (HBW.out.cell (p := ⟨bc, oc + i * 7, none⟩) hlc).trans x0
        have y1 := (HBW.out.cell (p := ⟨bc, oc + i * 7 + 1, none⟩) hlc).trans x1
        dsimp only at y0 y1
        have d7 : decide ((nc : Int) ≤ (i : Int)) = false := by simp; omega
        have d7' : decide (nc ≤ i) = false := by simp; omega
        have g5 : (i : Int) < (nc : Int) := by omega
        have zr : (r != r) = false := by simp
        have HJ' : Hid (∀ j, j < i + 1 → PrintOk (ms.getD j 0)) := Lib.hid (fun j hj => hJ1 j (by omega))
        have HBD := Lib.hid HBW.out.drew
        clear x0 x1 hev hlc hcc hJ1 hpo HJ HRI HBX hlt r127 r32 r11 rd8 rdf
        go_wp2
        have y0' : wr.drew.cell? ⟨bc, oc + i * 7, none⟩ = some (.int .i64 1) := y0
        have y1' : wr.drew.cell? ⟨bc, oc + i * 7 + 1, none⟩ = some (.int .i32 r) := y1
        have k0' : wr.drew.cell? ⟨bm, om + i, none⟩ = some (.int .i32 r) := k0
        go_big_region
        clear HBW y0 y1 k0 y0' y1' k0'
        go_wp2
        go_roundw
        case rel => exact ⟨i + 1, by go_num, by go_num, by omega, HJ', HBD⟩
        case measure => simp [intOf]; omega
      have f3 : decide (55296 ≤ r) = false := by simpa using rd8
      by_cases r127 : r = 127
      · have f5 : (r == 127) = true := by simpa using r127
        clear r32 r11 rd8 r127
        go_wp2_with fail
        refine (HAL.out _).mono ?_
        rintro e wx ⟨rfl, hx⟩
        have HX := Lib.hid (HBX.out.trans (hx.mono HBX.out.size))
        clear hx
        go_wp2
        go_ret
        exact ⟨rfl, HX.out⟩
      have f5 : (r == 127) = false := by simpa using r127
      have hpo := print_ok (by omega) (by omega) (fun e => rd8 e.1) r127
      have hJ1 : ∀ j, j ≤ i → PrintOk (ms.getD j 0) := fun j hj => by
        rcases Nat.lt_or_ge j i with e | e
        · exact HJ.out j e
        · rw [show j = i by omega, HRI.out ()]; exact hpo
      have hpa := print_at (l := ms) (i := i) (by rw [HL2.out ()]; exact hin) hJ1
      rw [HFF.out (), HRI.out ()] at hpa
      obtain ⟨hlt, hev⟩ := hpa
      obtain ⟨bc, oc, rfl, _, hlc, hcc⟩ := HQ7.out (by rw [HFF.out ()]; omega)
      obtain ⟨Ax, cx, x0, x1, _⟩ := hcc i (by rw [HFF.out ()]; exact hlt)
      rw [hev] at x0 x1
      have y0 := (HBW.out.cell (p := ⟨bc, oc + i * 7, none⟩) hlc).trans x0
      have y1 := (HBW.out.cell (p := ⟨bc, oc + i * 7 + 1, none⟩) hlc).trans x1
      dsimp only at y0 y1
      have d7 : decide ((nc : Int) ≤ (i : Int)) = false := by simp; omega
      have d7' : decide (nc ≤ i) = false := by simp; omega
      have g5 : (i : Int) < (nc : Int) := by omega
      have zr : (r != r) = false := by simp
      have HJ' : Hid (∀ j, j < i + 1 → PrintOk (ms.getD j 0)) := Lib.hid (fun j hj => hJ1 j (by omega))
      have HBD := Lib.hid HBW.out.drew
      clear x0 x1 hev hlc hcc hJ1 hpo HJ HRI HBX hlt r127 r32 r11 rd8
      go_wp2
      have y0' : wr.drew.cell? ⟨bc, oc + i * 7, none⟩ = some (.int .i64 1) := y0
      have y1' : wr.drew.cell? ⟨bc, oc + i * 7 + 1, none⟩ = some (.int .i32 r) := y1
      have k0' : wr.drew.cell? ⟨bm, om + i, none⟩ = some (.int .i32 r) := k0
      go_big_region
      clear HBW y0 y1 k0 y0' y1' k0'
      go_wp2
      go_roundw
      case rel => exact ⟨i + 1, by go_num, by go_num, by omega, HJ', HBD⟩
      case measure => simp [intOf]; omega
    · obtain rfl : i = m := by omega
      have d1 : decide ((i : Int) < (i : Int)) = false := by simp
      have d1' : decide (i < i) = false := by simp
      have hpa := print_all (l := ms) (fun j hj => HJ.out j (by rw [HL2.out ()] at hj; exact hj))
      have hmm : i = nc := by rw [← HFF.out (), hpa, HL2.out ()]
      have HBX := Lib.hid (HB7.out.trans (HBW.out.mono HB7.out.size))
      subst hmm
      have z9 : ((i : Int) == (i : Int)) = true := by simp
      clear hpa HJ hin
      go_wp2_with fail
      refine (HAL.out _).mono ?_
      rintro e wx ⟨rfl, hx⟩
      have HX := Lib.hid (HBX.out.trans (hx.mono HBX.out.size))
      clear hx
      go_wp2
      go_ret
      exact ⟨rfl, HX.out⟩
end Go.Proofs.Ytohhmpkmcodoeaa
