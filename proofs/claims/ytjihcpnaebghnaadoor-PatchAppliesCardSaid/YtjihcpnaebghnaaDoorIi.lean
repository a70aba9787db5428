/-
  Proved here: of the program's views: Same.
-/
import Derived.Test.YtjihcpnaebghnaaDoorIg
set_option linter.unusedSimpArgs false
set_option linter.unusedVariables false
namespace Go.Proofs.YtjihcpnaebghnaaDoor
open Go.RowKit
theorem take_step {L M : List Ce} {i : Nat} (hL : i < L.length) (hM : i < M.length) (h : L.take i = M.take i) (e : ceAt L i = ceAt M i) : L.take (i + 1) = M.take (i + 1) := by
  rw [List.take_succ_eq_append_getElem hL, List.take_succ_eq_append_getElem hM, h]
  have e1 : ceAt L i = L[i] := by simp [ceAt, List.getD, hL]
  have e2 : ceAt M i = M[i] := by simp [ceAt, List.getD, hM]
  rw [← e1, ← e2, e]
set_option maxRecDepth 100000 in
set_option maxHeartbeats 8000000 in
theorem p_equalc {w : World} {A A2 : Option Addr} {n n2 cap cap2 : Nat} {L M : List Ce} (hA : CR w A L) (hA2 : CR w A2 M) (hL : L.length = n) (hM : M.length = n2) (hn : n ≤ 9223372036854775807) :
    Calls Tryd.prog 54 #[.slice A n cap, .slice A2 n2 cap2] w fun e w' => e = .returned (.bool (decide (L = M))) ∧ Below w.heap.size w w' := by
  obtain ⟨D, hD⟩ : ∃ D, decide (L = M) = D := ⟨_, rfl⟩
  rw [hD]
  have HD1 := Lib.hid (fun (h : L = M) => show true = D by rw [← hD]; simp [h])
  have HD2 := Lib.hid (fun (h : L ≠ M) => show false = D by rw [← hD]; simp [h])
  by_cases hnn : n = n2
  · subst hnn
    have HA := Lib.hid hA
    have HA2 := Lib.hid hA2
    have HL := Lib.hid hL
    have HM := Lib.hid hM
    have HNN := Lib.hid hn
    have HZ := Lib.hid (And.intro (Below.refl w.heap.size w) (show L.take 0 = M.take 0 from rfl))
    have zz : ((n : Int) != (n : Int)) = false := by simp
    clear hA hA2 hL hM hD hn
    go_enter Tryd.func54, Tryd.ntmps54
    go_wp2
    go_loopw [13] (fun kv wr => ∃ i : Nat, kv = .int .i64 i ∧ i ≤ n ∧ Hid (Below w.heap.size w wr ∧ L.take i = M.take i)) (fun kv _ => n - (intOf kv).toNat)
    case atStart => exact ⟨0, rfl, by omega, HZ⟩
    case round =>
      obtain ⟨i, rfl, hi, HS⟩ := hrel
      clear HZ zz
      by_cases hin : i < n
      · have d1 : decide ((i : Int) < (n : Int)) = true := by simp; omega
        have d1' : decide (i < n) = true := by simp; omega
        have g3 : (0 : Int) ≤ (i : Int) := by omega
        have g4 : (i : Int) < (n : Int) := by omega
        have w1 : IntKind.i64.wrap ((i : Int) + 1) = (i : Int) + 1 := IntWalk.i64_in _ (by have := HNN.out; omega)
        have hiL : i < L.length := by rw [HL.out]; exact hin
        have hiM : i < M.length := by rw [HM.out]; exact hin
        have hbd := HS.out.1.drew
        obtain ⟨b, off, rfl, hbl, hc⟩ := HA.out (by omega)
        obtain ⟨b2, off2, rfl, hbl2, hc2⟩ := HA2.out (by omega)
        have hx := hc i hiL
        have hy := hc2 i hiM
        have HTK := Lib.hid (fun (e : ceAt L i = ceAt M i) => take_step hiL hiM HS.out.2 e)
        have HNE := Lib.hid (fun (e : ceAt L i ≠ ceAt M i) => HD2.out (fun h => e (by subst h; rfl)))
        have HBD := Lib.hid hbd
        obtain ⟨⟨p, f, gg, bb⟩, hu⟩ : ∃ u, ceAt L i = u := ⟨_, rfl⟩
        obtain ⟨⟨p', f', gg', bb'⟩, hv⟩ : ∃ v, ceAt M i = v := ⟨_, rfl⟩
        rw [hu] at hx HTK HNE
        rw [hv] at hy HTK HNE
        obtain ⟨x0, x1, x2, x3⟩ := ce_four (fun j v h => (hbd.cell (p := ⟨b, off + i * 4 + j, none⟩) hbl).trans (hx j v h))
        obtain ⟨y0, y1, y2, y3⟩ := ce_four (fun j v h => (hbd.cell (p := ⟨b2, off2 + i * 4 + j, none⟩) hbl2).trans (hy j v h))
        clear hbd HA HA2 HL HM HD1 HD2 HS hu hv hx hy hc hc2 hbl hbl2 hiL hiM
        have HEC := fun W => eq_ce p f gg bb p' f' gg' bb' W
        by_cases he : (⟨p, f, gg, bb⟩ : Ce) = ⟨p', f', gg', bb'⟩
        · have HS2 := Lib.hid (And.intro HBD.out (HTK.out he))
          simp only [decide_eq_true he] at HEC
          clear HTK HNE HBD
          go_wp2
          go_big_region
          clear he HEC x0 x1 x2 x3 y0 y1 y2 y3
          go_wp2
          go_roundw
          case rel => exact ⟨i + 1, by go_num, by omega, HS2⟩
          case measure => simp [intOf]; omega
        · have HDD := Lib.hid (fun (_ : Unit) => HNE.out he)
          simp only [decide_eq_false he] at HEC
          clear HTK HNE
          go_wp2
          go_big_region
          clear he HEC x0 x1 x2 x3 y0 y1 y2 y3
          go_wp2
          go_ret
          have hD := HDD.out ()
          exact ⟨by rw [← hD]; rfl, HBD.out⟩
      · have d1 : decide ((i : Int) < (n : Int)) = false := by simp; omega
        have d1' : decide (i < n) = false := by simp; omega
        have HV := Lib.hid (HD1.out (by
          have hz := HS.out.2
          have e1 := HL.out
          have e2 := HM.out
          rwa [List.take_of_length_le (by omega), List.take_of_length_le (by omega)] at hz))
        have HBF := Lib.hid HS.out.1
        clear hi hin
        go_wp2
        go_ret
        have hD := HV.out
        exact ⟨by rw [← hD]; rfl, HBF.out⟩
  · have zz : ((n : Int) != (n2 : Int)) = true := by simp; omega
    have HV := Lib.hid (HD2.out (fun h => hnn (by rw [← hL, ← hM, h])))
    clear hA hA2 hL hM hD hnn
    go_enter Tryd.func54, Tryd.ntmps54
    go_wp2
    go_ret
    have hD := HV.out
    exact ⟨by rw [← hD]; rfl, Below.refl _ _⟩
/-- Views are equal. -/
def sameW (R C row col : Int) (vis : Bool) (L : List Ce) (R2 C2 row2 col2 : Int) (vis2 : Bool) (M : List Ce) : Bool := decide (R = R2) && decide (C = C2) && decide (row = row2) && decide (col = col2) && decide (vis = vis2) && decide (L = M)
set_option maxRecDepth 100000 in
set_option maxHeartbeats 8000000 in
theorem p_viewsame {w : World} {A A2 : Option Addr} {n n2 cap cap2 : Nat} {L M : List Ce} (hA : CR w A L) (hA2 : CR w A2 M) (hL : L.length = n) (hM : M.length = n2) (hn : n ≤ 9223372036854775807) (R C row col R2 C2 row2 col2 : Int) (vis vis2 : Bool) :
    Calls Tryd.prog 25 #[vV R C A n cap row col vis, vV R2 C2 A2 n2 cap2 row2 col2 vis2] w fun e w' => e = .returned (.bool (sameW R C row col vis L R2 C2 row2 col2 vis2 M)) ∧ Below w.heap.size w w' := by
  generalize hW : sameW R C row col vis L R2 C2 row2 col2 vis2 M = W
  have HW := Lib.hid hW
  have HEQ := Lib.hid (fun (X : World) (hX : Below w.heap.size w X) => p_equalc (cap := cap) (cap2 := cap2) (hA.below hX) (hA2.below hX) hL hM hn)
  have hba := (Below.refl w.heap.size w).alloc (Nat.le_refl _) (.cells #[.int .i64 R, .int .i64 C, .slice A n cap, .int .i64 row, .int .i64 col, .bool vis] 24)
  have hbb := (Below.refl (w.alloc (.cells #[.int .i64 R, .int .i64 C, .slice A n cap, .int .i64 row, .int .i64 col, .bool vis] 24)).heap.size (w.alloc (.cells #[.int .i64 R, .int .i64 C, .slice A n cap, .int .i64 row, .int .i64 col, .bool vis] 24))).alloc (Nat.le_refl _) (.cells #[.int .i64 R2, .int .i64 C2, .slice A2 n2 cap2, .int .i64 row2, .int .i64 col2, .bool vis2] 24)
  have HB0 := hba.trans (hbb.mono hba.size)
  have HC0 := (hbb.block w.heap.size (by simp)).trans (heap_alloc_new w (.cells #[.int .i64 R, .int .i64 C, .slice A n cap, .int .i64 row, .int .i64 col, .bool vis] 24))
  have HC1 := heap_alloc_new (w.alloc (.cells #[.int .i64 R, .int .i64 C, .slice A n cap, .int .i64 row, .int .i64 col, .bool vis] 24)) (.cells #[.int .i64 R2, .int .i64 C2, .slice A2 n2 cap2, .int .i64 row2, .int .i64 col2, .bool vis2] 24)
  obtain ⟨vb, hvb⟩ : ∃ b, w.heap.size = b := ⟨_, rfl⟩
  rw [show (w.alloc (.cells #[.int .i64 R, .int .i64 C, .slice A n cap, .int .i64 row, .int .i64 col, .bool vis] 24)).heap.size = w.heap.size + 1 by simp] at HC1
  clear hW hA hA2 hL hM hn hba hbb
  go_enter Tryd.func25, Tryd.ntmps25
  go_upto_region 1 with fail
  simp only [hvb] at HC0 HC1 ⊢
  generalize ((w.alloc (.cells #[.int .i64 R, .int .i64 C, .slice A n cap, .int .i64 row, .int .i64 col, .bool vis] 24)).alloc (.cells #[.int .i64 R2, .int .i64 C2, .slice A2 n2 cap2, .int .i64 row2, .int .i64 col2, .bool vis2] 24)) = U at HB0 HC0 HC1 ⊢
  obtain ⟨x0, x1, x2, x3, x4, x5⟩ := six_cells HC0
  obtain ⟨y0, y1, y2, y3, y4, y5⟩ := six_cells HC1
  have HB := Lib.hid HB0
  clear HB0 HC0 HC1 hvb
  by_cases h0 : R = R2
  · have p0 : (R == R2) = true := by simpa using h0
    have p0' : decide (R = R2) = true := by simpa using h0
    by_cases h1 : C = C2
    · have p1 : (C == C2) = true := by simpa using h1
      have p1' : decide (C = C2) = true := by simpa using h1
      by_cases h2 : row = row2
      · have p2 : (row == row2) = true := by simpa using h2
        have p2' : decide (row = row2) = true := by simpa using h2
        by_cases h3 : col = col2
        · have p3 : (col == col2) = true := by simpa using h3
          have p3' : decide (col = col2) = true := by simpa using h3
          by_cases h4 : vis = vis2
          · have p4 : (vis == vis2) = true := by simpa using h4
            have p4' : decide (vis = vis2) = true := by simpa using h4
            have HV := Lib.hid (show W = decide (L = M) from by rw [← HW.out]; unfold sameW; simp [h0, h1, h2, h3, h4])
            clear h0 h1 h2 h3 h4
            go_wp2_with fail
            refine (HEQ.out _ HB.out).mono ?_
            rintro e w1 ⟨rfl, b1⟩
            have HB1 := Lib.hid (HB.out.trans (b1.mono HB.out.size))
            clear b1
            go_wp2
            go_ret
            exact ⟨by rw [HV.out]; rfl, HB1.out⟩
          · have p4 : (vis == vis2) = false := by simpa using h4
            have p4' : decide (vis = vis2) = false := by simpa using h4
            have HV := Lib.hid (show W = false from by rw [← HW.out]; unfold sameW; simp [h4])
            clear h0 h1 h2 h3 h4
            go_wp2
            go_ret
            exact ⟨by rw [HV.out]; rfl, HB.out⟩
        · have p3 : (col == col2) = false := by simpa using h3
          have p3' : decide (col = col2) = false := by simpa using h3
          have HV := Lib.hid (show W = false from by rw [← HW.out]; unfold sameW; simp [h3])
          clear h0 h1 h2 h3
          go_wp2
          go_ret
          exact ⟨by rw [HV.out]; rfl, HB.out⟩
      · have p2 : (row == row2) = false := by simpa using h2
        have p2' : decide (row = row2) = false := by simpa using h2
        have HV := Lib.hid (show W = false from by rw [← HW.out]; unfold sameW; simp [h2])
        clear h0 h1 h2
        go_wp2
        go_ret
        exact ⟨by rw [HV.out]; rfl, HB.out⟩
    · have p1 : (C == C2) = false := by simpa using h1
      have p1' : decide (C = C2) = false := by simpa using h1
      have HV := Lib.hid (show W = false from by rw [← HW.out]; unfold sameW; simp [h1])
      clear h0 h1
      go_wp2
      go_ret
      exact ⟨by rw [HV.out]; rfl, HB.out⟩
  · have p0 : (R == R2) = false := by simpa using h0
    have p0' : decide (R = R2) = false := by simpa using h0
    have HV := Lib.hid (show W = false from by rw [← HW.out]; unfold sameW; simp [h0])
    clear h0
    go_wp2
    go_ret
    exact ⟨by rw [HV.out]; rfl, HB.out⟩
end Go.Proofs.YtjihcpnaebghnaaDoor
