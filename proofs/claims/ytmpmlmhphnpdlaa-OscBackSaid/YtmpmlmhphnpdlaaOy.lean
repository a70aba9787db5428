/-
  Proved here: OscBack.
-/
import Derived.Test.YtmpmlmhphnpdlaaOu
import Derived.Deep.DeepCutAuto
import Derived.BigRegion
set_option linter.unusedSimpArgs false
set_option linter.unusedVariables false
namespace Go.Proofs.Ytmpmlmhphnpdlaa
open Go.RowKit
theorem str_mid (t : List Int) (i j : Nat) : (strOfNums t).extract i (i + j) = strOfNums ((t.drop i).take j) := by
  apply ByteArray.ext
  apply Array.ext'
  simp [strOfNums, ByteArray.data_extract, List.map_take, List.map_drop]
set_option maxRecDepth 100000 in
set_option maxHeartbeats 16000000 in
theorem back_any {w : World} {k : Int} {d : List Int} (hd : IsBytes d) (hdm : d.length ≤ 9223372036854775807) {t : List Int} (ht : IsBytes t) (htm : t.length ≤ 9223372036854775807) (most : Int) (hm : -9223372036854775808 ≤ most ∧ most < 9223372036854775808) :
    Calls Try.prog 9 #[.agg #[.int .i64 k, .string (strOfNums d)], .string (strOfNums t), .int .i64 most] w fun e w' => e = .returned (.bool true) ∧ Below w.heap.size w w' := by
  have HAL := Lib.hid (fun U => alive_any U)
  have hsz := strOfNums_size d
  have hsz2 := strOfNums_size t
  obtain ⟨nd, hnd⟩ : ∃ n, d.length = n := ⟨_, rfl⟩
  obtain ⟨n, hn⟩ : ∃ n, t.length = n := ⟨_, rfl⟩
  rw [hnd] at hsz hdm
  rw [hn] at hsz2 htm
  by_cases h1 : 400 < nd
  · have d1 : decide ((400 : Int) < (nd : Int)) = true := by simp; omega
    have d1' : decide (400 < nd) = true := by simp; omega
    clear hd ht hn hnd hm
    generalize strOfNums d = D at hsz ⊢
    generalize strOfNums t = s at hsz2 ⊢
    go_enter Try.func9, Try.ntmps9
    go_wp2_with fail
    refine (HAL.out _).mono ?_
    rintro e wx ⟨rfl, hx⟩
    have HX := Lib.hid (Below.trans ((Below.refl w.heap.size w).alloc (Nat.le_refl _) _) (hx.mono (by simp)))
    clear hx
    go_wp2
    go_ret
    exact ⟨rfl, HX.out⟩
  have d1 : decide ((400 : Int) < (nd : Int)) = false := by simp; omega
  have d1' : decide (400 < nd) = false := by simp; omega
  by_cases h2 : 1500 < n
  · have d2 : decide ((1500 : Int) < (n : Int)) = true := by simp; omega
    have d2' : decide (1500 < n) = true := by simp; omega
    clear hd ht hn hnd hm
    generalize strOfNums d = D at hsz ⊢
    generalize strOfNums t = s at hsz2 ⊢
    go_enter Try.func9, Try.ntmps9
    go_wp2_with fail
    refine (HAL.out _).mono ?_
    rintro e wx ⟨rfl, hx⟩
    have HX := Lib.hid (Below.trans ((Below.refl w.heap.size w).alloc (Nat.le_refl _) _) (hx.mono (by simp)))
    clear hx
    go_wp2
    go_ret
    exact ⟨rfl, HX.out⟩
  have d2 : decide ((1500 : Int) < (n : Int)) = false := by simp; omega
  have d2' : decide (1500 < n) = false := by simp; omega
  have hn15 : n ≤ 1500 := by omega
  have HWR := Lib.hid (fun (W : World) => owrite_any (w := W) (k := k) hd (by omega))
  have HRB : Hid ((writeA k d).2 = 0 → ∀ W : World, Calls Try.prog 36 #[.string (strOfNums (writeA k d).1)] W (AnPost ⟨k, d, 0⟩ W)) := Lib.hid (fun h W => by
    have hrw := read_write hd h
    have hb : IsBytes (writeA k d).1 ∧ (writeA k d).1.length ≤ 90000 := by
      rcases writeA_ok h with ⟨_, _, e⟩ | ⟨_, h6, e⟩
      · rw [e]
        exact ⟨fun x hx => by rcases List.mem_append.1 hx with h | h; (simp at h; omega); exact hd x h, by simp; omega⟩
      · rw [e]
        have hg := (good_write d hd).1
        refine ⟨fun x hx => ?_, by rw [List.length_append, write_len]; simp; omega⟩
        rcases List.mem_append.1 hx with h | h
        · simp at h; omega
        · exact write_bytes d hd x h
    have h := oread_any (w := W) hb.1 hb.2
    rw [hrw] at h
    exact h)
  have HRD := Lib.hid (fun (W : World) => oread_any (w := W) ht (by omega))
  have HCU := Lib.hid (fun (W : World) => ocut_any (w := W) ht (by omega) most hm)
  have HCC := Lib.hid (fun (W : World) => by
    have h := ocut_any (w := W) (ht.cut most) (by have := (cutS_len t most).1; omega) most hm
    rw [cutS_again] at h
    exact h)
  have HKD := Lib.hid (read_kinds t)
  have HMID := Lib.hid (fun j => str_mid t 2 j)
  have HAT := Lib.hid (fun (i : Nat) (hi : i < t.length) (h : i < (strOfNums t).size) => str_at ht hi h)
  obtain ⟨lc, hlc⟩ : ∃ n, (cutS t most).length = n := ⟨_, rfl⟩
  have hszc : (strOfNums (cutS t most)).size = lc := by rw [strOfNums_size, hlc]
  have hex : (strOfNums t).extract 0 lc = strOfNums (cutS t most) := by rw [str_take, ← hlc, ← (cutS_len t most).2]
  have hlcn : lc ≤ n := by have := (cutS_len t most).1; omega
  have HMO := Lib.hid (fun (h : lc < n) (h2 : 0 < lc) => show (lc : Int) ≤ most from by
    have := cutS_most t most (by omega) (by omega)
    omega)
  have HEN := Lib.hid (fun (_ : Unit) => show lc = n ∨ lc = 0 ∨ folB (t.getD lc 0) = false from by
    have := cutS_end t most
    rw [hlc, hn] at this
    exact this)
  have HN := Lib.hid (fun (_ : Unit) => hn)
  have HTB := Lib.hid ht
  obtain ⟨a, ha⟩ : ∃ a, readS t = a := ⟨_, rfl⟩
  rw [ha] at HKD HRD
  obtain ⟨k2, dd2, e2⟩ := a
  unfold AnPost AV at HRD HRB
  dsimp only at HRD HKD HRB
  obtain ⟨C, hC⟩ : ∃ C, strOfNums (cutS t most) = C := ⟨_, rfl⟩
  rw [hC] at HCU HCC hszc hex
  have hdl2 : (strOfNums dd2).size = dd2.length := strOfNums_size dd2
  obtain ⟨l2, hl2⟩ : ∃ n, dd2.length = n := ⟨_, rfl⟩
  rw [hl2] at hdl2
  have HK2 : Hid ((e2 = 0 ∧ k2 = 1 ∧ l2 ≤ 64 ∧ l2 + 2 ≤ n ∧ (strOfNums t).extract 2 (2 + l2) = strOfNums dd2) ∨ (e2 = 0 ∧ k2 = 2 ∧ l2 ≤ 256) ∨ (e2 ≠ 0 ∧ k2 = 0)) := Lib.hid (by
    rcases HKD.out with h | h | h
    · exact .inl ⟨h.1, h.2.1, by rw [← hl2]; exact h.2.2.1, by rw [← hl2, ← hn]; exact h.2.2.2.2.1, by rw [HMID.out, ← hl2, h.2.2.2.2.2]⟩
    · exact .inr (.inl ⟨h.1, h.2.1, by rw [← hl2]; exact h.2.2⟩)
    · exact .inr (.inr ⟨h.1, h.2.1⟩))
  clear HKD HMID ha hl2 hC hlc hn hnd ht hd h1 h2 hm
  generalize writeA k d = a at HWR HRB
  obtain ⟨T, er⟩ := a
  unfold WrPost at HWR
  dsimp only at HWR HRB
  generalize strOfNums T = TT at HWR HRB
  generalize strOfNums dd2 = D2 at HRD HK2 hdl2
  generalize strOfNums t = s at hsz2 HRD HCU HAT hex HK2 ⊢
  generalize strOfNums d = D at hsz HWR HRB ⊢
  have z1 : (k == k) = true := by simp
  have z3 : (D.toList == D.toList) = true := by simp
  go_enter Try.func9, Try.ntmps9
  go_wp2_with fail
  refine (HWR.out _).mono ?_
  rintro e w1 ⟨rfl, hb1⟩
  have HB1 := Lib.hid hb1
  have HBW1 := Lib.hid (Below.trans ((Below.refl w.heap.size w).alloc (Nat.le_refl _) _) (hb1.mono (by simp)))
  clear hb1 HWR d1 d1' d2 d2'
  go_upto_if 30 with fail
  go_cut [10] (fun _ wx => Hid (Below w.heap.size w wx))
  case first =>
    by_cases he : er = 0
    · subst he
      have HRX := Lib.hid (HRB.out rfl)
      go_wp2_with fail
      refine (HRX.out _).mono ?_
      rintro e w2 ⟨rfl, hb2⟩
      have b12 := HB1.out.trans (hb2.mono HB1.out.size)
      have kk := fun o => ask_cells (b12.alloc b12.size o)
      have k30 := fun o => (kk o).1
      have k31 := fun o => (kk o).2
      have HZ := Lib.hid (fun o => HBW1.out.trans ((hb2.alloc hb2.size o).mono HBW1.out.size))
      clear hb2 b12 kk HRX HRB
      go_wp2
      go_meet
      exact Lib.hid (HZ.out _)
    · have z4 : (er == 0) = false := by simpa using he
      clear he HRB
      go_wp2
      go_meet
      exact HBW1
  case rest =>
    have HBC := hcut
    clear HRB HB1 HBW1 hcut z1 z3
    go_wp2_with fail
    refine (HRD.out _).mono ?_
    rintro e w3 ⟨rfl, hb3⟩
    have HB3 := Lib.hid (fun o => HBC.out.trans ((hb3.alloc hb3.size o).mono HBC.out.size))
    have HB33 := Lib.hid (HB3.out (.cells #[.int .i64 k2, .string D2] 72))
    clear hb3 HRD HBC HB3
    go_upto_region 9 with fail
    go_cut [86] (fun b wx => b = .bool false ∧ wx = (w3.alloc (.cells #[.int .i64 k2, .string D2] 72)).drew)
    case first =>
      rcases HK2.out with ⟨rfl, rfl, q1, q2, q3⟩ | ⟨rfl, rfl, q1⟩ | ⟨q1, rfl⟩
      · have f1 : decide ((64 : Int) < (l2 : Int)) = false := by simp; omega
        have f1' : decide (64 < l2) = false := by simp; omega
        have f2 : IntKind.i64.wrap (2 + (l2 : Int)) = 2 + (l2 : Int) := IntWalk.i64_in _ (by omega)
        have f3 : (2 + (l2 : Int)).toNat = 2 + l2 := by omega
        have f4 : (2 : Int) ≤ 2 + (l2 : Int) := by omega
        have f5 : 2 + (l2 : Int) ≤ (n : Int) := by omega
        have f6 : (0 : Int) ≤ 2 + (l2 : Int) := by omega
        have f7 : (D2.toList == D2.toList) = true := by simp
        clear q1 q2 HK2
        go_big_region
        go_wp2
        go_meet
        exact ⟨rfl, rfl⟩
      · have f1 : decide ((256 : Int) < (l2 : Int)) = false := by simp; omega
        have f1' : decide (256 < l2) = false := by simp; omega
        clear q1 HK2
        go_big_region
        go_wp2
        go_meet
        exact ⟨rfl, rfl⟩
      · have f1 : (e2 == 0) = false := by simpa using q1
        clear q1 HK2
        go_big_region
        go_wp2
        go_meet
        exact ⟨rfl, rfl⟩
    case rest =>
      obtain ⟨rfl, rfl⟩ := hcut
      have HBX := Lib.hid (show Below w.heap.size w (w3.alloc (.cells #[.int .i64 k2, .string D2] 72)).drew from HB33.out.drew)
      clear HK2 hdl2 HB33
      generalize (w3.alloc (.cells #[.int .i64 k2, .string D2] 72)).drew = W4 at HBX ⊢
      have c0 : (0 : Int) ≤ (lc : Int) := by omega
      have c1 : (lc : Int) ≤ (n : Int) := by omega
      have c2 : decide ((n : Int) < (lc : Int)) = false := by simp; omega
      have c2' : decide (n < lc) = false := by simp; omega
      have c3 : (C.toList == C.toList) = true := by simp
      by_cases hlt : lc < n
      · have p1 : decide ((lc : Int) < (n : Int)) = true := by simp; omega
        have p1' : decide (lc < n) = true := by simp; omega
        have p2 : ((lc : Int) == (n : Int)) = false := by simp; omega
        have p2' : (lc == n) = false := by simp; omega
        have g4 : (lc : Int) < (n : Int) := by omega
        have hiz : lc < s.size := by omega
        have hat := HAT.out lc (by rw [HN.out ()]; exact hlt) hiz
        obtain ⟨x, hx⟩ : ∃ x : Nat, (s[lc]'hiz).toNat = x := ⟨_, rfl⟩
        rw [hx] at hat
        have hx3 : x < 128 ∨ (¬ x < 128 ∧ 191 < x) ∨ (¬ x < 128 ∧ ¬ 191 < x ∧ lc = 0) := by
          by_cases x1 : x < 128
          · exact .inl x1
          · by_cases x2 : 191 < x
            · exact .inr (.inl ⟨x1, x2⟩)
            · refine .inr (.inr ⟨x1, x2, ?_⟩)
              rcases HEN.out () with h | h | h
              · omega
              · exact h
              · rw [← hat] at h
                unfold folB at h
                simp at h
                omega
        have hmo : (lc : Int) ≤ most ∨ (¬ (lc : Int) ≤ most ∧ lc = 0) := by
          by_cases x1 : (lc : Int) ≤ most
          · exact .inl x1
          · exact .inr ⟨x1, by
              rcases Nat.eq_zero_or_pos lc with h | h
              · exact h
              · exact absurd (HMO.out hlt h) x1⟩
        have HX3 := Lib.hid hx3
        clear HEN HMO HAT HN HTB hat hx3
        rcases hmo with hmo | ⟨hmo, hl0⟩
        · have p3 : decide (most < (lc : Int)) = false := by simp; omega
          clear hmo
          go_wp2_with fail
          refine (HCU.out _).mono ?_
          rintro e wx ⟨rfl, rfl⟩
          go_wp2_with fail
          refine (HCC.out _).mono ?_
          rintro e wx ⟨rfl, rfl⟩
          clear HCU HCC
          rcases HX3.out with x1 | ⟨x1, x2⟩ | ⟨x1, x2, x3⟩
          · have y1 : decide ((x : Int) < 128) = true := by simp; omega
            have y1' : decide (x < 128) = true := by simp; omega
            clear HX3 x1
            go_wp2_with fail
            refine (HAL.out _).mono ?_
            rintro e w5 ⟨rfl, hb5⟩
            have HZ := Lib.hid (HBX.out.trans (hb5.mono HBX.out.size))
            clear hb5 HBX HAL
            go_wp2
            go_ret
            exact ⟨rfl, HZ.out⟩
          · have y1 : decide ((x : Int) < 128) = false := by simp; omega
            have y1' : decide (x < 128) = false := by simp; omega
            have y2 : decide ((191 : Int) < (x : Int)) = true := by simp; omega
            have y2' : decide (191 < x) = true := by simp; omega
            clear HX3 x1 x2
            go_wp2_with fail
            refine (HAL.out _).mono ?_
            rintro e w5 ⟨rfl, hb5⟩
            have HZ := Lib.hid (HBX.out.trans (hb5.mono HBX.out.size))
            clear hb5 HBX HAL
            go_wp2
            go_ret
            exact ⟨rfl, HZ.out⟩
          · have y1 : decide ((x : Int) < 128) = false := by simp; omega
            have y1' : decide (x < 128) = false := by simp; omega
            have y2 : decide ((191 : Int) < (x : Int)) = false := by simp; omega
            have y2' : decide (191 < x) = false := by simp; omega
            have y3 : ((lc : Int) == 0) = true := by simp; omega
            have y3' : (lc == 0) = true := by simp; omega
            clear HX3 x1 x2 x3
            go_wp2_with fail
            refine (HAL.out _).mono ?_
            rintro e w5 ⟨rfl, hb5⟩
            have HZ := Lib.hid (HBX.out.trans (hb5.mono HBX.out.size))
            clear hb5 HBX HAL
            go_wp2
            go_ret
            exact ⟨rfl, HZ.out⟩
        · have p3 : decide (most < (lc : Int)) = true := by simp; omega
          have p4 : decide ((0 : Int) < (lc : Int)) = false := by simp; omega
          have p4' : decide (0 < lc) = false := by simp; omega
          have HL0 := Lib.hid hl0
          clear hmo hl0
          go_wp2_with fail
          refine (HCU.out _).mono ?_
          rintro e wx ⟨rfl, rfl⟩
          go_wp2_with fail
          refine (HCC.out _).mono ?_
          rintro e wx ⟨rfl, rfl⟩
          clear HCU HCC
          rcases HX3.out with x1 | ⟨x1, x2⟩ | ⟨x1, x2, x3⟩
          · have y1 : decide ((x : Int) < 128) = true := by simp; omega
            have y1' : decide (x < 128) = true := by simp; omega
            clear HX3 x1
            go_wp2_with fail
            refine (HAL.out _).mono ?_
            rintro e w5 ⟨rfl, hb5⟩
            have HZ := Lib.hid (HBX.out.trans (hb5.mono HBX.out.size))
            clear hb5 HBX HAL
            go_wp2
            go_ret
            exact ⟨rfl, HZ.out⟩
          · have y1 : decide ((x : Int) < 128) = false := by simp; omega
            have y1' : decide (x < 128) = false := by simp; omega
            have y2 : decide ((191 : Int) < (x : Int)) = true := by simp; omega
            have y2' : decide (191 < x) = true := by simp; omega
            clear HX3 x1 x2
            go_wp2_with fail
            refine (HAL.out _).mono ?_
            rintro e w5 ⟨rfl, hb5⟩
            have HZ := Lib.hid (HBX.out.trans (hb5.mono HBX.out.size))
            clear hb5 HBX HAL
            go_wp2
            go_ret
            exact ⟨rfl, HZ.out⟩
          · have y1 : decide ((x : Int) < 128) = false := by simp; omega
            have y1' : decide (x < 128) = false := by simp; omega
            have y2 : decide ((191 : Int) < (x : Int)) = false := by simp; omega
            have y2' : decide (191 < x) = false := by simp; omega
            have y3 : ((lc : Int) == 0) = true := by simp; omega
            have y3' : (lc == 0) = true := by simp; omega
            clear HX3 x1 x2 x3
            go_wp2_with fail
            refine (HAL.out _).mono ?_
            rintro e w5 ⟨rfl, hb5⟩
            have HZ := Lib.hid (HBX.out.trans (hb5.mono HBX.out.size))
            clear hb5 HBX HAL
            go_wp2
            go_ret
            exact ⟨rfl, HZ.out⟩
      · obtain rfl : lc = n := by omega
        have p1 : decide ((lc : Int) < (lc : Int)) = false := by simp
        have p2 : ((lc : Int) == (lc : Int)) = true := by simp
        clear HEN HMO HAT HN HTB c2 c2'
        go_wp2_with fail
        refine (HCU.out _).mono ?_
        rintro e wx ⟨rfl, rfl⟩
        go_wp2_with fail
        refine (HCC.out _).mono ?_
        rintro e wx ⟨rfl, rfl⟩
        clear HCU HCC
        go_wp2_with fail
        refine (HAL.out _).mono ?_
        rintro e w5 ⟨rfl, hb5⟩
        have HZ := Lib.hid (HBX.out.trans (hb5.mono HBX.out.size))
        clear hb5 HBX HAL
        go_wp2
        go_ret
        exact ⟨rfl, HZ.out⟩
end Go.Proofs.Ytmpmlmhphnpdlaa
