/-
  Proved here: the law BaseReads.
-/
import Derived.Test.YtidjcbnjadlbaaaBk
set_option linter.unusedSimpArgs false
set_option linter.unusedVariables false
namespace Go.Proofs.Ytidjcbnjadlbaaa
open Go.RowKit
set_option maxRecDepth 100000 in
set_option maxHeartbeats 1000000 in
theorem reads14_law (s : ByteArray) (w : World) (hm : s.size ≤ 9223372036854775807) :
    Calls Try.prog 8 #[.string s] w fun e w' => e = .returned (.bool true) ∧ Below w.heap.size w w' := by
  obtain ⟨n, hn⟩ : ∃ n, s.size = n := ⟨_, rfl⟩
  have hcase : n ≤ 300 ∨ (300 < n ∧ n ≤ 90000) ∨ (90000 < n ∧ n ≤ 90100) ∨ 90100 < n := by omega
  rcases hcase with h | h | h | h
  · obtain ⟨t, ht⟩ : ∃ t, numsOf s = t := ⟨_, rfl⟩
    have hst : strOfNums t = s := by rw [← ht]; exact (str_list s).symm
    have HT : Hid (IsBytes t) := Lib.hid (by rw [← ht]; exact str_bytes s)
    have hl : t.length = n := by rw [← strOfNums_size t, hst]; exact hn
    have HL := Lib.hid hl
    have d1 : decide ((300 : Int) < (n : Int)) = false := by simp; omega
    have d2 : decide (300 < n) = false := by simp; omega
    have d3 : decide ((90100 : Int) < (n : Int)) = false := by simp; omega
    have d4 : decide (90100 < n) = false := by simp; omega
    have d5 : decide ((90000 : Int) < (n : Int)) = false := by simp; omega
    have d6 : decide (90000 < n) = false := by simp; omega
    obtain ⟨F, hF⟩ : ∃ F, faultS t = F := ⟨_, rfl⟩
    have HFA := Lib.hid (fun W : World => fault_c (w := W) HT.out (by omega) hF hst)
    have HRF := Lib.hid (fun W : World => hst ▸ hF ▸ rfault_any (w := W) HT.out (by omega))
    have HRR := Lib.hid (fun W : World => hst ▸ rread14_any (w := W) HT.out (by omega))
    have FF : (F == F) = true := by simp
    cases hg : goodB t
    · have HRD := Lib.hid (fun W : World => read_badc (w := W) HT.out (by omega) hg hst)
      rw [hg] at HRR
      simp only [Bool.false_eq_true, if_false] at HRR
      clear hF hst ht hl h hg
      go_enter Try.func8, Try.ntmps8
      go_wp2_with fail
      refine (HRD.out _).mono ?_
      rintro e w1 ⟨rfl, b1⟩
      have HB1 := Lib.hid b1
      clear b1
      go_wp2_with fail
      refine (HRR.out _).mono ?_
      rintro e w2 ⟨v2, rfl, o2⟩
      obtain ⟨A2, c2, rfl, _⟩ := own_slice o2.own
      have HB2 := Lib.hid (HB1.out.trans (o2.below.mono HB1.out.size))
      have HRI := Lib.hid o2.ri.1
      clear o2 HB1
      go_wp2_with fail
      refine (alive_any _).mono ?_
      rintro e w3 ⟨rfl, b3⟩
      have HB3 := Lib.hid (HB2.out.trans (b3.mono HB2.out.size))
      have hcv := fun A c => conv_c (w := w3) (n := 0) (A := A) (bs := []) rfl c (RI.nothing _ _ _) (s := ⟨#[]⟩) rfl
      clear b3 HB2 HRI
      go_wp2_with fail
      refine (HFA.out _).mono ?_
      rintro e w4 ⟨rfl, b4⟩
      have HB4 := Lib.hid (HB3.out.trans (b4.mono HB3.out.size))
      clear b4 HB3 hcv
      go_wp2_with fail
      refine (HRF.out _).mono ?_
      rintro e w5 ⟨rfl, b5⟩
      have HB5 := Lib.hid (HB4.out.trans (b5.mono HB4.out.size))
      clear b5 HB4
      go_wp2
      go_ret
      exact ⟨rfl, HB5.out⟩
    · obtain ⟨D, hD⟩ : ∃ D, decB t = D := ⟨_, rfl⟩
      obtain ⟨k, hk⟩ : ∃ k, D.length = k := ⟨_, rfl⟩
      have HRD := Lib.hid (fun W : World => read_okc (w := W) HT.out (by omega) hg hD hk hst)
      rw [hg] at HRR
      simp only [if_true] at HRR
      rw [hD] at HRR
      obtain ⟨S, hS⟩ : ∃ S, strOfNums D = S := ⟨_, rfl⟩
      have sS : (S.toList == S.toList) = true := by simp
      have HK := Lib.hid hk
      have HS := Lib.hid hS
      clear hF hst ht hl h hg hD hk hS
      go_enter Try.func8, Try.ntmps8
      go_wp2_with fail
      refine (HRD.out _).mono ?_
      rintro e w1 ⟨A1, rfl, r1, b1⟩
      have HB1 := Lib.hid b1
      have HR1 := Lib.hid r1
      clear b1 r1
      go_wp2_with fail
      refine (HRR.out _).mono ?_
      rintro e w2 ⟨v2, rfl, o2⟩
      obtain ⟨A2, c2, rfl, _⟩ := own_slice o2.own
      have HB2 := Lib.hid (HB1.out.trans (o2.below.mono HB1.out.size))
      have HR2 := Lib.hid (HR1.out.below o2.below)
      have HRI := Lib.hid o2.ri.1
      rw [HK.out]
      clear o2 HB1 HR1
      go_wp2_with fail
      refine (alive_any _).mono ?_
      rintro e w3 ⟨rfl, b3⟩
      have HB3 := Lib.hid (HB2.out.trans (b3.mono HB2.out.size))
      have hcv := fun c => conv_c (w := w3) HK.out c (HRI.out.below b3) HS.out
      have hcw := fun c => conv_c (w := w3) HK.out c (HR2.out.below b3) HS.out
      clear b3 HB2 HRI HR2
      go_wp2_with fail
      refine (HFA.out _).mono ?_
      rintro e w4 ⟨rfl, b4⟩
      have HB4 := Lib.hid (HB3.out.trans (b4.mono HB3.out.size))
      clear b4 HB3 hcv hcw
      go_wp2_with fail
      refine (HRF.out _).mono ?_
      rintro e w5 ⟨rfl, b5⟩
      have HB5 := Lib.hid (HB4.out.trans (b5.mono HB4.out.size))
      clear b5 HB4
      go_wp2
      go_ret
      exact ⟨rfl, HB5.out⟩
  · obtain ⟨h1, h2⟩ := h
    have d1 : decide ((300 : Int) < (n : Int)) = true := by simp; omega
    have d2 : decide (300 < n) = true := by simp; omega
    have d5 : decide ((n : Int) ≤ 90000) = true := by simp; omega
    have d6 : decide (n ≤ 90000) = true := by simp; omega
    go_enter Try.func8, Try.ntmps8
    go_wp2_with fail
    refine (alive_any w).mono ?_
    rintro e w1 ⟨rfl, b1⟩
    go_wp2
    go_ret
    exact ⟨rfl, b1⟩
  · obtain ⟨h1, h2⟩ := h
    have d1 : decide ((300 : Int) < (n : Int)) = true := by simp; omega
    have d2 : decide (300 < n) = true := by simp; omega
    have d3 : decide ((90100 : Int) < (n : Int)) = false := by simp; omega
    have d4 : decide (90100 < n) = false := by simp; omega
    have d5 : decide ((n : Int) ≤ 90000) = false := by simp; omega
    have d6 : decide (n ≤ 90000) = false := by simp; omega
    have d7 : decide ((90000 : Int) < (n : Int)) = true := by simp; omega
    have d8 : decide (90000 < n) = true := by simp; omega
    have HRL := Lib.hid (fun W : World => read_long s W (by omega) hm)
    go_enter Try.func8, Try.ntmps8
    go_wp2_with fail
    refine (HRL.out w).mono ?_
    rintro e wx ⟨rfl, rfl⟩
    go_wp2_with fail
    refine (alive_any w).mono ?_
    rintro e w1 ⟨rfl, b1⟩
    go_wp2
    go_ret
    exact ⟨rfl, b1⟩
  · have d1 : decide ((300 : Int) < (n : Int)) = true := by simp; omega
    have d2 : decide (300 < n) = true := by simp; omega
    have d3 : decide ((90100 : Int) < (n : Int)) = true := by simp; omega
    have d4 : decide (90100 < n) = true := by simp; omega
    have d5 : decide ((n : Int) ≤ 90000) = false := by simp; omega
    have d6 : decide (n ≤ 90000) = false := by simp; omega
    go_enter Try.func8, Try.ntmps8
    go_wp2_with fail
    refine (alive_any w).mono ?_
    rintro e w1 ⟨rfl, b1⟩
    go_wp2
    go_ret
    exact ⟨rfl, b1⟩
end Go.Proofs.Ytidjcbnjadlbaaa
