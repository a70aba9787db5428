/-
  Proved here: of a sink of Take: Take (the call that makes it), Count, Take.
-/
import Derived.Test.YtlppnnehgfpgbaaKyb
set_option linter.unusedSimpArgs false
set_option linter.unusedVariables false
namespace Go.Proofs.Ytlppnnehgfpgbaa
open Go.RowKit
theorem sink_any (w : World) : Calls Try.prog 11 #[] w fun e w' => e = .returned (.pointer (some ⟨w.heap.size, 0, none⟩)) ∧ Sk w' w.heap.size 0 ∧ Below w.heap.size w w' := by
  have HB := Lib.hid (Bal (Below.refl w.heap.size w) (.cells #[.bool true, .int .u64 0] 47))
  have HS := Lib.hid (show Sk (w.alloc (.cells #[.bool true, .int .u64 0] 47)) w.heap.size 0 from heap_alloc_new w _)
  go_enter Try.func11, Try.ntmps11
  go_wp2
  go_ret
  exact ⟨rfl, HS.out, HB.out⟩
theorem count_sk {w : World} {g n : Nat} (h : Sk w g n) : Calls Try.prog 21 #[.pointer (some ⟨g, 0, none⟩)] w fun e w' => e = .returned (.int .u64 n) ∧ w = w' := by
  obtain ⟨c0, c1⟩ := two_cells h
  have HN := Lib.hid (sink_made c0)
  clear h
  go_enter Try.func21, Try.ntmps21
  go_wp2_with (go_at_call 41; refine HN.out.mono ?_; rintro e wx ⟨rfl, rfl⟩)
  go_ret
  exact ⟨rfl, rfl⟩
theorem take_long {w : World} {g n : Nat} (h : Sk w g n) {k : Int} {A : Option Addr} {m c : Nat} (hm : 512 < m) : Calls Try.prog 17 #[.pointer (some ⟨g, 0, none⟩), .int .u64 k, .slice A m c] w fun e w' => e = .returned (.tuple #[.slice none 0 0, .int .i64 2]) ∧ w = w' := by
  obtain ⟨c0, c1⟩ := two_cells h
  have HN := Lib.hid (sink_made c0)
  have d1 : decide ((512 : Int) < (m : Int)) = true := by simp; omega
  have d2 : (512 : Int) < (m : Int) := by omega
  clear h
  go_enter Try.func17, Try.ntmps17
  go_wp2_with (go_at_call 41; refine HN.out.mono ?_; rintro e wx ⟨rfl, rfl⟩)
  go_returns
  exact ⟨rfl, rfl⟩
theorem take_base {w : World} {g n : Nat} (h : Sk w g n) {k : Nat} {A : Option Addr} {m c : Nat} (hm : m ≤ 512) (hk : n < k) : Calls Try.prog 17 #[.pointer (some ⟨g, 0, none⟩), .int .u64 k, .slice A m c] w fun e w' => e = .returned (.tuple #[.slice none 0 0, .int .i64 30]) ∧ w = w' := by
  obtain ⟨c0, c1⟩ := two_cells h
  have HN := Lib.hid (sink_made c0)
  have d1 : decide ((512 : Int) < (m : Int)) = false := by simp; omega
  have d2 : ¬ (512 : Int) < (m : Int) := by omega
  have d3 : decide ((n : Int) < (k : Int)) = true := by simp; omega
  have d4 : (n : Int) < (k : Int) := by omega
  clear h
  go_enter Try.func17, Try.ntmps17
  go_wp2_with (go_at_call 41; refine HN.out.mono ?_; rintro e wx ⟨rfl, rfl⟩)
  go_returns
  exact ⟨rfl, rfl⟩
theorem take_none {w : World} {g n : Nat} (h : Sk w g n) (hn : n < 100000) {k : Nat} {A : Option Addr} {m c : Nat} (hm : m ≤ 512) (hk : k ≤ n) (hkm : m ≤ n - k) : Calls Try.prog 17 #[.pointer (some ⟨g, 0, none⟩), .int .u64 k, .slice A m c] w fun e w' => e = .returned (.tuple #[.slice none 0 0, .int .i64 0]) ∧ w = w' := by
  obtain ⟨c0, c1⟩ := two_cells h
  have HN := Lib.hid (sink_made c0)
  have d1 : decide ((512 : Int) < (m : Int)) = false := by simp; omega
  have d2 : ¬ (512 : Int) < (m : Int) := by omega
  have d3 : decide ((n : Int) < (k : Int)) = false := by simp; omega
  have d4 : ¬ (n : Int) < (k : Int) := by omega
  have w1 : IntKind.u64.wrap ((n : Int) - (k : Int)) = ((n - k : Nat) : Int) := wrap64_sub hk (by omega)
  have w2 : IntKind.u64.wrap (m : Int) = (m : Int) := wrap64_in (by omega)
  obtain ⟨j, hj⟩ : ∃ j, n - k = j := ⟨_, rfl⟩
  rw [hj] at w1 hkm
  have d5 : decide ((m : Int) ≤ (j : Int)) = true := by simp; omega
  have d6 : (m : Int) ≤ (j : Int) := by omega
  clear h hj
  go_enter Try.func17, Try.ntmps17
  go_wp2_with (go_at_call 41; refine HN.out.mono ?_; rintro e wx ⟨rfl, rfl⟩)
  go_returns
  exact ⟨rfl, rfl⟩
theorem take_some {w : World} {g n : Nat} (h : Sk w g n) (hn : n < 100000) {k : Nat} {A : Option Addr} {m c : Nat} {ys : List Int} (hl : ys.length = m) (hR : RI .u8 w A ys) (hc : m ≤ c) (hz : A = none → c = 0) (hm : m ≤ 512) (hk : k ≤ n) (hkm : n - k < m) : Calls Try.prog 17 #[.pointer (some ⟨g, 0, none⟩), .int .u64 k, .slice A m c] w fun e w' => ∃ v, e = .returned (.tuple #[v, .int .i64 0]) ∧ DV w' v (ys.drop (n - k)) ∧ Sk w' g (n + (m - (n - k))) ∧ Only g w w' := by
  obtain ⟨c0, c1⟩ := two_cells h
  have HS := Lib.hid h
  have HN := Lib.hid (sink_made c0)
  have d1 : decide ((512 : Int) < (m : Int)) = false := by simp; omega
  have d2 : ¬ (512 : Int) < (m : Int) := by omega
  have d3 : decide ((n : Int) < (k : Int)) = false := by simp; omega
  have d4 : ¬ (n : Int) < (k : Int) := by omega
  have w1 : IntKind.u64.wrap ((n : Int) - (k : Int)) = ((n - k : Nat) : Int) := wrap64_sub hk (by omega)
  have w2 : IntKind.u64.wrap (m : Int) = (m : Int) := wrap64_in (by omega)
  obtain ⟨j, hj⟩ : ∃ j, n - k = j := ⟨_, rfl⟩
  rw [hj] at w1 hkm ⊢
  have d5 : decide ((m : Int) ≤ (j : Int)) = false := by simp; omega
  have d6 : ¬ (m : Int) ≤ (j : Int) := by omega
  have HC := Lib.hid (cut_any (c := c) (k := j) (k' := j) rfl hl (by omega) hc hz (by omega) w hR)
  have hdl : (ys.drop j).length = m - j := by simp [hl]
  have HDL := Lib.hid (fun (_ : Unit) => hdl)
  obtain ⟨q, hq⟩ : ∃ q, m - j = q := ⟨_, rfl⟩
  rw [hq] at HC HDL ⊢
  have hq5 : q ≤ 512 := by omega
  have w3 : IntKind.u64.wrap (q : Int) = (q : Int) := wrap64_in (by omega)
  obtain ⟨s, hs⟩ : ∃ s, n + q = s := ⟨_, rfl⟩
  have w4 : IntKind.u64.wrap ((n : Int) + (q : Int)) = (s : Int) := by rw [wrap64_add (by omega), hs]
  rw [hs]
  clear h hj hl hR hc hz hdl hq hs
  go_enter Try.func17, Try.ntmps17
  go_wp2_with (go_at_call 41; refine HN.out.mono ?_; rintro e wx ⟨rfl, rfl⟩)
  refine HC.out.mono ?_
  rintro e wx ⟨A2, rfl, hr2, hz2, _, rfl⟩
  have HR2 := Lib.hid (And.intro hr2 hz2)
  clear hr2 hz2
  go_wp2_with fail
  refine (clone_any (n := q) (HDL.out ()) w HR2.out.1 (by omega) HR2.out.2).mono ?_
  rintro e wy ⟨v, rfl, hO⟩
  obtain ⟨Av, kv, hv1, hdr⟩ := DV.own hO.own
  rw [HDL.out ()] at hv1
  have HDV := Lib.hid (show DV wy v (ys.drop j) from DV.own hO.own)
  subst hv1
  have HS1 := Lib.hid (HS.out.below hO.below)
  have HO1 := Lib.hid (Only.of (g := g) hO.below)
  obtain ⟨e0, e1⟩ := two_cells HS1.out
  have ef := frozen_of_row wy g 1 _ _ HS1.out
  clear hO hdr c0 c1
  go_wp2
  go_returns
  exact ⟨_, rfl, HDV.out.only HS1.out.noU8 (Only.setCell wy 1 _), HS1.out.took s, HO1.out.trans (Only.setCell wy 1 _)⟩
end Go.Proofs.Ytlppnnehgfpgbaa
