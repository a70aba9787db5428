/-
  Proved here, for every meter of New that holds what may stand there: goOn, Measure, Back, Backs, Mean and Wait, and what became of the meter's block; nothing else is changed.
-/
import Derived.Test.YtfchhadoiknleaaRtM
import Derived.BigRegion
import Derived.Deep.RegionHeld3
namespace Go.Proofs.Ytfchhadoiknleaa
open Go.RowKit
set_option maxHeartbeats 1000000 in
theorem goOn_way (g : Nat) (K : Bool) (a s b n d q m : Int) (w : World) (h : Mt w g K a s b) (hd : n - a / 8 = d) (hq : s / 4 = q) (a0 : 0 ≤ a) (a1 : a ≤ 524288) (s0 : 0 ≤ s) (s1 : s ≤ 262144) (_n0 : 0 ≤ n) (_n1 : n ≤ 65536) (d0 : -65536 ≤ d) (d1 : d ≤ 65536) (q0 : 0 ≤ q) (q1 : q ≤ 65536) (hm : (if d < -d then -d else d) = m) (m0 : 0 ≤ m) (m1 : m ≤ 65536) :
    Calls Try.prog 17 #[.pointer (some ⟨g, 0, none⟩), .int .i64 n] w fun e w' => e = .returned (.tuple #[]) ∧ Mt w' g K (a + d) (s + (m - q)) b ∧ Only g w w' := by
  have H := Lib.hid h
  have c2 := h.c2
  have c3 := h.c3
  have f3 := h.free 3
  have f2 := h.free 2
  clear h
  go_enter Try.func17, Try.ntmps17
  go_wp2
  have e1 : IntKind.i64.wrap (-d) = -d := IntWalk.i64_in _ (by omega)
  have e2 : IntKind.i64.wrap (m - q) = m - q := IntWalk.i64_in _ (by omega)
  have e3 : IntKind.i64.wrap (s + (m - q)) = s + (m - q) := IntWalk.i64_in _ (by omega)
  have e4 : s.tdiv 4 = q := by rw [← hq]; exact Int.tdiv_eq_ediv_of_nonneg s0
  go_region
  all_goals go_wp2
  all_goals go_returns
  all_goals exact ⟨rfl, (H.out.s3 _).s2 _, (((Only.refl g w).setCell 3 _).setCell 2 _).drew⟩
theorem goOn_any (g : Nat) (a s b n : Int) (w : World) (h : Mt w g true a s b) (hF : Fit true a s b) (n0 : 0 ≤ n) (n1 : n ≤ 65536) :
    Calls Try.prog 17 #[.pointer (some ⟨g, 0, none⟩), .int .i64 n] w fun e w' => e = .returned (.tuple #[]) ∧ Mt w' g true (mA true a n) (mS true a s n) b ∧ Only g w w' := by
  obtain ⟨a0, a1, s0, s1, b0, b1⟩ := hF
  obtain ⟨m, hm⟩ : ∃ m : Int, (if n - a / 8 < -(n - a / 8) then -(n - a / 8) else n - a / 8) = m := ⟨_, rfl⟩
  have hm' : absI (n - a / 8) = m := by rw [← hm]; unfold absI; split <;> split <;> omega
  have m0 : 0 ≤ m := by rw [← hm]; split <;> omega
  have m1 : m ≤ 65536 := by rw [← hm]; split <;> omega
  refine (goOn_way g true a s b n _ _ m w h rfl rfl a0 a1 s0 s1 n0 n1 (by omega) (by omega) (by omega) (by omega) hm m0 m1).mono fun e w' => ?_
  rintro ⟨rfl, h1, h2⟩
  refine ⟨rfl, ?_, h2⟩
  have e1 : mA true a n = a + (n - a / 8) := rfl
  have e2 : mS true a s n = s + (m - s / 4) := by simp only [mS, if_true, hm']; omega
  rw [e1, e2]
  exact h1
set_option maxHeartbeats 1000000 in
theorem measure_any (g : Nat) (K : Bool) (a s b n : Int) (w : World) (h : Mt w g K a s b) (hF : Fit K a s b) (n0 : 0 ≤ n) (n1 : n ≤ 65536) :
    Calls Try.prog 9 #[.pointer (some ⟨g, 0, none⟩), .int .i64 n] w fun e w' => e = .returned (.int .i64 0) ∧ Mt w' g true (mA K a n) (mS K a s n) 0 ∧ Only g w w' := by
  have H := Lib.hid h
  have HF := Lib.hid hF
  have c1 := h.c1
  clear h hF
  cases K
  · go_enter Try.func9, Try.ntmps9
    go_wp2_with fail
    refine (none_mt g _ a s b _ H.out).mono ?_
    rintro e w' ⟨rfl, rfl⟩
    go_wp2_with fail
    refine (begin_any g _ a s b n _ H.out n0 n1).mono ?_
    rintro e w1 ⟨rfl, h1, o1⟩
    have H1 := Lib.hid h1
    have O1 := Lib.hid o1
    have f4 := h1.free 4
    have c4 := h1.c4
    clear h1 o1 c1
    go_wp2
    go_ret
    exact ⟨rfl, H1.out.s4 _, O1.out.setCell 4 _⟩
  · go_enter Try.func9, Try.ntmps9
    go_wp2_with fail
    refine (none_mt g _ a s b _ H.out).mono ?_
    rintro e w' ⟨rfl, rfl⟩
    go_wp2_with fail
    refine (goOn_any g a s b n _ H.out HF.out n0 n1).mono ?_
    rintro e w1 ⟨rfl, h1, o1⟩
    have H1 := Lib.hid h1
    have O1 := Lib.hid o1
    have f4 := h1.free 4
    have c4 := h1.c4
    clear h1 o1 c1
    go_wp2
    go_ret
    exact ⟨rfl, H1.out.s4 _, O1.out.setCell 4 _⟩
theorem measure_nil (n : Int) (w : World) : Calls Try.prog 9 #[.pointer none, .int .i64 n] w fun e w' => e = .returned (.int .i64 6) ∧ w' = w := by
  go_enter Try.func9, Try.ntmps9
  go_wp2_with fail
  refine (none_nil _).mono ?_
  rintro e w' ⟨rfl, rfl⟩
  go_wp2
  go_ret
  exact ⟨rfl, rfl⟩
theorem measure_zero (g : Nat) (n : Int) (w : World) (h : w.cell? ⟨g, 0, none⟩ = some (.bool false)) : Calls Try.prog 9 #[.pointer (some ⟨g, 0, none⟩), .int .i64 n] w fun e w' => e = .returned (.int .i64 6) ∧ w' = w := by
  go_enter Try.func9, Try.ntmps9
  go_wp2_with fail
  refine (none_cell g false _ h).mono ?_
  rintro e w' ⟨rfl, rfl⟩
  go_wp2
  go_ret
  exact ⟨rfl, rfl⟩
theorem measure_bad (g : Nat) (K : Bool) (a s b n : Int) (w : World) (h : Mt w g K a s b) (hn : n < 0 ∨ 65536 < n) : Calls Try.prog 9 #[.pointer (some ⟨g, 0, none⟩), .int .i64 n] w fun e w' => e = .returned (.int .i64 1) ∧ w' = w := by
  have H := Lib.hid h
  clear h
  by_cases h0 : n < 0
  · clear hn
    go_enter Try.func9, Try.ntmps9
    go_wp2_with fail
    refine (none_mt g _ a s b _ H.out).mono ?_
    rintro e w' ⟨rfl, rfl⟩
    go_wp2
    go_ret
    exact ⟨rfl, rfl⟩
  · have h1 : 65536 < n := by omega
    have hd : decide (n < 0) = false := by simpa using h0
    clear hn
    go_enter Try.func9, Try.ntmps9
    go_wp2_with fail
    refine (none_mt g _ a s b _ H.out).mono ?_
    rintro e w' ⟨rfl, rfl⟩
    go_wp2
    go_ret
    exact ⟨rfl, rfl⟩
theorem back_any (g : Nat) (K : Bool) (a s b c : Int) (w : World) (h : Mt w g K a s b) (b0 : 0 ≤ b) (b1 : b ≤ 6) (hc : min (b + 1) 6 = c) :
    Calls Try.prog 8 #[.pointer (some ⟨g, 0, none⟩)] w fun e w' => e = .returned (.int .i64 0) ∧ Mt w' g K a s c ∧ Only g w w' := by
  have H := Lib.hid h
  have c4 := h.c4
  have f4 := h.free 4
  have hc' : (if 6 < b + 1 then 6 else b + 1) = c := by split <;> omega
  clear h hc
  go_enter Try.func8, Try.ntmps8
  go_wp2_with fail
  refine (none_mt g _ a s b _ H.out).mono ?_
  rintro e w' ⟨rfl, rfl⟩
  go_wp2
  go_ret
  exact ⟨rfl, H.out.s4 _, (Only.refl g w).setCell 4 _⟩
theorem back_nil (w : World) : Calls Try.prog 8 #[.pointer none] w fun e w' => e = .returned (.int .i64 6) ∧ w' = w := by
  go_enter Try.func8, Try.ntmps8
  go_wp2_with fail
  refine (none_nil _).mono ?_
  rintro e w' ⟨rfl, rfl⟩
  go_wp2
  go_ret
  exact ⟨rfl, rfl⟩
theorem back_zero (g : Nat) (w : World) (h : w.cell? ⟨g, 0, none⟩ = some (.bool false)) : Calls Try.prog 8 #[.pointer (some ⟨g, 0, none⟩)] w fun e w' => e = .returned (.int .i64 6) ∧ w' = w := by
  go_enter Try.func8, Try.ntmps8
  go_wp2_with fail
  refine (none_cell g false _ h).mono ?_
  rintro e w' ⟨rfl, rfl⟩
  go_wp2
  go_ret
  exact ⟨rfl, rfl⟩
theorem backs_any (g : Nat) (K : Bool) (a s b : Int) (w : World) (h : Mt w g K a s b) :
    Calls Try.prog 14 #[.pointer (some ⟨g, 0, none⟩)] w fun e w' => e = .returned (.int .i64 b) ∧ w' = w := by
  have H := Lib.hid h
  have c4 := h.c4
  clear h
  go_enter Try.func14, Try.ntmps14
  go_wp2_with fail
  refine (none_mt g _ a s b _ H.out).mono ?_
  rintro e w' ⟨rfl, rfl⟩
  go_wp2
  go_ret
  exact ⟨rfl, rfl⟩
theorem backs_nil (w : World) : Calls Try.prog 14 #[.pointer none] w fun e w' => e = .returned (.int .i64 0) ∧ w' = w := by
  go_enter Try.func14, Try.ntmps14
  go_wp2_with fail
  refine (none_nil _).mono ?_
  rintro e w' ⟨rfl, rfl⟩
  go_wp2
  go_ret
  exact ⟨rfl, rfl⟩
theorem mean_any (g : Nat) (K : Bool) (a s b : Int) (w : World) (h : Mt w g K a s b) (a0 : 0 ≤ a) (a1 : a ≤ 524288) :
    Calls Try.prog 13 #[.pointer (some ⟨g, 0, none⟩)] w fun e w' => e = .returned (.int .i64 (a / 8)) ∧ w' = w := by
  have H := Lib.hid h
  have c2 := h.c2
  clear h
  go_enter Try.func13, Try.ntmps13
  go_wp2_with fail
  refine (none_mt g _ a s b _ H.out).mono ?_
  rintro e w' ⟨rfl, rfl⟩
  go_wp2
  go_ret
  exact ⟨rfl, rfl⟩
theorem mean_nil (w : World) : Calls Try.prog 13 #[.pointer none] w fun e w' => e = .returned (.int .i64 0) ∧ w' = w := by
  go_enter Try.func13, Try.ntmps13
  go_wp2_with fail
  refine (none_nil _).mono ?_
  rintro e w' ⟨rfl, rfl⟩
  go_wp2
  go_ret
  exact ⟨rfl, rfl⟩
theorem wait_nil (w : World) : Calls Try.prog 11 #[.pointer none] w fun e w' => e = .returned (.int .i64 0) ∧ w' = w := by
  go_enter Try.func11, Try.ntmps11
  go_wp2_with fail
  refine (none_nil _).mono ?_
  rintro e w' ⟨rfl, rfl⟩
  go_wp2
  go_ret
  exact ⟨rfl, rfl⟩
theorem wait_zero (g : Nat) (w : World) (h : w.cell? ⟨g, 0, none⟩ = some (.bool false)) : Calls Try.prog 11 #[.pointer (some ⟨g, 0, none⟩)] w fun e w' => e = .returned (.int .i64 0) ∧ w' = w := by
  go_enter Try.func11, Try.ntmps11
  go_wp2_with fail
  refine (none_cell g false _ h).mono ?_
  rintro e w' ⟨rfl, rfl⟩
  go_wp2
  go_ret
  exact ⟨rfl, rfl⟩
theorem between_any (v lo hi c : Int) (w : World) (hc : max lo (min v hi) = c) :
    Calls Try.prog 19 #[.int .i64 v, .int .i64 lo, .int .i64 hi] w fun e w' => e = .returned (.int .i64 c) ∧ w' = w := by
  obtain ⟨m, hm⟩ : ∃ m : Int, (if hi < v then hi else v) = m := ⟨_, rfl⟩
  have hx : (if lo < m then m else lo) = c := by subst hm; split <;> split at * <;> omega
  clear hc
  go_enter Try.func19, Try.ntmps19
  go_wp2
  go_ret
  exact ⟨rfl, rfl⟩
theorem pow_fit {v b : Int} (v0 : 0 ≤ v) (v1 : v ≤ 1000000) (b0 : 0 ≤ b) (b1 : b ≤ 6) : 0 ≤ v * 2 ^ b.toNat ∧ v * 2 ^ b.toNat ≤ 64000000 := by
  have : b = 0 ∨ b = 1 ∨ b = 2 ∨ b = 3 ∨ b = 4 ∨ b = 5 ∨ b = 6 := by omega
  rcases this with rfl | rfl | rfl | rfl | rfl | rfl | rfl <;> simp <;> omega
set_option maxHeartbeats 1000000 in
theorem wait_blind (g : Nat) (a s b : Int) (w : World) (h : Mt w g false a s b) (b0 : 0 ≤ b) (b1 : b ≤ 6) :
    Calls Try.prog 11 #[.pointer (some ⟨g, 0, none⟩)] w fun e w' => e = .returned (.int .i64 (waitS false a s b)) ∧ w' = w := by
  have hp := pow_fit (v := 4) (b := b) (by omega) (by omega) b0 b1
  obtain ⟨c, hc⟩ : ∃ c, waitS false a s b = c := ⟨_, rfl⟩
  have hcc : max 2 (min (4 * 2 ^ b.toNat) 64) = c := hc
  obtain ⟨p, hpp⟩ : ∃ p : Int, 4 * 2 ^ b.toNat = p := ⟨_, rfl⟩
  rw [hc]
  rw [hpp] at hp hcc
  have ew : IntKind.i64.wrap (4 * 2 ^ b.toNat) = p := by rw [hpp]; exact IntWalk.i64_in _ (by omega)
  have HB := Lib.hid (fun w => between_any p 2 64 c w hcc)
  have H := Lib.hid h
  have c1 := h.c1
  have c4 := h.c4
  clear h hc hcc
  go_enter Try.func11, Try.ntmps11
  go_wp2_with fail
  refine (none_mt g _ a s b _ H.out).mono ?_
  rintro e w' ⟨rfl, rfl⟩
  go_wp2_with fail
  refine (HB.out _).mono ?_
  rintro e w' ⟨rfl, rfl⟩
  go_wp2
  go_ret
  exact ⟨rfl, rfl⟩
set_option maxHeartbeats 1000000 in
theorem wait_known (g : Nat) (a s b : Int) (w : World) (h : Mt w g true a s b) (hF : Fit true a s b) :
    Calls Try.prog 11 #[.pointer (some ⟨g, 0, none⟩)] w fun e w' => e = .returned (.int .i64 (waitS true a s b)) ∧ ∃ n, w' = w.drewN n := by
  obtain ⟨a0, a1, s0, s1, b0, b1⟩ := hF
  obtain ⟨m, hm⟩ : ∃ m : Int, (if 1 < s then s else 1) = m := ⟨_, rfl⟩
  have hm0 : max 1 s = m := by rw [← hm]; split <;> omega
  have m0 : 1 ≤ m := by omega
  have m1 : m ≤ 262144 := by omega
  obtain ⟨v, hv⟩ : ∃ v : Int, a / 8 + m = v := ⟨_, rfl⟩
  have v0 : 1 ≤ v := by omega
  have v1 : v ≤ 1000000 := by omega
  have hp := pow_fit (v := v) (b := b) (by omega) (by omega) b0 b1
  obtain ⟨c, hc⟩ : ∃ c, waitS true a s b = c := ⟨_, rfl⟩
  have hcc : max 2 (min (v * 2 ^ b.toNat) 64) = c := by
    have : w0 true a s = v := by simp only [w0, if_true, hm0]; exact hv
    rw [← hc, waitS, this]
  obtain ⟨p, hpp⟩ : ∃ p : Int, v * 2 ^ b.toNat = p := ⟨_, rfl⟩
  rw [hc]
  rw [hpp] at hp hcc
  have ew : IntKind.i64.wrap (v * 2 ^ b.toNat) = p := by rw [hpp]; exact IntWalk.i64_in _ (by omega)
  have ev : IntKind.i64.wrap (a / 8 + m) = v := by rw [hv]; exact IntWalk.i64_in _ (by omega)
  have HB := Lib.hid (fun w => between_any p 2 64 c w hcc)
  have H := Lib.hid h
  have c1 := h.c1
  have c3 := h.c3
  have c4 := h.c4
  clear h hc hcc hm0
  go_enter Try.func11, Try.ntmps11
  go_wp2_with fail
  refine (none_mt g _ a s b _ H.out).mono ?_
  rintro e w' ⟨rfl, rfl⟩
  go_wp2_with fail
  go_quiet ((go_at_call 13; exact Calls.quiet_of_same (mean_any g true a s b _ (H.out.drewN _) a0 a1)))
  go_wp2_with fail
  refine (HB.out _).mono ?_
  rintro e w' ⟨rfl, rfl⟩
  go_wp2
  go_ret
  exact ⟨rfl, _, rfl⟩
end Go.Proofs.Ytfchhadoiknleaa
