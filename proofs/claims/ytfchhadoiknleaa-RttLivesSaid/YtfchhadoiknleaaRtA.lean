/-
  Proved here: the fixed calls of layer 8's 'alive' come out as they must, and nothing that was there is changed.
-/
import Derived.Test.YtfchhadoiknleaaRtM2
namespace Go.Proofs.Ytfchhadoiknleaa
open Go.RowKit
/-- A meter of this call's own, and what was there is as it was. -/
structure Mw (w : World) (g : Nat) (K : Bool) (a s b : Int) (W : World) : Prop where
  mt : Mt W g K a s b
  fit : Fit K a s b
  below : Below w.heap.size w W
  own : w.heap.size ≤ g
theorem Mw.size {w : World} {g : Nat} {K : Bool} {a s b : Int} {W : World} (h : Mw w g K a s b W) : w.heap.size ≤ W.heap.size := h.below.size
theorem Mw.new (w : World) : Mw w w.heap.size false 0 0 0 (w.alloc (.cells #[.bool true, .bool false, .int .i64 0, .int .i64 0, .int .i64 0] 35)) :=
  ⟨new_block _ _ _ rfl, ⟨by omega, by omega, by omega, by omega, by omega, by omega⟩, (Below.refl _ _).alloc (Nat.le_refl _) _, Nat.le_refl _⟩
theorem Mw.drewN {w : World} {g : Nat} {K : Bool} {a s b : Int} {W : World} (h : Mw w g K a s b W) (n : Nat) : Mw w g K a s b (W.drewN n) :=
  ⟨h.mt.drewN n, h.fit, ⟨h.below.os, h.below.tape, h.below.output, h.below.size, h.below.block⟩, h.own⟩
theorem Mw.only {w : World} {g : Nat} {K : Bool} {a s b : Int} {W W' : World} {K' : Bool} {a' s' b' : Int} (h : Mw w g K a s b W) (hF : Fit K' a' s' b') (hm : Mt W' g K' a' s' b') (ho : Only g W W') : Mw w g K' a' s' b' W' :=
  ⟨hm, hF, ho.below h.below h.own h.below.size, h.own⟩
theorem new_mw (w : World) : Calls Try.prog 6 #[] w fun e w' => e = .returned (.pointer (some ⟨w.heap.size, 0, none⟩)) ∧ Hid (Mw w w.heap.size false 0 0 0 w') :=
  (new_any w).mono fun _ _ ⟨h1, h2⟩ => ⟨h1, Lib.hid (h2 ▸ Mw.new w)⟩
theorem measure_mw (w : World) (g : Nat) (K : Bool) (a s b n a' s' : Int) (W : World) (h : Mw w g K a s b W) (n0 : 0 ≤ n) (n1 : n ≤ 65536) (ha : mA K a n = a') (hs : mS K a s n = s') :
    Calls Try.prog 9 #[.pointer (some ⟨g, 0, none⟩), .int .i64 n] W fun e w' => e = .returned (.int .i64 0) ∧ Hid (Mw w g true a' s' 0 w') := by
  subst ha hs
  exact (measure_any g K a s b n W h.mt h.fit n0 n1).mono fun _ _ ⟨h1, h2, h3⟩ => ⟨h1, Lib.hid (h.only (h.fit.measure n0 n1) h2 h3)⟩
theorem back_mw (w : World) (g : Nat) (K : Bool) (a s b c : Int) (W : World) (h : Mw w g K a s b W) (hc : min (b + 1) 6 = c) :
    Calls Try.prog 8 #[.pointer (some ⟨g, 0, none⟩)] W fun e w' => e = .returned (.int .i64 0) ∧ Hid (Mw w g K a s c w') := by
  subst hc
  exact (back_any g K a s b _ W h.mt h.fit.b0 h.fit.b1 rfl).mono fun _ _ ⟨h1, h2, h3⟩ => ⟨h1, Lib.hid (h.only h.fit.back h2 h3)⟩
theorem mean_mw (w : World) (g : Nat) (K : Bool) (a s b v : Int) (W : World) (h : Mw w g K a s b W) (hv : a / 8 = v) :
    Calls Try.prog 13 #[.pointer (some ⟨g, 0, none⟩)] W fun e w' => e = .returned (.int .i64 v) ∧ W = w' := by
  subst hv
  exact (mean_any g K a s b W h.mt h.fit.a0 h.fit.a1).mono fun _ _ ⟨h1, h2⟩ => ⟨h1, h2.symm⟩
theorem backs_mw (w : World) (g : Nat) (K : Bool) (a s b : Int) (W : World) (h : Mw w g K a s b W) :
    Calls Try.prog 14 #[.pointer (some ⟨g, 0, none⟩)] W fun e w' => e = .returned (.int .i64 b) ∧ W = w' :=
  (backs_any g K a s b W h.mt).mono fun _ _ ⟨h1, h2⟩ => ⟨h1, h2.symm⟩
theorem wait_any (g : Nat) (K : Bool) (a s b : Int) (w : World) (h : Mt w g K a s b) (hF : Fit K a s b) :
    Calls Try.prog 11 #[.pointer (some ⟨g, 0, none⟩)] w fun e w' => e = .returned (.int .i64 (waitS K a s b)) ∧ ∃ n, w' = w.drewN n := by
  cases K
  · exact (wait_blind g a s b w h hF.b0 hF.b1).mono fun _ _ ⟨h1, h2⟩ => ⟨h1, 0, h2⟩
  · exact wait_known g a s b w h hF
theorem wait_mw (w : World) (g : Nat) (K : Bool) (a s b v : Int) (W : World) (h : Mw w g K a s b W) (hv : waitS K a s b = v) :
    Calls Try.prog 11 #[.pointer (some ⟨g, 0, none⟩)] W fun e w' => e = .returned (.int .i64 v) ∧ Hid (Mw w g K a s b w') := by
  subst hv
  refine (wait_any g K a s b W h.mt h.fit).mono fun _ _ ⟨h1, n, h2⟩ => ⟨h1, Lib.hid ?_⟩
  subst h2
  exact h.drewN n
theorem bad_mw (w : World) (g : Nat) (K : Bool) (a s b n : Int) (W : World) (h : Mw w g K a s b W) (hn : n < 0 ∨ 65536 < n) :
    Calls Try.prog 9 #[.pointer (some ⟨g, 0, none⟩), .int .i64 n] W fun e w' => e = .returned (.int .i64 1) ∧ W = w' :=
  (measure_bad g K a s b n W h.mt hn).mono fun _ _ ⟨h1, h2⟩ => ⟨h1, h2.symm⟩
set_option maxHeartbeats 1000000 in
theorem alive_any (w : World) : Calls Try.prog 15 #[] w fun e w' => e = .returned (.bool true) ∧ Below w.heap.size w w' := by
  go_enter Try.func15, Try.ntmps15
  go_wp2_with fail
  refine (new_mw w).mono ?_
  rintro e w1 ⟨rfl, h1⟩
  go_wp2_with fail
  refine (wait_mw w _ _ _ _ _ 4 _ h1.out (by decide)).mono ?_
  rintro e w2 ⟨rfl, h2⟩
  go_wp2_with fail
  refine (measure_mw w _ _ _ _ _ 8 64 16 _ h2.out (by omega) (by omega) (by decide) (by decide)).mono ?_
  rintro e w3 ⟨rfl, h3⟩
  go_wp2_with fail
  refine (wait_mw w _ _ _ _ _ 24 _ h3.out (by decide)).mono ?_
  rintro e w4 ⟨rfl, h4⟩
  go_wp2_with fail
  refine (back_mw w _ _ _ _ _ 1 _ h4.out (by decide)).mono ?_
  rintro e w5 ⟨rfl, h5⟩
  go_wp2_with fail
  refine (wait_mw w _ _ _ _ _ 48 _ h5.out (by decide)).mono ?_
  rintro e w6 ⟨rfl, h6⟩
  go_wp2_with fail
  refine (mean_mw w _ _ _ _ _ 8 _ h6.out (by decide)).mono ?_
  rintro e w' ⟨rfl, rfl⟩
  go_wp2_with fail
  refine (backs_mw w _ _ _ _ _ _ h6.out).mono ?_
  rintro e w' ⟨rfl, rfl⟩
  go_wp2_with fail
  refine (bad_mw w _ _ _ _ _ (-1) _ h6.out (by omega)).mono ?_
  rintro e w' ⟨rfl, rfl⟩
  go_wp2
  go_ret
  exact ⟨rfl, h6.out.below⟩
end Go.Proofs.Ytfchhadoiknleaa
