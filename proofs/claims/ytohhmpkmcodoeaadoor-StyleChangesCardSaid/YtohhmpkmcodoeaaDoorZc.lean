/-
  Proved here: of the program's styles: one number whole, told.
-/
import Derived.Test.YtohhmpkmcodoeaaDoorZb
import Derived.Test.YtohhmpkmcodoeaaDoorYf
import Derived.Deep.QuietTactic
import Derived.BigQuiet
set_option linter.unusedSimpArgs false
set_option linter.unusedVariables false
namespace Go.Proofs.YtohhmpkmcodoeaaDoor
open Go.RowKit
theorem Good.num {s : Sty} (h : Good s) : 0 ≤ flagsF s.fs ∧ flagsF s.fs < 256 := by
  have := flagsF_range s.fs
  rw [h.len] at this
  exact ⟨this.1, by simpa using this.2⟩
theorem flT_place {n : Int} (h : 0 ≤ placeS n) : flT n = (2 : Int) ^ (placeS n).toNat ∧ (placeS n).toNat < 8 := by
  have h1 : 1 ≤ n ∧ n ≤ 9 := by unfold placeS at h; repeat' split at h
                                all_goals omega
  have h6 : n ≠ 6 := by rintro rfl; revert h; decide
  have : n = 1 ∨ n = 2 ∨ n = 3 ∨ n = 4 ∨ n = 5 ∨ n = 7 ∨ n = 8 ∨ n = 9 := by omega
  rcases this with rfl | rfl | rfl | rfl | rfl | rfl | rfl | rfl <;> decide
theorem oneS_no {s : Sty} {n : Int} (h0 : n ≠ 0) (hp : placeS n = -1) (h22 : n ≠ 22) (hq : ¬ ((22 < n ∧ n < 30) ∧ 0 ≤ placeS (n - 20))) (a1 : ¬ (30 ≤ n ∧ n ≤ 37)) (a2 : ¬ (40 ≤ n ∧ n ≤ 47)) (a3 : ¬ (90 ≤ n ∧ n ≤ 97)) (a4 : ¬ (100 ≤ n ∧ n ≤ 107)) (a5 : n ≠ 39) (a6 : n ≠ 49) : oneS s n = s := by
  unfold oneS
  rw [if_neg h0, hp, if_neg (by omega), if_neg h22, if_neg hq, if_neg a1, if_neg a2, if_neg a3, if_neg a4, if_neg a5, if_neg a6]
theorem place_no {n : Int} (h : n < 1 ∨ 9 < n) : placeS n = -1 := by
  unfold placeS; rw [if_neg (by omega), if_neg (by omega)]
theorem p_one (s : Sty) (n : Int) (w : World) (hs : Good s) (hT : FT w) :
    Calls Tryd.prog 26 #[pV s, .int .i64 n] w fun e w' => e = .returned (pV (oneS s n)) ∧ Below w.heap.size w w' := by
  have hf := hs.num
  have hl := hs.len
  obtain ⟨g0, g1⟩ := hs.fg
  obtain ⟨b0, b1⟩ := hs.bg
  by_cases a0 : n = 0
  · have e : oneS s n = zeroY := by unfold oneS; rw [if_pos a0]
    rw [e]
    exact p_one_0 _ _ _ n w hT hf.1 hf.2 g0 g1 b0 b1 a0
  by_cases a1 : 1 ≤ n ∧ n ≤ 9
  · have := p_one_set (flagsF s.fs) s.fg s.bg n w hT hf.1 hf.2 g0 g1 b0 b1 n.toNat (by omega) (by omega) (by omega)
    rw [show ((n.toNat : Nat) : Int) = n from by omega] at this
    by_cases hp : 0 ≤ placeS n
    · have e : oneS s n = ⟨s.fs.set (placeS n).toNat true, s.fg, s.bg⟩ := by unfold oneS; rw [if_neg a0, if_pos hp]
      rw [(flT_place hp).1, flag_or _ hl _ (flT_place hp).2] at this
      rw [e]
      exact this
    · have h6 : n = 6 := by unfold placeS at hp; repeat' split at hp
                            all_goals omega
      subst h6
      rw [show flT 6 = 0 from by decide, (flag_none _ hl).1] at this
      rw [oneS_no (by omega) (by decide) (by omega) (by omega) (by omega) (by omega) (by omega) (by omega) (by omega) (by omega)]
      exact this
  have hpn := place_no (n := n) (by omega)
  by_cases a2 : n = 22
  · have := p_one_22 (flagsF s.fs) s.fg s.bg n w hT hf.1 hf.2 g0 g1 b0 b1 a2
    rw [flag_not3 _ hl] at this
    have e : oneS s n = ⟨(s.fs.set 0 false).set 1 false, s.fg, s.bg⟩ := by unfold oneS; rw [if_neg a0, hpn, if_neg (by omega), if_pos a2]
    rw [e]
    exact this
  by_cases a3 : 23 ≤ n ∧ n ≤ 29
  · have := p_one_un (flagsF s.fs) s.fg s.bg n w hT hf.1 hf.2 g0 g1 b0 b1 (n - 20).toNat (by omega) (by omega) (by omega)
    rw [show (((n - 20).toNat : Nat) : Int) = n - 20 from by omega] at this
    by_cases hp : 0 ≤ placeS (n - 20)
    · have e : oneS s n = ⟨s.fs.set (placeS (n - 20)).toNat false, s.fg, s.bg⟩ := by unfold oneS; rw [if_neg a0, hpn, if_neg (by omega), if_neg a2, if_pos ⟨by omega, hp⟩]
      rw [(flT_place hp).1, flag_not _ hl _ (flT_place hp).2] at this
      rw [e]
      exact this
    · have h6 : n = 26 := by unfold placeS at hp; repeat' split at hp
                             all_goals omega
      subst h6
      rw [show flT (26 - 20) = 0 from by decide, (flag_none _ hl).2] at this
      rw [oneS_no (by omega) (by decide) (by omega) (by decide) (by omega) (by omega) (by omega) (by omega) (by omega) (by omega)]
      exact this
  have hq : ¬ ((22 < n ∧ n < 30) ∧ 0 ≤ placeS (n - 20)) := by omega
  by_cases c1 : 30 ≤ n ∧ n ≤ 37
  · have e : oneS s n = ⟨s.fs, 16777216 + (n - 30), s.bg⟩ := by unfold oneS; rw [if_neg a0, hpn, if_neg (by omega), if_neg a2, if_neg hq, if_pos c1]
    rw [e]
    exact p_one_fg _ _ _ n w hT hf.1 hf.2 g0 g1 b0 b1 c1.1 c1.2
  by_cases c2 : 40 ≤ n ∧ n ≤ 47
  · have e : oneS s n = ⟨s.fs, s.fg, 16777216 + (n - 40)⟩ := by unfold oneS; rw [if_neg a0, hpn, if_neg (by omega), if_neg a2, if_neg hq, if_neg c1, if_pos c2]
    rw [e]
    exact p_one_bg _ _ _ n w hT hf.1 hf.2 g0 g1 b0 b1 c2.1 c2.2
  by_cases c3 : 90 ≤ n ∧ n ≤ 97
  · have e : oneS s n = ⟨s.fs, 16777224 + (n - 90), s.bg⟩ := by unfold oneS; rw [if_neg a0, hpn, if_neg (by omega), if_neg a2, if_neg hq, if_neg c1, if_neg c2, if_pos c3]
    rw [e]
    exact p_one_fgb _ _ _ n w hT hf.1 hf.2 g0 g1 b0 b1 c3.1 c3.2
  by_cases c4 : 100 ≤ n ∧ n ≤ 107
  · have e : oneS s n = ⟨s.fs, s.fg, 16777224 + (n - 100)⟩ := by unfold oneS; rw [if_neg a0, hpn, if_neg (by omega), if_neg a2, if_neg hq, if_neg c1, if_neg c2, if_neg c3, if_pos c4]
    rw [e]
    exact p_one_bgb _ _ _ n w hT hf.1 hf.2 g0 g1 b0 b1 c4.1 c4.2
  by_cases c5 : n = 39
  · have e : oneS s n = ⟨s.fs, 0, s.bg⟩ := by unfold oneS; rw [if_neg a0, hpn, if_neg (by omega), if_neg a2, if_neg hq, if_neg c1, if_neg c2, if_neg c3, if_neg c4, if_pos c5]
    rw [e]
    exact p_one_39 _ _ _ n w hT hf.1 hf.2 g0 g1 b0 b1 c5
  by_cases c6 : n = 49
  · have e : oneS s n = ⟨s.fs, s.fg, 0⟩ := by unfold oneS; rw [if_neg a0, hpn, if_neg (by omega), if_neg a2, if_neg hq, if_neg c1, if_neg c2, if_neg c3, if_neg c4, if_neg c5, if_pos c6]
    rw [e]
    exact p_one_49 _ _ _ n w hT hf.1 hf.2 g0 g1 b0 b1 c6
  rw [oneS_no a0 hpn a2 hq c1 c2 c3 c4 c5 c6]
  have : n < 0 ∨ (10 ≤ n ∧ n ≤ 21) ∨ n = 38 ∨ n = 48 ∨ (50 ≤ n ∧ n ≤ 89) ∨ (98 ≤ n ∧ n ≤ 99) ∨ 108 ≤ n := by omega
  rcases this with h | h | h | h | h | h | h
  · exact p_one_n0 _ _ _ n w hT hf.1 hf.2 g0 g1 b0 b1 h
  · exact p_one_n1 _ _ _ n w hT hf.1 hf.2 g0 g1 b0 b1 h.1 h.2
  · exact p_one_n2 _ _ _ n w hT hf.1 hf.2 g0 g1 b0 b1 h
  · exact p_one_n3 _ _ _ n w hT hf.1 hf.2 g0 g1 b0 b1 h
  · exact p_one_n4 _ _ _ n w hT hf.1 hf.2 g0 g1 b0 b1 h.1 h.2
  · exact p_one_n5 _ _ _ n w hT hf.1 hf.2 g0 g1 b0 b1 h.1 h.2
  · exact p_one_n6 _ _ _ n w hT hf.1 hf.2 g0 g1 b0 b1 h
theorem p_byte_at (n : Int) (w : World) {b : Bool} (h : smallB n = b) : Calls Tryd.prog 35 #[.int .i64 n] w fun e w' => e = .returned (.bool b) ∧ w = w' := h ▸ p_byte n w
/-- What numbers tell of a colour. -/
def toldS (l : List Int) : Int × Bool × Int :=
  if 2 ≤ l.length ∧ l.getD 0 0 = 5 then (if smallB (l.getD 1 0) = true then (16777216 + l.getD 1 0, true, 2) else (0, false, 2))
  else if 4 ≤ l.length ∧ l.getD 0 0 = 2 then (if (smallB (l.getD 1 0) && smallB (l.getD 2 0) && smallB (l.getD 3 0)) = true then (33554432 + 65536 * l.getD 1 0 + 256 * l.getD 2 0 + l.getD 3 0, true, 4) else (0, false, 4))
  else (0, false, 0)
def ToldPost (r : Int × Bool × Int) (w : World) (e : Ending) (w' : World) : Prop := e = .returned (.tuple #[.int .u32 r.1, .bool r.2.1, .int .i64 r.2.2]) ∧ Below w.heap.size w w'
set_option maxHeartbeats 1000000 in
theorem p_told {w : World} {A : Option Addr} {n cp : Nat} {l : List Int} (hR : RI .i64 w A l) (hl : l.length = n) (hn : n ≤ 100000) :
    Calls Tryd.prog 27 #[.slice A n cp] w (ToldPost (toldS l) w) := by
  unfold toldS
  rw [hl]
  by_cases h2 : 2 ≤ n
  case neg =>
    rw [if_neg (by omega), if_neg (by omega)]
    have d1 : decide (2 ≤ (n : Int)) = false := by simp; omega
    have d2 : decide (4 ≤ (n : Int)) = false := by simp; omega
    clear hR hl h2
    go_enter Tryd.func27, Tryd.ntmps27
    go_wp2
    go_ret3
    exact ⟨rfl, Below.refl _ _⟩
  obtain ⟨b, off, rfl, hb, hc⟩ := hR (by omega)
  have c0 := hc 0 (by omega)
  have c1 := hc 1 (by omega)
  have HC := Lib.hid (fun (_ : Unit) => hc)
  rw [Nat.add_zero] at c0
  have d1 : decide (2 ≤ (n : Int)) = true := by simp; omega
  obtain ⟨x0, hx0⟩ : ∃ x, l.getD 0 0 = x := ⟨_, rfl⟩
  obtain ⟨x1, hx1⟩ : ∃ x, l.getD 1 0 = x := ⟨_, rfl⟩
  rw [hx0] at c0
  rw [hx1] at c1
  rw [hx0, hx1]
  clear hc hR
  by_cases h5 : x0 = 5
  · subst h5
    rw [if_pos ⟨h2, rfl⟩]
    clear hx0
    obtain ⟨k1, hk1⟩ : ∃ k, smallB x1 = k := ⟨_, rfl⟩
    have H1 := Lib.hid (fun W : World => p_byte_at x1 W hk1)
    rw [hk1]
    cases k1
    · rw [if_neg (by decide)]
      clear hk1 hx1 hl
      go_enter Tryd.func27, Tryd.ntmps27
      go_wp2_with fail
      refine (H1.out _).mono ?_
      rintro e wx ⟨rfl, rfl⟩
      go_wp2
      go_ret3
      exact ⟨rfl, Below.refl _ _⟩
    · rw [if_pos rfl]
      obtain ⟨q0, q1⟩ := smallB_iff.1 hk1
      clear hk1 hx1 hl
      go_enter Tryd.func27, Tryd.ntmps27
      go_wp2_with fail
      refine (H1.out _).mono ?_
      rintro e wx ⟨rfl, rfl⟩
      go_wp2
      go_ret3
      exact ⟨rfl, Below.refl _ _⟩
  · rw [if_neg (by omega)]
    have z5 : (x0 == 5) = false := by simpa using h5
    by_cases h4 : 4 ≤ n
    case neg =>
      rw [if_neg (by omega)]
      have d2 : decide (4 ≤ (n : Int)) = false := by simp; omega
      clear hx0 hx1 hl h4 h5
      go_enter Tryd.func27, Tryd.ntmps27
      go_wp2
      go_ret3
      exact ⟨rfl, Below.refl _ _⟩
    have d2 : decide (4 ≤ (n : Int)) = true := by simp; omega
    by_cases hx2 : x0 = 2
    case neg =>
      rw [if_neg (by omega)]
      have z2 : (x0 == 2) = false := by simpa using hx2
      clear hx0 hx1 hl h5 hx2
      go_enter Tryd.func27, Tryd.ntmps27
      go_wp2
      go_ret3
      exact ⟨rfl, Below.refl _ _⟩
    subst hx2
    rw [if_pos ⟨h4, rfl⟩]
    have c2 := HC.out () 2 (by omega)
    have c3 := HC.out () 3 (by omega)
    obtain ⟨x2, hx2⟩ : ∃ x, l.getD 2 0 = x := ⟨_, rfl⟩
    obtain ⟨x3, hx3⟩ : ∃ x, l.getD 3 0 = x := ⟨_, rfl⟩
    rw [hx2] at c2
    rw [hx3] at c3
    rw [hx2, hx3]
    obtain ⟨k1, hk1⟩ : ∃ k, smallB x1 = k := ⟨_, rfl⟩
    obtain ⟨k2, hk2⟩ : ∃ k, smallB x2 = k := ⟨_, rfl⟩
    obtain ⟨k3, hk3⟩ : ∃ k, smallB x3 = k := ⟨_, rfl⟩
    have H1 := Lib.hid (fun W : World => p_byte_at x1 W hk1)
    have H2 := Lib.hid (fun W : World => p_byte_at x2 W hk2)
    have H3 := Lib.hid (fun W : World => p_byte_at x3 W hk3)
    rw [hk1, hk2, hk3]
    cases k1
    · rw [if_neg (by simp)]
      clear hk1 hk2 hk3 hx0 hx1 hx2 hx3 hl HC h5
      go_enter Tryd.func27, Tryd.ntmps27
      go_wp2_with fail
      refine (H1.out _).mono ?_
      rintro e wx ⟨rfl, rfl⟩
      go_wp2
      go_ret3
      exact ⟨rfl, Below.refl _ _⟩
    cases k2
    · rw [if_neg (by simp)]
      clear hk1 hk2 hk3 hx0 hx1 hx2 hx3 hl HC h5
      go_enter Tryd.func27, Tryd.ntmps27
      go_wp2_with fail
      refine (H1.out _).mono ?_
      rintro e wx ⟨rfl, rfl⟩
      go_wp2_with fail
      refine (H2.out _).mono ?_
      rintro e wx ⟨rfl, rfl⟩
      go_wp2
      go_ret3
      exact ⟨rfl, Below.refl _ _⟩
    cases k3
    · rw [if_neg (by simp)]
      clear hk1 hk2 hk3 hx0 hx1 hx2 hx3 hl HC h5
      go_enter Tryd.func27, Tryd.ntmps27
      go_wp2_with fail
      refine (H1.out _).mono ?_
      rintro e wx ⟨rfl, rfl⟩
      go_wp2_with fail
      refine (H2.out _).mono ?_
      rintro e wx ⟨rfl, rfl⟩
      go_wp2_with fail
      refine (H3.out _).mono ?_
      rintro e wx ⟨rfl, rfl⟩
      go_wp2
      go_ret3
      exact ⟨rfl, Below.refl _ _⟩
    rw [if_pos (by decide)]
    obtain ⟨p0, p1⟩ := smallB_iff.1 hk1
    obtain ⟨q0, q1⟩ := smallB_iff.1 hk2
    obtain ⟨r0, r1⟩ := smallB_iff.1 hk3
    clear hk1 hk2 hk3 hx0 hx1 hx2 hx3 hl HC h5
    go_enter Tryd.func27, Tryd.ntmps27
    go_wp2_with fail
    refine (H1.out _).mono ?_
    rintro e wx ⟨rfl, rfl⟩
    go_wp2_with fail
    refine (H2.out _).mono ?_
    rintro e wx ⟨rfl, rfl⟩
    go_wp2_with fail
    refine (H3.out _).mono ?_
    rintro e wx ⟨rfl, rfl⟩
    go_wp2
    go_quiet (fail)
    go_wp2
    go_ret3
    have hbb := Below.refl w.heap.size w
    refine ⟨?_, ⟨hbb.os, hbb.tape, hbb.output, hbb.size, hbb.block⟩⟩
    show Ending.returned (.tuple #[.int .u32 (33554432 + x1 * 65536 + x2 * 256 + x3), .bool true, .int .i64 4]) = _
    rw [show 33554432 + x1 * 65536 + x2 * 256 + x3 = 33554432 + 65536 * x1 + 256 * x2 + x3 from by omega]
end Go.Proofs.YtohhmpkmcodoeaaDoor
