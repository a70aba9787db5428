/-
  Proved here, for every peer of New, of whatever numbers that may be: Hear, and what became of the peer's block; nothing else is changed.
-/
import Derived.Test.YtjbnoggmnfannaaPa
namespace Go.Proofs.Ytjbnoggmnfannaa
open Go.RowKit
theorem hear_nil (n f : Int) (w : World) : Calls Try.prog 8 #[.pointer none, .int .u64 n, .int .u32 f] w fun e w' => e = .returned (.tuple #[.bool false, .int .i64 6]) ∧ w = w' := by
  go_enter Try.func8, Try.ntmps8
  go_wp2_with fail
  refine (none_nil w).mono ?_
  rintro e w' ⟨rfl, rfl⟩
  go_wp2
  go_returns
  exact ⟨rfl, rfl⟩
theorem hear_zero (g : Nat) (N H F M : Int) (f : Int) (w : World) (h : Pr w g N H F M) : Calls Try.prog 8 #[.pointer (some ⟨g, 0, none⟩), .int .u64 0, .int .u32 f] w fun e w' => e = .returned (.tuple #[.bool false, .int .i64 1]) ∧ w = w' := by
  go_enter Try.func8, Try.ntmps8
  go_wp2_with fail
  refine (none_pr g N H F M w h).mono ?_
  rintro e w' ⟨rfl, rfl⟩
  clear h
  go_wp2
  go_returns
  exact ⟨rfl, rfl⟩
theorem hear_much (g : Nat) (N H F M : Int) (n f : Int) (w : World) (h : Pr w g N H F M) (hn : 9223372036854775807 < n) : Calls Try.prog 8 #[.pointer (some ⟨g, 0, none⟩), .int .u64 n, .int .u32 f] w fun e w' => e = .returned (.tuple #[.bool false, .int .i64 1]) ∧ w = w' := by
  have HH := Lib.hid h
  have hn0 : (n == 0) = false := by simp; omega
  clear h
  go_enter Try.func8, Try.ntmps8
  go_wp2_with fail
  refine (none_pr g N H F M w HH.out).mono ?_
  rintro e w' ⟨rfl, rfl⟩
  go_wp2
  go_returns
  exact ⟨rfl, rfl⟩
theorem hear_old (g N H : Nat) (F M : Int) (n : Nat) (f : Int) (w : World) (h : Pr w g N H F M) (hN : N < 18446744073709551616) (hn : 0 < n) (hn2 : n ≤ 9223372036854775807) (ho : heardS N H n = true) : Calls Try.prog 8 #[.pointer (some ⟨g, 0, none⟩), .int .u64 n, .int .u32 f] w fun e w' => e = .returned (.tuple #[.bool false, .int .i64 23]) ∧ w = w' := by
  have HH := Lib.hid h
  have hn0 : ((n : Int) == 0) = false := by simp; omega
  have hn3 : (n : Int) ≤ 9223372036854775807 := by omega
  clear h
  go_enter Try.func8, Try.ntmps8
  go_wp2_with fail
  refine (none_pr g N H F M w HH.out).mono ?_
  rintro e w' ⟨rfl, rfl⟩
  go_wp2_with fail
  refine (heard_pr g N H F M n w HH.out hN (by omega)).mono ?_
  rintro e w' ⟨rfl, rfl⟩
  go_wp2
  go_returns
  exact ⟨rfl, rfl⟩
set_option maxHeartbeats 1000000 in
theorem hear_low (g N H : Nat) (F M : Int) (n : Nat) (f : Int) (w : World) (h : Pr w g N H F M) (hN : N < 18446744073709551616) (hH : H < 18446744073709551616) (hn : 0 < n) (hn2 : n ≤ 9223372036854775807) (ho : heardS N H n = false) (hlt : n < N) (h64 : N - n < 64) : Calls Try.prog 8 #[.pointer (some ⟨g, 0, none⟩), .int .u64 n, .int .u32 f] w fun e w' => e = .returned (.tuple #[.bool false, .int .i64 0]) ∧ Pr w' g N ((H ||| 2 ^ (N - n) : Nat) : Int) F M ∧ Only g w w' := by
  have HH := Lib.hid h
  have hn0 : ((n : Int) == 0) = false := by simp; omega
  have hn3 : (n : Int) ≤ 9223372036854775807 := by omega
  have c1 := h.c1
  have c2 := h.c2
  have f2 := h.free 2
  have hlt' : (n : Int) < (N : Int) := by omega
  obtain ⟨d, hd⟩ : ∃ d, N - n = d := ⟨_, rfl⟩
  have hd' : IntKind.u64.wrap ((N : Int) - (n : Int)) = (d : Int) := by rw [show (N : Int) - (n : Int) = (d : Int) by omega]; exact IntWalk.u64_in _ (by omega)
  have hdb : (d : Int) < 64 := by omega
  rw [hd]
  clear h
  go_enter Try.func8, Try.ntmps8
  go_wp2_with fail
  refine (none_pr g N H F M w HH.out).mono ?_
  rintro e w' ⟨rfl, rfl⟩
  go_wp2_with fail
  refine (heard_pr g N H F M n w HH.out hN (by omega)).mono ?_
  rintro e w' ⟨rfl, rfl⟩
  go_wp2
  go_region
  all_goals go_wp2
  all_goals go_returns
  all_goals exact ⟨rfl, by rw [or_shl H d hH (by omega)]; exact HH.out.s2 _, ((Only.refl g w).setCell 2 _).drew⟩
/-- The moves behind a nonce above all others. -/
def movS (N : Nat) (F f M : Int) : Int := if N ≠ 0 ∧ f ≠ F then M + 1 else M
set_option maxHeartbeats 1000000 in
theorem rise_pr (g N H : Nat) (F M : Int) (n : Nat) (f : Int) (w : World) (h : Pr w g N H F M) (hn2 : n < 18446744073709551616) (hlt : N ≤ n) (m0 : 0 ≤ M) (m1 : M < 1000000) : Calls Try.prog 18 #[.pointer (some ⟨g, 0, none⟩), .int .u64 n, .int .u32 f] w fun e w' => e = .returned (.bool (N == 0 || f != F)) ∧ Pr w' g n ((H * 2 ^ (n - N) % 18446744073709551616 ||| 1 : Nat) : Int) f (movS N F f M) ∧ Only g w w' := by
  have HH := Lib.hid h
  have c3 := h.c3
  have c4 := h.c4
  have f4 := h.free 4
  obtain ⟨d, hd⟩ : ∃ d, n - N = d := ⟨_, rfl⟩
  have hd' : IntKind.u64.wrap ((n : Int) - (N : Int)) = (d : Int) := by rw [show (n : Int) - (N : Int) = (d : Int) by omega]; exact IntWalk.u64_in _ (by omega)
  rw [hd]
  by_cases hz : N = 0
  · have e1 : ((N : Int) == 0) = true := by simp; omega
    have e3 : (N == 0) = true := by simp; exact hz
    have e4 : movS N F f M = M := if_neg (fun h => h.1 hz)
    rw [e3, e4]
    have hm := hz
    clear e3 e4 hz h
    have E := Lib.hid hm
    clear hm
    have h2 := HH.out
    have d1 := h2.c1
    have d2 := h2.c2
    have g2 := h2.free 2
    have h3 := (h2.s2 (bits BinOp.or IntKind.u64 (IntKind.u64.wrap ((H : Int) * 2 ^ min d 64)) 1)).drew
    have g1 := h3.free 1
    have h4 := ((h2.s2 (bits BinOp.or IntKind.u64 (IntKind.u64.wrap ((H : Int) * 2 ^ min d 64)) 1)).s1 n).drew
    have g3 := h4.free 3
    have h5 := Lib.hid (h4.s3 f)
    clear h2 h3 h4
    go_enter Try.func18, Try.ntmps18
    go_wp2_with fail
    refine (silent_pr g N H F M w HH.out).mono ?_
    rintro e w' ⟨rfl, rfl⟩
    go_wp2
    go_region
    all_goals go_wp2
    all_goals go_ret
    all_goals exact ⟨by simp, by rw [← shl_or]; exact h5.out, (((Only.refl g w).setCell 2 _).drew.setCell 1 _).setCell 3 _⟩
  · have e1 : ((N : Int) == 0) = false := by simp; omega
    have e3 : (N == 0) = false := by simp; exact hz
    by_cases hf : f = F
    · have e2 : (f != F) = false := by simp; exact hf
      have e4 : movS N F f M = M := if_neg (fun h => h.2 hf)
      rw [e3, e4]
      have hm := hf
      clear e3 e4 hf hz h
      have E := Lib.hid hm
      clear hm
      have h2 := HH.out
      have d1 := h2.c1
      have d2 := h2.c2
      have g2 := h2.free 2
      have h3 := (h2.s2 (bits BinOp.or IntKind.u64 (IntKind.u64.wrap ((H : Int) * 2 ^ min d 64)) 1)).drew
      have g1 := h3.free 1
      have h4 := ((h2.s2 (bits BinOp.or IntKind.u64 (IntKind.u64.wrap ((H : Int) * 2 ^ min d 64)) 1)).s1 n).drew
      have g3 := h4.free 3
      have h5 := Lib.hid (h4.s3 f)
      clear h2 h3 h4
      go_enter Try.func18, Try.ntmps18
      go_wp2_with fail
      refine (silent_pr g N H F M w HH.out).mono ?_
      rintro e w' ⟨rfl, rfl⟩
      go_wp2
      go_region
      all_goals go_wp2
      all_goals go_ret
      all_goals exact ⟨by simp; exact E.out, by rw [← shl_or]; exact h5.out, (((Only.refl g w).setCell 2 _).drew.setCell 1 _).setCell 3 _⟩
    · have e2 : (f != F) = true := by simp; exact hf
      have e4 : movS N F f M = M + 1 := if_pos ⟨hz, hf⟩
      rw [e3, e4]
      have hm := hf
      clear e3 e4 hf hz h
      have E := Lib.hid hm
      clear hm
      have h2 := HH.out.s4 (M + 1)
      have d1 := h2.c1
      have d2 := h2.c2
      have g2 := h2.free 2
      have h3 := (h2.s2 (bits BinOp.or IntKind.u64 (IntKind.u64.wrap ((H : Int) * 2 ^ min d 64)) 1)).drew
      have g1 := h3.free 1
      have h4 := ((h2.s2 (bits BinOp.or IntKind.u64 (IntKind.u64.wrap ((H : Int) * 2 ^ min d 64)) 1)).s1 n).drew
      have g3 := h4.free 3
      have h5 := Lib.hid (h4.s3 f)
      clear h2 h3 h4
      go_enter Try.func18, Try.ntmps18
      go_wp2_with fail
      refine (silent_pr g N H F M w HH.out).mono ?_
      rintro e w' ⟨rfl, rfl⟩
      go_wp2
      go_region
      all_goals go_wp2
      all_goals go_ret
      all_goals exact ⟨by simp; exact E.out, by rw [← shl_or]; exact h5.out, ((((Only.refl g w).setCell 4 _).setCell 2 _).drew.setCell 1 _).setCell 3 _⟩
/-- What stands in a peer. -/
structure PV where
  N : Nat
  H : Nat
  F : Int
  M : Int
deriving DecidableEq
def PrV (w : World) (g : Nat) (p : PV) : Prop := Pr w g p.N p.H p.F p.M
/-- What hearing a nonce makes of a peer, and what it answers. -/
def hearS (p : PV) (n : Nat) (f : Int) : PV × Bool × Int :=
  if n = 0 ∨ 9223372036854775807 < n then (p, false, 1)
  else if heardS p.N p.H n then (p, false, 23)
  else if n < p.N then (⟨p.N, p.H ||| 2 ^ (p.N - n), p.F, p.M⟩, false, 0)
  else (⟨n, p.H * 2 ^ (n - p.N) % 18446744073709551616 ||| 1, f, movS p.N p.F f p.M⟩, (p.N == 0 || f != p.F), 0)
theorem hear_high (g : Nat) (N H : Nat) (F M : Int) (n : Nat) (f : Int) (w : World) (h : Pr w g N H F M) (hN : N < 18446744073709551616) (hn : 0 < n) (hn2 : n ≤ 9223372036854775807) (ho : heardS N H n = false) (hlt : N ≤ n) (m0 : 0 ≤ M) (m1 : M < 1000000) : Calls Try.prog 8 #[.pointer (some ⟨g, 0, none⟩), .int .u64 n, .int .u32 f] w fun e w' => e = .returned (.tuple #[.bool (N == 0 || f != F), .int .i64 0]) ∧ Pr w' g n ((H * 2 ^ (n - N) % 18446744073709551616 ||| 1 : Nat) : Int) f (movS N F f M) ∧ Only g w w' := by
  have HH := Lib.hid h
  have hn0 : ((n : Int) == 0) = false := by simp; omega
  have hn3 : (n : Int) ≤ 9223372036854775807 := by omega
  have c1 := h.c1
  have hlt' : (N : Int) ≤ (n : Int) := by omega
  clear h
  go_enter Try.func8, Try.ntmps8
  go_wp2_with fail
  refine (none_pr g N H F M w HH.out).mono ?_
  rintro e w' ⟨rfl, rfl⟩
  go_wp2_with fail
  refine (heard_pr g N H F M n w HH.out hN (by omega)).mono ?_
  rintro e w' ⟨rfl, rfl⟩
  go_wp2_with fail
  refine (rise_pr g N H F M n f w HH.out (by omega) hlt m0 m1).mono ?_
  rintro e w1 ⟨rfl, h1, o1⟩
  have H1 := Lib.hid h1
  have O1 := Lib.hid o1
  clear h1 o1
  go_wp2
  go_returns
  exact ⟨rfl, H1.out, O1.out⟩
theorem hear_any (g : Nat) (p : PV) (n : Nat) (f : Int) (w : World) (h : PrV w g p) (hN : p.N < 18446744073709551616) (hH : p.H < 18446744073709551616) (hn : n < 18446744073709551616) (m0 : 0 ≤ p.M) (m1 : p.M < 1000000) :
    Calls Try.prog 8 #[.pointer (some ⟨g, 0, none⟩), .int .u64 n, .int .u32 f] w fun e w' => e = .returned (.tuple #[.bool (hearS p n f).2.1, .int .i64 (hearS p n f).2.2]) ∧ PrV w' g (hearS p n f).1 ∧ Only g w w' := by
  obtain ⟨N, H, F, M⟩ := p
  unfold PrV at h ⊢
  dsimp only at *
  unfold hearS
  dsimp only
  by_cases h0 : n = 0
  · rw [if_pos (.inl h0)]
    subst h0
    exact (hear_zero g N H F M f w h).mono (by rintro e w' ⟨rfl, rfl⟩; exact ⟨rfl, h, Only.refl g w⟩)
  by_cases h1 : 9223372036854775807 < n
  · rw [if_pos (.inr h1)]
    exact (hear_much g N H F M n f w h (by omega)).mono (by rintro e w' ⟨rfl, rfl⟩; exact ⟨rfl, h, Only.refl g w⟩)
  rw [if_neg (show ¬(n = 0 ∨ 9223372036854775807 < n) by omega)]
  by_cases h2 : heardS N H n = true
  · rw [if_pos h2]
    exact (hear_old g N H F M n f w h hN (by omega) (by omega) h2).mono (by rintro e w' ⟨rfl, rfl⟩; exact ⟨rfl, h, Only.refl g w⟩)
  rw [if_neg h2]
  have h2' : heardS N H n = false := by simpa using h2
  by_cases h3 : n < N
  · rw [if_pos h3]
    have h64 : N - n < 64 := by
      rcases Nat.lt_or_ge (N - n) 64 with h | h
      · exact h
      · unfold heardS at h2'
        simp [show N ≠ 0 by omega, show n ≤ N by omega, h] at h2'
    exact (hear_low g N H F M n f w h hN hH (by omega) (by omega) h2' h3 h64).mono (by rintro e w' ⟨rfl, h1, h2⟩; exact ⟨rfl, h1, h2⟩)
  · rw [if_neg h3]
    exact (hear_high g N H F M n f w h hN (by omega) (by omega) h2' (by omega) m0 m1).mono (by rintro e w' ⟨rfl, h1, h2⟩; exact ⟨rfl, h1, h2⟩)
end Go.Proofs.Ytjbnoggmnfannaa
