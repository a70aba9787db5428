/-
  Proved here: PeerNewest walked: it returns true, whatever the nonces, and nothing that was there is changed.
-/
import Derived.Test.YtjbnoggmnfannaaPo
namespace Go.Proofs.Ytjbnoggmnfannaa
open Go.RowKit
/-- What PeerNewest holds from round to round. -/
def NewAt (w : World) (k : Nat) (p : PV) (W : World) : Prop := ∃ L, L.length ≤ k ∧ Hd L p ∧ Pw w w.heap.size p W
theorem NewAt.below {w : World} {k : Nat} {p : PV} {W : World} (h : NewAt w k p W) : Below w.heap.size w W := by obtain ⟨_, _, _, h⟩ := h; exact h.below
/-- What hearing a nonce may come to. -/
theorem NewAt.hear {w : World} {k : Nat} {p p' : PV} {W W' : World} (h : NewAt w k p W) (n : Nat) (f : Int) (b : Bool) (E : Int) (hr : hearS p n f = (p', b, E)) (hP : Pw w w.heap.size p' W') :
    NewAt w (k + 1) p' W' ∧ ((E ≠ 0 ∧ p' = p ∧ b = false) ∨ (E = 0 ∧ n < p.N ∧ p'.N = p.N ∧ p'.F = p.F) ∨ (E = 0 ∧ p.N < n ∧ p'.N = n ∧ p'.F = f)) := by
  obtain ⟨L, hl, hL, _⟩ := h
  have hh := hL.hear n f
  rw [hr] at hh
  dsimp only at hh
  rcases hh with ⟨h1, h2, h3, _⟩ | ⟨h1, _, _, h4, _, h5⟩
  · exact ⟨⟨L, by omega, h2 ▸ hL, hP⟩, .inl ⟨h1, h2, h3⟩⟩
  · refine ⟨⟨_, by simp; omega, h4, hP⟩, ?_⟩
    rcases h5 with ⟨a, b, c, _, _⟩ | ⟨a, b, c, _, _⟩
    · exact .inr (.inl ⟨h1, a, b, c⟩)
    · exact .inr (.inr ⟨h1, a, b, c⟩)
theorem NewAt.from {w : World} {k : Nat} {p : PV} {W : World} (h : NewAt w k p W) (b : Bool) (hb : decide (p.N ≠ 0) = b) : Calls Try.prog 11 #[.pointer (some ⟨w.heap.size, 0, none⟩)] W fun e w' => e = .returned (.tuple #[.int .u32 p.F, .bool b]) ∧ W = w' := by
  obtain ⟨L, _, hL, hP⟩ := h
  exact from_pw w _ p L hL b W hP hb
theorem NewAt.calls {w : World} {k : Nat} {p p' : PV} {W : World} (h : NewAt w k p W) (hk : k ≤ 200) (n : Nat) (f : Int) (b : Bool) (E : Int) (hr : hearS p n f = (p', b, E)) (hn : n < 18446744073709551616) :
    Calls Try.prog 8 #[.pointer (some ⟨w.heap.size, 0, none⟩), .int .u64 n, .int .u32 f] W fun e w' => e = .returned (.tuple #[.bool b, .int .i64 E]) ∧ Hid (Pw w w.heap.size p' w') := by
  obtain ⟨L, hl, hL, hP⟩ := h
  exact (hear_po w _ p p' L hL (by omega) n f b E hr W hP hn).mono fun _ _ ⟨h1, h2, _⟩ => ⟨h1, h2⟩
theorem NewAt.drew {w : World} {k : Nat} {p : PV} {W : World} (h : NewAt w k p W) : NewAt w k p W.drew := by obtain ⟨L, h1, h2, h3⟩ := h; exact ⟨L, h1, h2, h3.drew⟩
theorem NewAt.newest {w : World} {k : Nat} {p : PV} {W : World} (h : NewAt w k p W) : Calls Try.prog 12 #[.pointer (some ⟨w.heap.size, 0, none⟩)] W fun e w' => e = .returned (.int .u64 p.N) ∧ W = w' := by
  obtain ⟨L, _, _, hP⟩ := h
  exact newest_pw w _ p W hP

set_option maxRecDepth 100000 in
set_option maxHeartbeats 4000000 in
theorem newest_law (zs : List (Nat × Int)) (A : Option Addr) (n cap : Nat) (w : World) (hs : SlW w A n cap zs) :
    Calls Try.prog 5 #[.slice A n cap] w fun e w' => e = .returned (.bool true) ∧ Below w.heap.size w w' := by
  obtain ⟨hlen, hr, hok, hle, hmx⟩ := hs
  have hmx' : n ≤ 9223372036854775807 := by unfold maxLen at hmx; omega
  have HR := Lib.hid hr
  have HOk := Lib.hid hok
  clear hr hok hle hmx hlen
  go_enter Try.func5, Try.ntmps5
  go_wp2_with fail
  refine (new_pw w).mono ?_
  rintro e w1 ⟨rfl, h1⟩
  have H0 := Lib.hid (show NewAt w 0 ⟨0, 0, 0, 0⟩ w1 from ⟨[], by simp, Hd.new, h1.out⟩)
  clear h1
  go_wp2
  go_loopw [4, 5, 6] (fun bv fv i wr => ∃ (k N H : Nat) (F M : Int), k ≤ n ∧ k ≤ 150 ∧ i = .int .i64 k ∧ bv = .int .u64 (N : Int) ∧ fv = .int .u32 F ∧ Hid (NewAt w k ⟨N, H, F, M⟩ wr)) (fun _ _ i _ => 150 - (intOf i).toNat)
  case atStart => exact ⟨0, 0, 0, 0, 0, by omega, by omega, rfl, rfl, rfl, H0⟩
  case round =>
    obtain ⟨k, N, H, F, M, hk, hk2, rfl, rfl, rfl, HK⟩ := hrel
    clear H0
    by_cases hlt : k < n ∧ k < 150
    · obtain ⟨hlt, h150⟩ := hlt
      obtain ⟨bl, off, rfl, hb, hc⟩ := HR.out (by omega)
      obtain ⟨c0, c1⟩ := hc k hlt
      have hn := HOk.out k hlt
      obtain ⟨z, hz⟩ : ∃ z, wAt zs k = z := ⟨_, rfl⟩
      rw [hz] at c0 c1 hn
      obtain ⟨m, f⟩ := z
      dsimp only at c0 c1 hn
      have e0 := (HK.out.below.cell (p := ⟨bl, off + k * 2, none⟩) hb).trans c0
      have e1 := (HK.out.below.cell (p := ⟨bl, off + k * 2 + 1, none⟩) hb).trans c1
      have hd : decide ((k : Int) < 150) = true := by simp; omega
      have HC := Lib.hid (fun (W : World) (hb9 : Below w.heap.size w W) => And.intro ((hb9.cell (p := ⟨bl, off + k * 2, none⟩) hb).trans c0) ((hb9.cell (p := ⟨bl, off + k * 2 + 1, none⟩) hb).trans c1))
      have g3 : (0 : Int) ≤ (k : Int) := by omega
      have g4 : (k : Int) < (n : Int) := by omega
      obtain ⟨⟨⟨N', H', F', M'⟩, b, E⟩, hre⟩ : ∃ r, hearS ⟨N, H, F, M⟩ m f = r := ⟨_, rfl⟩
      have HRE := Lib.hid hre
      have HN := Lib.hid hn
      obtain ⟨s, hs⟩ : ∃ s, decide (N ≠ 0) = s := ⟨_, rfl⟩
      have HS := Lib.hid hs
      clear hre hn hc c0 c1 hz hb hs
      go_wp2_with fail
      refine (HK.out.from s HS.out).mono ?_
      rintro e w' ⟨rfl, rfl⟩
      go_wp2
      go_region_held3 (fun W => W.cell? ⟨bl, off + k * 2, none⟩ = some (.int .u64 m) ∧ W.cell? ⟨bl, off + k * 2 + 1, none⟩ = some (.int .u32 f))
        (first | exact HC.out _ (Pw.below (Hid.out (by assumption))) | exact HC.out _ HK.out.drew.below | exact HC.out _ HK.out.below)
        (first | (go_at_call 8; refine (HK.out.drew.calls (by omega) m f b E HRE.out HN.out).mono ?_; rintro e w2 ⟨rfl, h2⟩))
      clear e0 e1
      obtain ⟨e0, e1⟩ := HC.out _ h2.out.below
      obtain ⟨hK2, hor⟩ := HK.out.hear m f b E HRE.out h2.out
      have HK2 := Lib.hid hK2
      dsimp only at hor
      have hNN : ((N' : Int) != (N' : Int)) = false := by simp
      have hFF : (F' != F') = false := by simp
      obtain ⟨s', hs'⟩ : ∃ s, decide (N' ≠ 0) = s := ⟨_, rfl⟩
      have hb0 : decide ((0 : Int) < (N' : Int)) = s' := by rw [← hs']; by_cases hz : N' = 0 <;> simp [hz]; omega
      have hb1 : decide (0 < N') = s' := by rw [← hs']; by_cases hz : N' = 0 <;> simp [hz]; omega
      have hss : (s' != s') = false := by simp
      have HS' := Lib.hid hs'
      clear hK2 hs' h2
      rcases hor with ⟨hE, hpp, rfl⟩ | ⟨rfl, hlow, hN', hF'⟩ | ⟨rfl, hlow, hN', hF'⟩
      · injection hpp with q1 q2 q3 q4
        subst q1 q2 q3 q4
        have hE1 : (E == 0) = false := by simpa using hE
        have hE2 : (E != 0) = true := by simpa using hE
        clear hE HRE
        go_wp2_with (first | (go_at_call 11; refine (HK2.out.from _ HS'.out).mono ?_; rintro e w' ⟨rfl, rfl⟩) | (go_at_call 12; refine HK2.out.newest.mono ?_; rintro e w' ⟨rfl, rfl⟩))
        go_roundw
        case rel => exact ⟨k + 1, N', H', F', M', by omega, by omega, by go_num, rfl, rfl, HK2⟩
        case measure => simp [intOf]; omega
      · subst hN' hF'
        have hlo : decide ((N' : Int) < (m : Int)) = false := by simp; omega
        have hlo2 : decide (N' < m) = false := by simp; omega
        clear hlow HRE
        go_wp2_with (first | (go_at_call 11; refine (HK2.out.from _ HS'.out).mono ?_; rintro e w' ⟨rfl, rfl⟩) | (go_at_call 12; refine HK2.out.newest.mono ?_; rintro e w' ⟨rfl, rfl⟩))
        go_roundw
        case rel => exact ⟨k + 1, N', H', F', M', by omega, by omega, by go_num, rfl, rfl, HK2⟩
        case measure => simp [intOf]; omega
      · subst hN' hF'
        have hlo : decide ((N : Int) < (N' : Int)) = true := by simp; omega
        have hlo2 : decide (N < N') = true := by simp; omega
        have HK3 := Lib.hid HK2.out.drew
        clear hlow HRE
        go_wp2
        go_region
        all_goals go_wp2_with (first | (go_at_call 11; refine (HK3.out.from _ HS'.out).mono ?_; rintro e w' ⟨rfl, rfl⟩) | (go_at_call 12; refine HK3.out.newest.mono ?_; rintro e w' ⟨rfl, rfl⟩))
        all_goals go_roundw
        case rel => exact ⟨k + 1, N', H', F', M', by omega, by omega, by go_num, rfl, rfl, HK3⟩
        case measure => simp [intOf]; omega
    · have HBW := Lib.hid (show Below w.heap.size w wr from HK.out.below)
      clear HK
      by_cases hl : k < n
      · have h150 : 150 ≤ k := by omega
        clear hlt
        go_wp2_with fail
        refine (alive_any _).mono ?_
        rintro e w2 ⟨rfl, h2⟩
        have H2 := Lib.hid h2
        clear h2
        go_wp2
        go_ret
        exact ⟨rfl, HBW.out.trans (H2.out.mono HBW.out.size)⟩
      · have hge : n ≤ k := by omega
        clear hlt
        go_wp2_with fail
        refine (alive_any _).mono ?_
        rintro e w2 ⟨rfl, h2⟩
        have H2 := Lib.hid h2
        clear h2
        go_wp2
        go_ret
        exact ⟨rfl, HBW.out.trans (H2.out.mono HBW.out.size)⟩
end Go.Proofs.Ytjbnoggmnfannaa
