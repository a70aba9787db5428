/-
  Proved here: PeerWindow walked: it returns true, whatever the nonces, and nothing that was there is changed.
-/
import Derived.Test.YtjbnoggmnfannaaPn
namespace Go.Proofs.Ytjbnoggmnfannaa
open Go.RowKit
theorem NewAt.above {w : World} {k : Nat} {p : PV} {W : World} (h : NewAt w k p W) {a : Nat} (ha : p.N < a) : heardS p.N p.H a = false := by
  obtain ⟨L, _, hL, _⟩ := h
  cases hb : heardS p.N p.H a
  · rfl
  · have := (hL.heard a).1 hb
    omega
theorem NewAt.far {w : World} {k : Nat} {p : PV} {W : World} (h : NewAt w k p W) {a : Nat} (ha : 64 ≤ p.N - a) : heardS p.N p.H a = true := by
  obtain ⟨L, _, hL, _⟩ := h
  exact (hL.heard a).2 ⟨by omega, by omega, .inr (.inl ha)⟩
theorem NewAt.top {w : World} {k : Nat} {p : PV} {W : World} (h : NewAt w k p W) (ha : 0 < p.N) : heardS p.N p.H p.N = true := by
  obtain ⟨L, _, hL, _⟩ := h
  exact hL.heard_mem (List.mem_map.2 ⟨_, hL.most ha, rfl⟩)
theorem NewAt.small {w : World} {k : Nat} {p : PV} {W : World} (h : NewAt w k p W) : p.N ≤ 9223372036854775807 := by
  obtain ⟨L, _, hL, _⟩ := h
  exact hL.max
theorem NewAt.said {w : World} {k : Nat} {p p' : PV} {W W' : World} (h : NewAt w k p W) (n : Nat) (f : Int) (b : Bool) (E : Int) (hr : hearS p n f = (p', b, E)) (hP : Pw w w.heap.size p' W') :
    NewAt w (k + 1) p' W' ∧ ((E = 1 ∧ n = 0) ∨ (E = 1 ∧ 9223372036854775807 < n) ∨ (E = 23 ∧ heardS p'.N p'.H n = true) ∨ (E = 0 ∧ heardS p'.N p'.H n = true)) := by
  obtain ⟨L, hl, hL, _⟩ := h
  have hh := hL.hear n f
  rw [hr] at hh
  dsimp only at hh
  rcases hh with ⟨h1, h2, h3, h4⟩ | ⟨h1, _, _, h4, _, h5⟩
  · refine ⟨⟨L, by omega, h2 ▸ hL, hP⟩, ?_⟩
    rcases h4 with ⟨h5 | h5, h6⟩ | ⟨_, h5, h6⟩
    · exact .inl ⟨h6, h5⟩
    · exact .inr (.inl ⟨h6, h5⟩)
    · exact .inr (.inr (.inl ⟨h6, h2 ▸ h5⟩))
  · exact ⟨⟨_, by simp; omega, h4, hP⟩, .inr (.inr (.inr ⟨h1, h4.heard_mem (by simp)⟩))⟩
theorem NewAt.heard {w : World} {k : Nat} {p : PV} {W : World} (h : NewAt w k p W) (n : Nat) (b : Bool) (hn : n < 18446744073709551616) (hb : Hid (Unit → heardS p.N p.H n = b)) :
    Calls Try.prog 13 #[.pointer (some ⟨w.heap.size, 0, none⟩), .int .u64 n] W fun e w' => e = .returned (.bool b) ∧ W = w' := by
  obtain ⟨L, _, hL, hP⟩ := h
  exact heard_pw w _ p L hL n b W hP hn (hb.out ())

set_option maxRecDepth 100000 in
set_option maxHeartbeats 2000000 in
theorem window_law (zs : List (Nat × Int)) (A : Option Addr) (n cap q : Nat) (w : World) (hs : SlW w A n cap zs) (hq : q < 18446744073709551616) :
    Calls Try.prog 6 #[.slice A n cap, .int .u64 q] w fun e w' => e = .returned (.bool true) ∧ Below w.heap.size w w' := by
  obtain ⟨hlen, hr, hok, hle, hmx⟩ := hs
  have hmx' : n ≤ 9223372036854775807 := by unfold maxLen at hmx; omega
  have HR := Lib.hid hr
  have HOk := Lib.hid hok
  clear hr hok hle hmx hlen
  go_enter Try.func6, Try.ntmps6
  go_wp2_with fail
  refine (new_pw w).mono ?_
  rintro e w1 ⟨rfl, h1⟩
  have H0 := Lib.hid (show NewAt w 0 ⟨0, 0, 0, 0⟩ w1 from ⟨[], by simp, Hd.new, h1.out⟩)
  clear h1
  go_wp2
  go_loopw [6] (fun i wr => ∃ (k N H : Nat) (F M : Int), k ≤ n ∧ k ≤ 100 ∧ i = .int .i64 k ∧ Hid (NewAt w k ⟨N, H, F, M⟩ wr)) (fun i _ => 100 - (intOf i).toNat)
  case atStart => exact ⟨0, 0, 0, 0, 0, by omega, by omega, rfl, H0⟩
  case round =>
    obtain ⟨k, N, H, F, M, hk, hk2, rfl, HK⟩ := hrel
    clear H0
    by_cases hlt : k < n ∧ k < 100
    · obtain ⟨hlt, h100⟩ := hlt
      obtain ⟨bl, off, rfl, hb, hc⟩ := HR.out (by omega)
      obtain ⟨c0, c1⟩ := hc k hlt
      have hn := HOk.out k hlt
      obtain ⟨z, hz⟩ : ∃ z, wAt zs k = z := ⟨_, rfl⟩
      rw [hz] at c0 c1 hn
      obtain ⟨m, f⟩ := z
      dsimp only at c0 c1 hn
      have e0 := (HK.out.below.cell (p := ⟨bl, off + k * 2, none⟩) hb).trans c0
      have e1 := (HK.out.below.cell (p := ⟨bl, off + k * 2 + 1, none⟩) hb).trans c1
      have hd : decide ((k : Int) < 100) = true := by simp; omega
      have HC := Lib.hid (fun (W : World) (hb9 : Below w.heap.size w W) => And.intro ((hb9.cell (p := ⟨bl, off + k * 2, none⟩) hb).trans c0) ((hb9.cell (p := ⟨bl, off + k * 2 + 1, none⟩) hb).trans c1))
      have g3 : (0 : Int) ≤ (k : Int) := by omega
      have g4 : (k : Int) < (n : Int) := by omega
      obtain ⟨⟨⟨N', H', F', M'⟩, b, E⟩, hre⟩ : ∃ r, hearS ⟨N, H, F, M⟩ m f = r := ⟨_, rfl⟩
      have HRE := Lib.hid hre
      have HN := Lib.hid hn
      clear hre hn hc c0 c1 hz hb
      go_wp2
      go_region_held3 (fun W => W.cell? ⟨bl, off + k * 2, none⟩ = some (.int .u64 m) ∧ W.cell? ⟨bl, off + k * 2 + 1, none⟩ = some (.int .u32 f))
        (first | exact HC.out _ (Pw.below (Hid.out (by assumption))) | exact HC.out _ HK.out.drew.below | exact HC.out _ HK.out.below)
        (first | (go_at_call 8; refine (HK.out.drew.calls (by omega) m f b E HRE.out HN.out).mono ?_; rintro e w2 ⟨rfl, h2⟩))
      clear e0 e1
      obtain ⟨e0, e1⟩ := HC.out _ h2.out.below
      obtain ⟨hK2, hor⟩ := HK.out.said m f b E HRE.out h2.out
      have HK2 := Lib.hid hK2
      have hsm := hK2.small
      have HAB := Lib.hid (fun (_ : Unit) => hK2.above (a := q))
      have HFA := Lib.hid (fun (_ : Unit) => hK2.far (a := q))
      have HTO := Lib.hid (fun (_ : Unit) => hK2.top)
      dsimp only at hor hsm HAB HFA HTO
      have HQ := Lib.hid hq
      have HS := Lib.hid hsm
      clear hK2 h2 HK HRE hsm
      rcases hor with ⟨rfl, rfl⟩ | ⟨rfl, hm⟩ | ⟨rfl, hm⟩ | ⟨rfl, hm⟩
      · skip
        by_cases ha : N' < q
        · by_cases hz : N' = 0
          · have hN0 : N' = 0 := by omega
            subst hN0
            have a1 : decide (((0 : Nat) : Int) < (q : Int)) = true := by simp; omega
            have a2 : decide (0 < q) = true := by simp; omega
            have a5 : decide ((q : Int) ≤ 0) = false := by simp; omega
            have HA := Lib.hid (fun (_ : Unit) => HAB.out () (by omega))
            go_wp2_with (first | (go_at_call 12; refine HK2.out.newest.mono ?_; rintro e w' ⟨rfl, rfl⟩) | (go_at_call 13; with_reducible refine Calls.mono (HK2.out.heard q _ HQ.out HA) ?_; rintro e w' ⟨rfl, rfl⟩))
            go_roundw
            case rel => exact ⟨k + 1, 0, H', F', M', by omega, by omega, by go_num, HK2⟩
            case measure => simp [intOf]; omega
          · have a1 : decide ((N' : Int) < (q : Int)) = true := by simp; omega
            have a2 : decide (N' < q) = true := by simp; omega
            have a3 : decide ((0 : Int) < (N' : Int)) = true := by simp; omega
            have a4 : decide (0 < N') = true := by simp; omega
            have a5 : decide ((q : Int) ≤ (N' : Int)) = false := by simp; omega
            have a6 : decide (q ≤ N') = false := by simp; omega
            have HA := Lib.hid (fun (_ : Unit) => HAB.out () (by omega))
            have HT := Lib.hid (fun (_ : Unit) => HTO.out () (by omega))
            go_wp2_with (first | (go_at_call 12; refine HK2.out.newest.mono ?_; rintro e w' ⟨rfl, rfl⟩) | (go_at_call 13; with_reducible refine Calls.mono (HK2.out.heard q _ HQ.out HA) ?_; rintro e w' ⟨rfl, rfl⟩) | (go_at_call 13; with_reducible refine Calls.mono (HK2.out.heard N' _ (by have := HS.out; omega) HT) ?_; rintro e w' ⟨rfl, rfl⟩))
            go_roundw
            case rel => exact ⟨k + 1, N', H', F', M', by omega, by omega, by go_num, HK2⟩
            case measure => simp [intOf]; omega
        · by_cases hz : N' = 0
          · have hN0 : N' = 0 := by omega
            subst hN0
            have a1 : decide (((0 : Nat) : Int) < (q : Int)) = false := by simp; omega
            have a2 : decide (0 < q) = false := by simp; omega
            go_wp2_with (first | (go_at_call 12; refine HK2.out.newest.mono ?_; rintro e w' ⟨rfl, rfl⟩))
            go_roundw
            case rel => exact ⟨k + 1, 0, H', F', M', by omega, by omega, by go_num, HK2⟩
            case measure => simp [intOf]; omega
          · by_cases hf : N' - q < 64
            · obtain ⟨d, hd'⟩ : ∃ d, N' - q = d := ⟨_, rfl⟩
              have hdd : IntKind.u64.wrap ((N' : Int) - (q : Int)) = (d : Int) := by rw [show (N' : Int) - (q : Int) = (d : Int) by omega]; exact IntWalk.u64_in _ (by have := HS.out; omega)
              have a1 : decide ((N' : Int) < (q : Int)) = false := by simp; omega
              have a2 : decide (N' < q) = false := by simp; omega
              have a3 : decide ((0 : Int) < (N' : Int)) = true := by simp; omega
              have a4 : decide (0 < N') = true := by simp; omega
              have a5 : decide ((q : Int) ≤ (N' : Int)) = true := by simp; omega
              have a6 : decide (q ≤ N') = true := by simp; omega
              have a7 : decide ((64 : Int) ≤ (d : Int)) = false := by simp; omega
              have a8 : decide (64 ≤ d) = false := by simp; omega
              have HT := Lib.hid (fun (_ : Unit) => HTO.out () (by omega))
              go_wp2_with (first | (go_at_call 12; refine HK2.out.newest.mono ?_; rintro e w' ⟨rfl, rfl⟩) | (go_at_call 13; with_reducible refine Calls.mono (HK2.out.heard N' _ (by have := HS.out; omega) HT) ?_; rintro e w' ⟨rfl, rfl⟩))
              go_roundw
              case rel => exact ⟨k + 1, N', H', F', M', by omega, by omega, by go_num, HK2⟩
              case measure => simp [intOf]; omega
            · obtain ⟨d, hd'⟩ : ∃ d, N' - q = d := ⟨_, rfl⟩
              have hdd : IntKind.u64.wrap ((N' : Int) - (q : Int)) = (d : Int) := by rw [show (N' : Int) - (q : Int) = (d : Int) by omega]; exact IntWalk.u64_in _ (by have := HS.out; omega)
              have a1 : decide ((N' : Int) < (q : Int)) = false := by simp; omega
              have a2 : decide (N' < q) = false := by simp; omega
              have a3 : decide ((0 : Int) < (N' : Int)) = true := by simp; omega
              have a4 : decide (0 < N') = true := by simp; omega
              have a5 : decide ((q : Int) ≤ (N' : Int)) = true := by simp; omega
              have a6 : decide (q ≤ N') = true := by simp; omega
              have a7 : decide ((64 : Int) ≤ (d : Int)) = true := by simp; omega
              have a8 : decide (64 ≤ d) = true := by simp; omega
              have HA := Lib.hid (fun (_ : Unit) => HFA.out () (by omega))
              have HT := Lib.hid (fun (_ : Unit) => HTO.out () (by omega))
              go_wp2_with (first | (go_at_call 12; refine HK2.out.newest.mono ?_; rintro e w' ⟨rfl, rfl⟩) | (go_at_call 13; with_reducible refine Calls.mono (HK2.out.heard q _ HQ.out HA) ?_; rintro e w' ⟨rfl, rfl⟩) | (go_at_call 13; with_reducible refine Calls.mono (HK2.out.heard N' _ (by have := HS.out; omega) HT) ?_; rintro e w' ⟨rfl, rfl⟩))
              go_roundw
              case rel => exact ⟨k + 1, N', H', F', M', by omega, by omega, by go_num, HK2⟩
              case measure => simp [intOf]; omega
      · have b1 : decide ((m : Int) ≤ 9223372036854775807) = false := by simp; omega
        have b2 : decide ((1 : Int) ≤ (m : Int)) = true := by simp; omega
        have b3 : decide (1 ≤ m) = true := by simp; omega
        have b4 : decide (m ≤ 9223372036854775807) = false := by simp; omega
        by_cases ha : N' < q
        · by_cases hz : N' = 0
          · have hN0 : N' = 0 := by omega
            subst hN0
            have a1 : decide (((0 : Nat) : Int) < (q : Int)) = true := by simp; omega
            have a2 : decide (0 < q) = true := by simp; omega
            have a5 : decide ((q : Int) ≤ 0) = false := by simp; omega
            have HA := Lib.hid (fun (_ : Unit) => HAB.out () (by omega))
            go_wp2_with (first | (go_at_call 12; refine HK2.out.newest.mono ?_; rintro e w' ⟨rfl, rfl⟩) | (go_at_call 13; with_reducible refine Calls.mono (HK2.out.heard q _ HQ.out HA) ?_; rintro e w' ⟨rfl, rfl⟩))
            go_roundw
            case rel => exact ⟨k + 1, 0, H', F', M', by omega, by omega, by go_num, HK2⟩
            case measure => simp [intOf]; omega
          · have a1 : decide ((N' : Int) < (q : Int)) = true := by simp; omega
            have a2 : decide (N' < q) = true := by simp; omega
            have a3 : decide ((0 : Int) < (N' : Int)) = true := by simp; omega
            have a4 : decide (0 < N') = true := by simp; omega
            have a5 : decide ((q : Int) ≤ (N' : Int)) = false := by simp; omega
            have a6 : decide (q ≤ N') = false := by simp; omega
            have HA := Lib.hid (fun (_ : Unit) => HAB.out () (by omega))
            have HT := Lib.hid (fun (_ : Unit) => HTO.out () (by omega))
            go_wp2_with (first | (go_at_call 12; refine HK2.out.newest.mono ?_; rintro e w' ⟨rfl, rfl⟩) | (go_at_call 13; with_reducible refine Calls.mono (HK2.out.heard q _ HQ.out HA) ?_; rintro e w' ⟨rfl, rfl⟩) | (go_at_call 13; with_reducible refine Calls.mono (HK2.out.heard N' _ (by have := HS.out; omega) HT) ?_; rintro e w' ⟨rfl, rfl⟩))
            go_roundw
            case rel => exact ⟨k + 1, N', H', F', M', by omega, by omega, by go_num, HK2⟩
            case measure => simp [intOf]; omega
        · by_cases hz : N' = 0
          · have hN0 : N' = 0 := by omega
            subst hN0
            have a1 : decide (((0 : Nat) : Int) < (q : Int)) = false := by simp; omega
            have a2 : decide (0 < q) = false := by simp; omega
            go_wp2_with (first | (go_at_call 12; refine HK2.out.newest.mono ?_; rintro e w' ⟨rfl, rfl⟩))
            go_roundw
            case rel => exact ⟨k + 1, 0, H', F', M', by omega, by omega, by go_num, HK2⟩
            case measure => simp [intOf]; omega
          · by_cases hf : N' - q < 64
            · obtain ⟨d, hd'⟩ : ∃ d, N' - q = d := ⟨_, rfl⟩
              have hdd : IntKind.u64.wrap ((N' : Int) - (q : Int)) = (d : Int) := by rw [show (N' : Int) - (q : Int) = (d : Int) by omega]; exact IntWalk.u64_in _ (by have := HS.out; omega)
              have a1 : decide ((N' : Int) < (q : Int)) = false := by simp; omega
              have a2 : decide (N' < q) = false := by simp; omega
              have a3 : decide ((0 : Int) < (N' : Int)) = true := by simp; omega
              have a4 : decide (0 < N') = true := by simp; omega
              have a5 : decide ((q : Int) ≤ (N' : Int)) = true := by simp; omega
              have a6 : decide (q ≤ N') = true := by simp; omega
              have a7 : decide ((64 : Int) ≤ (d : Int)) = false := by simp; omega
              have a8 : decide (64 ≤ d) = false := by simp; omega
              have HT := Lib.hid (fun (_ : Unit) => HTO.out () (by omega))
              go_wp2_with (first | (go_at_call 12; refine HK2.out.newest.mono ?_; rintro e w' ⟨rfl, rfl⟩) | (go_at_call 13; with_reducible refine Calls.mono (HK2.out.heard N' _ (by have := HS.out; omega) HT) ?_; rintro e w' ⟨rfl, rfl⟩))
              go_roundw
              case rel => exact ⟨k + 1, N', H', F', M', by omega, by omega, by go_num, HK2⟩
              case measure => simp [intOf]; omega
            · obtain ⟨d, hd'⟩ : ∃ d, N' - q = d := ⟨_, rfl⟩
              have hdd : IntKind.u64.wrap ((N' : Int) - (q : Int)) = (d : Int) := by rw [show (N' : Int) - (q : Int) = (d : Int) by omega]; exact IntWalk.u64_in _ (by have := HS.out; omega)
              have a1 : decide ((N' : Int) < (q : Int)) = false := by simp; omega
              have a2 : decide (N' < q) = false := by simp; omega
              have a3 : decide ((0 : Int) < (N' : Int)) = true := by simp; omega
              have a4 : decide (0 < N') = true := by simp; omega
              have a5 : decide ((q : Int) ≤ (N' : Int)) = true := by simp; omega
              have a6 : decide (q ≤ N') = true := by simp; omega
              have a7 : decide ((64 : Int) ≤ (d : Int)) = true := by simp; omega
              have a8 : decide (64 ≤ d) = true := by simp; omega
              have HA := Lib.hid (fun (_ : Unit) => HFA.out () (by omega))
              have HT := Lib.hid (fun (_ : Unit) => HTO.out () (by omega))
              go_wp2_with (first | (go_at_call 12; refine HK2.out.newest.mono ?_; rintro e w' ⟨rfl, rfl⟩) | (go_at_call 13; with_reducible refine Calls.mono (HK2.out.heard q _ HQ.out HA) ?_; rintro e w' ⟨rfl, rfl⟩) | (go_at_call 13; with_reducible refine Calls.mono (HK2.out.heard N' _ (by have := HS.out; omega) HT) ?_; rintro e w' ⟨rfl, rfl⟩))
              go_roundw
              case rel => exact ⟨k + 1, N', H', F', M', by omega, by omega, by go_num, HK2⟩
              case measure => simp [intOf]; omega
      · have HM := Lib.hid (fun (_ : Unit) => hm)
        clear hm
        by_cases ha : N' < q
        · by_cases hz : N' = 0
          · have hN0 : N' = 0 := by omega
            subst hN0
            have a1 : decide (((0 : Nat) : Int) < (q : Int)) = true := by simp; omega
            have a2 : decide (0 < q) = true := by simp; omega
            have a5 : decide ((q : Int) ≤ 0) = false := by simp; omega
            have HA := Lib.hid (fun (_ : Unit) => HAB.out () (by omega))
            go_wp2_with (first | (go_at_call 12; refine HK2.out.newest.mono ?_; rintro e w' ⟨rfl, rfl⟩) | (go_at_call 13; with_reducible refine Calls.mono (HK2.out.heard m _ HN.out HM) ?_; rintro e w' ⟨rfl, rfl⟩) | (go_at_call 13; with_reducible refine Calls.mono (HK2.out.heard q _ HQ.out HA) ?_; rintro e w' ⟨rfl, rfl⟩))
            go_roundw
            case rel => exact ⟨k + 1, 0, H', F', M', by omega, by omega, by go_num, HK2⟩
            case measure => simp [intOf]; omega
          · have a1 : decide ((N' : Int) < (q : Int)) = true := by simp; omega
            have a2 : decide (N' < q) = true := by simp; omega
            have a3 : decide ((0 : Int) < (N' : Int)) = true := by simp; omega
            have a4 : decide (0 < N') = true := by simp; omega
            have a5 : decide ((q : Int) ≤ (N' : Int)) = false := by simp; omega
            have a6 : decide (q ≤ N') = false := by simp; omega
            have HA := Lib.hid (fun (_ : Unit) => HAB.out () (by omega))
            have HT := Lib.hid (fun (_ : Unit) => HTO.out () (by omega))
            go_wp2_with (first | (go_at_call 12; refine HK2.out.newest.mono ?_; rintro e w' ⟨rfl, rfl⟩) | (go_at_call 13; with_reducible refine Calls.mono (HK2.out.heard m _ HN.out HM) ?_; rintro e w' ⟨rfl, rfl⟩) | (go_at_call 13; with_reducible refine Calls.mono (HK2.out.heard q _ HQ.out HA) ?_; rintro e w' ⟨rfl, rfl⟩) | (go_at_call 13; with_reducible refine Calls.mono (HK2.out.heard N' _ (by have := HS.out; omega) HT) ?_; rintro e w' ⟨rfl, rfl⟩))
            go_roundw
            case rel => exact ⟨k + 1, N', H', F', M', by omega, by omega, by go_num, HK2⟩
            case measure => simp [intOf]; omega
        · by_cases hz : N' = 0
          · have hN0 : N' = 0 := by omega
            subst hN0
            have a1 : decide (((0 : Nat) : Int) < (q : Int)) = false := by simp; omega
            have a2 : decide (0 < q) = false := by simp; omega
            go_wp2_with (first | (go_at_call 12; refine HK2.out.newest.mono ?_; rintro e w' ⟨rfl, rfl⟩) | (go_at_call 13; with_reducible refine Calls.mono (HK2.out.heard m _ HN.out HM) ?_; rintro e w' ⟨rfl, rfl⟩))
            go_roundw
            case rel => exact ⟨k + 1, 0, H', F', M', by omega, by omega, by go_num, HK2⟩
            case measure => simp [intOf]; omega
          · by_cases hf : N' - q < 64
            · obtain ⟨d, hd'⟩ : ∃ d, N' - q = d := ⟨_, rfl⟩
              have hdd : IntKind.u64.wrap ((N' : Int) - (q : Int)) = (d : Int) := by rw [show (N' : Int) - (q : Int) = (d : Int) by omega]; exact IntWalk.u64_in _ (by have := HS.out; omega)
              have a1 : decide ((N' : Int) < (q : Int)) = false := by simp; omega
              have a2 : decide (N' < q) = false := by simp; omega
              have a3 : decide ((0 : Int) < (N' : Int)) = true := by simp; omega
              have a4 : decide (0 < N') = true := by simp; omega
              have a5 : decide ((q : Int) ≤ (N' : Int)) = true := by simp; omega
              have a6 : decide (q ≤ N') = true := by simp; omega
              have a7 : decide ((64 : Int) ≤ (d : Int)) = false := by simp; omega
              have a8 : decide (64 ≤ d) = false := by simp; omega
              have HT := Lib.hid (fun (_ : Unit) => HTO.out () (by omega))
              go_wp2_with (first | (go_at_call 12; refine HK2.out.newest.mono ?_; rintro e w' ⟨rfl, rfl⟩) | (go_at_call 13; with_reducible refine Calls.mono (HK2.out.heard m _ HN.out HM) ?_; rintro e w' ⟨rfl, rfl⟩) | (go_at_call 13; with_reducible refine Calls.mono (HK2.out.heard N' _ (by have := HS.out; omega) HT) ?_; rintro e w' ⟨rfl, rfl⟩))
              go_roundw
              case rel => exact ⟨k + 1, N', H', F', M', by omega, by omega, by go_num, HK2⟩
              case measure => simp [intOf]; omega
            · obtain ⟨d, hd'⟩ : ∃ d, N' - q = d := ⟨_, rfl⟩
              have hdd : IntKind.u64.wrap ((N' : Int) - (q : Int)) = (d : Int) := by rw [show (N' : Int) - (q : Int) = (d : Int) by omega]; exact IntWalk.u64_in _ (by have := HS.out; omega)
              have a1 : decide ((N' : Int) < (q : Int)) = false := by simp; omega
              have a2 : decide (N' < q) = false := by simp; omega
              have a3 : decide ((0 : Int) < (N' : Int)) = true := by simp; omega
              have a4 : decide (0 < N') = true := by simp; omega
              have a5 : decide ((q : Int) ≤ (N' : Int)) = true := by simp; omega
              have a6 : decide (q ≤ N') = true := by simp; omega
              have a7 : decide ((64 : Int) ≤ (d : Int)) = true := by simp; omega
              have a8 : decide (64 ≤ d) = true := by simp; omega
              have HA := Lib.hid (fun (_ : Unit) => HFA.out () (by omega))
              have HT := Lib.hid (fun (_ : Unit) => HTO.out () (by omega))
              go_wp2_with (first | (go_at_call 12; refine HK2.out.newest.mono ?_; rintro e w' ⟨rfl, rfl⟩) | (go_at_call 13; with_reducible refine Calls.mono (HK2.out.heard m _ HN.out HM) ?_; rintro e w' ⟨rfl, rfl⟩) | (go_at_call 13; with_reducible refine Calls.mono (HK2.out.heard q _ HQ.out HA) ?_; rintro e w' ⟨rfl, rfl⟩) | (go_at_call 13; with_reducible refine Calls.mono (HK2.out.heard N' _ (by have := HS.out; omega) HT) ?_; rintro e w' ⟨rfl, rfl⟩))
              go_roundw
              case rel => exact ⟨k + 1, N', H', F', M', by omega, by omega, by go_num, HK2⟩
              case measure => simp [intOf]; omega
      · have HM := Lib.hid (fun (_ : Unit) => hm)
        clear hm
        by_cases ha : N' < q
        · by_cases hz : N' = 0
          · have hN0 : N' = 0 := by omega
            subst hN0
            have a1 : decide (((0 : Nat) : Int) < (q : Int)) = true := by simp; omega
            have a2 : decide (0 < q) = true := by simp; omega
            have a5 : decide ((q : Int) ≤ 0) = false := by simp; omega
            have HA := Lib.hid (fun (_ : Unit) => HAB.out () (by omega))
            go_wp2_with (first | (go_at_call 12; refine HK2.out.newest.mono ?_; rintro e w' ⟨rfl, rfl⟩) | (go_at_call 13; with_reducible refine Calls.mono (HK2.out.heard m _ HN.out HM) ?_; rintro e w' ⟨rfl, rfl⟩) | (go_at_call 13; with_reducible refine Calls.mono (HK2.out.heard q _ HQ.out HA) ?_; rintro e w' ⟨rfl, rfl⟩))
            go_roundw
            case rel => exact ⟨k + 1, 0, H', F', M', by omega, by omega, by go_num, HK2⟩
            case measure => simp [intOf]; omega
          · have a1 : decide ((N' : Int) < (q : Int)) = true := by simp; omega
            have a2 : decide (N' < q) = true := by simp; omega
            have a3 : decide ((0 : Int) < (N' : Int)) = true := by simp; omega
            have a4 : decide (0 < N') = true := by simp; omega
            have a5 : decide ((q : Int) ≤ (N' : Int)) = false := by simp; omega
            have a6 : decide (q ≤ N') = false := by simp; omega
            have HA := Lib.hid (fun (_ : Unit) => HAB.out () (by omega))
            have HT := Lib.hid (fun (_ : Unit) => HTO.out () (by omega))
            go_wp2_with (first | (go_at_call 12; refine HK2.out.newest.mono ?_; rintro e w' ⟨rfl, rfl⟩) | (go_at_call 13; with_reducible refine Calls.mono (HK2.out.heard m _ HN.out HM) ?_; rintro e w' ⟨rfl, rfl⟩) | (go_at_call 13; with_reducible refine Calls.mono (HK2.out.heard q _ HQ.out HA) ?_; rintro e w' ⟨rfl, rfl⟩) | (go_at_call 13; with_reducible refine Calls.mono (HK2.out.heard N' _ (by have := HS.out; omega) HT) ?_; rintro e w' ⟨rfl, rfl⟩))
            go_roundw
            case rel => exact ⟨k + 1, N', H', F', M', by omega, by omega, by go_num, HK2⟩
            case measure => simp [intOf]; omega
        · by_cases hz : N' = 0
          · have hN0 : N' = 0 := by omega
            subst hN0
            have a1 : decide (((0 : Nat) : Int) < (q : Int)) = false := by simp; omega
            have a2 : decide (0 < q) = false := by simp; omega
            go_wp2_with (first | (go_at_call 12; refine HK2.out.newest.mono ?_; rintro e w' ⟨rfl, rfl⟩) | (go_at_call 13; with_reducible refine Calls.mono (HK2.out.heard m _ HN.out HM) ?_; rintro e w' ⟨rfl, rfl⟩))
            go_roundw
            case rel => exact ⟨k + 1, 0, H', F', M', by omega, by omega, by go_num, HK2⟩
            case measure => simp [intOf]; omega
          · by_cases hf : N' - q < 64
            · obtain ⟨d, hd'⟩ : ∃ d, N' - q = d := ⟨_, rfl⟩
              have hdd : IntKind.u64.wrap ((N' : Int) - (q : Int)) = (d : Int) := by rw [show (N' : Int) - (q : Int) = (d : Int) by omega]; exact IntWalk.u64_in _ (by have := HS.out; omega)
              have a1 : decide ((N' : Int) < (q : Int)) = false := by simp; omega
              have a2 : decide (N' < q) = false := by simp; omega
              have a3 : decide ((0 : Int) < (N' : Int)) = true := by simp; omega
              have a4 : decide (0 < N') = true := by simp; omega
              have a5 : decide ((q : Int) ≤ (N' : Int)) = true := by simp; omega
              have a6 : decide (q ≤ N') = true := by simp; omega
              have a7 : decide ((64 : Int) ≤ (d : Int)) = false := by simp; omega
              have a8 : decide (64 ≤ d) = false := by simp; omega
              have HT := Lib.hid (fun (_ : Unit) => HTO.out () (by omega))
              go_wp2_with (first | (go_at_call 12; refine HK2.out.newest.mono ?_; rintro e w' ⟨rfl, rfl⟩) | (go_at_call 13; with_reducible refine Calls.mono (HK2.out.heard m _ HN.out HM) ?_; rintro e w' ⟨rfl, rfl⟩) | (go_at_call 13; with_reducible refine Calls.mono (HK2.out.heard N' _ (by have := HS.out; omega) HT) ?_; rintro e w' ⟨rfl, rfl⟩))
              go_roundw
              case rel => exact ⟨k + 1, N', H', F', M', by omega, by omega, by go_num, HK2⟩
              case measure => simp [intOf]; omega
            · obtain ⟨d, hd'⟩ : ∃ d, N' - q = d := ⟨_, rfl⟩
              have hdd : IntKind.u64.wrap ((N' : Int) - (q : Int)) = (d : Int) := by rw [show (N' : Int) - (q : Int) = (d : Int) by omega]; exact IntWalk.u64_in _ (by have := HS.out; omega)
              have a1 : decide ((N' : Int) < (q : Int)) = false := by simp; omega
              have a2 : decide (N' < q) = false := by simp; omega
              have a3 : decide ((0 : Int) < (N' : Int)) = true := by simp; omega
              have a4 : decide (0 < N') = true := by simp; omega
              have a5 : decide ((q : Int) ≤ (N' : Int)) = true := by simp; omega
              have a6 : decide (q ≤ N') = true := by simp; omega
              have a7 : decide ((64 : Int) ≤ (d : Int)) = true := by simp; omega
              have a8 : decide (64 ≤ d) = true := by simp; omega
              have HA := Lib.hid (fun (_ : Unit) => HFA.out () (by omega))
              have HT := Lib.hid (fun (_ : Unit) => HTO.out () (by omega))
              go_wp2_with (first | (go_at_call 12; refine HK2.out.newest.mono ?_; rintro e w' ⟨rfl, rfl⟩) | (go_at_call 13; with_reducible refine Calls.mono (HK2.out.heard m _ HN.out HM) ?_; rintro e w' ⟨rfl, rfl⟩) | (go_at_call 13; with_reducible refine Calls.mono (HK2.out.heard q _ HQ.out HA) ?_; rintro e w' ⟨rfl, rfl⟩) | (go_at_call 13; with_reducible refine Calls.mono (HK2.out.heard N' _ (by have := HS.out; omega) HT) ?_; rintro e w' ⟨rfl, rfl⟩))
              go_roundw
              case rel => exact ⟨k + 1, N', H', F', M', by omega, by omega, by go_num, HK2⟩
              case measure => simp [intOf]; omega
    · have HBW := Lib.hid (show Below w.heap.size w wr from HK.out.below)
      clear HK
      by_cases hl : k < n
      · have h100 : 100 ≤ k := by omega
        clear hlt
        go_wp2_with fail
        refine (alive_any _).mono ?_
        rintro e w2 ⟨rfl, h2⟩
        have H2 := Lib.hid h2
        clear h2
        go_wp2
        go_ret
        exact ⟨rfl, HBW.out.trans (H2.out.mono HBW.out.size)⟩
      · have hge : n ≤ k := by omega
        clear hlt
        go_wp2_with fail
        refine (alive_any _).mono ?_
        rintro e w2 ⟨rfl, h2⟩
        have H2 := Lib.hid h2
        clear h2
        go_wp2
        go_ret
        exact ⟨rfl, HBW.out.trans (H2.out.mono HBW.out.size)⟩
end Go.Proofs.Ytjbnoggmnfannaa
