/-
  Proved here: PeerLives walked: it returns true, whatever the nonces, and nothing that was there is changed.
-/
import Derived.Test.YtjbnoggmnfannaaPz
import Derived.Test.YtjbnoggmnfannaaPn
namespace Go.Proofs.Ytjbnoggmnfannaa
open Go.RowKit
/-- Both peers: the program's in the first block of this call's own, the document's in the second. -/
def LvAt (w : World) (k : Nat) (p : PV) (W : World) : Prop := ∃ L vL vA, L.length ≤ k ∧ Hd L p ∧ (L.map Prod.fst).Nodup ∧ Pw w w.heap.size p W ∧ RP W (w.heap.size + 1) vL vA L p.M
/-- The program's peer heard one more. -/
def LvMid (w : World) (k : Nat) (p p' : PV) (W : World) : Prop := ∃ L vL vA, L.length ≤ k ∧ Hd L p ∧ (L.map Prod.fst).Nodup ∧ Pw w w.heap.size p' W ∧ RP W (w.heap.size + 1) vL vA L p.M
section
variable {w : World} {k : Nat} {p p' : PV} {W : World}
theorem LvAt.below (h : LvAt w k p W) : Below w.heap.size w W := by obtain ⟨_, _, _, _, _, _, h, _⟩ := h; exact h.below
theorem LvMid.below (h : LvMid w k p p' W) : Below w.heap.size w W := by obtain ⟨_, _, _, _, _, _, h, _⟩ := h; exact h.below
theorem LvAt.drewN (h : LvAt w k p W) (n : Nat) : LvAt w k p (W.drewN n) := by obtain ⟨L, a, b, h1, h2, h3, h4, h5⟩ := h; exact ⟨L, a, b, h1, h2, h3, h4.drewN n, ⟨h5.row, h5.ownL, h5.ownA⟩⟩
theorem LvAt.drew (h : LvAt w k p W) : LvAt w k p W.drew := h.drewN 1
theorem LvMid.drew (h : LvMid w k p p' W) : LvMid w k p p' W.drew := by obtain ⟨L, a, b, h1, h2, h3, h4, h5⟩ := h; exact ⟨L, a, b, h1, h2, h3, h4.drew, h5.drew⟩
theorem LvAt.hears (h : LvAt w k p W) (hk : k ≤ 200) (n : Nat) (f : Int) (b : Bool) (E : Int) (hr : hearS p n f = (p', b, E)) (hn : n < 18446744073709551616) :
    Calls Try.prog 8 #[.pointer (some ⟨w.heap.size, 0, none⟩), .int .u64 n, .int .u32 f] W fun e w' => e = .returned (.tuple #[.bool b, .int .i64 E]) ∧ Hid (LvMid w k p p' w') := by
  obtain ⟨L, vL, vA, h1, h2, h3, h4, h5⟩ := h
  exact (hear_po w _ p p' L h2 (by omega) n f b E hr W h4 hn).mono fun _ _ ⟨e1, e2, e3⟩ => ⟨e1, Lib.hid ⟨L, vL, vA, h1, h2, h3, e2.out, h5.only e3.out (by omega)⟩⟩
theorem LvMid.hears (h : LvMid w k p p' W) (hk : k ≤ 200) (n : Nat) (f : Int) (b : Bool) (E : Int) (hr : hearS p n f = (p', b, E)) (hn : n < 18446744073709551616) :
    Calls Try.prog 9 #[.pointer (some ⟨w.heap.size + 1, 0, none⟩), .int .u64 n, .int .u32 f] W fun e w' => e = .returned (.tuple #[.bool b, .int .i64 E]) ∧ Hid (LvAt w (k + 1) p' w') := by
  obtain ⟨L, vL, vA, h1, h2, h3, h4, h5⟩ := h
  refine (rhear_any h5 (by omega) h2 h3 n f hn).mono fun e w' hp => ?_
  have hh := h2.hear n f
  unfold RPost at hp
  rw [hr] at hp hh
  dsimp only at hp hh
  obtain ⟨e1, v1, v2, hR, hB⟩ := hp
  have hsz := h4.size
  have hP : Pw w w.heap.size p' w' := ⟨(hB.block w.heap.size (by omega)).trans h4.pr, h4.below.trans (hB.mono (by omega)), h4.own⟩
  refine ⟨e1, Lib.hid ?_⟩
  rcases hh with ⟨q1, q2, _⟩ | ⟨q1, _, q3, q4, _⟩
  · rw [if_neg q1] at hR
    subst q2
    exact ⟨L, v1, v2, by omega, h2, h3, hP, hR⟩
  · rw [if_pos q1] at hR
    refine ⟨_, v1, v2, by simp; omega, q4, ?_, hP, hR⟩
    rw [List.map_append, List.nodup_append]
    exact ⟨h3, by simp, fun a ha b hb e => by simp at hb; subst hb; subst e; exact q3 ha⟩
theorem LvAt.from (h : LvAt w k p W) (b : Bool) (hb : decide (p.N ≠ 0) = b) : Calls Try.prog 11 #[.pointer (some ⟨w.heap.size, 0, none⟩)] W fun e w' => e = .returned (.tuple #[.int .u32 p.F, .bool b]) ∧ W = w' := by
  obtain ⟨L, vL, vA, h1, h2, h3, h4, h5⟩ := h
  exact from_pw w _ p L h2 b W h4 hb
/-- What the law reads of the document's Peer. -/
def Reads (w : World) (p : PV) (W : World) (a : Int) : Prop := (p.N = 0 ∧ a = -1 ∧ p.F = 0) ∨ (0 < p.N ∧ ∃ (j g n c : Nat), a = j ∧ j < n ∧ n ≤ 1000 ∧ g < W.heap.size ∧ W.cell? ⟨w.heap.size + 1, 1, none⟩ = some (.slice (some ⟨g, 0, none⟩) n c) ∧ W.cell? ⟨g, j, none⟩ = some (.int .u32 p.F))
theorem LvAt.cell2 (h : LvAt w k p W) : W.cell? ⟨w.heap.size + 1, 2, none⟩ = some (.int .i64 p.M) ∧ w.heap.size + 1 < W.heap.size := by
  obtain ⟨L, vL, vA, h1, h2, h3, h4, h5⟩ := h
  exact ⟨h5.c2, h5.lt⟩
theorem LvAt.rnewest (h : LvAt w k p W) (hk : k ≤ 200) : Calls Try.prog 10 #[.pointer (some ⟨w.heap.size + 1, 0, none⟩)] W fun e w' => (∃ a : Int, e = .returned (.tuple #[.int .u64 p.N, .int .i64 a]) ∧ Reads w p W a) ∧ W = w' := by
  obtain ⟨L, vL, vA, h1, h2, h3, h4, h5⟩ := h
  refine (rnewest_any h5 (by omega) h2.pos).mono ?_
  rintro e w' ⟨⟨N, a, rfl, hS⟩, rfl⟩
  obtain ⟨rfl, hnil, hsome⟩ := hS.eq h2
  refine ⟨⟨a, rfl, ?_⟩, rfl⟩
  by_cases hL : L = []
  · obtain ⟨q1, q2⟩ := hnil hL
    exact .inl ⟨q2, q1, (h2.zero q2).2⟩
  · obtain ⟨q1, j, q2, q3, q4⟩ := hsome hL
    obtain ⟨A, c, rfl, _⟩ := own_slice h5.ownA
    obtain ⟨g, rfl, _, q5, hc⟩ := own_cells h5.ownA (addrs_len L) (by omega)
    have e5 := hc j q3
    rw [addrs_at q3, addr_top h2 h3 q3 q4] at e5
    exact .inr ⟨q1, j, g, L.length, c, q2, q3, by omega, q5, h5.c1, e5⟩
theorem LvAt.q12 (h : LvAt w k p W) : Calls Try.prog 12 #[.pointer (some ⟨w.heap.size, 0, none⟩)] W fun e w' => e = .returned (.int .u64 p.N) ∧ w' = W := by
  obtain ⟨L, vL, vA, h1, h2, h3, h4, h5⟩ := h
  exact (newest_pw w _ p W h4).mono fun _ _ ⟨a, b⟩ => ⟨a, b.symm⟩
theorem LvAt.q15 (h : LvAt w k p W) : Calls Try.prog 15 #[.pointer (some ⟨w.heap.size, 0, none⟩)] W fun e w' => e = .returned (.int .i64 p.M) ∧ w' = W := by
  obtain ⟨L, vL, vA, h1, h2, h3, h4, h5⟩ := h
  exact (moves_pw w _ p W h4).mono fun _ _ ⟨a, b⟩ => ⟨a, b.symm⟩
theorem LvAt.q13 (h : LvAt w k p W) (n : Nat) (hn : n < 18446744073709551616) : Calls Try.prog 13 #[.pointer (some ⟨w.heap.size, 0, none⟩), .int .u64 n] W fun e w' => e = .returned (.bool (heardS p.N p.H n)) ∧ w' = W := by
  obtain ⟨L, vL, vA, h1, h2, h3, h4, h5⟩ := h
  exact (heard_pw w _ p L h2 n _ W h4 hn rfl).mono fun _ _ ⟨a, b⟩ => ⟨a, b.symm⟩
theorem LvAt.q14 (h : LvAt w k p W) (hk : k ≤ 200) (n : Nat) (hn : n < 18446744073709551616) : Calls Try.prog 14 #[.pointer (some ⟨w.heap.size + 1, 0, none⟩), .int .u64 n] W fun e w' => e = .returned (.bool (heardS p.N p.H n)) ∧ w' = W := by
  obtain ⟨L, vL, vA, h1, h2, h3, h4, h5⟩ := h
  exact (rheard_any h5 (by omega) h2 n hn _ rfl).mono fun _ _ ⟨a, b⟩ => ⟨a, b.symm⟩
theorem LvAt.new (w : World) : LvAt w 0 ⟨0, 0, 0, 0⟩ ((w.alloc (.cells #[.bool true, .int .u64 0, .int .u64 0, .int .u32 0, .int .i64 0] 45)).alloc (.cells #[.slice none 0 0, .slice none 0 0, .int .i64 0] 30)) :=
  ⟨[], .slice none 0 0, .slice none 0 0, by simp, Hd.new, by simp, ⟨(old_block _ _ _ (by simp)).trans (new_block _ _ _ rfl), ((Below.refl _ _).alloc (Nat.le_refl _) _).alloc (by simp) _, Nat.le_refl _⟩, ⟨new_block _ _ _ (by simp), World.ownsRow_nil _ _ _ _, World.ownsRow_nil _ _ _ _⟩⟩
end

set_option maxRecDepth 100000 in
set_option maxHeartbeats 4000000 in
theorem lives_law (zs : List (Nat × Int)) (A : Option Addr) (n cap q : Nat) (w : World) (hs : SlW w A n cap zs) (hq : q < 18446744073709551616) :
    Calls Try.prog 3 #[.slice A n cap, .int .u64 q] w fun e w' => e = .returned (.bool true) ∧ Below w.heap.size w w' := by
  obtain ⟨hlen, hr, hok, hle, hmx⟩ := hs
  have hmx' : n ≤ 9223372036854775807 := by unfold maxLen at hmx; omega
  have HR := Lib.hid hr
  have HOk := Lib.hid hok
  have HQ := Lib.hid hq
  clear hr hok hle hmx hlen hq
  go_enter Try.func3, Try.ntmps3
  go_wp2_with fail
  refine (new_any w).mono ?_
  rintro e w1 ⟨rfl, rfl⟩
  have H0 := Lib.hid (LvAt.new w)
  go_wp2
  go_loopw [7] (fun i wr => ∃ (k N H : Nat) (F M : Int), k ≤ n ∧ k ≤ 150 ∧ i = .int .i64 k ∧ Hid (LvAt w k ⟨N, H, F, M⟩ wr)) (fun i _ => 150 - (intOf i).toNat)
  case atStart => exact ⟨0, 0, 0, 0, 0, by omega, by omega, rfl, H0⟩
  case round =>
    obtain ⟨k, N, H, F, M, hk, hk2, rfl, HK⟩ := hrel
    clear H0
    by_cases hlt : k < n ∧ k < 150
    · obtain ⟨hlt, h150⟩ := hlt
      obtain ⟨bl, off, rfl, hb, hc⟩ := HR.out (by omega)
      obtain ⟨c0, c1⟩ := hc k hlt
      have hn := HOk.out k hlt
      obtain ⟨z, hz⟩ : ∃ z, wAt zs k = z := ⟨_, rfl⟩
      rw [hz] at c0 c1 hn
      obtain ⟨m, f⟩ := z
      dsimp only at c0 c1 hn
      have e0 := (HK.out.below.cell (p := ⟨bl, off + k * 2, none⟩) hb).trans c0
      have e1 := (HK.out.below.cell (p := ⟨bl, off + k * 2 + 1, none⟩) hb).trans c1
      have hd : decide ((k : Int) < 150) = true := by simp; omega
      have HC := Lib.hid (fun (W : World) (hb9 : Below w.heap.size w W) => And.intro ((hb9.cell (p := ⟨bl, off + k * 2, none⟩) hb).trans c0) ((hb9.cell (p := ⟨bl, off + k * 2 + 1, none⟩) hb).trans c1))
      have g3 : (0 : Int) ≤ (k : Int) := by omega
      have g4 : (k : Int) < (n : Int) := by omega
      obtain ⟨⟨⟨N', H', F', M'⟩, b, E⟩, hre⟩ : ∃ r, hearS ⟨N, H, F, M⟩ m f = r := ⟨_, rfl⟩
      have HRE := Lib.hid hre
      have HN := Lib.hid hn
      clear hre hn hc c0 c1 hz hb
      go_wp2
      go_region_held3 (fun W => W.cell? ⟨bl, off + k * 2, none⟩ = some (.int .u64 m) ∧ W.cell? ⟨bl, off + k * 2 + 1, none⟩ = some (.int .u32 f))
        (first | exact HC.out _ (LvMid.below (Hid.out (by assumption))) | exact HC.out _ HK.out.drew.below | exact HC.out _ HK.out.below)
        (first | (go_at_call 8; refine (HK.out.drew.hears (by omega) m f b E HRE.out HN.out).mono ?_; rintro e w2 ⟨rfl, h2⟩))
      clear e0 e1 HK
      obtain ⟨e0, e1⟩ := HC.out _ h2.out.below
      go_wp2
      go_region_held3 (fun W => W.cell? ⟨bl, off + k * 2, none⟩ = some (.int .u64 m) ∧ W.cell? ⟨bl, off + k * 2 + 1, none⟩ = some (.int .u32 f))
        (first | exact HC.out _ (LvAt.below (Hid.out (by assumption))) | exact HC.out _ h2.out.drew.below | exact HC.out _ h2.out.below)
        (first | (go_at_call 9; refine (h2.out.drew.hears (by omega) m f b E HRE.out HN.out).mono ?_; rintro e w3 ⟨rfl, h3⟩))
      clear e0 e1 h2 HRE HN HC
      obtain ⟨s', hs'⟩ : ∃ s, decide (N' ≠ 0) = s := ⟨_, rfl⟩
      have HS' := Lib.hid hs'
      have HG := Lib.hid h3.out
      clear h3 hs'
      go_wp2_with fail
      refine (HG.out.rnewest (by omega)).mono ?_
      rintro e w' ⟨⟨a, rfl, hrd⟩, rfl⟩
      have HRD := Lib.hid hrd
      clear hrd
      go_wp2_with fail
      refine (HG.out.from s' HS'.out).mono ?_
      rintro e w' ⟨rfl, rfl⟩
      have hNN : ((N' : Int) != (N' : Int)) = false := by simp
      have hNN2 : (N' != N') = false := by simp
      have hFF : (F' != F') = false := by simp
      have hMM : (M' != M') = false := by simp
      have hEE : (E != E) = false := by simp
      have hbb : (b != b) = false := by simp
      obtain ⟨hh, hhh⟩ : ∃ x, heardS N' H' q = x := ⟨_, rfl⟩
      have hhe : (hh != hh) = false := by simp
      have Q12 := Lib.hid (fun j => (HG.out.drewN j).q12)
      have Q15 := Lib.hid (fun j => (HG.out.drewN j).q15)
      have Q13 := Lib.hid (fun j => (HG.out.drewN j).q13 q HQ.out)
      have Q14 := Lib.hid (fun j => (HG.out.drewN j).q14 (by omega) q HQ.out)
      obtain ⟨cm, cl⟩ := HG.out.cell2
      dsimp only at Q12 Q15 Q13 Q14 cm
      rw [hhh] at Q13 Q14
      clear hhh
      rcases HRD.out with ⟨hz, rfl, hF0⟩ | ⟨hpos, j, g, nn, cc, rfl, hjn, hnn, hgw, cx1, cg⟩
      · dsimp only at hz hF0
        have hs0 : s' = false := by rw [← HS'.out]; simp [hz]
        subst hs0 hF0
        clear HRD HS' hz
        go_wp2
        go_quiet (first | (go_at_call 12; refine Calls.quiet_of_same (Q12.out _)) | (go_at_call 13; refine Calls.quiet_of_same (Q13.out _)) | (go_at_call 14; refine Calls.quiet_of_same (Q14.out _)) | (go_at_call 15; refine Calls.quiet_of_same (Q15.out _)))
        go_wp2
        go_roundw
        case rel => exact ⟨k + 1, N', H', 0, M', by omega, by omega, by go_num, Lib.hid (HG.out.drewN nq)⟩
        case measure => simp [intOf]; omega
      · dsimp only at hpos cg
        have hs0 : s' = true := by rw [← HS'.out]; simp; omega
        subst hs0
        have j0 : (0 : Int) ≤ (j : Int) := by omega
        have j1 : (j : Int) < (nn : Int) := by omega
        have j2 : decide ((0 : Int) ≤ (j : Int)) = true := by simp
        have j3 : decide ((j : Int) < 0) = false := by simp
        clear HRD HS' hpos
        go_wp2
        go_quiet (first | (go_at_call 12; refine Calls.quiet_of_same (Q12.out _)) | (go_at_call 13; refine Calls.quiet_of_same (Q13.out _)) | (go_at_call 14; refine Calls.quiet_of_same (Q14.out _)) | (go_at_call 15; refine Calls.quiet_of_same (Q15.out _)))
        go_wp2
        go_roundw
        case rel => exact ⟨k + 1, N', H', F', M', by omega, by omega, by go_num, Lib.hid (HG.out.drewN nq)⟩
        case measure => simp [intOf]; omega
    · have HBW := Lib.hid (show Below w.heap.size w wr from HK.out.below)
      have HZ := Lib.hid (show Zp (wr.alloc (.cells #[.bool false, .int .u64 0, .int .u64 0, .int .u32 0, .int .i64 0] 45)) wr.heap.size from new_block _ _ _ rfl)
      clear HK
      by_cases hl : k < n
      · have h150 : 150 ≤ k := by omega
        clear hlt
        go_wp2_with fail
        refine (hear_nil 1 1 _).mono ?_
        rintro e w' ⟨rfl, rfl⟩
        go_wp2_with fail
        refine (hear_zp wr.heap.size 1 1 _ HZ.out).mono ?_
        rintro e w' ⟨rfl, rfl⟩
        go_wp2_with fail
        refine (From_nil _).mono ?_
        rintro e w' ⟨rfl, rfl⟩
        go_wp2_with fail
        refine (alive_any _).mono ?_
        rintro e w2 ⟨rfl, h2⟩
        have HZ2 : Hid (Zp w2 wr.heap.size) := Lib.hid ((h2.block _ (by simp)).trans HZ.out)
        have H2 := Lib.hid h2
        clear h2
        go_wp2_with fail
        refine (Heard_nil _ _).mono ?_
        rintro e w' ⟨rfl, rfl⟩
        go_wp2_with fail
        refine (heard_zp wr.heap.size _ _ HZ2.out).mono ?_
        rintro e w' ⟨rfl, rfl⟩
        go_wp2_with fail
        refine (Newest_nil _).mono ?_
        rintro e w' ⟨rfl, rfl⟩
        go_wp2_with fail
        refine (Moves_nil _).mono ?_
        rintro e w' ⟨rfl, rfl⟩
        go_wp2
        go_ret
        exact ⟨rfl, (HBW.out.alloc HBW.out.size _).trans (H2.out.mono (by have := HBW.out.size; simp; omega))⟩
      · have hge : n ≤ k := by omega
        clear hlt
        go_wp2_with fail
        refine (hear_nil 1 1 _).mono ?_
        rintro e w' ⟨rfl, rfl⟩
        go_wp2_with fail
        refine (hear_zp wr.heap.size 1 1 _ HZ.out).mono ?_
        rintro e w' ⟨rfl, rfl⟩
        go_wp2_with fail
        refine (From_nil _).mono ?_
        rintro e w' ⟨rfl, rfl⟩
        go_wp2_with fail
        refine (alive_any _).mono ?_
        rintro e w2 ⟨rfl, h2⟩
        have HZ2 : Hid (Zp w2 wr.heap.size) := Lib.hid ((h2.block _ (by simp)).trans HZ.out)
        have H2 := Lib.hid h2
        clear h2
        go_wp2_with fail
        refine (Heard_nil _ _).mono ?_
        rintro e w' ⟨rfl, rfl⟩
        go_wp2_with fail
        refine (heard_zp wr.heap.size _ _ HZ2.out).mono ?_
        rintro e w' ⟨rfl, rfl⟩
        go_wp2_with fail
        refine (Newest_nil _).mono ?_
        rintro e w' ⟨rfl, rfl⟩
        go_wp2_with fail
        refine (Moves_nil _).mono ?_
        rintro e w' ⟨rfl, rfl⟩
        go_wp2
        go_ret
        exact ⟨rfl, (HBW.out.alloc HBW.out.size _).trans (H2.out.mono (by have := HBW.out.size; simp; omega))⟩
end Go.Proofs.Ytjbnoggmnfannaa
