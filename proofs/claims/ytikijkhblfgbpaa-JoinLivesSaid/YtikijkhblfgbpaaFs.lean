/-
  Proved here: Split (frag) answers a frame's parts, as 'splitS' says, in memory of its own.
-/
import Derived.Test.YtikijkhblfgbpaaFr
namespace Go.Proofs.Ytikijkhblfgbpaa
open Go.RowKit

/-- A slice that reads as parts. -/
def PS (w : World) (B : Nat) (A : Option Addr) (ps : List Prt) : Prop :=
  0 < ps.length → ∃ b off, A = some ⟨b, off, none⟩ ∧ b < B ∧ ∀ i, i < ps.length →
    w.cell? ⟨b, off + i * 4, none⟩ = some (.int .u64 (pAt ps i).id) ∧ w.cell? ⟨b, off + i * 4 + 1, none⟩ = some (.int .i64 (pAt ps i).ix) ∧ w.cell? ⟨b, off + i * 4 + 2, none⟩ = some (.int .i64 (pAt ps i).ct) ∧
    ∃ A' c', w.cell? ⟨b, off + i * 4 + 3, none⟩ = some (.slice A' (pAt ps i).d.length c') ∧ RB w B A' (pAt ps i).d ∧ (pAt ps i).d.length ≤ c' ∧ c' ≤ maxLen ∧ (A' = none → c' = 0)

theorem cell_some {w : World} {g i : Nat} {C : Array Value} {t : TypeId} {fr : Nat × Nat} (h : w.heap[g]? = some (.cells C t fr)) (hi : i < C.size) : ∃ x, w.cell? ⟨g, i, none⟩ = some x := ⟨C[i], by simp [World.cell?, h, hi]⟩
theorem infoPart : (Try.prog.info? 30).map (fun i => (i.zero, i.size, i.bytes)) = some (some (.agg #[.int .u64 0, .int .i64 0, .int .i64 0, .slice none 0 0]), 4, 48) := by kernel_rfl
/-- 'make' of parts. -/
theorem make_parts (K : Nat) (hK : K ≤ 64) : ∃ M : Array Value, M.size = K * 4 ∧ ∀ W : World, (Instr.makeSlice 22 (.int .i64 K) (.int .i64 K)).run Try.prog W = .ok (.slice (some ⟨W.heap.size, 0, none⟩) K K) (W.alloc (.cells M 30)) := by
  obtain ⟨i0, hi, hz0, hz1, hz2⟩ := info_parts infoPart
  refine ⟨madeCells (Value.agg #[.int .u64 0, .int .i64 0, .int .i64 0, .slice none 0 0]).cells (K * 4), size_madeCells _ _, fun W => ?_⟩
  have h := run_make (P := Try.prog) W 22 30 i0 _ Try.underlying22 hi hz0 .i64 .i64 K K (by omega) (by omega) (by rw [hz2]; omega) (by omega)
  rw [Int.toNat_natCast, hz1] at h
  exact h

/-- The cells of the first k parts of a frame whose bytes lie in block g. -/
def Cells4 (C : Array Value) (g K : Nat) (id : Int) (n k : Nat) : Prop := ∀ j, j < k →
  C[j * 4]? = some (.int .u64 id) ∧ C[j * 4 + 1]? = some (.int .i64 j) ∧ C[j * 4 + 2]? = some (.int .i64 K) ∧ C[j * 4 + 3]? = some (.slice (some ⟨g, 480 * j, none⟩) (lenS n j) (lenS n j))
/-- What the loop leaves. -/
structure SplitAt (w1 : World) (g K : Nat) (id : Int) (n k : Nat) (wr : World) : Prop where
  row : ∃ C, wr.heap[w1.heap.size]? = some (.cells C 30 (0, 0)) ∧ C.size = K * 4 ∧ Cells4 C g K id n k
  below : Below w1.heap.size w1 wr

theorem splitAt_put {w1 wr : World} {g K n k L : Nat} {id : Int} {C : Array Value} (hC : wr.heap[w1.heap.size]? = some (.cells C 30 (0, 0))) (hCs : C.size = K * 4) (hC4 : Cells4 C g K id n k) (hb : Below w1.heap.size w1 wr) (hk : k < K) (hL : lenS n k = L) :
    SplitAt w1 g K id n (k + 1) ((((wr.setCell ⟨w1.heap.size, k * 4, none⟩ (.int .u64 id)).setCell ⟨w1.heap.size, k * 4 + 1, none⟩ (.int .i64 k)).setCell ⟨w1.heap.size, k * 4 + 2, none⟩ (.int .i64 K)).setCell ⟨w1.heap.size, k * 4 + 3, none⟩ (.slice (some ⟨g, 480 * k, none⟩) L L)) := by
  subst hL
  refine ⟨⟨_, heap_setCell_same _ _ _ _ _ _ (heap_setCell_same _ _ _ _ _ _ (heap_setCell_same _ _ _ _ _ _ (heap_setCell_same _ _ _ _ _ _ hC))), by simp [hCs], fun j hj => ?_⟩, (((hb.setCell (Nat.le_refl _) _).setCell (Nat.le_refl _) _).setCell (Nat.le_refl _) _).setCell (Nat.le_refl _) _⟩
  rcases Nat.lt_or_ge j k with h | h
  · obtain ⟨h0, h1, h2, h3⟩ := hC4 j h
    simp only [Array.getElem?_setIfInBounds]
    refine ⟨?_, ?_, ?_, ?_⟩
    · rw [if_neg (by omega), if_neg (by omega), if_neg (by omega), if_neg (by omega), h0]
    · rw [if_neg (by omega), if_neg (by omega), if_neg (by omega), if_neg (by omega), h1]
    · rw [if_neg (by omega), if_neg (by omega), if_neg (by omega), if_neg (by omega), h2]
    · rw [if_neg (by omega), if_neg (by omega), if_neg (by omega), if_neg (by omega), h3]
  · obtain rfl : j = k := by omega
    simp only [Array.getElem?_setIfInBounds, Array.size_setIfInBounds, hCs]
    refine ⟨?_, ?_, ?_, ?_⟩
    · rw [if_neg (by omega), if_neg (by omega), if_neg (by omega), if_pos trivial, if_pos (by omega)]
    · rw [if_neg (by omega), if_neg (by omega), if_pos trivial, if_pos (by omega)]
    · rw [if_neg (by omega), if_pos trivial, if_pos (by omega)]
    · rw [if_pos trivial, if_pos (by omega)]

/-- What Split answers. -/
def SplitPost (id : Int) (bs : List Int) (w : World) (e : Ending) (w' : World) : Prop :=
  ∃ A, e = .returned (.tuple #[.slice A (cntS bs.length) (cntS bs.length), .int .i64 0]) ∧ PS w' w'.heap.size A (splitS id bs) ∧ Below w.heap.size w w'
theorem split_end {w w1 wr : World} {g K c : Nat} {id : Int} {bs : List Int} (hK : cntS bs.length = K) (hb1 : Below w.heap.size w w1) (hown : w1.ownsRow w.heap.size 5 1 (.slice (some ⟨g, 0, none⟩) bs.length c) bs.length (B8 bs)) (hS : SplitAt w1 g K id bs.length K wr) :
    SplitPost id bs w (.returned (.tuple #[.slice (some ⟨w1.heap.size, 0, none⟩) K K, .int .i64 0])) wr := by
  subst hK
  obtain ⟨⟨C, hC, hCs, hC4⟩, hb⟩ := hS
  obtain ⟨A, c', hv, hR, hc1, hc2, _⟩ := RB.of_own hown
  injection hv with hA _ hc
  subst hA; subst hc
  have hR' := (hR.below hb).keep' hb.size
  unfold maxLen at hc2
  refine ⟨_, rfl, fun _ => ⟨_, _, rfl, lt_of_block hC, fun i hi => ?_⟩, hb1.trans (hb.mono hb1.size)⟩
  rw [splitS_length] at hi
  obtain ⟨h0, h1, h2, h3⟩ := hC4 i hi
  have e := partS_length (id := id) (K := cntS bs.length) hi
  rw [splitS_at hi, e]
  have hin : 480 * i + lenS bs.length i ≤ bs.length := by
    unfold lenS
    rcases Nat.eq_zero_or_pos bs.length with hz | hz
    · have : cntS bs.length = 1 := by rw [hz]; rfl
      omega
    · have := cntS_in hi hz
      omega
  have hR2 := hR'.cut hin
  refine ⟨by simp [World.cell?, hC, h0, partS], by simp [World.cell?, hC, h1, partS], by simp [World.cell?, hC, h2, partS], some ⟨g, 480 * i, none⟩, lenS bs.length i, by simp [World.cell?, hC, h3], ?_, Nat.le_refl _, ?_, fun h => by cases h⟩
  · rw [Nat.zero_add] at hR2
    exact hR2
  · unfold maxLen lenS; omega

set_option maxRecDepth 100000 in
set_option maxHeartbeats 1000000 in
theorem split_main (id : Int) (bs : List Int) (A : Option Addr) (cap : Nat) (w : World) (h0 : 1 ≤ id) (h1 : id ≤ 4611686018427387903) (hn : bs.length ≤ 24000) (hR : RB w w.heap.size A bs) (hA : A = none → cap = 0) (hp : 0 < bs.length) :
    Calls Try.prog 17 #[.int .u64 id, .slice A bs.length cap] w (SplitPost id bs w) := by
  have HC := Lib.hid (fun n (h : bs.length = n) => clone_n bs n h A cap w hR (by omega) hA)
  have HL := Lib.hid (cntI_in hn)
  have hK := cntS_le hn
  have hK1 := cntS_pos bs.length
  obtain ⟨M, hM, hmk⟩ := make_parts (cntS bs.length) (by omega)
  have HM := Lib.hid hM
  clear hM
  obtain ⟨K, hKe⟩ : ∃ K, cntS bs.length = K := ⟨_, rfl⟩
  rw [hKe] at HL hK hK1 hmk HM
  have HK := Lib.hid hKe
  clear hKe
  go_enter Try.func17, Try.ntmps17
  go_wp2_with fail
  refine (isID_any id _ (by omega) (by omega)).mono ?_
  rw [isid_yes ⟨h0, h1⟩]
  rintro e w' ⟨rfl, rfl⟩
  go_wp2_with fail
  refine (HC.out _ rfl).mono ?_
  rintro e w1 ⟨v, rfl, hown, hb1⟩
  obtain ⟨g, c, rfl, hcc, hlt⟩ := hown.form hp
  go_wp2_with fail
  refine (count_any _ _).mono ?_
  rw [HL.out]
  rintro e w' ⟨rfl, rfl⟩
  have hs0 : SplitAt w1 g K id bs.length 0 (w1.alloc (.cells M 30)) := ⟨⟨M, heap_alloc_new _ _, HM.out, fun j h => absurd h (by omega)⟩, (Below.refl _ _).alloc (Nat.le_refl _) _⟩
  have HS0 := Lib.hid hs0
  clear hs0
  have hcap : bs.length ≤ c ∧ c ≤ maxLen := by obtain ⟨_, _, h1, h2, h3, _⟩ := own_slice hown; injection h1 with _ _ h1; omega
  unfold maxLen at hcap
  obtain ⟨hlc, hcap⟩ := hcap
  go_wp2
  go_loopw [6, 26] (fun rest i wr => ∃ k off c' : Nat, k ≤ K ∧ i = .int .i64 k ∧ rest = .slice (some ⟨g, off, none⟩) (bs.length - 480 * k) c' ∧ (k < K → off = 480 * k) ∧ bs.length - 480 * k ≤ c' ∧ c' ≤ 9223372036854775807 ∧ SplitAt w1 g K id bs.length k wr) (fun _ i _ => K - (intOf i).toNat)
  case atStart => exact ⟨0, 0, c, by omega, rfl, rfl, fun _ => rfl, by omega, by omega, HS0.out⟩
  case round =>
    obtain ⟨k, off, c', hk, rfl, rfl, hoff, hc1, hc2, hS⟩ := hrel
    by_cases hlt : k < K
    · obtain rfl := hoff hlt
      clear hoff
      obtain ⟨⟨C, hC, hCs, hC4⟩, hbel⟩ := hS
      have HC4 := Lib.hid hC4
      have HCs := Lib.hid hCs
      clear hC4 hCs
      obtain ⟨x0, c0⟩ := cell_some hC (show k * 4 < C.size by rw [HCs.out]; omega)
      obtain ⟨x1, c1⟩ := cell_some hC (show k * 4 + 1 < C.size by rw [HCs.out]; omega)
      obtain ⟨x2, c2⟩ := cell_some hC (show k * 4 + 2 < C.size by rw [HCs.out]; omega)
      obtain ⟨x3, c3⟩ := cell_some hC (show k * 4 + 3 < C.size by rw [HCs.out]; omega)
      have f0 := frozen_of_row wr w1.heap.size (k * 4) _ _ hC
      have f1 := frozen_of_row wr w1.heap.size (k * 4 + 1) _ _ hC
      have f2 := frozen_of_row wr w1.heap.size (k * 4 + 2) _ _ hC
      have f3 := frozen_of_row wr w1.heap.size (k * 4 + 3) _ _ hC
      have hin : 480 * k < bs.length := by have := HK.out; exact cntS_in (by omega) hp
      have hls : min (480 : Int) ((bs.length - 480 * k : Nat) : Int) = ((lenS bs.length k : Nat) : Int) := by unfold lenS; omega
      have g3 : (0 : Int) ≤ (k : Int) := by omega
      have g4 : (k : Int) < (K : Int) := by omega
      have HCC := Lib.hid hC
      clear hC hls
      have HNX := Lib.hid (fun L (hL : lenS bs.length k = L) => splitAt_put HCC.out HCs.out HC4.out hbel hlt hL)
      obtain ⟨m, hm⟩ : ∃ m, bs.length - 480 * k = m := ⟨_, rfl⟩
      have HL2 := Lib.hid (show ∀ L, min 480 m = L → lenS bs.length k = L from fun L h => by unfold lenS; rw [hm]; exact h)
      rw [hm] at hc1 ⊢
      have HM2 := Lib.hid hm
      have hm1 : 1 ≤ m := by omega
      have hmk1 : 480 < m → k + 1 < K := by intro h; have := HK.out; unfold cntS at this; split at this <;> omega
      clear hm HC4 HCs HCC hbel
      by_cases hm : 480 < m
      · have hk1 := hmk1 hm
        clear hmk1
        have hcm : ¬ c' = 480 := by omega
        go_wp2
        go_roundw
        case rel => exact ⟨k + 1, 480 * (k + 1), c' - 480, by omega, by go_num, by rw [show bs.length - 480 * (k + 1) = m - 480 from by have := HM2.out; omega]; rfl, fun _ => rfl, by have := HM2.out; omega, by omega, HNX.out 480 (HL2.out _ (by omega))⟩
        case measure => simp [intOf]; omega
      · clear hmk1
        have hmin : (if ((m : Nat) : Int) < 480 then ((m : Nat) : Int) else 480) = (m : Int) := by split <;> omega
        have hN : k + 1 = K := by have := HK.out; have := HM2.out; unfold cntS at this; rename_i h3; unfold cntS at h3; split at h3 <;> omega
        by_cases hcm : c' = m
        · subst hcm
          go_wp2
          go_roundw
          case rel => exact ⟨k + 1, 480 * k, 0, by omega, by go_num, by rw [show bs.length - 480 * (k + 1) = 0 from by have := HM2.out; omega], fun _ => by omega, by have := HM2.out; omega, by omega, HNX.out _ (HL2.out _ (by omega))⟩
          case measure => simp [intOf]; omega
        · go_wp2
          go_roundw
          case rel => exact ⟨k + 1, 480 * k + m, c' - m, by omega, by go_num, by rw [show bs.length - 480 * (k + 1) = 0 from by have := HM2.out; omega], fun _ => by omega, by have := HM2.out; omega, by omega, HNX.out _ (HL2.out _ (by omega))⟩
          case measure => simp [intOf]; omega
    · obtain rfl : k = K := by omega
      go_wp2
      go_ret2
      exact split_end HK.out hb1 hown hS

theorem lenS0 : lenS 0 0 = 0 := by decide
theorem split_zero_end {w w1 wr : World} {g c : Nat} {id : Int} {A : Option Addr} {C : Array Value} (hb1 : Below w.heap.size w w1) (hb : Below w1.heap.size w1 wr) (hC : wr.heap[w1.heap.size]? = some (.cells C 30 (0, 0))) (_hg : g = c)
    (h0 : C[0]? = some (.int .u64 id)) (h1 : C[1]? = some (.int .i64 0)) (h2 : C[2]? = some (.int .i64 1)) (h3 : C[3]? = some (.slice A 0 0)) :
    SplitPost id [] w (.returned (.tuple #[.slice (some ⟨w1.heap.size, 0, none⟩) 1 1, .int .i64 0])) wr := by
  refine ⟨_, rfl, fun _ => ⟨_, _, rfl, lt_of_block hC, fun i hi => ?_⟩, hb1.trans (hb.mono hb1.size)⟩
  obtain rfl : i = 0 := by rw [splitS_length] at hi; have : cntS 0 = 1 := rfl; simp at hi; omega
  refine ⟨by simp [World.cell?, hC, h0, splitS_at (cntS_pos _), partS], by simp [World.cell?, hC, h1, splitS_at (cntS_pos _), partS], by simp [World.cell?, hC, h2, splitS_at (cntS_pos _), partS, cntS], A, 0, by simp [World.cell?, hC, h3, splitS_at (cntS_pos _), partS, cut], ?_, ?_, ?_, fun _ => rfl⟩
  · simp [splitS_at (cntS_pos _), partS, cut]; exact RB.nothing _ _ _
  · simp [splitS_at (cntS_pos _), partS, cut]
  · unfold maxLen; omega
set_option maxRecDepth 100000 in
set_option maxHeartbeats 1000000 in
theorem split_zero (id : Int) (A : Option Addr) (cap : Nat) (w : World) (h0 : 1 ≤ id) (h1 : id ≤ 4611686018427387903) (hA : A = none → cap = 0) :
    Calls Try.prog 17 #[.int .u64 id, .slice A 0 cap] w (SplitPost id [] w) := by
  have HC := Lib.hid (clone_n [] 0 rfl A cap w (RB.nothing _ _ _) (by simp) hA)
  have HL := Lib.hid (cntI_in (show (0 : Nat) ≤ 24000 by omega))
  go_enter Try.func17, Try.ntmps17
  go_wp2_with fail
  refine (isID_any id _ (by omega) (by omega)).mono ?_
  rw [isid_yes ⟨h0, h1⟩]
  rintro e w' ⟨rfl, rfl⟩
  go_wp2_with fail
  refine HC.out.mono ?_
  rintro e w1 ⟨v, rfl, hown, hb1⟩
  obtain ⟨A1, c1, rfl, _, _, hA1⟩ := own_slice hown
  go_wp2_with fail
  refine (count_any _ _).mono ?_
  rw [show cntI 0 = ((1 : Nat) : Int) from rfl]
  rintro e w' ⟨rfl, rfl⟩
  obtain ⟨M, hM, hmk0⟩ := make_parts 1 (by omega)
  obtain ⟨W2, hmk, hC, hbel⟩ : ∃ W2, (Instr.makeSlice 22 (.int .i64 1) (.int .i64 1)).run Try.prog w1 = .ok (.slice (some ⟨w1.heap.size, 0, none⟩) 1 1) W2 ∧ W2.heap[w1.heap.size]? = some (.cells M 30 (0, 0)) ∧ Below w1.heap.size w1 W2 :=
    ⟨_, hmk0 w1, heap_alloc_new _ _, (Below.refl _ _).alloc (Nat.le_refl _) _⟩
  clear hmk0
  obtain ⟨x0, c0⟩ := cell_some hC (show 0 < M.size by omega)
  obtain ⟨x1, c1'⟩ := cell_some hC (show 1 < M.size by omega)
  obtain ⟨x2, c2⟩ := cell_some hC (show 2 < M.size by omega)
  obtain ⟨x3, c3⟩ := cell_some hC (show 3 < M.size by omega)
  have f0 := frozen_of_row _ w1.heap.size 0 _ _ hC
  have f1 := frozen_of_row _ w1.heap.size 1 _ _ hC
  have f2 := frozen_of_row _ w1.heap.size 2 _ _ hC
  have f3 := frozen_of_row _ w1.heap.size 3 _ _ hC
  have HE := Lib.hid (fun A' => split_zero_end (g := 0) (c := 0) (id := id) (A := A') hb1 ((((hbel.setCell (p := ⟨w1.heap.size, 0, none⟩) (Nat.le_refl _) (.int .u64 id)).setCell (p := ⟨w1.heap.size, 1, none⟩) (Nat.le_refl _) (.int .i64 0)).setCell (p := ⟨w1.heap.size, 2, none⟩) (Nat.le_refl _) (.int .i64 1)).setCell (p := ⟨w1.heap.size, 3, none⟩) (Nat.le_refl _) (.slice A' 0 0))
    (heap_setCell_same _ _ _ _ _ _ (heap_setCell_same _ _ _ _ _ _ (heap_setCell_same _ _ _ _ _ _ (heap_setCell_same _ _ _ _ _ _ hC)))) rfl (by simp [hM]) (by simp [hM]) (by simp [hM]) (by simp [hM]))
  have HC1 := Lib.hid hC
  have HM := Lib.hid hM
  clear hC hM
  go_wp2
  refine wp_loop_rounds 2 ?_
  rw [rounds_succ]
  rcases A1 with _ | a1
  · obtain rfl := hA1 rfl
    go_wp2
    rw [rounds_succ]
    go_wp2
    go_ret2
    exact HE.out _
  · by_cases hc : c1 = 0
    · subst hc
      go_wp2
      rw [rounds_succ]
      go_wp2
      go_ret2
      exact HE.out _
    · go_wp2
      rw [rounds_succ]
      go_wp2
      go_ret2
      exact HE.out _

theorem split_long (id : Int) (A : Option Addr) (n cap : Nat) (w : World) (h : 24000 < n) : Calls Try.prog 17 #[.int .u64 id, .slice A n cap] w fun e w' => e = .returned (.tuple #[.slice none 0 0, .int .i64 2]) ∧ w = w' := by
  have d1 : decide ((24000 : Int) < (n : Int)) = true := by simp; omega
  go_enter Try.func17, Try.ntmps17
  go_wp2
  go_ret2
  exact ⟨rfl, rfl⟩
theorem split_arg (id : Int) (A : Option Addr) (n cap : Nat) (w : World) (h : n ≤ 24000) (h0 : 0 ≤ id) (h1 : id < 18446744073709551616) (hi : ¬ (1 ≤ id ∧ id ≤ 4611686018427387903)) : Calls Try.prog 17 #[.int .u64 id, .slice A n cap] w fun e w' => e = .returned (.tuple #[.slice none 0 0, .int .i64 1]) ∧ w = w' := by
  have d1 : decide ((24000 : Int) < (n : Int)) = false := by simp; omega
  have HI := Lib.hid (isID_any id w h0 h1)
  rw [isid_no hi] at HI
  clear hi
  go_enter Try.func17, Try.ntmps17
  go_wp2_with fail
  refine HI.out.mono ?_
  rintro e w' ⟨rfl, rfl⟩
  go_wp2
  go_ret2
  exact ⟨rfl, rfl⟩
end Go.Proofs.Ytikijkhblfgbpaa
