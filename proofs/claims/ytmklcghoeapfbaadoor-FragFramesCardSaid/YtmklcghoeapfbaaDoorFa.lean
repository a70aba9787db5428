/-
  Proved here: Split and Join (frag) in one word each; and, where the table of sizes is as the program lays it, the fixed calls of 'alive' come out as they must, and nothing that was there is changed.
-/
import Derived.Test.YtmklcghoeapfbaaDoorFj
import Derived.Test.YtmklcghoeapfbaaDoorFd
namespace Go.Proofs.YtmklcghoeapfbaaDoor
open Go.RowKit

theorem split_good (id : Int) (bs : List Int) (n : Nat) (hn : bs.length = n) (A : Option Addr) (cap : Nat) (w : World) (h0 : 1 ≤ id) (h1 : id ≤ 4611686018427387903) (hl : n ≤ 24000) (hR : RB w w.heap.size A bs) (hA : A = none → cap = 0) :
    Calls Tryd.prog 17 #[.int .u64 id, .slice A n cap] w (SplitPost id bs w) := by
  subst hn
  rcases Nat.eq_zero_or_pos bs.length with hz | hz
  · obtain rfl : bs = [] := List.eq_nil_of_length_eq_zero hz
    exact split_zero id A cap w h0 h1 hA
  · exact split_main id bs A cap w h0 h1 hl hR hA hz
theorem join_any (ps : List Prt) (n : Nat) (hlen : ps.length = n) (A : Option Addr) (c : Nat) (w : World) (hP : PS w w.heap.size A ps) (hO : POk ps) (hm : n ≤ maxLen) :
    Calls Tryd.prog 19 #[.slice A n c] w (BytPost (joinS ps) w) := by
  rcases Nat.eq_zero_or_pos n with hz | hz
  · subst hz
    obtain rfl : ps = [] := List.eq_nil_of_length_eq_zero hlen
    exact join_nil A c w
  · exact join_some ps n hlen A c w hP hO hz hm
theorem split_POk {id : Int} {bs : List Int} (h0 : 1 ≤ id) (h1 : id ≤ 4611686018427387903) (hn : bs.length ≤ 24000) : POk (splitS id bs) := fun i hi => by
  rw [splitS_length] at hi
  have := cntS_le hn
  rw [splitS_at hi]
  refine ⟨⟨?_, ?_⟩, ⟨?_, ?_⟩, ?_, ?_⟩ <;> simp only [partS] <;> omega

theorem make_zero (K : Nat) (hK : K ≤ 100000) : ∃ M : Array Value, (∀ i, i < K → M[i]? = some (.int .u8 0)) ∧ ∀ W : World, (Instr.makeSlice 23 (.int .i64 K) (.int .i64 K)).run Tryd.prog W = .ok (.slice (some ⟨W.heap.size, 0, none⟩) K K) (W.alloc (.cells M 5)) := by
  obtain ⟨i0, hi, hz0, hz1, hz2⟩ := info_parts infoByte
  refine ⟨madeCells (Value.int .u8 0).cells (K * 1), fun i hi => ?_, fun W => ?_⟩
  · have hc : (Value.int .u8 0).cells = #[.int .u8 0] := rfl
    rw [hc]
    simp [madeCells, hi, Nat.mod_one]
  · have h := run_make (P := Tryd.prog) W 23 5 i0 _ Tryd.underlying23 hi hz0 .i64 .i64 K K (by omega) (by omega) (by rw [hz2]; omega) (by omega)
    rw [Int.toNat_natCast, hz1] at h
    exact h
theorem read7 : readS [7, 0, 1, 9] = (⟨7, 0, 1, [9]⟩, 0) := by decide +kernel
theorem read7f : readS [7, 1, 1, 9] = (pNil, 3) := by decide +kernel
theorem read_7019 (w : World) (hT : Tab w) : Calls Tryd.prog 10 #[.slice (some ⟨w.heap.size, 0, none⟩) 4 4] (w.alloc (.cells #[.int .u8 7, .int .u8 0, .int .u8 1, .int .u8 9] 5)) fun e w' => ∃ A c, e = .returned (.tuple #[PV 7 0 1 A 1 c, .int .i64 0]) ∧ Below w.heap.size w w' := by
  have h := read_any [7, 0, 1, 9] (some ⟨w.heap.size, 0, none⟩) 4 (w.alloc (.cells #[.int .u8 7, .int .u8 0, .int .u8 1, .int .u8 9] 5)) (RB.of_block (by simp) (heap_alloc_new w _)) (Nat.le_refl _) (by unfold maxLen; omega) (by simp)
    (bytes_of_mem (by decide)) (hT.below ((Below.refl _ _).alloc (Nat.le_refl _) _) hT.big)
  rw [read7] at h
  exact h.mono fun e w' ⟨A, c, he, _, hb⟩ => ⟨A, c, he, ((Below.refl _ _).alloc (Nat.le_refl _) _).trans (hb.mono (by simp))⟩
theorem read_7119 (w : World) (hT : Tab w) (g : Nat) (hg : g = w.heap.size) : Calls Tryd.prog 10 #[.slice (some ⟨g, 0, none⟩) 4 4] (w.alloc (.cells #[.int .u8 7, .int .u8 1, .int .u8 1, .int .u8 9] 5)) fun e w' => ∃ A c, e = .returned (.tuple #[PV 0 0 0 A 0 c, .int .i64 3]) ∧ Below w.heap.size w w' := by
  subst hg
  have h := read_any [7, 1, 1, 9] (some ⟨w.heap.size, 0, none⟩) 4 (w.alloc (.cells #[.int .u8 7, .int .u8 1, .int .u8 1, .int .u8 9] 5)) (RB.of_block (by simp) (heap_alloc_new w _)) (Nat.le_refl _) (by unfold maxLen; omega) (by simp)
    (bytes_of_mem (by decide)) (hT.below ((Below.refl _ _).alloc (Nat.le_refl _) _) hT.big)
  rw [read7f] at h
  exact h.mono fun e w' ⟨A, c, he, _, hb⟩ => ⟨A, c, he, ((Below.refl _ _).alloc (Nat.le_refl _) _).trans (hb.mono (by simp))⟩

theorem zeros_at (n i : Nat) : (List.replicate n (0 : Int)).getD i 0 = 0 := by
  rw [List.getD, List.getElem?_replicate]
  split <;> rfl
/-- The frame of 481 bytes that are 0. -/
def Z481 : List Int := List.replicate 481 0
set_option maxRecDepth 100000 in
set_option maxHeartbeats 1000000 in
theorem alive_any (w : World) (hT : Tab w) : Calls Tryd.prog 7 #[] w fun e w' => e = .returned (.bool true) ∧ Below w.heap.size w w' := by
  obtain ⟨M, hM, hmk0⟩ := make_zero 481 (by omega)
  obtain ⟨W1, hmk, hC, hb1⟩ : ∃ W1, (Instr.makeSlice 23 (.int .i64 481) (.int .i64 481)).run Tryd.prog w = .ok (.slice (some ⟨w.heap.size, 0, none⟩) 481 481) W1 ∧ W1.heap[w.heap.size]? = some (.cells M 5 (0, 0)) ∧ Below w.heap.size w W1 :=
    ⟨_, hmk0 w, heap_alloc_new _ _, (Below.refl _ _).alloc (Nat.le_refl _) _⟩
  have hZl : Z481.length = 481 := by simp [Z481]
  have hRZ : RB W1 W1.heap.size (some ⟨w.heap.size, 0, none⟩) Z481 := fun _ => ⟨_, _, rfl, lt_of_block hC, fun i hi => by
    rw [hZl] at hi
    have h1 : Z481.getD i 0 = 0 := zeros_at 481 i
    rw [h1]
    simp [World.cell?, hC, hM i hi]⟩
  have HS := Lib.hid (split_good 7 Z481 481 hZl (some ⟨w.heap.size, 0, none⟩) 481 W1 (by omega) (by omega) (by omega) hRZ (fun h => by cases h))
  have HK := Lib.hid (show cntS Z481.length = 2 by rw [hZl]; rfl)
  have HJ := Lib.hid (fun A W (hP : PS W W.heap.size A (splitS 7 Z481)) => join_any (splitS 7 Z481) 2 (by rw [splitS_length, HK.out]) A 2 W hP (split_POk (by omega) (by omega) (by omega)) (by unfold maxLen; omega))
  rw [join_split (by omega) (by omega) (by omega)] at HJ
  have HZ := Lib.hid hZl
  clear hmk0 hM hC hRZ hZl
  go_enter Tryd.func7, Tryd.ntmps7
  go_wp2_with fail
  refine HS.out.mono ?_
  rintro e w2 ⟨A2, rfl, hP2, hb2⟩
  rw [HK.out]
  have hbw2 : Below w.heap.size w w2 := hb1.trans (hb2.mono hb1.size)
  clear hmk hb1 hb2
  go_wp2_with fail
  refine (HJ.out A2 w2 hP2).mono ?_
  rintro e w3 ⟨v3, rfl, hown3, hb3⟩
  have hbw3 : Below w.heap.size w w3 := hbw2.trans (hb3.mono hbw2.size)
  rw [HZ.out] at hown3
  obtain ⟨A3, c3, rfl, _⟩ := own_slice hown3
  clear hP2 hbw2 hb3 hown3
  go_wp2_with fail
  refine (read_7019 w3 (hT.below hbw3 hT.big)).mono ?_
  rintro e w4 ⟨A4, c4, rfl, hb4⟩
  have hbw4 : Below w.heap.size w w4 := hbw3.trans (hb4.mono hbw3.size)
  clear hbw3 hb4
  obtain ⟨W4, hW4⟩ : ∃ W4, W4 = w4.alloc (.cells #[.int .u64 7, .int .i64 0, .int .i64 1, .slice A4 1 c4] 25) := ⟨_, rfl⟩
  have hb5 : Below w.heap.size w W4 := by rw [hW4]; exact hbw4.alloc hbw4.size _
  have HR := Lib.hid (read_7119 W4 (hT.below hb5 hT.big) (w4.heap.size + 1) (by rw [hW4]; simp))
  have hp4 : W4.cell? ⟨w4.heap.size, 0, none⟩ = some (.int .u64 7) := by rw [hW4]; simp [World.cell?_alloc_at]
  have hl4 : w4.heap.size < W4.heap.size := by rw [hW4]; simp
  rw [hW4] at HR
  go_wp2_with fail
  refine HR.out.mono ?_
  rintro e w5 ⟨A5, c5, rfl, hb6⟩
  have HW4 := Lib.hid hW4
  rw [← hW4] at hb6
  clear hW4
  have hp5 := (hb6.cell (p := ⟨w4.heap.size, 0, none⟩) hl4).trans hp4
  have hbw6 := hb5.trans (hb6.mono hb5.size)
  have hp6 : (w5.alloc (.cells #[.int .u64 0, .int .i64 0, .int .i64 0, .slice A5 0 c5] 25)).cell? ⟨w4.heap.size, 0, none⟩ = some (.int .u64 7) := by
    rw [← hp5]; exact World.cell?_of_block (Below.heap_alloc _ _ _ (by have := hb6.size; show w4.heap.size < _; omega))
  have hl5 : w4.heap.size < w5.heap.size := by have := hb6.size; omega
  clear HR hp4 hl4 hb6
  go_wp2_with fail
  refine (count_any 0 _).mono ?_
  rw [show cntI 0 = 1 from rfl]
  rintro e w' ⟨rfl, rfl⟩
  go_wp2
  go_ret
  exact ⟨rfl, hbw6.alloc hbw6.size _⟩
end Go.Proofs.YtmklcghoeapfbaaDoor
