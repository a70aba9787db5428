/-
  Proved here: the document's own Split (package longlineref09) answers a frame's parts, as 'splitS' says, in memory of its own, or why there are none.
-/
import Derived.Test.YtmklcghoeapfbaaDoorFg
import Derived.Deep.RegionHeld
import Derived.IntWalk
namespace Go.Proofs.YtmklcghoeapfbaaDoor
open Go.RowKit

theorem rsplit_long (id : Int) (A : Option Addr) (n cap : Nat) (w : World) (h : 24000 < n) : Calls Tryd.prog 18 #[.int .u64 id, .slice A n cap] w fun e w' => e = .returned (.tuple #[.slice none 0 0, .int .i64 2]) ∧ w = w' := by
  have d1 : decide ((24000 : Int) < (n : Int)) = true := by simp; omega
  go_enter Tryd.func18, Tryd.ntmps18
  go_wp2
  go_ret2
  exact ⟨rfl, rfl⟩
theorem rsplit_arg (id : Int) (A : Option Addr) (n cap : Nat) (w : World) (h : n ≤ 24000) (_h0 : 0 ≤ id) (hi : ¬ (1 ≤ id ∧ id ≤ 4611686018427387903)) : Calls Tryd.prog 18 #[.int .u64 id, .slice A n cap] w fun e w' => e = .returned (.tuple #[.slice none 0 0, .int .i64 1]) ∧ w = w' := by
  have d1 : decide ((24000 : Int) < (n : Int)) = false := by simp; omega
  by_cases h2 : id = 0
  · subst h2
    go_enter Tryd.func18, Tryd.ntmps18
    go_wp2
    go_ret2
    exact ⟨rfl, rfl⟩
  · have e0 : (id == 0) = false := by simp; omega
    have h3 : 4611686018427387903 < id := by omega
    clear h2 hi
    go_enter Tryd.func18, Tryd.ntmps18
    go_wp2
    go_ret2
    exact ⟨rfl, rfl⟩
theorem rs_start (w : World) (id : Int) (bs : List Int) : RS0 w id bs 0 0 w.heap.size 1 (w.alloc (.cells #[.int .u64 id, .int .i64 0, .int .i64 0, .slice none 0 0] 27)) := by
  refine ⟨⟨[], .slice none 0 0, (w.alloc (.cells #[.int .u64 id, .int .i64 0, .int .i64 0, .slice none 0 0] 27)).heap.size, rfl, ⟨rfl, .inr ⟨w.heap.size, 1, _, rfl, Nat.le_refl _, heap_alloc_new _ _, by omega, by unfold maxLen; omega, rfl, rfl⟩⟩, fun j hj => absurd hj (by omega), World.ownsRow_nil _ _ _ _, by simp, Nat.le_refl _⟩, (Below.refl _ _).alloc (Nat.le_refl _) _⟩
theorem rs_cell {w : World} {id : Int} {bs : List Int} {n m go c : Nat} {W : World} (h : RS0 w id bs n m go c W) : ∃ A c', W.cell? ⟨go, n * 4 + 3, none⟩ = some (.slice A m c') := by
  obtain ⟨cs, vl, Bd, hcl, hout, _, hvl, _⟩ := h.st
  obtain ⟨A, c', rfl, _⟩ := own_slice hvl
  refine ⟨A, c', ?_⟩
  rw [hout.cellAt (n * 4 + 3) (by omega), List.getElem?_append_right (by omega), hcl, show n * 4 + 3 - n * 4 = 3 by omega]
  rfl
/-- What the document's Split answers, where it splits. -/
def SplitRef (id : Int) (bs : List Int) (w : World) (e : Ending) (w' : World) : Prop :=
  ∃ A c, e = .returned (.tuple #[.slice A (cntS bs.length) c, .int .i64 0]) ∧ PS w' w'.heap.size A (splitS id bs) ∧ Below w.heap.size w w'
/-- What the region reads of the frame. -/
theorem byte_keep {w W : World} {b off k : Nat} {z : Int} (hb : b < w.heap.size) (hz : w.cell? ⟨b, off + k, none⟩ = some (.int .u8 z)) (h : Below w.heap.size w W) : W.cell? ⟨b, off + k, none⟩ = some (.int .u8 z) := (h.cell (p := ⟨b, off + k, none⟩) hb).trans hz

set_option maxRecDepth 100000 in
set_option maxHeartbeats 4000000 in
theorem rsplit_good (id : Int) (bs : List Int) (L : Nat) (hL : bs.length = L) (A : Option Addr) (cap : Nat) (w : World) (h0 : 1 ≤ id) (h1 : id ≤ 4611686018427387903) (hl : L ≤ 24000) (hR : RB w w.heap.size A bs) :
    Calls Tryd.prog 18 #[.int .u64 id, .slice A L cap] w (SplitRef id bs w) := by
  have d1 : decide ((24000 : Int) < (L : Int)) = false := by simp; omega
  have e0 : (id == 0) = false := by simp; omega
  have H0 := Lib.hid (rs_start w id bs)
  have HL := Lib.hid hL
  have HR := Lib.hid hR
  clear hR hL
  go_enter Tryd.func18, Tryd.ntmps18
  go_wp2
  go_loopw [6, 7] (fun out i wr => ∃ k n m N go c : Nat, k ≤ L ∧ i = .int .i64 k ∧ out = .slice (some ⟨go, 0, none⟩) N c ∧ N = n + 1 ∧ k = 480 * n + m ∧ m ≤ 480 ∧ (0 < n → 0 < m) ∧ RS0 w id bs n m go c wr) (fun _ i _ => L - (intOf i).toNat)
  case atStart => exact ⟨0, 0, 0, 1, w.heap.size, 1, by omega, rfl, rfl, rfl, rfl, by omega, by omega, H0.out⟩
  case round =>
    clear H0
    obtain ⟨k, n, m, N, go, c, hk, rfl, rfl, hN, hkm, hm, hnm, hRS⟩ := hrel
    have HRS := Lib.hid hRS
    have HN := Lib.hid hN
    have HK := Lib.hid hkm
    by_cases hlt : k < L
    · obtain ⟨b, off, hAe, hb, hc⟩ := HR.out (by rw [HL.out]; omega)
      subst hAe
      have hz0 := hc k (by rw [HL.out]; exact hlt)
      obtain ⟨z, hz⟩ : ∃ z, bs.getD k 0 = z := ⟨_, rfl⟩
      rw [hz] at hz0
      have HZ := Lib.hid hz
      have HZ0 := Lib.hid hz0
      have hzr := byte_keep hb hz0 hRS.below
      obtain ⟨A1, c1, hcell⟩ := rs_cell hRS
      have hn60 : n ≤ 60 := by omega
      have n1 : (N : Int) - 1 = (n : Int) := by omega
      have n2 : (0 : Int) ≤ (n : Int) := by omega
      have n3 : (n : Int) < (N : Int) := by omega
      have g3 : (0 : Int) ≤ (k : Int) := by omega
      have g4 : (k : Int) < (L : Int) := by omega
      clear hc hz hz0 hRS hN hkm
      by_cases hm4 : m = 480
      · subst hm4
        obtain ⟨go2, c2, w5, hrun5, hRS5⟩ := rs_new HRS.out (by rw [HL.out]; have := HK.out; omega) hn60
        rw [← HN.out] at hrun5
        have HRUN5 := Lib.hid hrun5
        have HRS5 := Lib.hid hRS5
        have n4 : (N : Int) = (n : Int) + 1 := by omega
        have n5 : IntKind.i64.wrap ((n : Int) + 1) = (n : Int) + 1 := IntWalk.i64_in _ (by omega)
        have n6 : (0 : Int) ≤ (n : Int) + 1 := by omega
        have n7 : (n : Int) + 1 < ((N + 1 : Nat) : Int) := by omega
        have n8 : ((n : Int) + 1).toNat = n + 1 := by omega
        clear hrun5 hRS5
        go_wp2_with (first | (at_builtin; refine wpList_app rfl (.tmp 38) (.tmp 43) _ rfl _ _ rfl rfl HRUN5.out ?_))
        clear hcell hzr n4 n5 n6 n7 n8
        obtain ⟨n', hn'⟩ : ∃ n', n + 1 = n' := ⟨_, rfl⟩
        have HNN := Lib.hid hn'
        rw [hn'] at HRS5
        have q1 : (n : Int) + 1 = (n' : Int) := by omega
        have q2 : (0 : Int) ≤ (n' : Int) := by omega
        have q3 : (n' : Int) < (N : Int) + 1 := by omega
        rw [q1]
        clear q1 n1 n2 n3 hn'
        obtain ⟨vl, hvl, ⟨AL, cL, hAL⟩, AV, cV, w', hrun, hcB, hfB, hbB, hRS2⟩ := rs_byte HRS5.out (show 480 * n' + 0 < bs.length by rw [HL.out]; have := HK.out; have := HNN.out; omega) (by omega)
        subst hAL
        rw [show 480 * n' + 0 = k by have := HK.out; have := HNN.out; omega, HZ.out] at hrun
        have HSA := Lib.hid (byte_keep hb HZ0.out (W := w5.drew.alloc (.cells #[.int .u8 z] 5)) ((belowN HRS5.out.below 1).alloc HRS5.out.below.size _))
        have HSB := Lib.hid (byte_keep hb HZ0.out hbB)
        have HSC := Lib.hid (byte_keep hb HZ0.out hRS2.below)
        have HRUN := Lib.hid hrun
        have HCB := Lib.hid hcB
        have HFB := Lib.hid hfB
        have HRS2 := Lib.hid hRS2
        have hgo := HRS5.out.go_lt.2
        have hgoo : go2 ≠ w5.heap.size := by omega
        clear hrun hcB hfB hbB hRS2
        refine wp_region_held_drew (S := fun W => W.cell? ⟨b, off + k, none⟩ = some (.int .u8 z)) (by kernel_rfl) (byte_keep hb HZ0.out (W := w5.drew) (belowN HRS5.out.below 1)) (fun hHeld => ?_)
        refine wpAnyH_take (i := 0) (v := ?_) (by simp; rfl) (by kernel_rfl) (by kernel_rfl) (by kernel_rfl) (by exact fun _ _ _ h => h) (Or.inl ⟨by rfl, fun wx hSx => ?_⟩) hHeld ?_
        rotate_left
        · clear hSx; go_simp; (try with_reducible rfl)
        simp only [Act.put, List.setIfInBounds_toArray, List.set_cons_zero, List.set_cons_succ]
        refine wpAnyH_take (i := 1) (v := ?_) (by simp; rfl) (by kernel_rfl) (by kernel_rfl) (by kernel_rfl) (by exact fun _ _ _ h => h) (Or.inl ⟨by rfl, fun wx hSx => ?_⟩) hHeld ?_
        rotate_left
        · clear hSx; go_simp; (try with_reducible rfl)
        simp only [Act.put, List.setIfInBounds_toArray, List.set_cons_zero, List.set_cons_succ]
        refine wpAnyH_take (i := 2) (v := ?_) (by simp; rfl) (by kernel_rfl) (by kernel_rfl) (by kernel_rfl) (by exact fun _ _ _ h => h) (Or.inl ⟨by rfl, fun wx hSx => ?_⟩) hHeld ?_
        rotate_left
        · clear hSx; go_simp; (try with_reducible rfl)
        simp only [Act.put, List.setIfInBounds_toArray, List.set_cons_zero, List.set_cons_succ]
        refine wpAnyH_take (i := 3) (v := ?_) (by simp; rfl) (by kernel_rfl) (by kernel_rfl) (by kernel_rfl) (by exact fun _ _ _ h => h) (Or.inl ⟨by rfl, fun wx hSx => ?_⟩) hHeld ?_
        rotate_left
        · clear hSx; go_simp; (try with_reducible rfl)
        simp only [Act.put, List.setIfInBounds_toArray, List.set_cons_zero, List.set_cons_succ]
        refine wpAnyH_take (i := 4) (v := ?_) (by simp; rfl) (by kernel_rfl) (by kernel_rfl) (by kernel_rfl) (by exact fun _ _ _ h => h) (Or.inl ⟨by rfl, fun wx hSx => ?_⟩) hHeld ?_
        rotate_left
        · clear hSx; go_simp; (try with_reducible rfl)
        simp only [Act.put, List.setIfInBounds_toArray, List.set_cons_zero, List.set_cons_succ]
        refine wpAnyH_take (i := 5) (v := ?_) (by simp; rfl) (by kernel_rfl) (by kernel_rfl) (by kernel_rfl) (by exact fun _ _ _ h => h) (Or.inl ⟨by rfl, fun wx hSx => ?_⟩) hHeld ?_
        rotate_left
        · clear hSx; go_simp; (try with_reducible rfl)
        simp only [Act.put, List.setIfInBounds_toArray, List.set_cons_zero, List.set_cons_succ]
        refine wpAnyH_take (i := 7) (v := ?_) (by simp; rfl) (by kernel_rfl) (by kernel_rfl) (by kernel_rfl) (by exact fun _ _ _ h => h) (Or.inl ⟨by rfl, fun wx hSx => ?_⟩) hHeld ?_
        rotate_left
        · clear hSx; go_simp; (try with_reducible rfl)
        simp only [Act.put, List.setIfInBounds_toArray, List.set_cons_zero, List.set_cons_succ]
        refine wpAnyH_take (i := 8) (v := ?_) (by simp; rfl) (by kernel_rfl) (by kernel_rfl) (by kernel_rfl) (by exact fun _ _ _ h => h) (Or.inl ⟨by rfl, fun wx hSx => ?_⟩) hHeld ?_
        rotate_left
        · clear hSx; go_simp; (try with_reducible rfl)
        simp only [Act.put, List.setIfInBounds_toArray, List.set_cons_zero, List.set_cons_succ]
        refine wpAnyH_take (i := 9) (v := ?_) (by simp; rfl) (by kernel_rfl) (by kernel_rfl) (by kernel_rfl) (by exact fun _ _ _ h => h) (Or.inl ⟨by rfl, fun wx hSx => ?_⟩) hHeld ?_
        rotate_left
        · clear hSx; go_simp; (try with_reducible rfl)
        simp only [Act.put, List.setIfInBounds_toArray, List.set_cons_zero, List.set_cons_succ]
        refine wpAnyH_take (i := 10) (v := ?_) (by simp; rfl) (by kernel_rfl) (by kernel_rfl) (by kernel_rfl) (by exact fun _ _ _ h => h) (Or.inl ⟨by rfl, fun wx hSx => ?_⟩) hHeld ?_
        rotate_left
        · go_simp; (try with_reducible rfl)
        simp only [Act.put, List.setIfInBounds_toArray, List.set_cons_zero, List.set_cons_succ]
        refine wpAnyH_ready (rs := [6, 11]) (by kernel_rfl) (by simp) ?_
        refine AllReadyH.cons (by simp; rfl) (fun K0 hK0 => ?_) (AllReadyH.cons (by simp; rfl) (fun K0 hK0 => ?_) AllReadyH.nil)
        · go_simp
          refine hK0.out _ _ hHeld (fun hHeld => ?_)
          clear hK0 K0
          refine wpAnyH_ready (rs := [11]) (by kernel_rfl) (by simp) ?_
          refine AllReadyH.cons (by simp; rfl) (fun K0 hK0 => ?_) AllReadyH.nil
          go_simp
          refine hK0.out _ _ HSA.out (fun hHeld => ?_)
          clear hK0 K0
          refine wpAnyH_ready (rs := [12]) (by kernel_rfl) (by simp) ?_
          refine AllReadyH.cons (by simp; rfl) (fun K0 hK0 => ?_) AllReadyH.nil
          refine step_app rfl (.tmp 53) (.tmp 58) _ rfl _ _ rfl rfl HRUN.out ?_
          simp only [Act.put, List.setIfInBounds_toArray, List.set_cons_zero, List.set_cons_succ]
          refine hK0.out _ _ HSB.out (fun hHeld => ?_)
          clear hK0 K0
          refine wpAnyH_take (i := 13) (v := ?_) (by simp; rfl) (by kernel_rfl) (by kernel_rfl) (by kernel_rfl) (by exact fun _ _ _ h => h) (Or.inl ⟨by rfl, fun wx hSx => ?_⟩) hHeld ?_
          rotate_left
          · clear hSx; go_simp; (try with_reducible rfl)
          simp only [Act.put, List.setIfInBounds_toArray, List.set_cons_zero, List.set_cons_succ]
          refine wpAnyH_take (i := 14) (v := ?_) (by simp; rfl) (by kernel_rfl) (by kernel_rfl) (by kernel_rfl) (by exact fun _ _ _ h => h) (Or.inl ⟨by rfl, fun wx hSx => ?_⟩) hHeld ?_
          rotate_left
          · clear hSx; go_simp; (try with_reducible rfl)
          simp only [Act.put, List.setIfInBounds_toArray, List.set_cons_zero, List.set_cons_succ]
          refine wpAnyH_ready (rs := [15]) (by kernel_rfl) (by simp) ?_
          refine AllReadyH.cons (by simp; rfl) (fun K0 hK0 => ?_) AllReadyH.nil
          have hcB := HCB.out
          have hfB := HFB.out
          go_simp
          refine hK0.out _ _ HSC.out (fun hHeld => ?_)
          clear hK0 K0 hcB hfB
          refine wpAnyH_done (by kernel_rfl) ?_ _
          clear hvl hgo hgoo hHeld HSA HSB HSC HRUN HCB HFB
          go_wp2
          go_roundw
          case rel => exact ⟨k + 1, n', 0 + 1, N + 1, go2, c2, by omega, by go_num, rfl, by have := HN.out; have := HNN.out; omega, by have := HK.out; have := HNN.out; omega, by omega, fun _ => by omega, HRS2.out⟩
          case measure => simp [intOf]; omega
        · go_simp
          refine hK0.out _ _ HSA.out (fun hHeld => ?_)
          clear hK0 K0
          refine wpAnyH_ready (rs := [6]) (by kernel_rfl) (by simp) ?_
          refine AllReadyH.cons (by simp; rfl) (fun K0 hK0 => ?_) AllReadyH.nil
          go_simp
          refine hK0.out _ _ hHeld (fun hHeld => ?_)
          clear hK0 K0
          refine wpAnyH_ready (rs := [12]) (by kernel_rfl) (by simp) ?_
          refine AllReadyH.cons (by simp; rfl) (fun K0 hK0 => ?_) AllReadyH.nil
          refine step_app rfl (.tmp 53) (.tmp 58) _ rfl _ _ rfl rfl HRUN.out ?_
          simp only [Act.put, List.setIfInBounds_toArray, List.set_cons_zero, List.set_cons_succ]
          refine hK0.out _ _ HSB.out (fun hHeld => ?_)
          clear hK0 K0
          refine wpAnyH_take (i := 13) (v := ?_) (by simp; rfl) (by kernel_rfl) (by kernel_rfl) (by kernel_rfl) (by exact fun _ _ _ h => h) (Or.inl ⟨by rfl, fun wx hSx => ?_⟩) hHeld ?_
          rotate_left
          · clear hSx; go_simp; (try with_reducible rfl)
          simp only [Act.put, List.setIfInBounds_toArray, List.set_cons_zero, List.set_cons_succ]
          refine wpAnyH_take (i := 14) (v := ?_) (by simp; rfl) (by kernel_rfl) (by kernel_rfl) (by kernel_rfl) (by exact fun _ _ _ h => h) (Or.inl ⟨by rfl, fun wx hSx => ?_⟩) hHeld ?_
          rotate_left
          · clear hSx; go_simp; (try with_reducible rfl)
          simp only [Act.put, List.setIfInBounds_toArray, List.set_cons_zero, List.set_cons_succ]
          refine wpAnyH_ready (rs := [15]) (by kernel_rfl) (by simp) ?_
          refine AllReadyH.cons (by simp; rfl) (fun K0 hK0 => ?_) AllReadyH.nil
          have hcB := HCB.out
          have hfB := HFB.out
          go_simp
          refine hK0.out _ _ HSC.out (fun hHeld => ?_)
          clear hK0 K0 hcB hfB
          refine wpAnyH_done (by kernel_rfl) ?_ _
          clear hvl hgo hgoo hHeld HSA HSB HSC HRUN HCB HFB
          go_wp2
          go_roundw
          case rel => exact ⟨k + 1, n', 0 + 1, N + 1, go2, c2, by omega, by go_num, rfl, by have := HN.out; have := HNN.out; omega, by have := HK.out; have := HNN.out; omega, by omega, fun _ => by omega, HRS2.out⟩
          case measure => simp [intOf]; omega
      · have hm5 : ((m : Int) == 480) = false := by simp; omega
        go_wp2
        clear hcell hzr
        obtain ⟨vl, hvl, ⟨AL, cL, hAL⟩, AV, cV, w', hrun, hcB, hfB, hbB, hRS2⟩ := rs_byte HRS.out (show 480 * n + m < bs.length by rw [HL.out]; have := HK.out; omega) (by omega)
        subst hAL
        rw [show 480 * n + m = k by have := HK.out; omega, HZ.out] at hrun
        have HSA := Lib.hid (byte_keep hb HZ0.out (W := wr.drew.alloc (.cells #[.int .u8 z] 5)) ((belowN HRS.out.below 1).alloc HRS.out.below.size _))
        have HSB := Lib.hid (byte_keep hb HZ0.out hbB)
        have HSC := Lib.hid (byte_keep hb HZ0.out hRS2.below)
        have HRUN := Lib.hid hrun
        have HCB := Lib.hid hcB
        have HFB := Lib.hid hfB
        have HRS2 := Lib.hid hRS2
        have hgo := HRS.out.go_lt.2
        have hgoo : go ≠ wr.heap.size := by omega
        clear hrun hcB hfB hbB hRS2
        refine wp_region_held_drew (S := fun W => W.cell? ⟨b, off + k, none⟩ = some (.int .u8 z)) (by kernel_rfl) (byte_keep hb HZ0.out (W := wr.drew) (belowN HRS.out.below 1)) (fun hHeld => ?_)
        refine wpAnyH_take (i := 0) (v := ?_) (by simp; rfl) (by kernel_rfl) (by kernel_rfl) (by kernel_rfl) (by exact fun _ _ _ h => h) (Or.inl ⟨by rfl, fun wx hSx => ?_⟩) hHeld ?_
        rotate_left
        · clear hSx; go_simp; (try with_reducible rfl)
        simp only [Act.put, List.setIfInBounds_toArray, List.set_cons_zero, List.set_cons_succ]
        refine wpAnyH_take (i := 1) (v := ?_) (by simp; rfl) (by kernel_rfl) (by kernel_rfl) (by kernel_rfl) (by exact fun _ _ _ h => h) (Or.inl ⟨by rfl, fun wx hSx => ?_⟩) hHeld ?_
        rotate_left
        · clear hSx; go_simp; (try with_reducible rfl)
        simp only [Act.put, List.setIfInBounds_toArray, List.set_cons_zero, List.set_cons_succ]
        refine wpAnyH_take (i := 2) (v := ?_) (by simp; rfl) (by kernel_rfl) (by kernel_rfl) (by kernel_rfl) (by exact fun _ _ _ h => h) (Or.inl ⟨by rfl, fun wx hSx => ?_⟩) hHeld ?_
        rotate_left
        · clear hSx; go_simp; (try with_reducible rfl)
        simp only [Act.put, List.setIfInBounds_toArray, List.set_cons_zero, List.set_cons_succ]
        refine wpAnyH_take (i := 3) (v := ?_) (by simp; rfl) (by kernel_rfl) (by kernel_rfl) (by kernel_rfl) (by exact fun _ _ _ h => h) (Or.inl ⟨by rfl, fun wx hSx => ?_⟩) hHeld ?_
        rotate_left
        · clear hSx; go_simp; (try with_reducible rfl)
        simp only [Act.put, List.setIfInBounds_toArray, List.set_cons_zero, List.set_cons_succ]
        refine wpAnyH_take (i := 4) (v := ?_) (by simp; rfl) (by kernel_rfl) (by kernel_rfl) (by kernel_rfl) (by exact fun _ _ _ h => h) (Or.inl ⟨by rfl, fun wx hSx => ?_⟩) hHeld ?_
        rotate_left
        · clear hSx; go_simp; (try with_reducible rfl)
        simp only [Act.put, List.setIfInBounds_toArray, List.set_cons_zero, List.set_cons_succ]
        refine wpAnyH_take (i := 5) (v := ?_) (by simp; rfl) (by kernel_rfl) (by kernel_rfl) (by kernel_rfl) (by exact fun _ _ _ h => h) (Or.inl ⟨by rfl, fun wx hSx => ?_⟩) hHeld ?_
        rotate_left
        · clear hSx; go_simp; (try with_reducible rfl)
        simp only [Act.put, List.setIfInBounds_toArray, List.set_cons_zero, List.set_cons_succ]
        refine wpAnyH_take (i := 7) (v := ?_) (by simp; rfl) (by kernel_rfl) (by kernel_rfl) (by kernel_rfl) (by exact fun _ _ _ h => h) (Or.inl ⟨by rfl, fun wx hSx => ?_⟩) hHeld ?_
        rotate_left
        · clear hSx; go_simp; (try with_reducible rfl)
        simp only [Act.put, List.setIfInBounds_toArray, List.set_cons_zero, List.set_cons_succ]
        refine wpAnyH_take (i := 8) (v := ?_) (by simp; rfl) (by kernel_rfl) (by kernel_rfl) (by kernel_rfl) (by exact fun _ _ _ h => h) (Or.inl ⟨by rfl, fun wx hSx => ?_⟩) hHeld ?_
        rotate_left
        · clear hSx; go_simp; (try with_reducible rfl)
        simp only [Act.put, List.setIfInBounds_toArray, List.set_cons_zero, List.set_cons_succ]
        refine wpAnyH_take (i := 9) (v := ?_) (by simp; rfl) (by kernel_rfl) (by kernel_rfl) (by kernel_rfl) (by exact fun _ _ _ h => h) (Or.inl ⟨by rfl, fun wx hSx => ?_⟩) hHeld ?_
        rotate_left
        · clear hSx; go_simp; (try with_reducible rfl)
        simp only [Act.put, List.setIfInBounds_toArray, List.set_cons_zero, List.set_cons_succ]
        refine wpAnyH_take (i := 10) (v := ?_) (by simp; rfl) (by kernel_rfl) (by kernel_rfl) (by kernel_rfl) (by exact fun _ _ _ h => h) (Or.inl ⟨by rfl, fun wx hSx => ?_⟩) hHeld ?_
        rotate_left
        · go_simp; (try with_reducible rfl)
        simp only [Act.put, List.setIfInBounds_toArray, List.set_cons_zero, List.set_cons_succ]
        refine wpAnyH_ready (rs := [6, 11]) (by kernel_rfl) (by simp) ?_
        refine AllReadyH.cons (by simp; rfl) (fun K0 hK0 => ?_) (AllReadyH.cons (by simp; rfl) (fun K0 hK0 => ?_) AllReadyH.nil)
        · go_simp
          refine hK0.out _ _ hHeld (fun hHeld => ?_)
          clear hK0 K0
          refine wpAnyH_ready (rs := [11]) (by kernel_rfl) (by simp) ?_
          refine AllReadyH.cons (by simp; rfl) (fun K0 hK0 => ?_) AllReadyH.nil
          go_simp
          refine hK0.out _ _ HSA.out (fun hHeld => ?_)
          clear hK0 K0
          refine wpAnyH_ready (rs := [12]) (by kernel_rfl) (by simp) ?_
          refine AllReadyH.cons (by simp; rfl) (fun K0 hK0 => ?_) AllReadyH.nil
          refine step_app rfl (.tmp 53) (.tmp 58) _ rfl _ _ rfl rfl HRUN.out ?_
          simp only [Act.put, List.setIfInBounds_toArray, List.set_cons_zero, List.set_cons_succ]
          refine hK0.out _ _ HSB.out (fun hHeld => ?_)
          clear hK0 K0
          refine wpAnyH_take (i := 13) (v := ?_) (by simp; rfl) (by kernel_rfl) (by kernel_rfl) (by kernel_rfl) (by exact fun _ _ _ h => h) (Or.inl ⟨by rfl, fun wx hSx => ?_⟩) hHeld ?_
          rotate_left
          · clear hSx; go_simp; (try with_reducible rfl)
          simp only [Act.put, List.setIfInBounds_toArray, List.set_cons_zero, List.set_cons_succ]
          refine wpAnyH_take (i := 14) (v := ?_) (by simp; rfl) (by kernel_rfl) (by kernel_rfl) (by kernel_rfl) (by exact fun _ _ _ h => h) (Or.inl ⟨by rfl, fun wx hSx => ?_⟩) hHeld ?_
          rotate_left
          · clear hSx; go_simp; (try with_reducible rfl)
          simp only [Act.put, List.setIfInBounds_toArray, List.set_cons_zero, List.set_cons_succ]
          refine wpAnyH_ready (rs := [15]) (by kernel_rfl) (by simp) ?_
          refine AllReadyH.cons (by simp; rfl) (fun K0 hK0 => ?_) AllReadyH.nil
          have hcB := HCB.out
          have hfB := HFB.out
          go_simp
          refine hK0.out _ _ HSC.out (fun hHeld => ?_)
          clear hK0 K0 hcB hfB
          refine wpAnyH_done (by kernel_rfl) ?_ _
          clear hvl hgo hgoo hHeld HSA HSB HSC HRUN HCB HFB
          go_wp2
          go_roundw
          case rel => exact ⟨k + 1, n, m + 1, N, go, c, by omega, by go_num, rfl, HN.out, by have := HK.out; omega, by omega, fun _ => by omega, HRS2.out⟩
          case measure => simp [intOf]; omega
        · go_simp
          refine hK0.out _ _ HSA.out (fun hHeld => ?_)
          clear hK0 K0
          refine wpAnyH_ready (rs := [6]) (by kernel_rfl) (by simp) ?_
          refine AllReadyH.cons (by simp; rfl) (fun K0 hK0 => ?_) AllReadyH.nil
          go_simp
          refine hK0.out _ _ hHeld (fun hHeld => ?_)
          clear hK0 K0
          refine wpAnyH_ready (rs := [12]) (by kernel_rfl) (by simp) ?_
          refine AllReadyH.cons (by simp; rfl) (fun K0 hK0 => ?_) AllReadyH.nil
          refine step_app rfl (.tmp 53) (.tmp 58) _ rfl _ _ rfl rfl HRUN.out ?_
          simp only [Act.put, List.setIfInBounds_toArray, List.set_cons_zero, List.set_cons_succ]
          refine hK0.out _ _ HSB.out (fun hHeld => ?_)
          clear hK0 K0
          refine wpAnyH_take (i := 13) (v := ?_) (by simp; rfl) (by kernel_rfl) (by kernel_rfl) (by kernel_rfl) (by exact fun _ _ _ h => h) (Or.inl ⟨by rfl, fun wx hSx => ?_⟩) hHeld ?_
          rotate_left
          · clear hSx; go_simp; (try with_reducible rfl)
          simp only [Act.put, List.setIfInBounds_toArray, List.set_cons_zero, List.set_cons_succ]
          refine wpAnyH_take (i := 14) (v := ?_) (by simp; rfl) (by kernel_rfl) (by kernel_rfl) (by kernel_rfl) (by exact fun _ _ _ h => h) (Or.inl ⟨by rfl, fun wx hSx => ?_⟩) hHeld ?_
          rotate_left
          · clear hSx; go_simp; (try with_reducible rfl)
          simp only [Act.put, List.setIfInBounds_toArray, List.set_cons_zero, List.set_cons_succ]
          refine wpAnyH_ready (rs := [15]) (by kernel_rfl) (by simp) ?_
          refine AllReadyH.cons (by simp; rfl) (fun K0 hK0 => ?_) AllReadyH.nil
          have hcB := HCB.out
          have hfB := HFB.out
          go_simp
          refine hK0.out _ _ HSC.out (fun hHeld => ?_)
          clear hK0 K0 hcB hfB
          refine wpAnyH_done (by kernel_rfl) ?_ _
          clear hvl hgo hgoo hHeld HSA HSB HSC HRUN HCB HFB
          go_wp2
          go_roundw
          case rel => exact ⟨k + 1, n, m + 1, N, go, c, by omega, by go_num, rfl, HN.out, by have := HK.out; omega, by omega, fun _ => by omega, HRS2.out⟩
          case measure => simp [intOf]; omega
    · obtain rfl : k = L := by omega
      obtain ⟨hK, hR1⟩ := rs_fin hRS (by rw [HL.out]; exact HK.out.symm) hm hnm
      rw [← HN.out] at hK hR1
      have HKK := Lib.hid hK
      have HR1 := Lib.hid hR1
      have hN64 : N ≤ 64 := by have := HN.out; have := HK.out; omega
      clear hRS hN hkm hK hR1
      go_wp2
      go_loopw [9] (fun i wr => ∃ q : Nat, q ≤ N ∧ i = .int .i64 q ∧ RS1 w id bs N q go c wr) (fun i _ => N - (intOf i).toNat)
      case atStart => exact ⟨0, by omega, rfl, HR1.out⟩
      case round =>
        clear HR1
        obtain ⟨q, hq, rfl, hR1⟩ := hrel
        by_cases hlq : q < N
        · obtain ⟨⟨x, hx⟩, hfz, hR2⟩ := rs_ct hR1 hlq
          have HR2 := Lib.hid hR2
          have n2 : (0 : Int) ≤ (q : Int) := by omega
          have n3 : (q : Int) < (N : Int) := by omega
          clear hR1 hR2
          go_wp2
          go_roundw
          case rel => exact ⟨q + 1, by omega, by go_num, HR2.out⟩
          case measure => simp [intOf]; omega
        · obtain rfl : q = N := by omega
          have HPP := Lib.hid (show SplitRef id bs w (.returned (.tuple #[.slice (some ⟨go, 0, none⟩) q c, .int .i64 0])) wr from ⟨some ⟨go, 0, none⟩, c, by rw [← HKK.out], rs_end hR1 HKK.out, hR1.below⟩)
          clear hR1
          go_wp2
          go_ret2
          exact HPP.out
end Go.Proofs.YtmklcghoeapfbaaDoor
