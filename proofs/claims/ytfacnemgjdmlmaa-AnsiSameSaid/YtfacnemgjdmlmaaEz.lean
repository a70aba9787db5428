/-
  Proved here: AnsiSame.
-/
import Derived.Test.YtfacnemgjdmlmaaEo
set_option linter.unusedSimpArgs false
set_option linter.unusedVariables false
namespace Go.Proofs.Ytfacnemgjdmlmaa
open Go.RowKit
theorem ev_cells {W : World} {g : Nat} {c0 c1 c2 c3 c4 c5 c6 : Value} {t : TypeId} (h : W.heap[g]? = some (.cells #[c0, c1, c2, c3, c4, c5, c6] t (0, 0))) : W.cell? ⟨g, 0, none⟩ = some c0 ∧ W.cell? ⟨g, 1, none⟩ = some c1 ∧ W.cell? ⟨g, 2, none⟩ = some c2 ∧ W.cell? ⟨g, 3, none⟩ = some c3 ∧ W.cell? ⟨g, 4, none⟩ = some c4 ∧ W.cell? ⟨g, 5, none⟩ = some c5 ∧ W.cell? ⟨g, 6, none⟩ = some c6 := by
  refine ⟨?_, ?_, ?_, ?_, ?_, ?_, ?_⟩ <;> (unfold World.cell?; simp only [h]; rfl)
set_option maxRecDepth 100000 in
set_option maxHeartbeats 8000000 in
theorem same_law {w : World} {a0 a1 a2 a3 a4 b0 b1 b2 b3 b4 : Int} {Aa Ab : Option Addr} {na nb ca cb : Nat} {sa sb : ByteArray} {L M : List Int} (hRa : RI .i64 w Aa L) (hRb : RI .i64 w Ab M) (hL : L.length = na) (hM : M.length = nb) :
    Calls Try.prog 4 #[.agg #[.int .i64 a0, .int .i32 a1, .int .u8 a2, .int .u8 a3, .int .u8 a4, .slice Aa na ca, .string sa], .agg #[.int .i64 b0, .int .i32 b1, .int .u8 b2, .int .u8 b3, .int .u8 b4, .slice Ab nb cb, .string sb]] w fun e w' => e = .returned (.bool true) ∧ Below w.heap.size w w' := by
  have HAL := Lib.hid (fun U => alive_any U)
  obtain ⟨la, hla⟩ : ∃ n, sa.size = n := ⟨_, rfl⟩
  obtain ⟨lb, hlb⟩ : ∃ n, sb.size = n := ⟨_, rfl⟩
  by_cases h1 : 50 < na
  · have e1 : decide ((50 : Int) < (na : Int)) = true := by simp; omega
    have e1x : decide (50 < na) = true := by simp; omega
    clear hRa hRb hL hM h1
    go_enter Try.func4, Try.ntmps4
    go_wp2_with fail
    refine (HAL.out _).mono ?_
    rintro e wx ⟨rfl, hx⟩
    have HX := Lib.hid (Below.trans (((Below.refl w.heap.size w).alloc (Nat.le_refl _) _).alloc (by simp) _) (hx.mono (by simp; omega)))
    clear hx
    go_wp2
    go_ret
    exact ⟨rfl, HX.out⟩
  have e1 : decide ((50 : Int) < (na : Int)) = false := by simp; omega
  have e1x : decide (50 < na) = false := by simp; omega
  by_cases h2 : 50 < nb
  · have e2 : decide ((50 : Int) < (nb : Int)) = true := by simp; omega
    have e2x : decide (50 < nb) = true := by simp; omega
    clear hRa hRb hL hM h1 h2
    go_enter Try.func4, Try.ntmps4
    go_wp2_with fail
    refine (HAL.out _).mono ?_
    rintro e wx ⟨rfl, hx⟩
    have HX := Lib.hid (Below.trans (((Below.refl w.heap.size w).alloc (Nat.le_refl _) _).alloc (by simp) _) (hx.mono (by simp; omega)))
    clear hx
    go_wp2
    go_ret
    exact ⟨rfl, HX.out⟩
  have e2 : decide ((50 : Int) < (nb : Int)) = false := by simp; omega
  have e2x : decide (50 < nb) = false := by simp; omega
  by_cases h3 : 500 < la
  · have e3 : decide ((500 : Int) < (la : Int)) = true := by simp; omega
    have e3x : decide (500 < la) = true := by simp; omega
    clear hRa hRb hL hM h1 h2 h3
    go_enter Try.func4, Try.ntmps4
    go_wp2_with fail
    refine (HAL.out _).mono ?_
    rintro e wx ⟨rfl, hx⟩
    have HX := Lib.hid (Below.trans (((Below.refl w.heap.size w).alloc (Nat.le_refl _) _).alloc (by simp) _) (hx.mono (by simp; omega)))
    clear hx
    go_wp2
    go_ret
    exact ⟨rfl, HX.out⟩
  have e3 : decide ((500 : Int) < (la : Int)) = false := by simp; omega
  have e3x : decide (500 < la) = false := by simp; omega
  by_cases h4 : 500 < lb
  · have e4 : decide ((500 : Int) < (lb : Int)) = true := by simp; omega
    have e4x : decide (500 < lb) = true := by simp; omega
    clear hRa hRb hL hM h1 h2 h3 h4
    go_enter Try.func4, Try.ntmps4
    go_wp2_with fail
    refine (HAL.out _).mono ?_
    rintro e wx ⟨rfl, hx⟩
    have HX := Lib.hid (Below.trans (((Below.refl w.heap.size w).alloc (Nat.le_refl _) _).alloc (by simp) _) (hx.mono (by simp; omega)))
    clear hx
    go_wp2
    go_ret
    exact ⟨rfl, HX.out⟩
  have e4 : decide ((500 : Int) < (lb : Int)) = false := by simp; omega
  have e4x : decide (500 < lb) = false := by simp; omega
  have hn1 : na ≤ 100000 := by omega
  have hn2 : nb ≤ 100000 := by omega
  have hb0 : Below w.heap.size w ((w.alloc (.cells #[.int .i64 a0, .int .i32 a1, .int .u8 a2, .int .u8 a3, .int .u8 a4, .slice Aa na ca, .string sa] 40)).alloc (.cells #[.int .i64 b0, .int .i32 b1, .int .u8 b2, .int .u8 b3, .int .u8 b4, .slice Ab nb cb, .string sb] 40)) := ((Below.refl _ _).alloc (Nat.le_refl _) _).alloc (by simp) _
  have hcb : ((w.alloc (.cells #[.int .i64 a0, .int .i32 a1, .int .u8 a2, .int .u8 a3, .int .u8 a4, .slice Aa na ca, .string sa] 40)).alloc (.cells #[.int .i64 b0, .int .i32 b1, .int .u8 b2, .int .u8 b3, .int .u8 b4, .slice Ab nb cb, .string sb] 40)).heap[w.heap.size + 1]? = some (.cells #[.int .i64 b0, .int .i32 b1, .int .u8 b2, .int .u8 b3, .int .u8 b4, .slice Ab nb cb, .string sb] 40 (0, 0)) := by
    have := heap_alloc_new (w.alloc (.cells #[.int .i64 a0, .int .i32 a1, .int .u8 a2, .int .u8 a3, .int .u8 a4, .slice Aa na ca, .string sa] 40)) (.cells #[.int .i64 b0, .int .i32 b1, .int .u8 b2, .int .u8 b3, .int .u8 b4, .slice Ab nb cb, .string sb] 40)
    simpa using this
  have hca : ((w.alloc (.cells #[.int .i64 a0, .int .i32 a1, .int .u8 a2, .int .u8 a3, .int .u8 a4, .slice Aa na ca, .string sa] 40)).alloc (.cells #[.int .i64 b0, .int .i32 b1, .int .u8 b2, .int .u8 b3, .int .u8 b4, .slice Ab nb cb, .string sb] 40)).heap[w.heap.size]? = some (.cells #[.int .i64 a0, .int .i32 a1, .int .u8 a2, .int .u8 a3, .int .u8 a4, .slice Aa na ca, .string sa] 40 (0, 0)) :=
    (((Below.refl (w.alloc (.cells #[.int .i64 a0, .int .i32 a1, .int .u8 a2, .int .u8 a3, .int .u8 a4, .slice Aa na ca, .string sa] 40)).heap.size (w.alloc (.cells #[.int .i64 a0, .int .i32 a1, .int .u8 a2, .int .u8 a3, .int .u8 a4, .slice Aa na ca, .string sa] 40))).alloc (Nat.le_refl _) (.cells #[.int .i64 b0, .int .i32 b1, .int .u8 b2, .int .u8 b3, .int .u8 b4, .slice Ab nb cb, .string sb] 40)).block w.heap.size (by simp)).trans (heap_alloc_new w _)
  have hlb0 : w.heap.size + 1 < ((w.alloc (.cells #[.int .i64 a0, .int .i32 a1, .int .u8 a2, .int .u8 a3, .int .u8 a4, .slice Aa na ca, .string sa] 40)).alloc (.cells #[.int .i64 b0, .int .i32 b1, .int .u8 b2, .int .u8 b3, .int .u8 b4, .slice Ab nb cb, .string sb] 40)).heap.size := by simp
  clear h1 h2 h3 h4
  go_enter Try.func4, Try.ntmps4
  go_wp2
  generalize ((w.alloc (.cells #[.int .i64 a0, .int .i32 a1, .int .u8 a2, .int .u8 a3, .int .u8 a4, .slice Aa na ca, .string sa] 40)).alloc (.cells #[.int .i64 b0, .int .i32 b1, .int .u8 b2, .int .u8 b3, .int .u8 b4, .slice Ab nb cb, .string sb] 40)) = U0 at hb0 hca hcb hlb0 ⊢
  have HCA := Lib.hid (fun (X : World) (hX : Below U0.heap.size U0 X) => ev_cells ((hX.block _ (by omega)).trans hca))
  have HCB := Lib.hid (fun (X : World) (hX : Below U0.heap.size U0 X) => ev_cells ((hX.block _ hlb0).trans hcb))
  have HSM := Lib.hid (fun (X : World) (hX : Below U0.heap.size U0 X) => same_any (w := X) (a0 := a0) (a1 := a1) (a2 := a2) (a3 := a3) (a4 := a4) (b0 := b0) (b1 := b1) (b2 := b2) (b3 := b3) (b4 := b4) (ca := ca) (cb := cb) (sa := sa) (sb := sb) ((RI.below hRa hb0).below hX) ((RI.below hRb hb0).below hX) hL hM hn1 hn2)
  have HEQ := Lib.hid (fun (X : World) (hX : Below U0.heap.size U0 X) => eq_any (w := X) (a0 := a0) (a1 := a1) (a2 := a2) (a3 := a3) (a4 := a4) (b0 := b0) (b1 := b1) (b2 := b2) (b3 := b3) (b4 := b4) (ca := ca) (cb := cb) (sa := sa) (sb := sb) ((RI.below hRa hb0).below hX) ((RI.below hRb hb0).below hX) hL hM hn1)
  generalize decide (SameE a0 a1 a2 a3 a4 b0 b1 b2 b3 b4 sa sb L M) = B at HSM HEQ
  have zB : (B == B) = true := by simp
  have HB0 := Lib.hid hb0
  have HDB := Lib.hid (show Below U0.heap.size U0 U0.drew from (Below.refl _ _).drew)
  clear hRa hRb hL hM hn1 hn2 hb0 hca hcb hlb0 e1 e1x e2 e2x e3 e3x e4 e4x hla hlb
  refine wp_region_held_drew (S := fun W => Below U0.drew.heap.size U0.drew W) (by kernel_rfl) (Below.refl _ _) (fun hHeld => ?_)
  refine wpAnyH_ready (rs := [0]) (by kernel_rfl) (by simp) ?_
  refine AllReadyH.cons (by simp; rfl) (fun K0 hK0 => ?_) AllReadyH.nil
  go_simp
  refine (HAL.out _).mono ?_
  rintro e v1 ⟨rfl, hx⟩
  have hbv1 : Below U0.drew.heap.size U0.drew v1 := hx
  have HDB2 := Lib.hid (HDB.out.trans (hbv1.mono HDB.out.size))
  clear HDB
  have HDB := HDB2
  clear HDB2
  clear hx
  refine hK0.out _ _ hbv1 (fun _ => ?_)
  clear hK0 K0 hHeld
  refine heldMono (S' := fun W => Below v1.heap.size v1 W) (fun _ h => hbv1.trans (h.mono hbv1.size)) _ _ _ _ ?_
  have hHeld := Below.refl v1.heap.size v1
  have HBv1 := Lib.hid hbv1
  clear hbv1
  refine wpAnyH_take (i := 1) (v := ?_) (by simp; rfl) (by kernel_rfl) (by kernel_rfl) (by kernel_rfl) (by exact fun _ _ _ h => h) (Or.inl ⟨by rfl, fun wx hSx => ?_⟩) hHeld ?_
  rotate_left
  · clear hSx; go_simp; (try with_reducible rfl)
  simp only [Act.put, List.setIfInBounds_toArray, List.set_cons_zero, List.set_cons_succ]
  refine wpAnyH_take (i := 2) (v := ?_) (by simp; rfl) (by kernel_rfl) (by kernel_rfl) (by kernel_rfl) (by exact fun _ _ _ h => h) (Or.inl ⟨by rfl, fun wx hSx => ?_⟩) hHeld ?_
  rotate_left
  · have hz := HCA.out wx (HDB.out.trans (hSx.mono HDB.out.size)); obtain ⟨s0, s1, s2, s3, s4, s5, s6⟩ := hz; clear hSx; go_simp; (try with_reducible rfl)
  simp only [Act.put, List.setIfInBounds_toArray, List.set_cons_zero, List.set_cons_succ]
  refine wpAnyH_take (i := 3) (v := ?_) (by simp; rfl) (by kernel_rfl) (by kernel_rfl) (by kernel_rfl) (by exact fun _ _ _ h => h) (Or.inl ⟨by rfl, fun wx hSx => ?_⟩) hHeld ?_
  rotate_left
  · have hz := HCB.out wx (HDB.out.trans (hSx.mono HDB.out.size)); obtain ⟨s0, s1, s2, s3, s4, s5, s6⟩ := hz; clear hSx; go_simp; (try with_reducible rfl)
  simp only [Act.put, List.setIfInBounds_toArray, List.set_cons_zero, List.set_cons_succ]
  refine wpAnyH_take (i := 5) (v := ?_) (by simp; rfl) (by kernel_rfl) (by kernel_rfl) (by kernel_rfl) (by exact fun _ _ _ h => h) (Or.inl ⟨by rfl, fun wx hSx => ?_⟩) hHeld ?_
  rotate_left
  · have hz := HCA.out wx (HDB.out.trans (hSx.mono HDB.out.size)); obtain ⟨s0, s1, s2, s3, s4, s5, s6⟩ := hz; clear hSx; go_simp; (try with_reducible rfl)
  simp only [Act.put, List.setIfInBounds_toArray, List.set_cons_zero, List.set_cons_succ]
  refine wpAnyH_take (i := 7) (v := ?_) (by simp; rfl) (by kernel_rfl) (by kernel_rfl) (by kernel_rfl) (by exact fun _ _ _ h => h) (Or.inl ⟨by rfl, fun wx hSx => ?_⟩) hHeld ?_
  rotate_left
  · have hz := HCB.out wx (HDB.out.trans (hSx.mono HDB.out.size)); obtain ⟨s0, s1, s2, s3, s4, s5, s6⟩ := hz; clear hSx; go_simp; (try with_reducible rfl)
  simp only [Act.put, List.setIfInBounds_toArray, List.set_cons_zero, List.set_cons_succ]
  refine wpAnyH_ready (rs := [4]) (by kernel_rfl) (by simp) ?_
  refine AllReadyH.cons (by simp; rfl) (fun K0 hK0 => ?_) AllReadyH.nil
  go_simp
  refine (HSM.out _ HDB.out).mono ?_
  rintro e v20 ⟨rfl, hx⟩
  have hbv20 : Below v1.heap.size v1 v20 := hx
  have HDB2 := Lib.hid (HDB.out.trans (hbv20.mono HDB.out.size))
  clear HDB
  have HDB := HDB2
  clear HDB2
  clear hx
  refine hK0.out _ _ hbv20 (fun _ => ?_)
  clear hK0 K0 hHeld
  refine heldMono (S' := fun W => Below v20.heap.size v20 W) (fun _ h => hbv20.trans (h.mono hbv20.size)) _ _ _ _ ?_
  have hHeld := Below.refl v20.heap.size v20
  have HBv20 := Lib.hid hbv20
  clear hbv20
  refine wpAnyH_ready (rs := [6]) (by kernel_rfl) (by simp) ?_
  refine AllReadyH.cons (by simp; rfl) (fun K0 hK0 => ?_) AllReadyH.nil
  go_simp
  refine (l_as _ _ _ _ _ _ _ _ _ _).mono ?_
  rintro e v34 ⟨rfl, hx⟩
  have hbv34 : Below v20.heap.size v20 v34 := hx
  have HDB2 := Lib.hid (HDB.out.trans (hbv34.mono HDB.out.size))
  clear HDB
  have HDB := HDB2
  clear HDB2
  clear hx
  refine hK0.out _ _ hbv34 (fun _ => ?_)
  clear hK0 K0 hHeld
  refine heldMono (S' := fun W => Below v34.heap.size v34 W) (fun _ h => hbv34.trans (h.mono hbv34.size)) _ _ _ _ ?_
  have hHeld := Below.refl v34.heap.size v34
  have HBv34 := Lib.hid hbv34
  clear hbv34
  refine wpAnyH_ready (rs := [8]) (by kernel_rfl) (by simp) ?_
  refine AllReadyH.cons (by simp; rfl) (fun K0 hK0 => ?_) AllReadyH.nil
  go_simp
  refine (l_as _ _ _ _ _ _ _ _ _ _).mono ?_
  rintro e v46 ⟨rfl, hx⟩
  have hbv46 : Below v34.heap.size v34 v46 := hx
  have HDB2 := Lib.hid (HDB.out.trans (hbv46.mono HDB.out.size))
  clear HDB
  have HDB := HDB2
  clear HDB2
  clear hx
  refine hK0.out _ _ hbv46 (fun _ => ?_)
  clear hK0 K0 hHeld
  refine heldMono (S' := fun W => Below v46.heap.size v46 W) (fun _ h => hbv46.trans (h.mono hbv46.size)) _ _ _ _ ?_
  have hHeld := Below.refl v46.heap.size v46
  have HBv46 := Lib.hid hbv46
  clear hbv46
  refine wpAnyH_ready (rs := [9]) (by kernel_rfl) (by simp) ?_
  refine AllReadyH.cons (by simp; rfl) (fun K0 hK0 => ?_) AllReadyH.nil
  go_simp
  refine (HEQ.out _ HDB.out).mono ?_
  rintro e v58 ⟨rfl, hx⟩
  have hbv58 : Below v46.heap.size v46 v58 := hx
  have HDB2 := Lib.hid (HDB.out.trans (hbv58.mono HDB.out.size))
  clear HDB
  have HDB := HDB2
  clear HDB2
  clear hx
  refine hK0.out _ _ hbv58 (fun _ => ?_)
  clear hK0 K0 hHeld
  refine heldMono (S' := fun W => Below v58.heap.size v58 W) (fun _ h => hbv58.trans (h.mono hbv58.size)) _ _ _ _ ?_
  have hHeld := Below.refl v58.heap.size v58
  have HBv58 := Lib.hid hbv58
  clear hbv58
  refine wpAnyH_take (i := 10) (v := ?_) (by simp; rfl) (by kernel_rfl) (by kernel_rfl) (by kernel_rfl) (by exact fun _ _ _ h => h) (Or.inl ⟨by rfl, fun wx hSx => ?_⟩) hHeld ?_
  rotate_left
  · clear hSx; go_simp; (try with_reducible rfl)
  simp only [Act.put, List.setIfInBounds_toArray, List.set_cons_zero, List.set_cons_succ]
  refine wpAnyH_take (i := 11) (v := ?_) (by simp; rfl) (by kernel_rfl) (by kernel_rfl) (by kernel_rfl) (by exact fun _ _ _ h => h) (Or.inl ⟨by rfl, fun wx hSx => ?_⟩) hHeld ?_
  rotate_left
  · clear hSx; go_simp; (try with_reducible rfl)
  simp only [Act.put, List.setIfInBounds_toArray, List.set_cons_zero, List.set_cons_succ]
  refine wpAnyH_take (i := 12) (v := ?_) (by simp; rfl) (by kernel_rfl) (by kernel_rfl) (by kernel_rfl) (by exact fun _ _ _ h => h) (Or.inl ⟨by rfl, fun wx hSx => ?_⟩) hHeld ?_
  rotate_left
  · clear hSx; go_simp; (try with_reducible rfl)
  simp only [Act.put, List.setIfInBounds_toArray, List.set_cons_zero, List.set_cons_succ]
  refine wpAnyH_done (by kernel_rfl) ?_ _
  have HBF := Lib.hid (HB0.out.trans (HDB.out.mono HB0.out.size))
  clear hHeld HDB HB0
  go_wp2
  go_ret
  exact ⟨rfl, HBF.out⟩
end Go.Proofs.Ytfacnemgjdmlmaa
