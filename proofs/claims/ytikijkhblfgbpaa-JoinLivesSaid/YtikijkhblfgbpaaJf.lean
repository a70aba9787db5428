/-
  Proved here: why a part can't be put (refusal).
-/
import Derived.Test.YtikijkhblfgbpaaJr
namespace Go.Proofs.Ytikijkhblfgbpaa
open Go.RowKit Go.Maps Go.Sort

def refS (T : TV) (id ix ct : Int) (n : Nat) : Int :=
  if rgt id ix ct n = false then 3
  else if id < T.fl then 23
  else match getF T.fs id with
    | none => if 4 ≤ T.fs.length ∧ id < (ids T).headD 0 then 5 else 0
    | some f => if ¬ (f.ct : Int) = ct then 1 else if cameB f.ps ix.toNat = true then 7 else 0

theorem refusal_nil (id ix ct : Int) (A : Option Addr) (n c : Nat) (w : World) : Calls Try.prog 18 #[.pointer none, PV id ix ct A n c] w fun e w' => e = .returned (.int .i64 6) ∧ Below w.heap.size w w' := by
  go_enter Try.func18, Try.ntmps18
  go_wp2_with (go_at_call 28; refine (isNone_nil _).mono ?_; rintro e w' ⟨rfl, rfl⟩)
  go_ret
  exact ⟨rfl, (Below.refl _ w).alloc (Nat.le_refl _) _⟩
theorem refusal_zero (t : Nat) (id ix ct : Int) (A : Option Addr) (n c : Nat) (w : World) (ht : t < w.heap.size) (hc : w.cell? ⟨t, 0, none⟩ = some (.int .u64 0)) : Calls Try.prog 18 #[.pointer (some ⟨t, 0, none⟩), PV id ix ct A n c] w fun e w' => e = .returned (.int .i64 6) ∧ Below w.heap.size w w' := by
  have HN : Hid (∀ o, Calls Try.prog 28 #[.pointer (some ⟨t, 0, none⟩)] (w.alloc o) fun e w' => e = .returned (.bool true) ∧ w.alloc o = w') := fun o => isNone_zero t _ ((((Below.refl _ w).alloc (Nat.le_refl _) o).cell (p := ⟨t, 0, none⟩) ht).trans hc)
  go_enter Try.func18, Try.ntmps18
  go_wp2_with (go_at_call 28; refine (HN.out _).mono ?_; rintro e w' ⟨rfl, rfl⟩)
  go_ret
  exact ⟨rfl, (Below.refl _ w).alloc (Nat.le_refl _) _⟩

/-- The part's own box, and the table, in a later world. -/
structure RefAt (w : World) (base t : Nat) (T : TV) (id ix ct : Int) (A : Option Addr) (n c : Nat) (W : World) : Prop where
  tab : TabAt W base t T
  below : Below w.heap.size w W
  box : w.heap.size < W.heap.size ∧ W.cell? ⟨w.heap.size, 0, none⟩ = some (.int .u64 id) ∧ W.cell? ⟨w.heap.size, 1, none⟩ = some (.int .i64 ix) ∧ W.cell? ⟨w.heap.size, 2, none⟩ = some (.int .i64 ct)
theorem RefAt.keep {w W W' : World} {base t : Nat} {T : TV} {id ix ct : Int} {A : Option Addr} {n c : Nat} (h : RefAt w base t T id ix ct A n c W) (hb : Below W.heap.size W W') : RefAt w base t T id ix ct A n c W' := by
  obtain ⟨h1, h2, h3, h4, h5, h6⟩ := h
  exact ⟨h1.keep hb, h2.trans (hb.mono h2.size), Nat.lt_of_lt_of_le h3 hb.size, (hb.cell (p := ⟨w.heap.size, 0, none⟩) h3).trans h4, (hb.cell (p := ⟨w.heap.size, 1, none⟩) h3).trans h5, (hb.cell (p := ⟨w.heap.size, 2, none⟩) h3).trans h6⟩
theorem RefAt.start {w : World} {base t : Nat} {T : TV} (h : TabAt w base t T) (id ix ct : Int) (A : Option Addr) (n c : Nat) : RefAt w base t T id ix ct A n c (w.alloc (.cells #[.int .u64 id, .int .i64 ix, .int .i64 ct, .slice A n c] 30)) :=
  ⟨h.keep ((Below.refl _ w).alloc (Nat.le_refl _) _), (Below.refl _ w).alloc (Nat.le_refl _) _, by simp, by simp, by simp, by simp⟩

theorem FrameAt.drews {W : World} {base : Nat} {f : FV} (h : FrameAt W base f) (m : Nat) : FrameAt (W.drewN m) base f := by
  obtain ⟨b1, ⟨C, hC, hP⟩, b3, b4, b5⟩ := h
  exact ⟨b1, ⟨C, hC, PO.imp (w := W) (w' := W.drewN m) (B := base) (B' := base) (fun _ _ h2 => h2) hP⟩, b3, b4, b5⟩
theorem RefAt.drews {w W : World} {base t : Nat} {T : TV} {id ix ct : Int} {A : Option Addr} {n c : Nat} (h : RefAt w base t T id ix ct A n c W) (m : Nat) : RefAt w base t T id ix ct A n c (W.drewN m) := by
  obtain ⟨h1, h2, h3⟩ := h
  refine ⟨?_, belowN h2 m, h3⟩
  obtain ⟨a1, a2, a3, a4, a5, a6, a7⟩ := h1
  exact ⟨a1, a2, fun f hf => (a3 f hf).drews m, a4, a5, a6, a7⟩
theorem isFull_full {w : World} {base t : Nat} {T : TV} (h : TabAt w base t T) (h4 : 4 ≤ T.fs.length) : Calls Try.prog 34 #[.pointer (some ⟨t, 0, none⟩)] w fun e w' => e = .returned (.bool true) ∧ w = w' := (isFull_any h).mono (by rintro e w' ⟨rfl, h2⟩; exact ⟨by rw [decide_eq_true h4], h2⟩)
theorem isFull_not {w : World} {base t : Nat} {T : TV} (h : TabAt w base t T) (h4 : ¬ 4 ≤ T.fs.length) : Calls Try.prog 34 #[.pointer (some ⟨t, 0, none⟩)] w fun e w' => e = .returned (.bool false) ∧ w' = w := (isFull_any h).mono (by rintro e w' ⟨rfl, h2⟩; exact ⟨by rw [decide_eq_false h4], h2.symm⟩)
theorem waits_full {w : World} {base t : Nat} {T : TV} (h : TabAt w base t T) (h4 : 4 ≤ T.fs.length) : Calls Try.prog 12 #[.pointer (some ⟨t, 0, none⟩)] w fun e w' => ∃ g c, e = .returned (.slice (some ⟨g, 0, none⟩) 4 c) ∧ w'.cell? ⟨g, 0, none⟩ = some (.int .u64 ((ids T).headD 0)) ∧ Below w.heap.size w w' :=
  (waits_any h).mono (by
    rintro e w' ⟨v, rfl, hrow, _, hb⟩
    have hlen : (ids T).length = 4 := by have := h.few; simp [ids]; omega
    have hrow0 := own_cast (m := 4) (ys := (ids T).map eU) hrow hlen rfl
    obtain ⟨g, c, rfl, _, _⟩ := hrow0.form (by omega)
    refine ⟨g, c, rfl, ?_, hb⟩
    rw [hrow0.cellAt 0 (by omega)]
    cases hh : ids T with
    | nil => rw [hh] at hlen; cases hlen
    | cons a r => rfl)
abbrev SF (w : World) (base t : Nat) (T : TV) (id ix ct : Int) (A : Option Addr) (n c : Nat) (W : World) : Prop := W.cell? ⟨w.heap.size, 0, none⟩ = some (.int .u64 id) ∧ Hid (RefAt w base t T id ix ct A n c W)
theorem SF.of {w : World} {base t : Nat} {T : TV} {id ix ct : Int} {A : Option Addr} {n c : Nat} {W : World} (h : Hid (RefAt w base t T id ix ct A n c W)) : SF w base t T id ix ct A n c W := ⟨h.out.box.2.1, h⟩
theorem SF.last {w : World} {base t : Nat} {T : TV} {id ix ct : Int} {A : Option Addr} {n c : Nat} {W : World} (h : SF w base t T id ix ct A n c W) : RefAt w base t T id ix ct A n c W := h.2.out
theorem SF.to {w : World} {base t : Nat} {T : TV} {id ix ct : Int} {A : Option Addr} {n c : Nat} {W W' : World} (hb : Below W.heap.size W W') (h : SF w base t T id ix ct A n c W) : SF w base t T id ix ct A n c W' := SF.of (Lib.hid (h.last.keep hb))

set_option maxRecDepth 100000 in
set_option maxHeartbeats 2000000 in
theorem refusal_any {w : World} {base t : Nat} {T : TV} (h : TabAt w base t T) (id ix ct : Int) (A : Option Addr) (n c : Nat) (w0 : 0 ≤ id) (w1 : id < 18446744073709551616) (c0 : -9223372036854775808 ≤ ct) (c1 : ct < 9223372036854775808) (hn : n ≤ maxLen) :
    Calls Try.prog 18 #[.pointer (some ⟨t, 0, none⟩), PV id ix ct A n c] w fun e w' => e = .returned (.int .i64 (refS T id ix ct n)) ∧ Below w.heap.size w w' := by
  have hR0 := RefAt.start h id ix ct A n c
  have HN := Lib.hid (isNone_any hR0.tab)
  have HR0 := Lib.hid hR0
  have HRt := Lib.hid (fun W => right_any id ix ct A n c W w0 w1 c0 c1 hn)
  clear hR0 h
  by_cases hr : rgt id ix ct n = true
  · have HE := Lib.hid (show refS T id ix ct n = if id < T.fl then 23 else match getF T.fs id with | none => if 4 ≤ T.fs.length ∧ id < (ids T).headD 0 then 5 else 0 | some f => if ¬ (f.ct : Int) = ct then 1 else if cameB f.ps ix.toNat = true then 7 else 0 by unfold refS; rw [hr, if_neg (by simp)])
    obtain ⟨k, rfl, hk64⟩ : ∃ k : Nat, ix = k ∧ k < 64 := by
      obtain ⟨_, _, _, h4, h5, h6, _⟩ := rgt_yes hr
      exact ⟨ix.toNat, by omega, by omega⟩
    have HRy := Lib.hid (fun W => (HRt.out W).mono (R' := fun e w' => e = .returned (.bool true) ∧ Below W.heap.size W w') (by rintro e w' ⟨rfl, hb⟩; exact ⟨by rw [hr], hb⟩))
    clear HRt
    go_enter Try.func18, Try.ntmps18
    go_wp2_with (first
      | (go_at_call 28; refine HN.out.mono ?_; rintro e w' ⟨rfl, rfl⟩)
      | (go_at_call 33; refine (HRy.out _).mono ?_; rintro e w2 ⟨rfl, hb2⟩; have HR2 := Lib.hid (HR0.out.keep hb2); clear hb2))
    have hR := HR2.out
    obtain ⟨ht, hfl, _, b, hbl, hmc, hm⟩ := hR.tab.cells
    obtain ⟨hbx, b0, b1, b2⟩ := hR.box
    have hlk := look_any hm id w0 w1
    obtain ⟨fl, hfle⟩ : ∃ fl, fl = T.fl := ⟨_, rfl⟩
    obtain ⟨o, ho⟩ : ∃ o, o = getF T.fs id := ⟨_, rfl⟩
    have H23 : Hid (id < fl → refS T id k ct n = 23) := fun hlt => by rw [HE.out, if_pos (by rw [← hfle]; exact hlt)]
    have HNo : Hid (¬ id < fl → o = none → refS T id k ct n = if 4 ≤ T.fs.length ∧ id < (ids T).headD 0 then 5 else 0) := fun hlt e => by rw [HE.out, if_neg (by rw [← hfle]; exact hlt), ← ho, e]
    have HSo : Hid (¬ id < fl → ∀ f, o = some f → refS T id k ct n = if ¬ (f.ct : Int) = ct then 1 else if cameB f.ps k = true then 7 else 0) := fun hlt f e => by rw [HE.out, if_neg (by rw [← hfle]; exact hlt), ← ho, e]; simp only [Int.toNat_natCast]
    rw [← ho] at hlk
    rw [← hfle] at hfl
    have HO := Lib.hid ho
    clear hR hm ho hfle HR0 HN HRy hr HE
    by_cases hlt : id < fl
    · have HP := Lib.hid (H23.out hlt)
      clear H23 HNo HSo
      go_region
      all_goals go_wp2
      go_ret
      exact ⟨by rw [HP.out]; rfl, belowN HR2.out.below 1⟩
    · clear H23
      have hlk2 : (Instr.lookup 45 (.map (some b)) (.int .u64 id) false).run Try.prog w2.drew.drew = .ok (valF o) w2.drew.drew := hlk 2
      clear hlk
      go_region
      all_goals go_wp2
      go_region
      all_goals go_wp2
      have HRW : Hid (RefAt w base t T id k ct A n c w2.drew.drew) := Lib.hid (HR2.out.drews 2)
      clear hlk2 HR2 hbl hmc hbx b0 b1 b2 ht hfl
      generalize w2.drew.drew = W at HRW ⊢
      obtain ⟨hbx, b0, b1, b2⟩ := HRW.out.box
      cases o with
      | none =>
        have HP := Lib.hid (HNo.out hlt rfl)
        clear HNo HSo
        simp only [valF]
        by_cases h4 : 4 ≤ T.fs.length
        · have HWd := Lib.hid (HRW.out.drews 1)
          have HX := Lib.hid (show refS T id k ct n = if id < (ids T).headD 0 then 5 else 0 by rw [HP.out]; simp [h4])
          have H4 := Lib.hid h4
          clear HP h4 HRW
          obtain ⟨x, hx⟩ : ∃ x, x = (ids T).headD 0 := ⟨_, rfl⟩
          have HWf := Lib.hid (fun W h => waits_full (w := W) (base := base) (t := t) (T := T) h H4.out)
          rw [← hx] at HWf HX
          clear hx
          --REGION8
          refine wp_region_held_drew (S := SF w base t T id k ct A n c) (by kernel_rfl) (SF.of HWd) (fun hHeld => ?_)
          refine wpAnyH_take (i := 0) (v := ?_) (by simp; rfl) (by kernel_rfl) (by kernel_rfl) (by kernel_rfl) (by exact fun _ _ _ h => h) (Or.inl ⟨by rfl, fun wx hSx => ?_⟩) hHeld ?_
          rotate_left
          · obtain ⟨c0, _⟩ := hSx; go_simp; (try with_reducible rfl)
          simp only [Act.put, List.setIfInBounds_toArray, List.set_cons_zero, List.set_cons_succ]
          refine wpAnyH_take (i := 1) (v := ?_) (by simp; rfl) (by kernel_rfl) (by kernel_rfl) (by kernel_rfl) (by exact fun _ _ _ h => h) (Or.inl ⟨by rfl, fun wx hSx => ?_⟩) hHeld ?_
          rotate_left
          · obtain ⟨c0, _⟩ := hSx; go_simp; (try with_reducible rfl)
          simp only [Act.put, List.setIfInBounds_toArray, List.set_cons_zero, List.set_cons_succ]
          refine wpAnyH_take (i := 2) (v := ?_) (by simp; rfl) (by kernel_rfl) (by kernel_rfl) (by kernel_rfl) (by exact fun _ _ _ h => h) (Or.inl ⟨by rfl, fun wx hSx => ?_⟩) hHeld ?_
          rotate_left
          · obtain ⟨c0, _⟩ := hSx; go_simp; (try with_reducible rfl)
          simp only [Act.put, List.setIfInBounds_toArray, List.set_cons_zero, List.set_cons_succ]
          refine wpAnyH_take (i := 3) (v := ?_) (by simp; rfl) (by kernel_rfl) (by kernel_rfl) (by kernel_rfl) (by exact fun _ _ _ h => h) (Or.inl ⟨by rfl, fun wx hSx => ?_⟩) hHeld ?_
          rotate_left
          · obtain ⟨c0, _⟩ := hSx; go_simp; (try with_reducible rfl)
          simp only [Act.put, List.setIfInBounds_toArray, List.set_cons_zero, List.set_cons_succ]
          refine wpAnyH_ready (rs := [4]) (by kernel_rfl) (by simp) ?_
          refine AllReadyH.cons (by simp; rfl) (fun K0 hK0 => ?_) AllReadyH.nil
          go_simp
          refine (isFull_full (SF.last hHeld).tab H4.out).mono ?_
          rintro e wy ⟨rfl, rfl⟩
          refine hK0.out _ _ hHeld (fun hHeld => ?_)
          clear hK0 K0
          refine wpAnyH_take (i := 5) (v := ?_) (by simp; rfl) (by kernel_rfl) (by kernel_rfl) (by kernel_rfl) (by exact fun _ _ _ h => h) (Or.inl ⟨by rfl, fun wx hSx => ?_⟩) hHeld ?_
          rotate_left
          · obtain ⟨c0, _⟩ := hSx; go_simp; (try with_reducible rfl)
          simp only [Act.put, List.setIfInBounds_toArray, List.set_cons_zero, List.set_cons_succ]
          refine wpAnyH_take (i := 6) (v := ?_) (by simp; rfl) (by kernel_rfl) (by kernel_rfl) (by kernel_rfl) (by exact fun _ _ _ h => h) (Or.inl ⟨by rfl, fun wx hSx => ?_⟩) hHeld ?_
          rotate_left
          · obtain ⟨c0, _⟩ := hSx; go_simp; (try with_reducible rfl)
          simp only [Act.put, List.setIfInBounds_toArray, List.set_cons_zero, List.set_cons_succ]
          refine wpAnyH_take (i := 7) (v := ?_) (by simp; rfl) (by kernel_rfl) (by kernel_rfl) (by kernel_rfl) (by exact fun _ _ _ h => h) (Or.inl ⟨by rfl, fun wx hSx => ?_⟩) hHeld ?_
          rotate_left
          · obtain ⟨c0, _⟩ := hSx; go_simp; (try with_reducible rfl)
          simp only [Act.put, List.setIfInBounds_toArray, List.set_cons_zero, List.set_cons_succ]
          refine wpAnyH_take (i := 8) (v := ?_) (by simp; rfl) (by kernel_rfl) (by kernel_rfl) (by kernel_rfl) (by exact fun _ _ _ h => h) (Or.inl ⟨by rfl, fun wx hSx => ?_⟩) hHeld ?_
          rotate_left
          · obtain ⟨c0, _⟩ := hSx; go_simp; (try with_reducible rfl)
          simp only [Act.put, List.setIfInBounds_toArray, List.set_cons_zero, List.set_cons_succ]
          refine wpAnyH_take (i := 9) (v := ?_) (by simp; rfl) (by kernel_rfl) (by kernel_rfl) (by kernel_rfl) (by exact fun _ _ _ h => h) (Or.inl ⟨by rfl, fun wx hSx => ?_⟩) hHeld ?_
          rotate_left
          · obtain ⟨c0, _⟩ := hSx; go_simp; (try with_reducible rfl)
          simp only [Act.put, List.setIfInBounds_toArray, List.set_cons_zero, List.set_cons_succ]
          refine wpAnyH_ready (rs := [10]) (by kernel_rfl) (by simp) ?_
          refine AllReadyH.cons (by simp; rfl) (fun K0 hK0 => ?_) AllReadyH.nil
          go_simp
          refine (HWf.out _ (SF.last hHeld).tab).mono ?_
          rintro e wy ⟨g, c', rfl, hg0, hby⟩
          have HS2 := SF.to hby hHeld
          clear hby
          refine hK0.out _ _ HS2 (fun hHeld => ?_)
          clear hK0 K0
          refine wpAnyH_take (i := 11) (v := ?_) (by simp; rfl) (by kernel_rfl) (by kernel_rfl) (by kernel_rfl) (by exact fun _ _ _ h => h) (Or.inl ⟨by rfl, fun wx hSx => ?_⟩) hHeld ?_
          rotate_left
          · obtain ⟨c0, _⟩ := hSx; go_simp; (try with_reducible rfl)
          simp only [Act.put, List.setIfInBounds_toArray, List.set_cons_zero, List.set_cons_succ]
          refine wpAnyH_ready (rs := [12]) (by kernel_rfl) (by simp) ?_
          refine AllReadyH.cons (by simp; rfl) (fun K0 hK0 => ?_) AllReadyH.nil
          go_simp
          refine hK0.out _ _ hHeld (fun hHeld => ?_)
          clear hK0 K0
          refine wpAnyH_take (i := 13) (v := ?_) (by simp; rfl) (by kernel_rfl) (by kernel_rfl) (by kernel_rfl) (by exact fun _ _ _ h => h) (Or.inl ⟨by rfl, fun wx hSx => ?_⟩) hHeld ?_
          rotate_left
          · obtain ⟨c0, _⟩ := hSx; go_simp; (try with_reducible rfl)
          simp only [Act.put, List.setIfInBounds_toArray, List.set_cons_zero, List.set_cons_succ]
          refine wpAnyH_take (i := 14) (v := ?_) (by simp; rfl) (by kernel_rfl) (by kernel_rfl) (by kernel_rfl) (by exact fun _ _ _ h => h) (Or.inl ⟨by rfl, fun wx hSx => ?_⟩) hHeld ?_
          rotate_left
          · obtain ⟨c0, _⟩ := hSx; go_simp; (try with_reducible rfl)
          simp only [Act.put, List.setIfInBounds_toArray, List.set_cons_zero, List.set_cons_succ]
          refine wpAnyH_take (i := 15) (v := ?_) (by simp; rfl) (by kernel_rfl) (by kernel_rfl) (by kernel_rfl) (by exact fun _ _ _ h => h) (Or.inl ⟨by rfl, fun wx hSx => ?_⟩) hHeld ?_
          rotate_left
          · obtain ⟨c0, _⟩ := hSx; go_simp; (try with_reducible rfl)
          simp only [Act.put, List.setIfInBounds_toArray, List.set_cons_zero, List.set_cons_succ]
          refine wpAnyH_done (by kernel_rfl) ?_ _
          --END8
          all_goals go_wp2
          · have hx : id < x := by assumption
            go_ret
            exact ⟨by rw [HX.out, if_pos hx]; rfl, (SF.last hHeld).below⟩
          · have hx : ¬ id < x := by omega
            go_region
            all_goals go_wp2
            go_ret
            exact ⟨by rw [HX.out, if_neg (by omega)]; rfl, belowN (SF.last hHeld).below 1⟩
        · have HX := Lib.hid (show refS T id k ct n = 0 by rw [HP.out]; simp [h4])
          have H4 := Lib.hid h4
          clear HP h4
          go_quiet (first | (go_at_call 34; refine Calls.quiet_of_same (isFull_not (HRW.out.drews _).tab H4.out)))
          go_wp2
          go_region
          all_goals go_wp2
          go_ret
          exact ⟨by rw [HX.out]; rfl, belowN (belowN HRW.out.below _) 1⟩
      | some f =>
        have HP := Lib.hid (HSo.out hlt f rfl)
        clear HNo HSo
        simp only [valF]
        have hF := HRW.out.tab.frames f (getF_mem HO.out.symm).1
        obtain ⟨hfl, hfc, _⟩ := hF.cells
        have HC := Lib.hid (fun m => came_any (hF.drews m) k hk64)
        clear hF
        go_quiet (first | fail)
        go_wp2
        by_cases hct : (f.ct : Int) = ct
        · have HX := Lib.hid (show refS T id k ct n = if cameB f.ps k = true then 7 else 0 by rw [HP.out, if_neg (by simpa using hct)])
          have HCe : (f.ct : Int) = ct := hct
          go_region
          all_goals go_wp2_with (go_at_call 35; refine (HC.out _).mono ?_; rintro e w' ⟨rfl, rfl⟩)
          · have hcm : cameB f.ps k = true := by assumption
            go_ret
            exact ⟨by rw [HX.out, if_pos hcm]; rfl, belowN (belowN HRW.out.below _) 1⟩
          · have hcm : cameB f.ps k = false := by assumption
            go_ret
            exact ⟨by rw [HX.out, if_neg (by rw [hcm]; simp)]; rfl, belowN (belowN HRW.out.below _) 1⟩
        · have HX := Lib.hid (show refS T id k ct n = 1 by rw [HP.out, if_pos hct])
          go_region
          all_goals go_wp2
          go_ret
          exact ⟨by rw [HX.out]; rfl, belowN (belowN HRW.out.below _) 1⟩
  · have HE := Lib.hid (show refS T id ix ct n = 3 by unfold refS; rw [if_pos (by simpa using hr)])
    rw [HE.out]
    have HRn := Lib.hid (fun W => (HRt.out W).mono (R' := fun e w' => e = .returned (.bool false) ∧ Below W.heap.size W w') (by rintro e w' ⟨rfl, hb⟩; exact ⟨by rw [Bool.not_eq_true] at hr; rw [hr], hb⟩))
    clear HRt HE hr
    go_enter Try.func18, Try.ntmps18
    go_wp2_with (first
      | (go_at_call 28; refine HN.out.mono ?_; rintro e w' ⟨rfl, rfl⟩)
      | (go_at_call 33; refine (HRn.out _).mono ?_; rintro e w2 ⟨rfl, hb2⟩; have HR2 := Lib.hid (HR0.out.keep hb2); clear hb2))
    go_ret
    exact ⟨rfl, HR2.out.below⟩

end Go.Proofs.Ytikijkhblfgbpaa
