/-
  Proved here: of the program's parser: takeCsi.
-/
import Derived.Test.YtfacnemgjdmlmaaEd
import Derived.Deep.RegionHeld
set_option linter.unusedSimpArgs false
set_option linter.unusedVariables false
namespace Go.Proofs.Ytfacnemgjdmlmaa
open Go.RowKit
theorem TPost.undrew {B g : Nat} {vp vt : Value} {w : World} {R : PP × Option Ev} {x : Ending} {w' : World} (h : TPost B g vp vt w.drew R x w') : TPost B g vp vt w R x w' := by
  obtain ⟨vp', vt', pv, e, hq, hf, hp, ht, ho, hs, hd⟩ := h
  exact ⟨vp', vt', pv, e, hq, ⟨hf.os, hf.tape, hf.output, hf.size, hf.block⟩, hp, ht, ho, hs, hd⟩
theorem tpost_none {B g : Nat} {vp vt : Value} {s' : PP} {w w' : World} (hq : Qs B g vp vt s' w') (hf : Fr2 g vp vt w w') : TPost B g vp vt w (s', none) (.returned (.tuple #[.agg #[.int .i64 0, .int .i32 0, .int .u8 0, .int .u8 0, .int .u8 0, .slice none 0 0, .string ⟨#[]⟩], .bool false])) w' :=
  ⟨vp, vt, .slice none 0 0, by rw [← evL_Z]; rfl, hq, hf, SubO.refl _ _, SubO.refl _ _, World.ownsRow_nil _ _ _ _, SubO.nil _ _, .inl rfl⟩
def privP (s : PP) (c : Int) : PP := if s.pr = 0 ∧ s.it = 0 ∧ s.ps = [] then { s with pr := c } else { s with sp := true }
def csiP (s : PP) (c : Int) : PP × Option Ev :=
  if 64 ≤ c then (beginP 0, if s.sp = true then none else some ⟨4, 0, s.pr, s.it, c, s.ps, []⟩)
  else if 60 ≤ c then (privP s c, none)
  else if c < 48 then (interP s c, none)
  else if c = 58 ∨ s.it ≠ 0 then ({ s with sp := true }, none)
  else if c = 59 then (nextP s, none)
  else (digitP s (c - 48), none)
set_option maxRecDepth 100000 in
set_option maxHeartbeats 4000000 in
theorem p_csi {B g : Nat} {vp vt : Value} {s : PP} {w : World} (h : Qs B g vp vt s w) (hn : s.ps.length ≤ 16) (ho : NumOk s.ps) (c : Int) (h0 : 32 ≤ c) (h1 : c < 256) (hi : 0 ≤ s.it ∧ s.it < 256) (hpr : 0 ≤ s.pr ∧ s.pr < 256) :
    Calls Try.prog 29 #[.pointer (some ⟨g, 0, none⟩), .int .u8 c] w (TPost B g vp vt w (csiP s c)) := by
  unfold csiP
  have HQ := Lib.hid h
  have hU : Qs B g vp vt s (w.alloc (.cells #[.int .i64 0, .int .i32 0, .int .u8 0, .int .u8 0, .int .u8 0, .slice none 0 0, .string ⟨#[]⟩] 40)) := h.below ((Below.refl _ _).alloc (Nat.le_refl _) _)
  have HQU := Lib.hid hU
  obtain ⟨k0, k1, k2, k3, k4, k5, k6, k7⟩ := h.cells
  have hlt := h.lt
  by_cases c64 : 64 ≤ c
  · rw [if_pos c64]
    have d1 : decide (64 ≤ c) = true := by simpa using c64
    have hUd : Qs B g vp vt s (w.alloc (.cells #[.int .i64 0, .int .i32 0, .int .u8 0, .int .u8 0, .int .u8 0, .slice none 0 0, .string ⟨#[]⟩] 40)).drew := hU.below (Below.refl _ _).drew
    have hce := p_end hUd ⟨4, 0, s.pr, s.it, c, s.ps, []⟩ vp hUd.op (SubO.refl _ _)
    obtain ⟨R, hR⟩ : ∃ R, ((beginP 0, if s.sp = true then none else some ⟨4, 0, s.pr, s.it, c, s.ps, []⟩) : PP × Option Ev) = R := ⟨_, rfl⟩
    rw [hR] at hce ⊢
    obtain ⟨A, cc, rfl, _⟩ := own_slice h.op
    have HC : Hid (Calls Try.prog 32 #[.pointer (some ⟨g, 0, none⟩), .agg #[.int .i64 4, .int .i32 0, .int .u8 s.pr, .int .u8 s.it, .int .u8 c, .slice A s.ps.length cc, .string ⟨#[]⟩]] (w.alloc (.cells #[.int .i64 0, .int .i32 0, .int .u8 0, .int .u8 0, .int .u8 0, .slice none 0 0, .string ⟨#[]⟩] 40)).drew (TPost B g (.slice A s.ps.length cc) vt (w.alloc (.cells #[.int .i64 0, .int .i32 0, .int .u8 0, .int .u8 0, .int .u8 0, .slice none 0 0, .string ⟨#[]⟩] 40)).drew R)) := Lib.hid hce
    obtain ⟨m0, m1, m2, m3, m4, m5, m6, m7⟩ := hUd.cells
    clear k0 k1 k2 k3 k4 k5 k6 k7
    clear h hU c64 hUd hce hR
    go_enter Try.func29, Try.ntmps29
    go_wp2
    refine wp_region_held_drew (S := fun W => True) (by kernel_rfl) trivial (fun hHeld => ?_)
    refine wpAnyH_take (i := 0) (v := ?_) (by simp; rfl) (by kernel_rfl) (by kernel_rfl) (by kernel_rfl) (by exact fun _ _ _ h => h) (Or.inl ⟨by rfl, fun wx hSx => ?_⟩) hHeld ?_
    rotate_left
    · clear hSx; go_simp; (try with_reducible rfl)
    simp only [Act.put, List.setIfInBounds_toArray, List.set_cons_zero, List.set_cons_succ]
    refine wpAnyH_take (i := 1) (v := ?_) (by simp; rfl) (by kernel_rfl) (by kernel_rfl) (by kernel_rfl) (by exact fun _ _ _ h => h) (Or.inl ⟨by rfl, fun wx hSx => ?_⟩) hHeld ?_
    rotate_left
    · clear hSx; go_simp; (try with_reducible rfl)
    simp only [Act.put, List.setIfInBounds_toArray, List.set_cons_zero, List.set_cons_succ]
    refine wpAnyH_take (i := 2) (v := ?_) (by simp; rfl) (by kernel_rfl) (by kernel_rfl) (by kernel_rfl) (by exact fun _ _ _ h => h) (Or.inl ⟨by rfl, fun wx hSx => ?_⟩) hHeld ?_
    rotate_left
    · clear hSx; go_simp; (try with_reducible rfl)
    simp only [Act.put, List.setIfInBounds_toArray, List.set_cons_zero, List.set_cons_succ]
    refine wpAnyH_take (i := 3) (v := ?_) (by simp; rfl) (by kernel_rfl) (by kernel_rfl) (by kernel_rfl) (by exact fun _ _ _ h => h) (Or.inl ⟨by rfl, fun wx hSx => ?_⟩) hHeld ?_
    rotate_left
    · clear hSx; go_simp; (try with_reducible rfl)
    simp only [Act.put, List.setIfInBounds_toArray, List.set_cons_zero, List.set_cons_succ]
    refine wpAnyH_take (i := 5) (v := ?_) (by simp; rfl) (by kernel_rfl) (by kernel_rfl) (by kernel_rfl) (by exact fun _ _ _ h => h) (Or.inl ⟨by rfl, fun wx hSx => ?_⟩) hHeld ?_
    rotate_left
    · clear hSx; go_simp; (try with_reducible rfl)
    simp only [Act.put, List.setIfInBounds_toArray, List.set_cons_zero, List.set_cons_succ]
    refine wpAnyH_take (i := 6) (v := ?_) (by simp; rfl) (by kernel_rfl) (by kernel_rfl) (by kernel_rfl) (by exact fun _ _ _ h => h) (Or.inl ⟨by rfl, fun wx hSx => ?_⟩) hHeld ?_
    rotate_left
    · clear hSx; go_simp; (try with_reducible rfl)
    simp only [Act.put, List.setIfInBounds_toArray, List.set_cons_zero, List.set_cons_succ]
    refine wpAnyH_take (i := 7) (v := ?_) (by simp; rfl) (by kernel_rfl) (by kernel_rfl) (by kernel_rfl) (by exact fun _ _ _ h => h) (Or.inl ⟨by rfl, fun wx hSx => ?_⟩) hHeld ?_
    rotate_left
    · clear hSx; go_simp; (try with_reducible rfl)
    simp only [Act.put, List.setIfInBounds_toArray, List.set_cons_zero, List.set_cons_succ]
    refine wpAnyH_take (i := 9) (v := ?_) (by simp; rfl) (by kernel_rfl) (by kernel_rfl) (by kernel_rfl) (by exact fun _ _ _ h => h) (Or.inl ⟨by rfl, fun wx hSx => ?_⟩) hHeld ?_
    rotate_left
    · clear hSx; go_simp; (try with_reducible rfl)
    simp only [Act.put, List.setIfInBounds_toArray, List.set_cons_zero, List.set_cons_succ]
    refine wpAnyH_take (i := 10) (v := ?_) (by simp; rfl) (by kernel_rfl) (by kernel_rfl) (by kernel_rfl) (by exact fun _ _ _ h => h) (Or.inl ⟨by rfl, fun wx hSx => ?_⟩) hHeld ?_
    rotate_left
    · clear hSx; go_simp; (try with_reducible rfl)
    simp only [Act.put, List.setIfInBounds_toArray, List.set_cons_zero, List.set_cons_succ]
    refine wpAnyH_take (i := 11) (v := ?_) (by simp; rfl) (by kernel_rfl) (by kernel_rfl) (by kernel_rfl) (by exact fun _ _ _ h => h) (Or.inl ⟨by rfl, fun wx hSx => ?_⟩) hHeld ?_
    rotate_left
    · clear hSx; go_simp; (try with_reducible rfl)
    simp only [Act.put, List.setIfInBounds_toArray, List.set_cons_zero, List.set_cons_succ]
    refine wpAnyH_take (i := 12) (v := ?_) (by simp; rfl) (by kernel_rfl) (by kernel_rfl) (by kernel_rfl) (by exact fun _ _ _ h => h) (Or.inl ⟨by rfl, fun wx hSx => ?_⟩) hHeld ?_
    rotate_left
    · clear hSx; go_simp; (try with_reducible rfl)
    simp only [Act.put, List.setIfInBounds_toArray, List.set_cons_zero, List.set_cons_succ]
    refine wpAnyH_ready (rs := [4, 8, 13]) (by kernel_rfl) (by simp) ?_
    refine AllReadyH.cons (by simp; rfl) (fun K0 hK0 => ?_) (AllReadyH.cons (by simp; rfl) (fun K0 hK0 => ?_) (AllReadyH.cons (by simp; rfl) (fun K0 hK0 => ?_) AllReadyH.nil))
    · go_simp
      refine hK0.out _ _ trivial (fun hHeld => ?_)
      clear hK0 K0
      refine wpAnyH_ready (rs := [8, 13]) (by kernel_rfl) (by simp) ?_
      refine AllReadyH.cons (by simp; rfl) (fun K0 hK0 => ?_) (AllReadyH.cons (by simp; rfl) (fun K0 hK0 => ?_) AllReadyH.nil)
      · go_simp
        refine hK0.out _ _ trivial (fun hHeld => ?_)
        clear hK0 K0
        refine wpAnyH_ready (rs := [13]) (by kernel_rfl) (by simp) ?_
        refine AllReadyH.cons (by simp; rfl) (fun K0 hK0 => ?_) AllReadyH.nil
        go_simp
        refine hK0.out _ _ trivial (fun hHeld => ?_)
        clear hK0 K0
        refine wpAnyH_take (i := 14) (v := ?_) (by simp; rfl) (by kernel_rfl) (by kernel_rfl) (by kernel_rfl) (by exact fun _ _ _ h => h) (Or.inl ⟨by rfl, fun wx hSx => ?_⟩) hHeld ?_
        rotate_left
        · clear hSx; go_simp; (try with_reducible rfl)
        simp only [Act.put, List.setIfInBounds_toArray, List.set_cons_zero, List.set_cons_succ]
        refine wpAnyH_ready (rs := [15]) (by kernel_rfl) (by simp) ?_
        refine AllReadyH.cons (by simp; rfl) (fun K0 hK0 => ?_) AllReadyH.nil
        clear m0 m1 m2 m3 m4 m5 m6 m7
        go_simp
        refine HC.out.mono ?_
        intro x w1 hx
        obtain ⟨c0, c1, c2, c3, c4, A5, n5, c5, S, bb, rfl, hrow, hT⟩ := after_t HQ.out (TPost.undrew hx)
        have HROW := Lib.hid hrow
        have HTT := Lib.hid hT
        clear hx hrow hT
        refine hK0.out _ _ trivial (fun hHeld => ?_)
        clear hK0 K0
        refine wpAnyH_take (i := 16) (v := ?_) (by simp; rfl) (by kernel_rfl) (by kernel_rfl) (by kernel_rfl) (by exact fun _ _ _ h => h) (Or.inl ⟨by rfl, fun wx hSx => ?_⟩) hHeld ?_
        rotate_left
        · clear hSx; go_simp; (try with_reducible rfl)
        simp only [Act.put, List.setIfInBounds_toArray, List.set_cons_zero, List.set_cons_succ]
        refine wpAnyH_take (i := 17) (v := ?_) (by simp; rfl) (by kernel_rfl) (by kernel_rfl) (by kernel_rfl) (by exact fun _ _ _ h => h) (Or.inl ⟨by rfl, fun wx hSx => ?_⟩) hHeld ?_
        rotate_left
        · clear hSx; go_simp; (try with_reducible rfl)
        simp only [Act.put, List.setIfInBounds_toArray, List.set_cons_zero, List.set_cons_succ]
        refine wpAnyH_ready (rs := [18]) (by kernel_rfl) (by simp) ?_
        refine AllReadyH.cons (by simp; rfl) (fun K0 hK0 => ?_) AllReadyH.nil
        rw [if_pos (by rfl)]
        refine wp_store_row 40 (.tmp 4) (.tmp 30) rfl w.heap.size #[.int .i64 c0, .int .i32 c1, .int .u8 c2, .int .u8 c3, .int .u8 c4, .slice A5 n5 c5, .string S] (by rfl) (by rfl) 40 _ HROW.out (info_ev7 _ _ _ _ _ _ _) rfl (ev_one7 c0 c1 c2 c3 c4 A5 n5 c5 S) ?_
        simp only [Act.put]
        refine hK0.out _ _ trivial (fun hHeld => ?_)
        clear hK0 K0
        refine wpAnyH_take (i := 19) (v := ?_) (by simp; rfl) (by kernel_rfl) (by kernel_rfl) (by kernel_rfl) (by exact fun _ _ _ h => h) (Or.inl ⟨by rfl, fun wx hSx => ?_⟩) hHeld ?_
        rotate_left
        · clear hSx; go_simp; (try with_reducible rfl)
        simp only [Act.put, List.setIfInBounds_toArray, List.set_cons_zero, List.set_cons_succ]
        refine wpAnyH_done (by kernel_rfl) ?_ _
        clear hHeld
        have HIZ := info_ev7 (.int .i64 c0) (.int .i32 c1) (.int .u8 c2) (.int .u8 c3) (.int .u8 c4) (.slice A5 n5 c5) (.string S)
        go_wp2
        exact bodyPost_ret (results_cell_tmp Try.results29 _ _ w.heap.size 40 _ (0, 0) _ (.bool bb) rfl rfl (setRow_heap _ _ _ _ _ _ HROW.out) Try.underlying40 rfl HIZ) rfl (HTT.out _)
      · go_simp
        refine hK0.out _ _ trivial (fun hHeld => ?_)
        clear hK0 K0
        refine wpAnyH_ready (rs := [8]) (by kernel_rfl) (by simp) ?_
        refine AllReadyH.cons (by simp; rfl) (fun K0 hK0 => ?_) AllReadyH.nil
        go_simp
        refine hK0.out _ _ trivial (fun hHeld => ?_)
        clear hK0 K0
        refine wpAnyH_take (i := 14) (v := ?_) (by simp; rfl) (by kernel_rfl) (by kernel_rfl) (by kernel_rfl) (by exact fun _ _ _ h => h) (Or.inl ⟨by rfl, fun wx hSx => ?_⟩) hHeld ?_
        rotate_left
        · clear hSx; go_simp; (try with_reducible rfl)
        simp only [Act.put, List.setIfInBounds_toArray, List.set_cons_zero, List.set_cons_succ]
        refine wpAnyH_ready (rs := [15]) (by kernel_rfl) (by simp) ?_
        refine AllReadyH.cons (by simp; rfl) (fun K0 hK0 => ?_) AllReadyH.nil
        clear m0 m1 m2 m3 m4 m5 m6 m7
        go_simp
        refine HC.out.mono ?_
        intro x w1 hx
        obtain ⟨c0, c1, c2, c3, c4, A5, n5, c5, S, bb, rfl, hrow, hT⟩ := after_t HQ.out (TPost.undrew hx)
        have HROW := Lib.hid hrow
        have HTT := Lib.hid hT
        clear hx hrow hT
        refine hK0.out _ _ trivial (fun hHeld => ?_)
        clear hK0 K0
        refine wpAnyH_take (i := 16) (v := ?_) (by simp; rfl) (by kernel_rfl) (by kernel_rfl) (by kernel_rfl) (by exact fun _ _ _ h => h) (Or.inl ⟨by rfl, fun wx hSx => ?_⟩) hHeld ?_
        rotate_left
        · clear hSx; go_simp; (try with_reducible rfl)
        simp only [Act.put, List.setIfInBounds_toArray, List.set_cons_zero, List.set_cons_succ]
        refine wpAnyH_take (i := 17) (v := ?_) (by simp; rfl) (by kernel_rfl) (by kernel_rfl) (by kernel_rfl) (by exact fun _ _ _ h => h) (Or.inl ⟨by rfl, fun wx hSx => ?_⟩) hHeld ?_
        rotate_left
        · clear hSx; go_simp; (try with_reducible rfl)
        simp only [Act.put, List.setIfInBounds_toArray, List.set_cons_zero, List.set_cons_succ]
        refine wpAnyH_ready (rs := [18]) (by kernel_rfl) (by simp) ?_
        refine AllReadyH.cons (by simp; rfl) (fun K0 hK0 => ?_) AllReadyH.nil
        rw [if_pos (by rfl)]
        refine wp_store_row 40 (.tmp 4) (.tmp 30) rfl w.heap.size #[.int .i64 c0, .int .i32 c1, .int .u8 c2, .int .u8 c3, .int .u8 c4, .slice A5 n5 c5, .string S] (by rfl) (by rfl) 40 _ HROW.out (info_ev7 _ _ _ _ _ _ _) rfl (ev_one7 c0 c1 c2 c3 c4 A5 n5 c5 S) ?_
        simp only [Act.put]
        refine hK0.out _ _ trivial (fun hHeld => ?_)
        clear hK0 K0
        refine wpAnyH_take (i := 19) (v := ?_) (by simp; rfl) (by kernel_rfl) (by kernel_rfl) (by kernel_rfl) (by exact fun _ _ _ h => h) (Or.inl ⟨by rfl, fun wx hSx => ?_⟩) hHeld ?_
        rotate_left
        · clear hSx; go_simp; (try with_reducible rfl)
        simp only [Act.put, List.setIfInBounds_toArray, List.set_cons_zero, List.set_cons_succ]
        refine wpAnyH_done (by kernel_rfl) ?_ _
        clear hHeld
        have HIZ := info_ev7 (.int .i64 c0) (.int .i32 c1) (.int .u8 c2) (.int .u8 c3) (.int .u8 c4) (.slice A5 n5 c5) (.string S)
        go_wp2
        exact bodyPost_ret (results_cell_tmp Try.results29 _ _ w.heap.size 40 _ (0, 0) _ (.bool bb) rfl rfl (setRow_heap _ _ _ _ _ _ HROW.out) Try.underlying40 rfl HIZ) rfl (HTT.out _)
    · go_simp
      refine hK0.out _ _ trivial (fun hHeld => ?_)
      clear hK0 K0
      refine wpAnyH_ready (rs := [4, 13]) (by kernel_rfl) (by simp) ?_
      refine AllReadyH.cons (by simp; rfl) (fun K0 hK0 => ?_) (AllReadyH.cons (by simp; rfl) (fun K0 hK0 => ?_) AllReadyH.nil)
      · go_simp
        refine hK0.out _ _ trivial (fun hHeld => ?_)
        clear hK0 K0
        refine wpAnyH_ready (rs := [13]) (by kernel_rfl) (by simp) ?_
        refine AllReadyH.cons (by simp; rfl) (fun K0 hK0 => ?_) AllReadyH.nil
        go_simp
        refine hK0.out _ _ trivial (fun hHeld => ?_)
        clear hK0 K0
        refine wpAnyH_take (i := 14) (v := ?_) (by simp; rfl) (by kernel_rfl) (by kernel_rfl) (by kernel_rfl) (by exact fun _ _ _ h => h) (Or.inl ⟨by rfl, fun wx hSx => ?_⟩) hHeld ?_
        rotate_left
        · clear hSx; go_simp; (try with_reducible rfl)
        simp only [Act.put, List.setIfInBounds_toArray, List.set_cons_zero, List.set_cons_succ]
        refine wpAnyH_ready (rs := [15]) (by kernel_rfl) (by simp) ?_
        refine AllReadyH.cons (by simp; rfl) (fun K0 hK0 => ?_) AllReadyH.nil
        clear m0 m1 m2 m3 m4 m5 m6 m7
        go_simp
        refine HC.out.mono ?_
        intro x w1 hx
        obtain ⟨c0, c1, c2, c3, c4, A5, n5, c5, S, bb, rfl, hrow, hT⟩ := after_t HQ.out (TPost.undrew hx)
        have HROW := Lib.hid hrow
        have HTT := Lib.hid hT
        clear hx hrow hT
        refine hK0.out _ _ trivial (fun hHeld => ?_)
        clear hK0 K0
        refine wpAnyH_take (i := 16) (v := ?_) (by simp; rfl) (by kernel_rfl) (by kernel_rfl) (by kernel_rfl) (by exact fun _ _ _ h => h) (Or.inl ⟨by rfl, fun wx hSx => ?_⟩) hHeld ?_
        rotate_left
        · clear hSx; go_simp; (try with_reducible rfl)
        simp only [Act.put, List.setIfInBounds_toArray, List.set_cons_zero, List.set_cons_succ]
        refine wpAnyH_take (i := 17) (v := ?_) (by simp; rfl) (by kernel_rfl) (by kernel_rfl) (by kernel_rfl) (by exact fun _ _ _ h => h) (Or.inl ⟨by rfl, fun wx hSx => ?_⟩) hHeld ?_
        rotate_left
        · clear hSx; go_simp; (try with_reducible rfl)
        simp only [Act.put, List.setIfInBounds_toArray, List.set_cons_zero, List.set_cons_succ]
        refine wpAnyH_ready (rs := [18]) (by kernel_rfl) (by simp) ?_
        refine AllReadyH.cons (by simp; rfl) (fun K0 hK0 => ?_) AllReadyH.nil
        rw [if_pos (by rfl)]
        refine wp_store_row 40 (.tmp 4) (.tmp 30) rfl w.heap.size #[.int .i64 c0, .int .i32 c1, .int .u8 c2, .int .u8 c3, .int .u8 c4, .slice A5 n5 c5, .string S] (by rfl) (by rfl) 40 _ HROW.out (info_ev7 _ _ _ _ _ _ _) rfl (ev_one7 c0 c1 c2 c3 c4 A5 n5 c5 S) ?_
        simp only [Act.put]
        refine hK0.out _ _ trivial (fun hHeld => ?_)
        clear hK0 K0
        refine wpAnyH_take (i := 19) (v := ?_) (by simp; rfl) (by kernel_rfl) (by kernel_rfl) (by kernel_rfl) (by exact fun _ _ _ h => h) (Or.inl ⟨by rfl, fun wx hSx => ?_⟩) hHeld ?_
        rotate_left
        · clear hSx; go_simp; (try with_reducible rfl)
        simp only [Act.put, List.setIfInBounds_toArray, List.set_cons_zero, List.set_cons_succ]
        refine wpAnyH_done (by kernel_rfl) ?_ _
        clear hHeld
        have HIZ := info_ev7 (.int .i64 c0) (.int .i32 c1) (.int .u8 c2) (.int .u8 c3) (.int .u8 c4) (.slice A5 n5 c5) (.string S)
        go_wp2
        exact bodyPost_ret (results_cell_tmp Try.results29 _ _ w.heap.size 40 _ (0, 0) _ (.bool bb) rfl rfl (setRow_heap _ _ _ _ _ _ HROW.out) Try.underlying40 rfl HIZ) rfl (HTT.out _)
      · go_simp
        refine hK0.out _ _ trivial (fun hHeld => ?_)
        clear hK0 K0
        refine wpAnyH_ready (rs := [4]) (by kernel_rfl) (by simp) ?_
        refine AllReadyH.cons (by simp; rfl) (fun K0 hK0 => ?_) AllReadyH.nil
        go_simp
        refine hK0.out _ _ trivial (fun hHeld => ?_)
        clear hK0 K0
        refine wpAnyH_take (i := 14) (v := ?_) (by simp; rfl) (by kernel_rfl) (by kernel_rfl) (by kernel_rfl) (by exact fun _ _ _ h => h) (Or.inl ⟨by rfl, fun wx hSx => ?_⟩) hHeld ?_
        rotate_left
        · clear hSx; go_simp; (try with_reducible rfl)
        simp only [Act.put, List.setIfInBounds_toArray, List.set_cons_zero, List.set_cons_succ]
        refine wpAnyH_ready (rs := [15]) (by kernel_rfl) (by simp) ?_
        refine AllReadyH.cons (by simp; rfl) (fun K0 hK0 => ?_) AllReadyH.nil
        clear m0 m1 m2 m3 m4 m5 m6 m7
        go_simp
        refine HC.out.mono ?_
        intro x w1 hx
        obtain ⟨c0, c1, c2, c3, c4, A5, n5, c5, S, bb, rfl, hrow, hT⟩ := after_t HQ.out (TPost.undrew hx)
        have HROW := Lib.hid hrow
        have HTT := Lib.hid hT
        clear hx hrow hT
        refine hK0.out _ _ trivial (fun hHeld => ?_)
        clear hK0 K0
        refine wpAnyH_take (i := 16) (v := ?_) (by simp; rfl) (by kernel_rfl) (by kernel_rfl) (by kernel_rfl) (by exact fun _ _ _ h => h) (Or.inl ⟨by rfl, fun wx hSx => ?_⟩) hHeld ?_
        rotate_left
        · clear hSx; go_simp; (try with_reducible rfl)
        simp only [Act.put, List.setIfInBounds_toArray, List.set_cons_zero, List.set_cons_succ]
        refine wpAnyH_take (i := 17) (v := ?_) (by simp; rfl) (by kernel_rfl) (by kernel_rfl) (by kernel_rfl) (by exact fun _ _ _ h => h) (Or.inl ⟨by rfl, fun wx hSx => ?_⟩) hHeld ?_
        rotate_left
        · clear hSx; go_simp; (try with_reducible rfl)
        simp only [Act.put, List.setIfInBounds_toArray, List.set_cons_zero, List.set_cons_succ]
        refine wpAnyH_ready (rs := [18]) (by kernel_rfl) (by simp) ?_
        refine AllReadyH.cons (by simp; rfl) (fun K0 hK0 => ?_) AllReadyH.nil
        rw [if_pos (by rfl)]
        refine wp_store_row 40 (.tmp 4) (.tmp 30) rfl w.heap.size #[.int .i64 c0, .int .i32 c1, .int .u8 c2, .int .u8 c3, .int .u8 c4, .slice A5 n5 c5, .string S] (by rfl) (by rfl) 40 _ HROW.out (info_ev7 _ _ _ _ _ _ _) rfl (ev_one7 c0 c1 c2 c3 c4 A5 n5 c5 S) ?_
        simp only [Act.put]
        refine hK0.out _ _ trivial (fun hHeld => ?_)
        clear hK0 K0
        refine wpAnyH_take (i := 19) (v := ?_) (by simp; rfl) (by kernel_rfl) (by kernel_rfl) (by kernel_rfl) (by exact fun _ _ _ h => h) (Or.inl ⟨by rfl, fun wx hSx => ?_⟩) hHeld ?_
        rotate_left
        · clear hSx; go_simp; (try with_reducible rfl)
        simp only [Act.put, List.setIfInBounds_toArray, List.set_cons_zero, List.set_cons_succ]
        refine wpAnyH_done (by kernel_rfl) ?_ _
        clear hHeld
        have HIZ := info_ev7 (.int .i64 c0) (.int .i32 c1) (.int .u8 c2) (.int .u8 c3) (.int .u8 c4) (.slice A5 n5 c5) (.string S)
        go_wp2
        exact bodyPost_ret (results_cell_tmp Try.results29 _ _ w.heap.size 40 _ (0, 0) _ (.bool bb) rfl rfl (setRow_heap _ _ _ _ _ _ HROW.out) Try.underlying40 rfl HIZ) rfl (HTT.out _)
    · go_simp
      refine hK0.out _ _ trivial (fun hHeld => ?_)
      clear hK0 K0
      refine wpAnyH_ready (rs := [4, 8]) (by kernel_rfl) (by simp) ?_
      refine AllReadyH.cons (by simp; rfl) (fun K0 hK0 => ?_) (AllReadyH.cons (by simp; rfl) (fun K0 hK0 => ?_) AllReadyH.nil)
      · go_simp
        refine hK0.out _ _ trivial (fun hHeld => ?_)
        clear hK0 K0
        refine wpAnyH_ready (rs := [8]) (by kernel_rfl) (by simp) ?_
        refine AllReadyH.cons (by simp; rfl) (fun K0 hK0 => ?_) AllReadyH.nil
        go_simp
        refine hK0.out _ _ trivial (fun hHeld => ?_)
        clear hK0 K0
        refine wpAnyH_take (i := 14) (v := ?_) (by simp; rfl) (by kernel_rfl) (by kernel_rfl) (by kernel_rfl) (by exact fun _ _ _ h => h) (Or.inl ⟨by rfl, fun wx hSx => ?_⟩) hHeld ?_
        rotate_left
        · clear hSx; go_simp; (try with_reducible rfl)
        simp only [Act.put, List.setIfInBounds_toArray, List.set_cons_zero, List.set_cons_succ]
        refine wpAnyH_ready (rs := [15]) (by kernel_rfl) (by simp) ?_
        refine AllReadyH.cons (by simp; rfl) (fun K0 hK0 => ?_) AllReadyH.nil
        clear m0 m1 m2 m3 m4 m5 m6 m7
        go_simp
        refine HC.out.mono ?_
        intro x w1 hx
        obtain ⟨c0, c1, c2, c3, c4, A5, n5, c5, S, bb, rfl, hrow, hT⟩ := after_t HQ.out (TPost.undrew hx)
        have HROW := Lib.hid hrow
        have HTT := Lib.hid hT
        clear hx hrow hT
        refine hK0.out _ _ trivial (fun hHeld => ?_)
        clear hK0 K0
        refine wpAnyH_take (i := 16) (v := ?_) (by simp; rfl) (by kernel_rfl) (by kernel_rfl) (by kernel_rfl) (by exact fun _ _ _ h => h) (Or.inl ⟨by rfl, fun wx hSx => ?_⟩) hHeld ?_
        rotate_left
        · clear hSx; go_simp; (try with_reducible rfl)
        simp only [Act.put, List.setIfInBounds_toArray, List.set_cons_zero, List.set_cons_succ]
        refine wpAnyH_take (i := 17) (v := ?_) (by simp; rfl) (by kernel_rfl) (by kernel_rfl) (by kernel_rfl) (by exact fun _ _ _ h => h) (Or.inl ⟨by rfl, fun wx hSx => ?_⟩) hHeld ?_
        rotate_left
        · clear hSx; go_simp; (try with_reducible rfl)
        simp only [Act.put, List.setIfInBounds_toArray, List.set_cons_zero, List.set_cons_succ]
        refine wpAnyH_ready (rs := [18]) (by kernel_rfl) (by simp) ?_
        refine AllReadyH.cons (by simp; rfl) (fun K0 hK0 => ?_) AllReadyH.nil
        rw [if_pos (by rfl)]
        refine wp_store_row 40 (.tmp 4) (.tmp 30) rfl w.heap.size #[.int .i64 c0, .int .i32 c1, .int .u8 c2, .int .u8 c3, .int .u8 c4, .slice A5 n5 c5, .string S] (by rfl) (by rfl) 40 _ HROW.out (info_ev7 _ _ _ _ _ _ _) rfl (ev_one7 c0 c1 c2 c3 c4 A5 n5 c5 S) ?_
        simp only [Act.put]
        refine hK0.out _ _ trivial (fun hHeld => ?_)
        clear hK0 K0
        refine wpAnyH_take (i := 19) (v := ?_) (by simp; rfl) (by kernel_rfl) (by kernel_rfl) (by kernel_rfl) (by exact fun _ _ _ h => h) (Or.inl ⟨by rfl, fun wx hSx => ?_⟩) hHeld ?_
        rotate_left
        · clear hSx; go_simp; (try with_reducible rfl)
        simp only [Act.put, List.setIfInBounds_toArray, List.set_cons_zero, List.set_cons_succ]
        refine wpAnyH_done (by kernel_rfl) ?_ _
        clear hHeld
        have HIZ := info_ev7 (.int .i64 c0) (.int .i32 c1) (.int .u8 c2) (.int .u8 c3) (.int .u8 c4) (.slice A5 n5 c5) (.string S)
        go_wp2
        exact bodyPost_ret (results_cell_tmp Try.results29 _ _ w.heap.size 40 _ (0, 0) _ (.bool bb) rfl rfl (setRow_heap _ _ _ _ _ _ HROW.out) Try.underlying40 rfl HIZ) rfl (HTT.out _)
      · go_simp
        refine hK0.out _ _ trivial (fun hHeld => ?_)
        clear hK0 K0
        refine wpAnyH_ready (rs := [4]) (by kernel_rfl) (by simp) ?_
        refine AllReadyH.cons (by simp; rfl) (fun K0 hK0 => ?_) AllReadyH.nil
        go_simp
        refine hK0.out _ _ trivial (fun hHeld => ?_)
        clear hK0 K0
        refine wpAnyH_take (i := 14) (v := ?_) (by simp; rfl) (by kernel_rfl) (by kernel_rfl) (by kernel_rfl) (by exact fun _ _ _ h => h) (Or.inl ⟨by rfl, fun wx hSx => ?_⟩) hHeld ?_
        rotate_left
        · clear hSx; go_simp; (try with_reducible rfl)
        simp only [Act.put, List.setIfInBounds_toArray, List.set_cons_zero, List.set_cons_succ]
        refine wpAnyH_ready (rs := [15]) (by kernel_rfl) (by simp) ?_
        refine AllReadyH.cons (by simp; rfl) (fun K0 hK0 => ?_) AllReadyH.nil
        clear m0 m1 m2 m3 m4 m5 m6 m7
        go_simp
        refine HC.out.mono ?_
        intro x w1 hx
        obtain ⟨c0, c1, c2, c3, c4, A5, n5, c5, S, bb, rfl, hrow, hT⟩ := after_t HQ.out (TPost.undrew hx)
        have HROW := Lib.hid hrow
        have HTT := Lib.hid hT
        clear hx hrow hT
        refine hK0.out _ _ trivial (fun hHeld => ?_)
        clear hK0 K0
        refine wpAnyH_take (i := 16) (v := ?_) (by simp; rfl) (by kernel_rfl) (by kernel_rfl) (by kernel_rfl) (by exact fun _ _ _ h => h) (Or.inl ⟨by rfl, fun wx hSx => ?_⟩) hHeld ?_
        rotate_left
        · clear hSx; go_simp; (try with_reducible rfl)
        simp only [Act.put, List.setIfInBounds_toArray, List.set_cons_zero, List.set_cons_succ]
        refine wpAnyH_take (i := 17) (v := ?_) (by simp; rfl) (by kernel_rfl) (by kernel_rfl) (by kernel_rfl) (by exact fun _ _ _ h => h) (Or.inl ⟨by rfl, fun wx hSx => ?_⟩) hHeld ?_
        rotate_left
        · clear hSx; go_simp; (try with_reducible rfl)
        simp only [Act.put, List.setIfInBounds_toArray, List.set_cons_zero, List.set_cons_succ]
        refine wpAnyH_ready (rs := [18]) (by kernel_rfl) (by simp) ?_
        refine AllReadyH.cons (by simp; rfl) (fun K0 hK0 => ?_) AllReadyH.nil
        rw [if_pos (by rfl)]
        refine wp_store_row 40 (.tmp 4) (.tmp 30) rfl w.heap.size #[.int .i64 c0, .int .i32 c1, .int .u8 c2, .int .u8 c3, .int .u8 c4, .slice A5 n5 c5, .string S] (by rfl) (by rfl) 40 _ HROW.out (info_ev7 _ _ _ _ _ _ _) rfl (ev_one7 c0 c1 c2 c3 c4 A5 n5 c5 S) ?_
        simp only [Act.put]
        refine hK0.out _ _ trivial (fun hHeld => ?_)
        clear hK0 K0
        refine wpAnyH_take (i := 19) (v := ?_) (by simp; rfl) (by kernel_rfl) (by kernel_rfl) (by kernel_rfl) (by exact fun _ _ _ h => h) (Or.inl ⟨by rfl, fun wx hSx => ?_⟩) hHeld ?_
        rotate_left
        · clear hSx; go_simp; (try with_reducible rfl)
        simp only [Act.put, List.setIfInBounds_toArray, List.set_cons_zero, List.set_cons_succ]
        refine wpAnyH_done (by kernel_rfl) ?_ _
        clear hHeld
        have HIZ := info_ev7 (.int .i64 c0) (.int .i32 c1) (.int .u8 c2) (.int .u8 c3) (.int .u8 c4) (.slice A5 n5 c5) (.string S)
        go_wp2
        exact bodyPost_ret (results_cell_tmp Try.results29 _ _ w.heap.size 40 _ (0, 0) _ (.bool bb) rfl rfl (setRow_heap _ _ _ _ _ _ HROW.out) Try.underlying40 rfl HIZ) rfl (HTT.out _)
  rw [if_neg c64]
  have d1 : decide (64 ≤ c) = false := by simp; omega
  by_cases c60 : 60 ≤ c
  · rw [if_pos c60]
    have d2 : decide (60 ≤ c) = true := by simpa using c60
    have HC := Lib.hid (p_private hU (by omega) c)
    clear h hU c64 c60
    go_enter Try.func29, Try.ntmps29
    go_wp2_with fail
    refine (HC.out).mono ?_
    intro x w1 hx
    obtain ⟨rfl, hrow, hT⟩ := after_q HQ.out hx
    have HROW := Lib.hid hrow
    have HTT := Lib.hid hT
    clear hx hrow hT
    have HIZ := info_evZ
    have HIO := ev_one
    go_wp2_with (first | refine wpList_store_row rfl 40 _ _ rfl w.heap.size #[.int .i64 0, .int .i32 0, .int .u8 0, .int .u8 0, .int .u8 0, .slice none 0 0, .string ⟨#[]⟩] rfl rfl 40 _ HROW.out HIZ rfl HIO ?_)
    exact bodyPost_ret (results_cell_tmp Try.results29 _ _ w.heap.size 40 _ (0, 0) _ (.bool false) rfl rfl (setRow_heap _ _ _ _ _ _ HROW.out) Try.underlying40 rfl HIZ) rfl (HTT.out _)
  rw [if_neg c60]
  have d2 : decide (60 ≤ c) = false := by simp; omega
  by_cases c48 : c < 48
  · rw [if_pos c48]
    have d3 : decide (c < 48) = true := by simpa using c48
    have HC := Lib.hid (p_inter hU c)
    clear h hU c64 c60 c48
    go_enter Try.func29, Try.ntmps29
    go_wp2_with fail
    refine (HC.out).mono ?_
    intro x w1 hx
    obtain ⟨rfl, hrow, hT⟩ := after_q HQ.out hx
    have HROW := Lib.hid hrow
    have HTT := Lib.hid hT
    clear hx hrow hT
    have HIZ := info_evZ
    have HIO := ev_one
    go_wp2_with (first | refine wpList_store_row rfl 40 _ _ rfl w.heap.size #[.int .i64 0, .int .i32 0, .int .u8 0, .int .u8 0, .int .u8 0, .slice none 0 0, .string ⟨#[]⟩] rfl rfl 40 _ HROW.out HIZ rfl HIO ?_)
    exact bodyPost_ret (results_cell_tmp Try.results29 _ _ w.heap.size 40 _ (0, 0) _ (.bool false) rfl rfl (setRow_heap _ _ _ _ _ _ HROW.out) Try.underlying40 rfl HIZ) rfl (HTT.out _)
  rw [if_neg c48]
  have d3 : decide (c < 48) = false := by simp; omega
  by_cases c58 : c = 58 ∨ s.it ≠ 0
  · rw [if_pos c58]
    have fr2 := h.free 2
    have HX := Lib.hid (tpost_none (w := w) (w' := (w.setCell ⟨g, 2, none⟩ (.bool true)).alloc (.cells #[.int .i64 0, .int .i32 0, .int .u8 0, .int .u8 0, .int .u8 0, .slice none 0 0, .string ⟨#[]⟩] 40)) ((h.set 2 (.bool true) (s' := { s with sp := true }) rfl rfl rfl).below ((Below.refl _ _).alloc (Nat.le_refl _) _)) ((Fr2.setCell (Fr2.refl g vp vt w) 2 (.bool true)).more ((Below.refl _ _).alloc (by simp) _)))
    have hsz : (w.setCell ⟨g, 2, none⟩ (.bool true)).heap.size = w.heap.size := by simp
    have HRW := Lib.hid (show ((w.setCell ⟨g, 2, none⟩ (.bool true)).alloc (.cells #[.int .i64 0, .int .i32 0, .int .u8 0, .int .u8 0, .int .u8 0, .slice none 0 0, .string ⟨#[]⟩] 40)).heap[w.heap.size]? = some (.cells #[.int .i64 0, .int .i32 0, .int .u8 0, .int .u8 0, .int .u8 0, .slice none 0 0, .string ⟨#[]⟩] 40 (0, 0)) from hsz ▸ heap_alloc_new (w.setCell ⟨g, 2, none⟩ (.bool true)) _)
    clear hsz
    by_cases e58 : c = 58
    · have d4 : (c == 58) = true := by simpa using e58
      clear h hU c64 c60 c48 c58 e58
      go_enter Try.func29, Try.ntmps29
      go_wp2
      exact bodyPost_ret (results_cell_tmp Try.results29 _ _ w.heap.size 40 _ (0, 0) _ (.bool false) rfl rfl HRW.out Try.underlying40 rfl info_evZ) rfl HX.out
    · have d4 : (c == 58) = false := by simpa using e58
      have d5 : (s.it != 0) = true := by simp; omega
      clear h hU c64 c60 c48 c58 e58
      go_enter Try.func29, Try.ntmps29
      go_wp2
      exact bodyPost_ret (results_cell_tmp Try.results29 _ _ w.heap.size 40 _ (0, 0) _ (.bool false) rfl rfl HRW.out Try.underlying40 rfl info_evZ) rfl HX.out
  rw [if_neg c58]
  have d4 : (c == 58) = false := by simp; omega
  have d5 : (s.it != 0) = false := by simp; omega
  by_cases c59 : c = 59
  · rw [if_pos c59]
    have d6 : (c == 59) = true := by simpa using c59
    have HC := Lib.hid (p_next hU hn)
    clear h hU c64 c60 c48 c58 c59
    go_enter Try.func29, Try.ntmps29
    go_wp2_with fail
    refine (HC.out).mono ?_
    intro x w1 hx
    obtain ⟨rfl, hrow, hT⟩ := after_q HQ.out hx
    have HROW := Lib.hid hrow
    have HTT := Lib.hid hT
    clear hx hrow hT
    have HIZ := info_evZ
    have HIO := ev_one
    go_wp2_with (first | refine wpList_store_row rfl 40 _ _ rfl w.heap.size #[.int .i64 0, .int .i32 0, .int .u8 0, .int .u8 0, .int .u8 0, .slice none 0 0, .string ⟨#[]⟩] rfl rfl 40 _ HROW.out HIZ rfl HIO ?_)
    exact bodyPost_ret (results_cell_tmp Try.results29 _ _ w.heap.size 40 _ (0, 0) _ (.bool false) rfl rfl (setRow_heap _ _ _ _ _ _ HROW.out) Try.underlying40 rfl HIZ) rfl (HTT.out _)
  rw [if_neg c59]
  have d6 : (c == 59) = false := by simpa using c59
  have HC := Lib.hid (p_digit hU hn ho (c - 48) (by omega) (by omega))
  have e1 : IntKind.u8.wrap (c - 48) = c - 48 := IntWalk.u8_in _ (by omega)
  clear h hU c64 c60 c48 c58 c59
  go_enter Try.func29, Try.ntmps29
  go_wp2_with fail
  refine (HC.out).mono ?_
  intro x w1 hx
  obtain ⟨rfl, hrow, hT⟩ := after_q HQ.out hx
  have HROW := Lib.hid hrow
  have HTT := Lib.hid hT
  clear hx hrow hT
  have HIZ := info_evZ
  have HIO := ev_one
  go_wp2_with (first | refine wpList_store_row rfl 40 _ _ rfl w.heap.size #[.int .i64 0, .int .i32 0, .int .u8 0, .int .u8 0, .int .u8 0, .slice none 0 0, .string ⟨#[]⟩] rfl rfl 40 _ HROW.out HIZ rfl HIO ?_)
  exact bodyPost_ret (results_cell_tmp Try.results29 _ _ w.heap.size 40 _ (0, 0) _ (.bool false) rfl rfl (setRow_heap _ _ _ _ _ _ HROW.out) Try.underlying40 rfl HIZ) rfl (HTT.out _)
end Go.Proofs.Ytfacnemgjdmlmaa
