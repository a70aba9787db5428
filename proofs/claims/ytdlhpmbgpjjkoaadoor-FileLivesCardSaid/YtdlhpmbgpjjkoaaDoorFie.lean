/-
  Proved here: of a sender that New made: refusal, Know, Anew and Cancel; and what one that is nil, or that no call made, answers.
-/
import Derived.Test.YtdlhpmbgpjjkoaaDoorFid
set_option linter.unusedSimpArgs false
set_option linter.unusedVariables false
namespace Go.Proofs.YtdlhpmbgpjjkoaaDoor
open Go.RowKit
section
variable {w : World} {g : Nat} {id : Nat} {nm : ByteArray} {sum : List Nat} {bs : List Int} {N b p : Nat} {z : Bool}
/-- Why a map can't be taken. -/
def rfS (z : Bool) (N : Nat) (n : Int) (c : Nat) : Int := if rB n c = true ∧ n = N then (if z = true then 41 else 0) else 1
theorem refusal_bad (h : Sd w g id nm sum bs N b p z) {n : Int} {c : Nat} (hc : c < 18446744073709551616) (hr : rB n c = false) : Calls Tryd.prog 36 #[.pointer (some ⟨g, 0, none⟩), mV n c] w fun e w' => e = .returned (.int .i64 1) ∧ Below w.heap.size w w' := by
  have HU := Lib.hid (MB.new w n c)
  have HB := Lib.hid ((Below.refl _ w).alloc (Nat.le_refl _) (.cells #[.int .i64 n, .int .u64 c] 38))
  have HS := Lib.hid (h.below ((Below.refl _ w).alloc (Nat.le_refl _) (.cells #[.int .i64 n, .int .u64 c] 38)))
  have HR := Lib.hid (fun W => right_any n hc W)
  rw [hr] at HR
  unfold mV at HR ⊢
  clear h hr hc
  go_enter Tryd.func36, Tryd.ntmps36
  go_upto_region 1 with fail
  obtain ⟨U, hU⟩ : ∃ U, w.alloc (.cells #[.int .i64 n, .int .u64 c] 38) = U := ⟨_, rfl⟩
  rw [hU] at HU HB HS ⊢
  clear hU
  have HN := Lib.hid (none_sd HS.out)
  have HD := Lib.hid (belowN (Below.refl U.heap.size U) 1)
  go_wp2_with (go_at_call 38; refine HN.out.mono ?_; rintro e wx ⟨rfl, rfl⟩)
  refine wp_region_held_drew (S := fun W => Below U.heap.size U W) (by kernel_rfl) HD.out (fun hHeld => ?_)
  refine wpAnyH_take (i := 0) (v := ?_) (by simp; rfl) (by kernel_rfl) (by kernel_rfl) (by kernel_rfl) (by exact fun _ _ _ h => h) (Or.inl ⟨by rfl, fun wx hSx => ?_⟩) hHeld ?_
  rotate_left
  · obtain ⟨e0, e1⟩ := And.intro (HU.out.below hSx).c0 (HU.out.below hSx).c1; clear hSx; go_simp; (try with_reducible rfl)
  simp only [Act.put, List.setIfInBounds_toArray, List.set_cons_zero, List.set_cons_succ]
  refine wpAnyH_ready (rs := [1]) (by kernel_rfl) (by simp) ?_
  refine AllReadyH.cons (by simp; rfl) (fun K0 hK0 => ?_) AllReadyH.nil
  go_simp
  refine (HR.out _).mono ?_
  rintro e wy ⟨rfl, hby⟩
  have HB2 := Lib.hid (Below.trans hHeld (hby.mono hHeld.size))
  clear hby
  refine hK0.out _ _ HB2.out (fun _ => ?_)
  clear hK0 K0 hHeld
  have hHeld := HB2.out
  refine wpAnyH_take (i := 2) (v := ?_) (by simp; rfl) (by kernel_rfl) (by kernel_rfl) (by kernel_rfl) (by exact fun _ _ _ h => h) (Or.inl ⟨by rfl, fun wx hSx => ?_⟩) hHeld ?_
  rotate_left
  · clear hSx; go_simp; (try with_reducible rfl)
  simp only [Act.put, List.setIfInBounds_toArray, List.set_cons_zero, List.set_cons_succ]
  refine wpAnyH_take (i := 3) (v := ?_) (by simp; rfl) (by kernel_rfl) (by kernel_rfl) (by kernel_rfl) (by exact fun _ _ _ h => h) (Or.inl ⟨by rfl, fun wx hSx => ?_⟩) hHeld ?_
  rotate_left
  · clear hSx; go_simp; (try with_reducible rfl)
  simp only [Act.put, List.setIfInBounds_toArray, List.set_cons_zero, List.set_cons_succ]
  refine wpAnyH_take (i := 4) (v := undef) (by simp; rfl) (by kernel_rfl) (by kernel_rfl) (by kernel_rfl) (by exact fun _ _ _ h => h) (Or.inr ⟨by rfl, rfl⟩) hHeld ?_
  simp only [Act.put, List.setIfInBounds_toArray, List.set_cons_zero, List.set_cons_succ]
  refine wpAnyH_take (i := 5) (v := undef) (by simp; rfl) (by kernel_rfl) (by kernel_rfl) (by kernel_rfl) (by exact fun _ _ _ h => h) (Or.inr ⟨by rfl, rfl⟩) hHeld ?_
  simp only [Act.put, List.setIfInBounds_toArray, List.set_cons_zero, List.set_cons_succ]
  refine wpAnyH_take (i := 6) (v := undef) (by simp; rfl) (by kernel_rfl) (by kernel_rfl) (by kernel_rfl) (by exact fun _ _ _ h => h) (Or.inr ⟨by rfl, rfl⟩) hHeld ?_
  simp only [Act.put, List.setIfInBounds_toArray, List.set_cons_zero, List.set_cons_succ]
  refine wpAnyH_take (i := 7) (v := undef) (by simp; rfl) (by kernel_rfl) (by kernel_rfl) (by kernel_rfl) (by exact fun _ _ _ h => h) (Or.inr ⟨by rfl, rfl⟩) hHeld ?_
  simp only [Act.put, List.setIfInBounds_toArray, List.set_cons_zero, List.set_cons_succ]
  refine wpAnyH_take (i := 8) (v := undef) (by simp; rfl) (by kernel_rfl) (by kernel_rfl) (by kernel_rfl) (by exact fun _ _ _ h => h) (Or.inr ⟨by rfl, rfl⟩) hHeld ?_
  simp only [Act.put, List.setIfInBounds_toArray, List.set_cons_zero, List.set_cons_succ]
  refine wpAnyH_take (i := 9) (v := undef) (by simp; rfl) (by kernel_rfl) (by kernel_rfl) (by kernel_rfl) (by exact fun _ _ _ h => h) (Or.inr ⟨by rfl, rfl⟩) hHeld ?_
  simp only [Act.put, List.setIfInBounds_toArray, List.set_cons_zero, List.set_cons_succ]
  refine wpAnyH_take (i := 10) (v := undef) (by simp; rfl) (by kernel_rfl) (by kernel_rfl) (by kernel_rfl) (by exact fun _ _ _ h => h) (Or.inr ⟨by rfl, rfl⟩) hHeld ?_
  simp only [Act.put, List.setIfInBounds_toArray, List.set_cons_zero, List.set_cons_succ]
  refine wpAnyH_take (i := 11) (v := undef) (by simp; rfl) (by kernel_rfl) (by kernel_rfl) (by kernel_rfl) (by exact fun _ _ _ h => h) (Or.inr ⟨by rfl, rfl⟩) hHeld ?_
  simp only [Act.put, List.setIfInBounds_toArray, List.set_cons_zero, List.set_cons_succ]
  refine wpAnyH_take (i := 12) (v := ?_) (by simp; rfl) (by kernel_rfl) (by kernel_rfl) (by kernel_rfl) (by exact fun _ _ _ h => h) (Or.inl ⟨by rfl, fun wx hSx => ?_⟩) hHeld ?_
  rotate_left
  · clear hSx; go_simp; (try with_reducible rfl)
  simp only [Act.put, List.setIfInBounds_toArray, List.set_cons_zero, List.set_cons_succ]
  refine wpAnyH_take (i := 13) (v := ?_) (by simp; rfl) (by kernel_rfl) (by kernel_rfl) (by kernel_rfl) (by exact fun _ _ _ h => h) (Or.inl ⟨by rfl, fun wx hSx => ?_⟩) hHeld ?_
  rotate_left
  · clear hSx; go_simp; (try with_reducible rfl)
  simp only [Act.put, List.setIfInBounds_toArray, List.set_cons_zero, List.set_cons_succ]
  refine wpAnyH_done (by kernel_rfl) ?_ _
  go_wp2
  go_ret
  exact ⟨rfl, HB.out.trans (HB2.out.mono HB.out.size)⟩
/-- A map's two cells, and a sender's first of its map, and what was there. -/
abbrev SG (U : World) (k g : Nat) (n c N : Int) (W : World) : Prop := W.cell? ⟨k, 0, none⟩ = some (.int .i64 n) ∧ W.cell? ⟨k, 1, none⟩ = some (.int .u64 c) ∧ W.cell? ⟨g, 36, none⟩ = some (.int .i64 N) ∧ Hid (Below U.heap.size U W)
theorem SG.of {U : World} {W : World} {k : Nat} {n c : Int} (hm : Hid (MB U k n c)) (hc : Hid (Sd U g id nm sum bs N b p z)) (h : Hid (Below U.heap.size U W)) : SG U k g n c N W := ⟨(hm.out.below h.out).c0, (hm.out.below h.out).c1, (hc.out.below h.out).c36, h⟩
theorem SG.last {U : World} {k : Nat} {n c N : Int} {W : World} (h : SG U k g n c N W) : Below U.heap.size U W := h.2.2.2.out
theorem SG.to {U : World} {W W' : World} {k : Nat} {n c : Int} (hm : Hid (MB U k n c)) (hc : Hid (Sd U g id nm sum bs N b p z)) (hb : Below W.heap.size W W') (h : SG U k g n c N W) : SG U k g n c N W' := SG.of hm hc (Lib.hid (h.last.trans (hb.mono h.last.size)))
theorem refusal_count (h : Sd w g id nm sum bs N b p z) {n : Int} {c : Nat} (hr : rB n c = true) (hn : ¬ n = N) : Calls Tryd.prog 36 #[.pointer (some ⟨g, 0, none⟩), mV n c] w fun e w' => e = .returned (.int .i64 1) ∧ Below w.heap.size w w' := by
  have HU := Lib.hid (MB.new w n c)
  have HB := Lib.hid ((Below.refl _ w).alloc (Nat.le_refl _) (.cells #[.int .i64 n, .int .u64 c] 38))
  have HS := Lib.hid (h.below ((Below.refl _ w).alloc (Nat.le_refl _) (.cells #[.int .i64 n, .int .u64 c] 38)))
  have HR := Lib.hid (fun W => right_any n (rB_lt hr) W)
  rw [hr] at HR
  have q0 : (n == (N : Int)) = false := by simp [hn]
  have q1 : (n != (N : Int)) = true := by simp [hn]
  clear hn
  unfold mV at HR ⊢
  clear h hr
  go_enter Tryd.func36, Tryd.ntmps36
  go_upto_region 1 with fail
  obtain ⟨U, hU⟩ : ∃ U, w.alloc (.cells #[.int .i64 n, .int .u64 c] 38) = U := ⟨_, rfl⟩
  rw [hU] at HU HB HS ⊢
  clear hU
  have HN := Lib.hid (none_sd HS.out)
  have HD := Lib.hid (belowN (Below.refl U.heap.size U) 1)
  go_wp2_with (go_at_call 38; refine HN.out.mono ?_; rintro e wx ⟨rfl, rfl⟩)
  go_region_held3 (SG U w.heap.size g n c N)
    (first | exact SG.of HU HS HD | assumption | exact SG.to HU HS (by assumption) (by assumption))
    ((go_at_call 45; refine (HR.out _).mono ?_; rintro e wy ⟨rfl, hby⟩))
  have HX := Lib.hid (SG.last (W := wy) (by assumption))
  clear hby
  go_wp2
  go_ret
  exact ⟨rfl, HB.out.trans (HX.out.mono HB.out.size)⟩
theorem refusal_gone (h : Sd w g id nm sum bs N b p true) {c : Nat} (hr : rB N c = true)  : Calls Tryd.prog 36 #[.pointer (some ⟨g, 0, none⟩), mV N c] w fun e w' => e = .returned (.int .i64 41) ∧ Below w.heap.size w w' := by
  have HU := Lib.hid (MB.new w N c)
  have HB := Lib.hid ((Below.refl _ w).alloc (Nat.le_refl _) (.cells #[.int .i64 N, .int .u64 c] 38))
  have HS := Lib.hid (h.below ((Below.refl _ w).alloc (Nat.le_refl _) (.cells #[.int .i64 N, .int .u64 c] 38)))
  have HR := Lib.hid (fun W => right_any N (rB_lt hr) W)
  rw [hr] at HR
  have q0 : ((N : Int) == (N : Int)) = true := by simp
  have q1 : ((N : Int) != (N : Int)) = false := by simp
  unfold mV at HR ⊢
  clear h hr
  go_enter Tryd.func36, Tryd.ntmps36
  go_upto_region 1 with fail
  obtain ⟨U, hU⟩ : ∃ U, w.alloc (.cells #[.int .i64 N, .int .u64 c] 38) = U := ⟨_, rfl⟩
  rw [hU] at HU HB HS ⊢
  clear hU
  have HN := Lib.hid (none_sd HS.out)
  have HD := Lib.hid (belowN (Below.refl U.heap.size U) 1)
  go_wp2_with (go_at_call 38; refine HN.out.mono ?_; rintro e wx ⟨rfl, rfl⟩)
  go_region_held3 (SG U w.heap.size g N c N)
    (first | exact SG.of HU HS HD | assumption | exact SG.to HU HS (by assumption) (by assumption))
    ((go_at_call 45; refine (HR.out _).mono ?_; rintro e wy ⟨rfl, hby⟩))
  have HX := Lib.hid (SG.last (W := wy) (by assumption))
  clear hby
  have c39 := (HS.out.below HX.out).c39
  go_wp2
  go_ret
  exact ⟨rfl, HB.out.trans (HX.out.mono HB.out.size)⟩
theorem refusal_ok (h : Sd w g id nm sum bs N b p false) {c : Nat} (hr : rB N c = true)  : Calls Tryd.prog 36 #[.pointer (some ⟨g, 0, none⟩), mV N c] w fun e w' => e = .returned (.int .i64 0) ∧ Below w.heap.size w w' := by
  have HU := Lib.hid (MB.new w N c)
  have HB := Lib.hid ((Below.refl _ w).alloc (Nat.le_refl _) (.cells #[.int .i64 N, .int .u64 c] 38))
  have HS := Lib.hid (h.below ((Below.refl _ w).alloc (Nat.le_refl _) (.cells #[.int .i64 N, .int .u64 c] 38)))
  have HR := Lib.hid (fun W => right_any N (rB_lt hr) W)
  rw [hr] at HR
  have q0 : ((N : Int) == (N : Int)) = true := by simp
  have q1 : ((N : Int) != (N : Int)) = false := by simp
  unfold mV at HR ⊢
  clear h hr
  go_enter Tryd.func36, Tryd.ntmps36
  go_upto_region 1 with fail
  obtain ⟨U, hU⟩ : ∃ U, w.alloc (.cells #[.int .i64 N, .int .u64 c] 38) = U := ⟨_, rfl⟩
  rw [hU] at HU HB HS ⊢
  clear hU
  have HN := Lib.hid (none_sd HS.out)
  have HD := Lib.hid (belowN (Below.refl U.heap.size U) 1)
  go_wp2_with (go_at_call 38; refine HN.out.mono ?_; rintro e wx ⟨rfl, rfl⟩)
  go_region_held3 (SG U w.heap.size g N c N)
    (first | exact SG.of HU HS HD | assumption | exact SG.to HU HS (by assumption) (by assumption))
    ((go_at_call 45; refine (HR.out _).mono ?_; rintro e wy ⟨rfl, hby⟩))
  have HX := Lib.hid (SG.last (W := wy) (by assumption))
  clear hby
  have c39 := (HS.out.below HX.out).c39
  go_wp2
  go_ret
  exact ⟨rfl, HB.out.trans (HX.out.mono HB.out.size)⟩
theorem refusal_any (h : Sd w g id nm sum bs N b p z) {n : Int} {c : Nat} (hc : c < 18446744073709551616) : Calls Tryd.prog 36 #[.pointer (some ⟨g, 0, none⟩), mV n c] w fun e w' => e = .returned (.int .i64 (rfS z N n c)) ∧ Below w.heap.size w w' := by
  cases hr : rB n c
  · rw [show rfS z N n c = 1 by simp [rfS, hr]]
    exact refusal_bad h hc hr
  · by_cases hn : n = N
    · subst hn
      cases z
      · rw [show rfS false N N c = 0 by simp [rfS, hr]]
        exact refusal_ok h hr
      · rw [show rfS true N N c = 41 by simp [rfS, hr]]
        exact refusal_gone h hr
    · rw [show rfS z N n c = 1 by simp [rfS, hn]]
      exact refusal_count h hr hn
theorem know_no (h : Sd w g id nm sum bs N b p z) {n : Int} {c : Nat} (hc : c < 18446744073709551616) (hf : rfS z N n c ≠ 0) : Calls Tryd.prog 15 #[.pointer (some ⟨g, 0, none⟩), mV n c] w fun e w' => e = .returned (.int .i64 (rfS z N n c)) ∧ Below w.heap.size w w' := by
  have HB := Lib.hid ((Below.refl _ w).alloc (Nat.le_refl _) (.cells #[.int .i64 n, .int .u64 c] 38))
  have HR := Lib.hid (refusal_any (n := n) (h.below ((Below.refl _ w).alloc (Nat.le_refl _) (.cells #[.int .i64 n, .int .u64 c] 38))) hc)
  obtain ⟨c0, c1⟩ := And.intro (MB.new w n c).c0 (MB.new w n c).c1
  obtain ⟨s, hs⟩ : ∃ s, rfS z N n c = s := ⟨_, rfl⟩
  rw [hs] at HR hf ⊢
  have e0 : (s != 0) = true := by simp [hf]
  have e1 : (s == 0) = false := by simp [hf]
  unfold mV at HR ⊢
  clear h hc hf hs
  go_enter Tryd.func15, Tryd.ntmps15
  go_wp2_with fail
  refine HR.out.mono ?_
  rintro e wx ⟨rfl, hx⟩
  have HX := Lib.hid hx
  clear hx c0 c1
  go_wp2
  go_ret
  exact ⟨rfl, HB.out.trans (HX.out.mono HB.out.size)⟩
theorem anew_no (h : Sd w g id nm sum bs N b p z) {n : Int} {c : Nat} (hc : c < 18446744073709551616) (hf : rfS z N n c ≠ 0) : Calls Tryd.prog 17 #[.pointer (some ⟨g, 0, none⟩), mV n c] w fun e w' => e = .returned (.int .i64 (rfS z N n c)) ∧ Below w.heap.size w w' := by
  have HB := Lib.hid ((Below.refl _ w).alloc (Nat.le_refl _) (.cells #[.int .i64 n, .int .u64 c] 38))
  have HR := Lib.hid (refusal_any (n := n) (h.below ((Below.refl _ w).alloc (Nat.le_refl _) (.cells #[.int .i64 n, .int .u64 c] 38))) hc)
  obtain ⟨c0, c1⟩ := And.intro (MB.new w n c).c0 (MB.new w n c).c1
  obtain ⟨s, hs⟩ : ∃ s, rfS z N n c = s := ⟨_, rfl⟩
  rw [hs] at HR hf ⊢
  have e0 : (s != 0) = true := by simp [hf]
  have e1 : (s == 0) = false := by simp [hf]
  unfold mV at HR ⊢
  clear h hc hf hs
  go_enter Tryd.func17, Tryd.ntmps17
  go_wp2_with fail
  refine HR.out.mono ?_
  rintro e wx ⟨rfl, hx⟩
  have HX := Lib.hid hx
  clear hx c0 c1
  go_wp2
  go_ret
  exact ⟨rfl, HB.out.trans (HX.out.mono HB.out.size)⟩
theorem anew_yes (h : Sd w g id nm sum bs N b p false) {c : Nat} (hr : rB N c = true) : Calls Tryd.prog 17 #[.pointer (some ⟨g, 0, none⟩), mV N c] w fun e w' => e = .returned (.int .i64 0) ∧ Sd w' g id nm sum bs N c 0 false ∧ Only g w w' := by
  have HM := Lib.hid (MB.new w N c)
  have HB := Lib.hid ((Below.refl _ w).alloc (Nat.le_refl _) (.cells #[.int .i64 N, .int .u64 c] 38))
  have HS := Lib.hid (h.below ((Below.refl _ w).alloc (Nat.le_refl _) (.cells #[.int .i64 N, .int .u64 c] 38)))
  have HR := Lib.hid (refusal_ok HS.out hr)
  have HRR := Lib.hid hr
  obtain ⟨c0, c1⟩ := And.intro (MB.new w N c).c0 (MB.new w N c).c1
  unfold mV at HR ⊢
  clear h hr
  go_enter Tryd.func17, Tryd.ntmps17
  go_wp2_with fail
  refine HR.out.mono ?_
  rintro e wx ⟨rfl, hx⟩
  have HX := Lib.hid hx
  have hm := HM.out.below hx
  have hs := HS.out.below hx
  have c0 := hm.c0
  have c1 := hm.c1
  have s36 := hs.c36
  have s37 := hs.c37
  have s38 := hs.c38
  have f36 := hs.free 36
  have f37 := hs.free 37
  have f38 := hs.free 38
  have HS3 := Lib.hid ((hs.put (b' := c) HRR.out).s38 (p' := 0) (by omega))
  have HO3 := Lib.hid ((((Only.of (g := g) HB.out).trans (Only.of hx)).setCell 36 (.int .i64 N)).setCell 37 (.int .u64 c) |>.setCell 38 (.int .i64 ((0 : Nat) : Int)))
  clear hx hm hs
  go_wp2
  go_ret
  exact ⟨rfl, HS3.out, HO3.out⟩
theorem cancel_no (h : Sd w g id nm sum bs N b p z) (hz : stS z N b ≠ 0) : Calls Tryd.prog 18 #[.pointer (some ⟨g, 0, none⟩)] w fun e w' => e = .returned (.int .i64 7) ∧ Below w.heap.size w w' := by
  have HN := Lib.hid (none_sd h)
  have HT := Lib.hid (state_sd h)
  obtain ⟨s, hs⟩ : ∃ s, stS z N b = s := ⟨_, rfl⟩
  rw [hs] at HT hz
  have e0 : (s != 0) = true := by simp [hz]
  have e1 : (s == 0) = false := by simp [hz]
  clear h hz hs
  go_enter Tryd.func18, Tryd.ntmps18
  go_wp2_with (go_at_call 38; refine HN.out.mono ?_; rintro e wx ⟨rfl, rfl⟩)
  refine HT.out.mono ?_
  rintro e wx ⟨rfl, hx⟩
  have HX := Lib.hid hx
  clear hx
  go_wp2
  go_ret
  exact ⟨rfl, HX.out⟩
theorem cancel_yes (h : Sd w g id nm sum bs N b p false) (hf : b ≠ 2 ^ N - 1) : Calls Tryd.prog 18 #[.pointer (some ⟨g, 0, none⟩)] w fun e w' => e = .returned (.int .i64 0) ∧ Sd w' g id nm sum bs N b p true ∧ Only g w w' := by
  have HN := Lib.hid (none_sd h)
  have HT := Lib.hid (state_here h)
  rw [if_neg hf] at HT
  have HS := Lib.hid h
  clear h hf
  go_enter Tryd.func18, Tryd.ntmps18
  go_wp2_with (go_at_call 38; refine HN.out.mono ?_; rintro e wx ⟨rfl, rfl⟩)
  refine HT.out.mono ?_
  rintro e wx ⟨rfl, hx⟩
  have hs := HS.out.below hx
  have c39 := hs.c39
  have f39 := hs.free 39
  have HS3 := Lib.hid (hs.s39 true)
  have HO3 := Lib.hid ((Only.of (g := g) hx).setCell 39 (.bool true))
  clear hx hs
  go_wp2
  go_ret
  exact ⟨rfl, HS3.out, HO3.out⟩
theorem know_yes (h : Sd w g id nm sum bs N b p false) {c : Nat} (hr : rB N c = true) : Calls Tryd.prog 15 #[.pointer (some ⟨g, 0, none⟩), mV N c] w fun e w' => e = .returned (.int .i64 0) ∧ Sd w' g id nm sum bs N (b ||| c) p false ∧ Only g w w' := by
  have HM := Lib.hid (MB.new w N c)
  have HB := Lib.hid ((Below.refl _ w).alloc (Nat.le_refl _) (.cells #[.int .i64 N, .int .u64 c] 38))
  have HS := Lib.hid (h.below ((Below.refl _ w).alloc (Nat.le_refl _) (.cells #[.int .i64 N, .int .u64 c] 38)))
  have HR := Lib.hid (refusal_ok HS.out hr)
  have HOR := Lib.hid (fun W => or_in (rB_lt h.right) (rB_lt hr) h.right hr W)
  have HNE := Lib.hid (show w.heap.size ≠ g from by have := h.lt; omega)
  obtain ⟨c0, c1⟩ := And.intro (MB.new w N c).c0 (MB.new w N c).c1
  obtain ⟨x, hx⟩ : ∃ x, b ||| c = x := ⟨_, rfl⟩
  have HXR := Lib.hid (show rB N x = true from by
    obtain ⟨m, hm, h1, h2⟩ := rB_yes h.right
    obtain rfl : N = m := by omega
    obtain ⟨m, hm, _, h3⟩ := rB_yes hr
    obtain rfl : N = m := by omega
    rw [rB_in h1, ← hx]
    exact decide_eq_true (Nat.or_lt_two_pow h2 h3))
  rw [hx] at HOR ⊢
  unfold MPost mV at HOR
  unfold mV at HR ⊢
  clear h hr hx
  go_enter Tryd.func15, Tryd.ntmps15
  go_wp2_with fail
  refine HR.out.mono ?_
  rintro e wx ⟨rfl, hx⟩
  have HMX := Lib.hid (HM.out.below hx)
  have HSX := Lib.hid (HS.out.below hx)
  have HOX := Lib.hid ((Only.of (g := g) HB.out).trans (Only.of hx)).drew
  have HSX := Lib.hid HSX.out.drew
  clear hx c0 c1
  go_wp2
  refine wp_region_held_drew (S := fun W => MB W w.heap.size N c) (by kernel_rfl) HMX.out.drew (fun hHeld => ?_)
  refine wpAnyH_take (i := 0) (v := ?_) (by simp; rfl) (by kernel_rfl) (by kernel_rfl) (by kernel_rfl) (by exact fun _ _ _ h => h) (Or.inl ⟨by rfl, fun wx hSx => ?_⟩) hHeld ?_
  rotate_left
  · clear hSx; go_simp; (try with_reducible rfl)
  simp only [Act.put, List.setIfInBounds_toArray, List.set_cons_zero, List.set_cons_succ]
  refine wpAnyH_take (i := 1) (v := ?_) (by simp; rfl) (by kernel_rfl) (by kernel_rfl) (by kernel_rfl) (by exact fun _ _ _ h => h) (Or.inl ⟨by rfl, fun wx hSx => ?_⟩) hHeld ?_
  rotate_left
  · clear hSx; go_simp; (try with_reducible rfl)
  simp only [Act.put, List.setIfInBounds_toArray, List.set_cons_zero, List.set_cons_succ]
  refine wpAnyH_take (i := 2) (v := ?_) (by simp; rfl) (by kernel_rfl) (by kernel_rfl) (by kernel_rfl) (by exact fun _ _ _ h => h) (Or.inl ⟨by rfl, fun wx hSx => ?_⟩) hHeld ?_
  rotate_left
  · clear hSx; go_simp; (try with_reducible rfl)
  simp only [Act.put, List.setIfInBounds_toArray, List.set_cons_zero, List.set_cons_succ]
  refine wpAnyH_take (i := 3) (v := ?_) (by simp; rfl) (by kernel_rfl) (by kernel_rfl) (by kernel_rfl) (by exact fun _ _ _ h => h) (Or.inl ⟨by rfl, fun wx hSx => ?_⟩) hHeld ?_
  rotate_left
  · clear hSx; go_simp; (try with_reducible rfl)
  simp only [Act.put, List.setIfInBounds_toArray, List.set_cons_zero, List.set_cons_succ]
  refine wpAnyH_take (i := 5) (v := ?_) (by simp; rfl) (by kernel_rfl) (by kernel_rfl) (by kernel_rfl) (by exact fun _ _ _ h => h) (Or.inl ⟨by rfl, fun wx hSx => ?_⟩) hHeld ?_
  rotate_left
  · obtain ⟨e0, e1⟩ := And.intro (MB.c0 hSx) (MB.c1 hSx); clear hSx; go_simp; (try with_reducible rfl)
  simp only [Act.put, List.setIfInBounds_toArray, List.set_cons_zero, List.set_cons_succ]
  refine wpAnyH_ready (rs := [4]) (by kernel_rfl) (by simp) ?_
  refine AllReadyH.cons (by simp; rfl) (fun K0 hK0 => ?_) AllReadyH.nil
  obtain ⟨e0, e1⟩ := And.intro HSX.out.c36 HSX.out.c37
  go_simp
  refine hK0.out _ _ hHeld (fun _ => ?_)
  clear hK0 K0 e0 e1
  refine wpAnyH_ready (rs := [6]) (by kernel_rfl) (by simp) ?_
  refine AllReadyH.cons (by simp; rfl) (fun K0 hK0 => ?_) AllReadyH.nil
  go_simp
  refine (HOR.out _).mono ?_
  rintro e wy ⟨rfl, hy⟩
  have HSY := Lib.hid (HSX.out.below hy)
  have HMY := MB.below hHeld hy
  have HOY := Lib.hid (HOX.out.trans (Only.of hy))
  refine hK0.out _ _ HMY (fun _ => ?_)
  clear hK0 K0 hHeld hy
  have hHeld := HMY
  refine wpAnyH_take (i := 7) (v := ?_) (by simp; rfl) (by kernel_rfl) (by kernel_rfl) (by kernel_rfl) (by exact fun _ _ _ h => h) (Or.inl ⟨by rfl, fun wx hSx => ?_⟩) hHeld ?_
  rotate_left
  · clear hSx; go_simp; (try with_reducible rfl)
  simp only [Act.put, List.setIfInBounds_toArray, List.set_cons_zero, List.set_cons_succ]
  refine wpAnyH_take (i := 8) (v := ?_) (by simp; rfl) (by kernel_rfl) (by kernel_rfl) (by kernel_rfl) (by exact fun _ _ _ h => h) (Or.inl ⟨by rfl, fun wx hSx => ?_⟩) hHeld ?_
  rotate_left
  · clear hSx; go_simp; (try with_reducible rfl)
  simp only [Act.put, List.setIfInBounds_toArray, List.set_cons_zero, List.set_cons_succ]
  refine wpAnyH_take (i := 9) (v := ?_) (by simp; rfl) (by kernel_rfl) (by kernel_rfl) (by kernel_rfl) (by exact fun _ _ _ h => h) (Or.inl ⟨by rfl, fun wx hSx => ?_⟩) hHeld ?_
  rotate_left
  · clear hSx; go_simp; (try with_reducible rfl)
  simp only [Act.put, List.setIfInBounds_toArray, List.set_cons_zero, List.set_cons_succ]
  refine wpAnyH_take (i := 10) (v := ?_) (by simp; rfl) (by kernel_rfl) (by kernel_rfl) (by kernel_rfl) (by exact fun _ _ _ h => h) (Or.inl ⟨by rfl, fun wx hSx => ?_⟩) hHeld ?_
  rotate_left
  · clear hSx; go_simp; (try with_reducible rfl)
  simp only [Act.put, List.setIfInBounds_toArray, List.set_cons_zero, List.set_cons_succ]
  refine wpAnyH_take (i := 11) (v := ?_) (by simp; rfl) (by kernel_rfl) (by kernel_rfl) (by kernel_rfl) (by exact fun _ _ _ h => h) (Or.inl ⟨by rfl, fun wx hSx => ?_⟩) hHeld ?_
  rotate_left
  · clear hSx; go_simp; (try with_reducible rfl)
  simp only [Act.put, List.setIfInBounds_toArray, List.set_cons_zero, List.set_cons_succ]
  refine wpAnyH_ready (rs := [12]) (by kernel_rfl) (by simp) ?_
  refine AllReadyH.cons (by simp; rfl) (fun K0 hK0 => ?_) AllReadyH.nil
  have e0 := HSY.out.c36
  have e1 := HSY.out.c37
  have f0 := HSY.out.free 36
  have f1 := HSY.out.free 37
  go_simp
  have HMZ : MB ((wy.setCell ⟨g, 36, none⟩ (.int .i64 N)).setCell ⟨g, 37, none⟩ (.int .u64 x)) w.heap.size N c := (MB.far (MB.far hHeld g 36 _ HNE.out) g 37 _ HNE.out)
  refine hK0.out _ _ HMZ (fun _ => ?_)
  clear hK0 K0 e0 e1 f0 f1
  refine wpAnyH_done (by kernel_rfl) ?_ _
  have HF := Lib.hid (HSY.out.put (b' := x) HXR.out)
  have HFO := Lib.hid ((HOY.out.setCell 36 (.int .i64 N)).setCell 37 (.int .u64 x))
  clear hHeld
  go_wp2
  go_ret
  exact ⟨rfl, HF.out, HFO.out⟩
end
end Go.Proofs.YtdlhpmbgpjjkoaaDoor
