/-
  Proved here: what Count, Missing and Full answer of any map.
-/
import Derived.Test.YtdlhpmbgpjjkoaaDoorMd
set_option linter.unusedSimpArgs false
set_option linter.unusedVariables false
namespace Go.Proofs.YtdlhpmbgpjjkoaaDoor
open Go.RowKit
/-- How many of the first chunks Has tells. -/
def cntH (n : Int) (b : Nat) : Nat → Nat
  | 0 => 0
  | i + 1 => cntH n b i + (if hB n b i = true then 1 else 0)
theorem cntH_le (n : Int) (b : Nat) : ∀ i, cntH n b i ≤ i
  | 0 => Nat.le_refl _
  | i + 1 => by
    have := cntH_le n b i
    unfold cntH
    split <;> omega
theorem cntH_bad {n : Int} {b : Nat} (h : rB n b = false) : ∀ i, cntH n b i = 0
  | 0 => rfl
  | i + 1 => by
    unfold cntH
    rw [cntH_bad h i, hB_bad h]
    rfl
theorem cntH_in {n b : Nat} (h : rB n b = true) : ∀ i, i ≤ n → cntH n b i = cntB i b
  | 0, _ => rfl
  | i + 1, hi => by
    unfold cntH cntB
    rw [cntH_in h i (by omega), hB_in h (by omega)]
theorem cntH_out {n b : Nat} (h : rB n b = true) : ∀ i, n ≤ i → cntH n b i = cntB n b
  | 0, hi => by rw [show n = 0 by omega]; rfl
  | i + 1, hi => by
    rcases Nat.lt_or_ge n (i + 1) with h1 | h1
    · unfold cntH
      rw [cntH_out h i (by omega), hB_out (by omega)]
      rfl
    · rw [show i + 1 = n by omega]
      exact cntH_in h n (Nat.le_refl _)
/-- How many Count tells. -/
def cntS (n : Int) (b : Nat) : Nat := cntH n b 64
theorem cntS_bad {n : Int} {b : Nat} (h : rB n b = false) : cntS n b = 0 := cntH_bad h 64
theorem cntS_in {n b : Nat} (h : rB n b = true) : cntS n b = cntB n b := by
  obtain ⟨k, hk, h2, _⟩ := rB_yes h
  exact cntH_out h 64 (by omega)
theorem mcount_any (n : Int) {b : Nat} (hb : b < 18446744073709551616) (w : World) : Calls Tryd.prog 39 #[mV n b] w fun e w' => e = .returned (.int .i64 (cntS n b)) ∧ Below w.heap.size w w' := by
  have HU := Lib.hid (MB.new w n b)
  have HB := Lib.hid ((Below.refl _ w).alloc (Nat.le_refl _) (.cells #[.int .i64 n, .int .u64 b] 38))
  have HH := Lib.hid (fun i W => has_any n hb i W)
  unfold mV at HH ⊢
  clear hb
  go_enter Tryd.func39, Tryd.ntmps39
  go_upto_region 1 with fail
  obtain ⟨U, hU⟩ : ∃ U, w.alloc (.cells #[.int .i64 n, .int .u64 b] 38) = U := ⟨_, rfl⟩
  rw [hU] at HU HB ⊢
  clear hU
  go_wp2
  go_loopw [3, 5] (fun cv iv wr => ∃ (i m : Nat), cv = .int .i64 m ∧ iv = .int .i64 i ∧ i ≤ 64 ∧ m ≤ i ∧ Hid (cntH n b i = m) ∧ Hid (Below U.heap.size U wr)) (fun _ iv _ => 64 - (intOf iv).toNat)
  case atStart => exact ⟨0, 0, rfl, rfl, by omega, by omega, Lib.hid rfl, Lib.hid (Below.refl _ _)⟩
  case round =>
    obtain ⟨i, m, rfl, rfl, hi, hm, HC, HX⟩ := hrel
    by_cases hin : i < 64
    · have d1 : decide ((i : Int) < 64) = true := by simp; omega
      have d2 : decide (i < 64) = true := by simp; omega
      have c0 := (HU.out.below HX.out).c0
      have c1 := (HU.out.below HX.out).c1
      have w1 : IntKind.i64.wrap ((i : Int) + 1) = (i : Int) + 1 := IntWalk.i64_in _ (by omega)
      have w2 : IntKind.i64.wrap ((m : Int) + 1) = (m : Int) + 1 := IntWalk.i64_in _ (by omega)
      obtain ⟨x, hx⟩ : ∃ x, hB n b i = x := ⟨_, rfl⟩
      have HN := Lib.hid (fun (_ : Unit) => show cntH n b (i + 1) = m + (if x = true then 1 else 0) from by
        conv => lhs; unfold cntH
        rw [HC.out, hx])
      have HI := Lib.hid (hx ▸ HH.out i)
      clear hx
      cases x
      · go_wp2_with fail
        refine (HI.out _).mono ?_
        rintro e wy ⟨rfl, hy⟩
        have HX := Lib.hid (HX.out.trans (hy.mono HX.out.size))
        clear hy c0 c1
        go_wp2
        go_roundw
        case rel => exact ⟨i + 1, m, rfl, by go_num, by omega, by omega, Lib.hid (HN.out ()), HX⟩
        case measure => simp [intOf]; omega
      · go_wp2_with fail
        refine (HI.out _).mono ?_
        rintro e wy ⟨rfl, hy⟩
        have HX := Lib.hid (HX.out.trans (hy.mono HX.out.size))
        clear hy c0 c1
        go_wp2
        go_roundw
        case rel => exact ⟨i + 1, m + 1, by go_num, by go_num, by omega, by omega, Lib.hid (HN.out ()), HX⟩
        case measure => simp [intOf]; omega
    · have d1 : decide ((i : Int) < 64) = false := by simp; omega
      have d2 : decide (i < 64) = false := by simp; omega
      have HF := Lib.hid (show cntS n b = m from by rw [← HC.out, show i = 64 by omega]; rfl)
      clear HC
      go_wp2
      rw [HF.out]
      go_ret
      exact ⟨rfl, HB.out.trans (HX.out.mono HB.out.size)⟩
theorem OwnI.back {w U W : World} {v : Value} {xs : List Int} (h : OwnI U v xs W) (hb : Below w.heap.size w U) : OwnI w v xs W := ⟨own_mono h.own hb.size, hb.trans (h.below.mono hb.size)⟩
/-- What Missing tells. -/
def misS (n : Int) (b : Nat) : List Int := if rB n b = true then misL n.toNat b else []
theorem misS_bad {n : Int} {b : Nat} (h : rB n b = false) : misS n b = [] := by unfold misS; rw [h]; rfl
theorem misS_in {n b : Nat} (h : rB n b = true) : misS n b = misL n b := by unfold misS; rw [h]; rfl
def IPost (xs : List Int) (w : World) (e : Ending) (w' : World) : Prop := ∃ v, e = .returned v ∧ OwnI w v xs w'
/-- Is none missing? -/
def fullB (n : Int) (b : Nat) : Bool := rB n b && decide (b = 2 ^ n.toNat - 1)
theorem full_bad {n : Int} {b : Nat} (hr : rB n b = false) (hb : b < 18446744073709551616) (w : World) : Calls Tryd.prog 40 #[mV n b] w fun e w' => e = .returned (.bool false) ∧ Below w.heap.size w w' := by
  have HU := Lib.hid (MB.new w n b)
  have HB := Lib.hid ((Below.refl _ w).alloc (Nat.le_refl _) (.cells #[.int .i64 n, .int .u64 b] 38))
  have HR := Lib.hid (fun W => right_any n hb W)
  rw [hr] at HR
  unfold mV at HR ⊢
  clear hb hr
  go_enter Tryd.func40, Tryd.ntmps40
  go_upto_region 1 with fail
  obtain ⟨U, hU⟩ : ∃ U, w.alloc (.cells #[.int .i64 n, .int .u64 b] 38) = U := ⟨_, rfl⟩
  rw [hU] at HU HB ⊢
  clear hU
  have c0 := HU.out.c0
  have c1 := HU.out.c1
  have HD := Lib.hid (belowN (Below.refl U.heap.size U) 1)
  refine wp_region_held_drew (S := fun W => Below U.heap.size U W) (by kernel_rfl) HD.out (fun hHeld => ?_)
  refine wpAnyH_take (i := 0) (v := ?_) (by simp; rfl) (by kernel_rfl) (by kernel_rfl) (by kernel_rfl) (by exact fun _ _ _ h => h) (Or.inl ⟨by rfl, fun wx hSx => ?_⟩) hHeld ?_
  rotate_left
  · obtain ⟨e0, e1⟩ := And.intro (HU.out.below hSx).c0 (HU.out.below hSx).c1; clear hSx; go_simp; (try with_reducible rfl)
  simp only [Act.put, List.setIfInBounds_toArray, List.set_cons_zero, List.set_cons_succ]
  refine wpAnyH_ready (rs := [1]) (by kernel_rfl) (by simp) ?_
  refine AllReadyH.cons (by simp; rfl) (fun K0 hK0 => ?_) AllReadyH.nil
  go_simp
  refine (HR.out _).mono ?_
  rintro e wy ⟨rfl, hby⟩
  have HB2 := Lib.hid (Below.trans hHeld (hby.mono hHeld.size))
  clear hby
  refine hK0.out _ _ HB2.out (fun _ => ?_)
  clear hK0 K0 hHeld
  have hHeld := HB2.out
  refine wpAnyH_take (i := 2) (v := ?_) (by simp; rfl) (by kernel_rfl) (by kernel_rfl) (by kernel_rfl) (by exact fun _ _ _ h => h) (Or.inl ⟨by rfl, fun wx hSx => ?_⟩) hHeld ?_
  rotate_left
  · clear hSx; go_simp; (try with_reducible rfl)
  simp only [Act.put, List.setIfInBounds_toArray, List.set_cons_zero, List.set_cons_succ]
  refine wpAnyH_take (i := 3) (v := undef) (by simp; rfl) (by kernel_rfl) (by kernel_rfl) (by kernel_rfl) (by exact fun _ _ _ h => h) (Or.inr ⟨by rfl, rfl⟩) hHeld ?_
  simp only [Act.put, List.setIfInBounds_toArray, List.set_cons_zero, List.set_cons_succ]
  refine wpAnyH_take (i := 4) (v := undef) (by simp; rfl) (by kernel_rfl) (by kernel_rfl) (by kernel_rfl) (by exact fun _ _ _ h => h) (Or.inr ⟨by rfl, rfl⟩) hHeld ?_
  simp only [Act.put, List.setIfInBounds_toArray, List.set_cons_zero, List.set_cons_succ]
  refine wpAnyH_take (i := 5) (v := undef) (by simp; rfl) (by kernel_rfl) (by kernel_rfl) (by kernel_rfl) (by exact fun _ _ _ h => h) (Or.inr ⟨by rfl, rfl⟩) hHeld ?_
  simp only [Act.put, List.setIfInBounds_toArray, List.set_cons_zero, List.set_cons_succ]
  refine wpAnyH_take (i := 6) (v := undef) (by simp; rfl) (by kernel_rfl) (by kernel_rfl) (by kernel_rfl) (by exact fun _ _ _ h => h) (Or.inr ⟨by rfl, rfl⟩) hHeld ?_
  simp only [Act.put, List.setIfInBounds_toArray, List.set_cons_zero, List.set_cons_succ]
  refine wpAnyH_take (i := 7) (v := undef) (by simp; rfl) (by kernel_rfl) (by kernel_rfl) (by kernel_rfl) (by exact fun _ _ _ h => h) (Or.inr ⟨by rfl, rfl⟩) hHeld ?_
  simp only [Act.put, List.setIfInBounds_toArray, List.set_cons_zero, List.set_cons_succ]
  refine wpAnyH_take (i := 8) (v := ?_) (by simp; rfl) (by kernel_rfl) (by kernel_rfl) (by kernel_rfl) (by exact fun _ _ _ h => h) (Or.inl ⟨by rfl, fun wx hSx => ?_⟩) hHeld ?_
  rotate_left
  · clear hSx; go_simp; (try with_reducible rfl)
  simp only [Act.put, List.setIfInBounds_toArray, List.set_cons_zero, List.set_cons_succ]
  refine wpAnyH_take (i := 9) (v := ?_) (by simp; rfl) (by kernel_rfl) (by kernel_rfl) (by kernel_rfl) (by exact fun _ _ _ h => h) (Or.inl ⟨by rfl, fun wx hSx => ?_⟩) hHeld ?_
  rotate_left
  · clear hSx; go_simp; (try with_reducible rfl)
  simp only [Act.put, List.setIfInBounds_toArray, List.set_cons_zero, List.set_cons_succ]
  refine wpAnyH_done (by kernel_rfl) ?_ _
  go_wp2
  go_ret
  exact ⟨rfl, HB.out.trans (HB2.out.mono HB.out.size)⟩
theorem full_in {k b : Nat} (hr : rB k b = true) (w : World) : Calls Tryd.prog 40 #[mV k b] w fun e w' => e = .returned (.bool (decide (b = 2 ^ k - 1))) ∧ Below w.heap.size w w' := by
  have HU := Lib.hid (MB.new w k b)
  have HB := Lib.hid ((Below.refl _ w).alloc (Nat.le_refl _) (.cells #[.int .i64 k, .int .u64 b] 38))
  have hk : k ≤ 64 := by obtain ⟨m, hm, h2, _⟩ := rB_yes hr; omega
  have HR := Lib.hid (fun W => right_any k (rB_lt hr) W)
  have HW := Lib.hid (fun W => whole_any hk W)
  rw [hr] at HR
  unfold mV at HR HW ⊢
  clear hr
  obtain ⟨y, hy⟩ : ∃ y, 2 ^ k - 1 = y := ⟨_, rfl⟩
  rw [hy] at HW ⊢
  clear hy
  have HE := Lib.hid (show (((b : Int) == (y : Int)) : Bool) = decide (b = y) from by
    by_cases h : b = y
    · subst h; simp
    · rw [decide_eq_false h]; simp; omega)
  obtain ⟨x, hx⟩ : ∃ x, decide (b = y) = x := ⟨_, rfl⟩
  rw [hx] at HE ⊢
  clear hx
  go_enter Tryd.func40, Tryd.ntmps40
  go_upto_region 1 with fail
  obtain ⟨U, hU⟩ : ∃ U, w.alloc (.cells #[.int .i64 k, .int .u64 b] 38) = U := ⟨_, rfl⟩
  rw [hU] at HU HB ⊢
  clear hU
  have c0 := HU.out.c0
  have c1 := HU.out.c1
  have HD := Lib.hid (belowN (Below.refl U.heap.size U) 1)
  have q0 : ((k : Int) == (k : Int)) = true := by simp
  cases x
  all_goals (
    have q1 := HE.out
    have q2 : ((b : Int) != (y : Int)) = _ := congrArg not q1
    go_region_held3 (SB U w.heap.size k b)
      (first | exact SB.of HU HD | assumption | exact SB.to HU (by assumption) (by assumption))
      (first | (go_at_call 45; refine (HR.out _).mono ?_; rintro e wy ⟨rfl, hby⟩) | (go_at_call 49; refine (HW.out _).mono ?_; rintro e wz ⟨rfl, hbz⟩))
    have HX := Lib.hid (SB.last (W := wz) (by assumption))
    clear hby hbz
    go_wp2
    go_ret
    exact ⟨rfl, HB.out.trans (HX.out.mono HB.out.size)⟩)
theorem fullB_in {k b : Nat} (h : rB k b = true) : fullB k b = decide (b = 2 ^ k - 1) := by unfold fullB; rw [h]; simp
theorem fullB_bad {n : Int} {b : Nat} (h : rB n b = false) : fullB n b = false := by unfold fullB; rw [h]; simp
theorem full_any (n : Int) {b : Nat} (hb : b < 18446744073709551616) (w : World) : Calls Tryd.prog 40 #[mV n b] w fun e w' => e = .returned (.bool (fullB n b)) ∧ Below w.heap.size w w' := by
  cases hr : rB n b
  · rw [fullB_bad hr]; exact full_bad hr hb w
  · obtain ⟨k, rfl, _, _⟩ := rB_yes hr
    rw [fullB_in hr]; exact full_in hr w
theorem cntB_full : ∀ {n b : Nat}, (cntB n b = n ↔ ∀ i, i < n → b.testBit i = true)
  | 0, b => ⟨fun _ i h => absurd h (by omega), fun _ => rfl⟩
  | n + 1, b => by
    have ih := cntB_full (n := n) (b := b)
    have hle := cntB_le n b
    unfold cntB
    constructor
    · intro h i hi
      split at h
      · rename_i ht
        rcases Nat.lt_or_ge i n with h1 | h1
        · exact ih.1 (by omega) i h1
        · rw [show i = n by omega]; exact ht
      · omega
    · intro h
      rw [if_pos (h n (by omega)), ih.2 (fun i hi => h i (by omega))]
theorem full_cnt {k b : Nat} (h : rB k b = true) : fullB k b = decide (cntB k b = k) := by
  rw [fullB_in h, decide_eq_decide, cntB_full]
  have hlt : b < 2 ^ k := by
    rw [rB_in (by obtain ⟨m, hm, h2, _⟩ := rB_yes h; omega)] at h
    exact of_decide_eq_true h
  constructor
  · rintro rfl i hi
    rw [testBit_whole]; simpa using hi
  · intro hall
    refine Nat.eq_of_testBit_eq fun i => ?_
    rw [testBit_whole]
    rcases Nat.lt_or_ge i k with h1 | h1
    · rw [hall i h1]; simp [h1]
    · rw [bit_far hlt h1]; simp; omega
end Go.Proofs.YtdlhpmbgpjjkoaaDoor
