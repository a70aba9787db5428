/-
  Proved here: of the program's patches: a run's numbers; Runs.
-/
import Derived.Test.YtjihcpnaebghnaaDoorPdd
set_option linter.unusedSimpArgs false
set_option linter.unusedVariables false
namespace Go.Proofs.YtjihcpnaebghnaaDoor
open Go.RowKit
theorem two_at {W : World} {g : Nat} {c0 c1 : Value} {t : TypeId} (h : W.heap[g]? = some (.cells #[c0, c1] t (0, 0))) : W.cell? ⟨g, 0, none⟩ = some c0 ∧ W.cell? ⟨g, 1, none⟩ = some c1 := by
  refine ⟨?_, ?_⟩ <;> (unfold World.cell?; simp only [h]; rfl)
theorem info_run : (Tryd.prog.info? 67).map (·.size) = some 2 := by kernel_rfl
/-- A run's numbers, at a place. -/
def runG (bs : List Int) (p : Int) : (Int × Int) × Int × Int :=
  if (getS bs p).2.2 ≠ 0 then ((0, 0), 0, (getS bs p).2.2)
  else if (getS bs (getS bs p).2.1).2.2 ≠ 0 then ((0, 0), 0, (getS bs (getS bs p).2.1).2.2)
  else if (getS bs (getS bs p).2.1).1 = 0 then ((0, 0), 0, 3)
  else (((getS bs p).1, (getS bs (getS bs p).2.1).1), (getS bs (getS bs p).2.1).2.1, 0)
theorem runG_ok {bs : List Int} {p : Int} (h : (runG bs p).2.2 = 0) : getS bs p = ((runG bs p).1.1, (getS bs p).2.1, 0) ∧ getS bs (getS bs p).2.1 = ((runG bs p).1.2, (runG bs p).2.1, 0) ∧ (runG bs p).1.2 ≠ 0 := by
  unfold runG at h ⊢
  split at h
  · rename_i h1; exact absurd h h1
  rename_i h1
  rw [if_neg h1]
  split at h
  · rename_i h2; exact absurd h h2
  rename_i h2
  rw [if_neg h2]
  split at h
  · simp at h
  rename_i h3
  rw [if_neg h3]
  refine ⟨?_, ?_, h3⟩
  · have : (getS bs p).2.2 = 0 := by simpa using h1
    rw [← this]
  · have : (getS bs (getS bs p).2.1).2.2 = 0 := by simpa using h2
    dsimp only
    rw [← this]
theorem runG_no {bs : List Int} {p g m c r : Int} (h : (runG bs p).2.2 ≠ 0) (h1 : getS bs p = (g, m, 0)) (h2 : getS bs m = (c, r, 0)) : c = 0 := by
  unfold runG at h
  rw [h1] at h
  dsimp only at h
  rw [h2] at h
  dsimp only at h
  by_cases hc : c = 0
  · exact hc
  · rw [if_neg (by simp), if_neg (by simp), if_neg hc] at h
    exact absurd rfl h
def runOut (bs : List Int) (p : Int) : Option Int := if (runG bs p).2.2 = 0 then cellsF (runG bs p).1.2.toNat bs (runG bs p).2.1 else none
theorem StepP.out {bs : List Int} {p q : Int} (h : StepP bs p q) : runOut bs p = some q := by
  obtain ⟨g, m, c, r, h1, h2, h3, h4⟩ := h
  unfold runOut runG
  rw [h1]
  dsimp only
  rw [h2]
  dsimp only
  simp [h3, h4]
theorem StepP.of {bs : List Int} {p q : Int} (h : runOut bs p = some q) : StepP bs p q := by
  unfold runOut at h
  split at h
  · rename_i hz
    obtain ⟨a, b, c⟩ := runG_ok hz
    exact ⟨_, _, _, _, a, b, c, h⟩
  · simp at h
set_option maxRecDepth 100000 in
set_option maxHeartbeats 8000000 in
theorem p_getrun {w : World} {A : Option Addr} {bs : List Int} {n cap : Nat} (hR : RB w w.heap.size A bs) (hl : bs.length = n) (hcap : n ≤ cap) (hm : cap ≤ maxLen) (hB : Bytes bs) (hT : Tab w) (p : Int) :
    Calls Tryd.prog 28 #[.slice A n cap, .int .i64 p] w fun e w' => e = .returned (.tuple #[.agg #[.int .u64 (runG bs p).1.1, .int .u64 (runG bs p).1.2], .int .i64 (runG bs p).2.1, .int .i64 (runG bs p).2.2]) ∧ Below w.heap.size w w' := by
  obtain ⟨⟨g, m, z⟩, hs⟩ : ∃ r, getS bs p = r := ⟨_, rfl⟩
  obtain ⟨⟨c, r, z2⟩, hq⟩ : ∃ r, getS bs m = r := ⟨_, rfl⟩
  have hgc : runG bs p = if z ≠ 0 then ((0, 0), 0, z) else if z2 ≠ 0 then ((0, 0), 0, z2) else if c = 0 then ((0, 0), 0, 3) else ((g, c), r, 0) := by
    unfold runG; rw [hs]; dsimp only; rw [hq]
  obtain ⟨R, hr⟩ : ∃ r, runG bs p = r := ⟨_, rfl⟩
  rw [hr] at hgc ⊢
  have HRZ := Lib.hid (fun (h : z ≠ 0) => hgc.trans (if_pos h))
  have HRZ2 := Lib.hid (fun (h : z = 0) (h2 : z2 ≠ 0) => (hgc.trans (if_neg (by simpa using h))).trans (if_pos h2))
  have HRN := Lib.hid (fun (h : z = 0) (h2 : z2 = 0) (h3 : c = 0) => ((hgc.trans (if_neg (by simpa using h))).trans (if_neg (by simpa using h2))).trans (if_pos h3))
  have HRY := Lib.hid (fun (h : z = 0) (h2 : z2 = 0) (h3 : ¬ c = 0) => ((hgc.trans (if_neg (by simpa using h))).trans (if_neg (by simpa using h2))).trans (if_neg h3))
  have HG1 := Lib.hid (fun (W : World) (hb : Below w.heap.size w W) => pget_in (W := W) hR hl hcap hm hB hT hb p hs)
  have HG2 := Lib.hid (fun (W : World) (hb : Below w.heap.size w W) => pget_in (W := W) hR hl hcap hm hB hT hb m hq)
  have HB0 := (Below.refl w.heap.size w).alloc (Nat.le_refl _) (.cells #[.int .u64 0, .int .u64 0] 67)
  have HC0 := heap_alloc_new w (.cells #[.int .u64 0, .int .u64 0] 67)
  obtain ⟨vb, hvb⟩ : ∃ b, w.heap.size = b := ⟨_, rfl⟩
  have HVW := Lib.hid (show w.heap.size ≤ vb by omega)
  clear hr hgc hR hl hcap hm hB hT hs hq
  go_enter Tryd.func28, Tryd.ntmps28
  go_upto_region 1 with fail
  simp only [hvb] at HC0 ⊢
  generalize (w.alloc (.cells #[.int .u64 0, .int .u64 0] 67)) = U at HB0 HC0 ⊢
  have HB := Lib.hid HB0
  have HC := Lib.hid HC0
  clear HB0 HC0 hvb
  go_wp2_with fail
  refine (HG1.out _ HB.out).mono ?_
  rintro e w1 ⟨rfl, rfl⟩
  clear HG1
  by_cases hz : z = 0
  · subst hz
    go_wp2_with fail
    refine (HG2.out _ HB.out).mono ?_
    rintro e w1 ⟨rfl, rfl⟩
    clear HG2
    by_cases hz2 : z2 = 0
    · subst hz2
      by_cases hc0 : c = 0
      · have HRR := Lib.hid (HRN.out (by first | trivial | rfl) (by first | trivial | rfl) hc0)
        subst hc0
        go_wp2_with (refine wpList_store_row rfl 67 (.tmp 4) (.tmp 36) rfl vb #[.int .u64 0, .int .u64 0] rfl rfl 67 _ HC.out info_run rfl (by simp [Value.oneCell']) ?_)
        exact bodyPost_ret (results_cell_two Tryd.results28 _ _ vb 67 #[.int .u64 0, .int .u64 0] (0, 0) _ (.int .i64 0) (.int .i64 3) rfl rfl rfl (setRow_heap _ _ _ #[.int .u64 0, .int .u64 0] _ _ HC.out) Tryd.underlying67 rfl info_run) rfl ⟨by rw [HRR.out], below_setRow HB.out HVW.out #[.int .u64 0, .int .u64 0]⟩
      · have HRR := Lib.hid (HRY.out (by first | trivial | rfl) (by first | trivial | rfl) hc0)
        have q1 : (c == 0) = false := by simpa using hc0
        have q1' : decide (c = 0) = false := by simpa using hc0
        clear hc0
        go_wp2_with (refine wpList_store_row rfl 67 (.tmp 4) (.tmp 40) rfl vb #[.int .u64 g, .int .u64 c] rfl rfl 67 _ HC.out info_run rfl (by simp [Value.oneCell']) ?_)
        exact bodyPost_ret (results_cell_two Tryd.results28 _ _ vb 67 #[.int .u64 g, .int .u64 c] (0, 0) _ (.int .i64 r) (.int .i64 0) rfl rfl rfl (setRow_heap _ _ _ #[.int .u64 g, .int .u64 c] _ _ HC.out) Tryd.underlying67 rfl info_run) rfl ⟨by rw [HRR.out], below_setRow HB.out HVW.out #[.int .u64 g, .int .u64 c]⟩
    · have HRR := Lib.hid (HRZ2.out (by first | trivial | rfl) hz2)
      have q1 : (z2 == 0) = false := by simpa using hz2
      have q1' : decide (z2 = 0) = false := by simpa using hz2
      have q2 : (z2 != 0) = true := by simpa using hz2
      clear hz2
      go_wp2_with (refine wpList_store_row rfl 67 (.tmp 4) (.tmp 36) rfl vb #[.int .u64 0, .int .u64 0] rfl rfl 67 _ HC.out info_run rfl (by simp [Value.oneCell']) ?_)
      exact bodyPost_ret (results_cell_two Tryd.results28 _ _ vb 67 #[.int .u64 0, .int .u64 0] (0, 0) _ (.int .i64 0) (.int .i64 z2) rfl rfl rfl (setRow_heap _ _ _ #[.int .u64 0, .int .u64 0] _ _ HC.out) Tryd.underlying67 rfl info_run) rfl ⟨by rw [HRR.out], below_setRow HB.out HVW.out #[.int .u64 0, .int .u64 0]⟩
  · have HRR := Lib.hid (HRZ.out hz)
    have q2 : (z != 0) = true := by simpa using hz
    clear hz HG2
    go_wp2_with (refine wpList_store_row rfl 67 (.tmp 4) (.tmp 19) rfl vb #[.int .u64 0, .int .u64 0] rfl rfl 67 _ HC.out info_run rfl (by simp [Value.oneCell']) ?_)
    exact bodyPost_ret (results_cell_two Tryd.results28 _ _ vb 67 #[.int .u64 0, .int .u64 0] (0, 0) _ (.int .i64 0) (.int .i64 z) rfl rfl rfl (setRow_heap _ _ _ #[.int .u64 0, .int .u64 0] _ _ HC.out) Tryd.underlying67 rfl info_run) rfl ⟨by rw [HRR.out], below_setRow HB.out HVW.out #[.int .u64 0, .int .u64 0]⟩
/-- The place where a run is gone through. -/
theorem runG_place {bs : List Int} (hB : Bytes bs) {p : Nat} (h : (runG bs (p : Int)).2.2 = 0) : ∃ g c r : Nat, runG bs (p : Int) = (((g : Int), (c : Int)), (r : Int), 0) ∧ 1 ≤ c ∧ p + 2 ≤ r ∧ r ≤ bs.length ∧ (c : Int) < 4611686018427387904 ∧ (g : Int) < 4611686018427387904 := by
  obtain ⟨a, b, c⟩ := runG_ok h
  have ha : (getS bs (p : Int)).2.2 = 0 := by rw [a]
  obtain ⟨a1, a2, a3, a4⟩ := getS_ok hB ha
  obtain ⟨m, hm⟩ : ∃ m : Nat, (getS bs (p : Int)).2.1 = m := ⟨(getS bs (p : Int)).2.1.toNat, by omega⟩
  rw [hm] at b a3 a4
  have hb : (getS bs (m : Int)).2.2 = 0 := by rw [b]
  obtain ⟨b1, b2, b3, b4⟩ := getS_ok hB hb
  rw [a] at a1 a2
  rw [b] at b1 b2 b3 b4
  dsimp only at a1 a2 b1 b2 b3 b4
  obtain ⟨⟨⟨g, k⟩, r, z⟩, hr⟩ : ∃ x, runG bs (p : Int) = x := ⟨_, rfl⟩
  rw [hr] at h c a1 a2 b1 b2 b3 b4 ⊢
  dsimp only at h c a1 a2 b1 b2 b3 b4 ⊢
  obtain ⟨g', rfl⟩ : ∃ x : Nat, g = x := ⟨g.toNat, by omega⟩
  obtain ⟨k', rfl⟩ : ∃ x : Nat, k = x := ⟨k.toNat, by omega⟩
  obtain ⟨r', rfl⟩ : ∃ x : Nat, r = x := ⟨r.toNat, by omega⟩
  exact ⟨g', k', r', by rw [h], by omega, by omega, by omega, b2, a2⟩
theorem cellsF_step (k : Nat) (bs : List Int) (p : Int) : cellsF (k + 1) bs p = if (getC bs p).2.2 = 0 then cellsF k bs (getC bs p).2.1 else none := rfl
set_option maxRecDepth 100000 in
set_option maxHeartbeats 16000000 in
theorem p_runs {w : World} {A : Option Addr} {bs : List Int} {n cap : Nat} (hR : RB w w.heap.size A bs) (hl : bs.length = n) (hn : n ≤ 100000) (hcap : n ≤ cap) (hm : cap ≤ maxLen) (hB : Bytes bs) (hT : Tab w) :
    Calls Tryd.prog 10 #[.slice A n cap] w fun e w' => ((∃ k : Nat, isRuns bs k ∧ e = .returned (.tuple #[.int .i64 k, .int .i64 0])) ∨ ((∀ k, ¬ isRuns bs k) ∧ e = .returned (.tuple #[.int .i64 0, .int .i64 3]))) ∧ Below w.heap.size w w' := by
  have HGR := Lib.hid (fun (W : World) (hb : Below w.heap.size w W) (p : Int) => p_getrun ((hR.below hb).keep' hb.size) hl hcap hm hB (hT.below hb hT.big) p)
  have HGC := Lib.hid (fun (W : World) (hb : Below w.heap.size w W) (p : Int) => p_getcell ((hR.below hb).keep' hb.size) hl hn hcap hm hB (hT.below hb hT.big) p)
  unfold GetCP at HGC
  have HL := Lib.hid hl
  have HN := Lib.hid hn
  have HBY := Lib.hid hB
  have HP := Lib.hid (fun (p : Nat) => runG_place hB (p := p))
  clear hR hl hn hcap hm hB hT
  go_enter Tryd.func10, Tryd.ntmps10
  by_cases h5 : n < 5
  · have d1 : decide ((n : Int) < 5) = true := by simp; omega
    have d1' : decide (n < 5) = true := by simp; omega
    have HNO := Lib.hid (show ∀ k, ¬ isRuns bs k from fun k h => by have := h.1; have := HL.out; omega)
    clear h5
    go_wp2
    go_ret2
    exact ⟨.inr ⟨HNO.out, rfl⟩, Below.refl _ _⟩
  · have d1 : decide ((n : Int) < 5) = false := by simp; omega
    have d1' : decide (n < 5) = false := by simp; omega
    have H5 := Lib.hid (show 5 ≤ n by omega)
    clear h5
    go_wp2
    go_loopw [4, 5] (fun kv pv wr => ∃ (k p : Nat), kv = .int .i64 k ∧ pv = .int .i64 p ∧ k ≤ p ∧ p ≤ n ∧ Hid ((∀ j, RunsP bs (p : Int) j → RunsP bs 5 (k + j)) ∧ (∀ j, RunsP bs 5 j → ∃ j', j = k + j' ∧ RunsP bs (p : Int) j') ∧ Below w.heap.size w wr)) (fun _ pv _ => n - (intOf pv).toNat)
    case atStart => exact ⟨0, 5, rfl, rfl, by omega, H5.out, Lib.hid ⟨fun j h => by rw [Nat.zero_add]; exact h, fun j h => ⟨j, by omega, h⟩, Below.refl _ _⟩⟩
    case round =>
      obtain ⟨k, p, rfl, rfl, hkp, hpn, HS⟩ := hrel
      by_cases hp : p < n
      · have e1 : decide ((p : Int) < (n : Int)) = true := by simp; omega
        have e1' : decide (p < n) = true := by simp; omega
        have wk : IntKind.i64.wrap ((k : Int) + 1) = (k : Int) + 1 := IntWalk.i64_in _ (by have := HN.out; omega)
        have HKP := Lib.hid (And.intro hkp hp)
        obtain ⟨⟨⟨g, c⟩, r, z⟩, hG⟩ : ∃ x, runG bs (p : Int) = x := ⟨_, rfl⟩
        have HGP := Lib.hid (hG ▸ HGR.out wr HS.out.2.2 (p : Int))
        have HOU := Lib.hid (fun (_ : Unit) => show runOut bs (p : Int) = if z = 0 then cellsF c.toNat bs r else none from by unfold runOut; rw [hG])
        have HPL := Lib.hid (fun (h : z = 0) => by
          have := HP.out p (by rw [hG]; exact h)
          rw [hG] at this
          exact this)
        dsimp only at HGP
        clear hkp hpn hp hG
        go_wp2_with fail
        refine HGP.out.mono ?_
        rintro e w1 ⟨rfl, b1⟩
        have hba := (Below.refl w1.heap.size w1).alloc (Nat.le_refl _) (.cells #[.int .u64 g, .int .u64 c] 67)
        have HB1 := Lib.hid (HS.out.2.2.trans ((b1.trans (hba.mono b1.size)).mono HS.out.2.2.size))
        have HC1 := Lib.hid (heap_alloc_new w1 (.cells #[.int .u64 g, .int .u64 c] 67))
        have HW1 := Lib.hid (show w.heap.size ≤ w1.heap.size from by have := HS.out.2.2.size; have := b1.size; omega)
        obtain ⟨rb, hrb⟩ : ∃ b, w1.heap.size = b := ⟨_, rfl⟩
        rw [hrb] at HC1 HW1
        clear b1 hba HGP
        by_cases hz : z = 0
        · subst hz
          obtain ⟨g', c', r', hx, hc1, hr1, hr2, hc2, hg2⟩ := HPL.out (by first | trivial | rfl)
          obtain ⟨⟨rfl, rfl⟩, rfl⟩ : (g = g' ∧ c = c') ∧ r = r' := by
            simp only [Prod.mk.injEq] at hx
            exact ⟨hx.1, hx.2.1⟩
          have HOO := Lib.hid (fun (_ : Unit) => show runOut bs (p : Int) = cellsF c' bs (r' : Int) from by rw [HOU.out (), if_pos (by first | trivial | rfl), Int.toNat_natCast])
          have HRB := Lib.hid (show p < r' ∧ r' ≤ n from ⟨by omega, by rw [← HL.out]; exact hr2⟩)
          have HGB := Lib.hid hc2
          clear hx hc1 hr1 hr2 hc2 hg2 HPL HOU
          go_upto_region 8 with fail
          try simp only [hrb]
          generalize (w1.alloc (.cells #[.int .u64 (g' : Int), .int .u64 (c' : Int)] 67)) = U at HB1 HC1 ⊢
          clear hrb
          go_loopw [7, 8] (fun av zv wi => ∃ (cn rn : Nat) (zi ri : Int), av = .int .i64 ri ∧ zv = .int .i64 zi ∧ Hid (wi.heap[rb]? = some (.cells #[.int .u64 g', .int .u64 cn] 67 (0, 0)) ∧ (cn : Int) < 4611686018427387904 ∧ Below w.heap.size w wi) ∧ Hid ((zi = 0 ∧ ri = (rn : Int) ∧ p < rn ∧ rn ≤ n ∧ runOut bs (p : Int) = cellsF cn bs (rn : Int)) ∨ (zi ≠ 0 ∧ runOut bs (p : Int) = none))) (fun _ zv wi => 2 * (match wi.cell? ⟨rb, 1, none⟩ with | some (.int _ v) => v.toNat | _ => 0) + (if intOf zv = 0 then 1 else 0))
          case atStart => exact ⟨c', r', 0, _, rfl, rfl, Lib.hid ⟨HC1.out, HGB.out, HB1.out⟩, Lib.hid (.inl ⟨rfl, rfl, HRB.out.1, HRB.out.2, HOO.out ()⟩)⟩
          case round =>
            obtain ⟨cn, rn, zi, ri, rfl, rfl, HM, HI⟩ := hrel
            clear HOO HRB HGB HC1 HB1
            obtain ⟨m0, m1⟩ : _ ∧ _ := two_at HM.out.1
            rcases HI.out with ⟨rfl, rfl, hp1, hp2, ho⟩ | ⟨hzi, ho⟩
            · have HOO := Lib.hid (fun (_ : Unit) => ho)
              have HRN := Lib.hid (And.intro hp1 hp2)
              clear HI ho hp1 hp2
              rcases Nat.eq_zero_or_pos cn with h0 | h0
              · subst h0
                have HST := Lib.hid (show StepP bs (p : Int) (rn : Int) from StepP.of (by rw [HOO.out ()]; rfl))
                have HS2 := Lib.hid (show (∀ j, RunsP bs (rn : Int) j → RunsP bs 5 (k + 1 + j)) ∧ (∀ j, RunsP bs 5 j → ∃ j', j = k + 1 + j' ∧ RunsP bs (rn : Int) j') ∧ Below w.heap.size w wr from ⟨fun j hj => by
                  have := HS.out.1 (j + 1) (RunsP.step (by rw [HL.out]; have := HKP.out.2; omega) HST.out hj)
                  rwa [show k + 1 + j = k + (j + 1) by omega], fun j hj => by
                  obtain ⟨j', h1, h2⟩ := HS.out.2.1 j hj
                  cases h2 with
                  | done => have := HKP.out.2; have := HL.out; omega
                  | step _ hs hr =>
                    rw [hs.one HST.out] at hr
                    exact ⟨_, by omega, hr⟩, HM.out.2.2⟩)
                clear HOO HS
                go_wp2
                go_roundw
                case rel => exact ⟨k + 1, rn, by go_num, rfl, by have := HRN.out; have := HKP.out; omega, HRN.out.2, HS2⟩
                case measure => have := HRN.out; have := HKP.out; simp [intOf]; omega
              · obtain ⟨cm, rfl⟩ : ∃ m, cn = m + 1 := ⟨cn - 1, by omega⟩
                obtain ⟨⟨e0, m2, z2⟩, hC⟩ : ∃ x, getC bs (rn : Int) = x := ⟨_, rfl⟩
                have HGP := Lib.hid (hC ▸ HGC.out wr HM.out.2.2 (rn : Int))
                dsimp only at HGP
                have HC := Lib.hid (fun (_ : Unit) => hC)
                have d1 : decide ((0 : Int) < ((cm + 1 : Nat) : Int)) = true := decide_eq_true (by omega)
                have d2 : decide (((cm + 1 : Nat) : Int) > 0) = true := d1
                obtain ⟨cv, hcv⟩ : ∃ v : Int, ((cm + 1 : Nat) : Int) = v := ⟨_, rfl⟩
                have wd : IntKind.u64.wrap (cv - 1) = (cm : Int) := by rw [← hcv, show ((cm + 1 : Nat) : Int) - 1 = (cm : Int) by omega]; exact IntWalk.u64_in _ (by have := HM.out.2.1; omega)
                rw [hcv] at m1 d1 d2
                have HMB := Lib.hid (hcv ▸ HM.out.1)
                have HCM := Lib.hid (show (cm : Int) < 4611686018427387904 from by have := HM.out.2.1; omega)
                have HBW := Lib.hid HM.out.2.2
                have HCV := Lib.hid hcv
                clear hC h0 hcv HM
                go_wp2_with fail
                refine HGP.out.mono ?_
                rintro e w2 ⟨rfl, b2⟩
                have HB2 := Lib.hid (HBW.out.trans (b2.mono HBW.out.size))
                have HM2 := Lib.hid ((b2.block _ (lt_of_block HMB.out)).trans HMB.out)
                clear b2 HGP m0 m1
                obtain ⟨m0, m1⟩ : _ ∧ _ := two_at HM2.out
                have q1 := frozen_of_row w2 rb 1 _ _ HM2.out
                have HM3 := Lib.hid (show (w2.setCell ⟨rb, 1, none⟩ (.int .u64 cm)).heap[rb]? = some (.cells #[.int .u64 g', .int .u64 cm] 67 (0, 0)) from by rw [heap_setCell_same w2 rb 1 _ _ (.int .u64 cm) HM2.out]; rfl)
                have HB3 := Lib.hid (show Below w.heap.size w (w2.setCell ⟨rb, 1, none⟩ (.int .u64 cm)) from HB2.out.setCell (by show w.heap.size ≤ rb; exact HW1.out) _)
                have HM1 := Lib.hid (show wr.cell? ⟨rb, 1, none⟩ = some (.int .u64 cv) from (two_at HMB.out).2)
                have HI2 := Lib.hid (show (z2 = 0 ∧ m2 = ((rn + (cellB e0).length : Nat) : Int) ∧ p < rn + (cellB e0).length ∧ rn + (cellB e0).length ≤ n ∧ runOut bs (p : Int) = cellsF cm bs ((rn + (cellB e0).length : Nat) : Int)) ∨ (z2 ≠ 0 ∧ runOut bs (p : Int) = none) from by
                  have ho := HOO.out ()
                  rw [cellsF_step, HC.out ()] at ho
                  dsimp only at ho
                  by_cases hz2 : z2 = 0
                  · subst hz2
                    obtain ⟨_, _, o3, o4, _⟩ := getC_ok HBY.out (p := rn) (HC.out ())
                    refine .inl ⟨rfl, by rw [o3]; omega, by have := HRN.out; omega, by rw [← HL.out]; exact o4, ?_⟩
                    rw [if_pos rfl, o3] at ho
                    rw [ho]
                    congr 1
                  · rw [if_neg hz2] at ho
                    exact .inr ⟨hz2, ho⟩)
                clear HOO HC HM2 HMB HB2 HBW HRN
                go_wp2
                generalize (w2.setCell ⟨rb, 1, none⟩ (.int .u64 cm)) = W3 at HM3 HB3 ⊢
                go_roundw
                case rel => exact ⟨cm, rn + (cellB e0).length, z2, m2, rfl, rfl, Lib.hid ⟨HM3.out, HCM.out, HB3.out⟩, HI2⟩
                case measure =>
                  rw [(two_at HM3.out).2, HM1.out]
                  have h1 : ∀ (P : Prop) [Decidable P], (if P then 1 else 0 : Nat) ≤ 1 := fun P _ => by split <;> omega
                  have h2 := h1 (intOf (.int .i64 z2) = 0)
                  have h3 := HCV.out
                  refine Nat.lt_of_lt_of_le ?_ (Nat.le_add_right _ _)
                  have h4 : ((cm : Nat) : Int).toNat = cm := Int.toNat_natCast cm
                  have h5 : cv.toNat = cm + 1 := by omega
                  simp only [h4, h5]
                  omega
            · have zz : (zi == 0) = false := by simpa using hzi
              have zz1 : decide (zi = 0) = false := by simpa using hzi
              have zz2 : (zi != 0) = true := by simpa using hzi
              have HNO := Lib.hid (show ∀ j, ¬ isRuns bs j from fun j hj => by
                obtain ⟨j', _, h2⟩ := HS.out.2.1 j hj.2
                cases h2 with
                | done => have := HKP.out.2; have := HL.out; omega
                | step _ hs _ =>
                  have := hs.out
                  rw [ho] at this
                  cases this)
              clear hzi ho HI
              go_wp2
              go_ret2
              exact ⟨.inr ⟨HNO.out, rfl⟩, HM.out.2.2⟩
        · have zz : (z == 0) = false := by simpa using hz
          have zz1 : decide (z = 0) = false := by simpa using hz
          have zz2 : (z != 0) = true := by simpa using hz
          have HNO := Lib.hid (show ∀ j, ¬ isRuns bs j from fun j hj => by
            obtain ⟨j', _, h2⟩ := HS.out.2.1 j hj.2
            cases h2 with
            | done => have := HKP.out.2; have := HL.out; omega
            | step _ hs _ =>
              have := hs.out
              rw [HOU.out (), if_neg hz] at this
              cases this)
          clear hz HPL HOU
          go_upto_region 8 with fail
          try simp only [hrb]
          generalize (w1.alloc (.cells #[.int .u64 g, .int .u64 c] 67)) = U at HB1 HC1 ⊢
          clear hrb
          go_loopw [7, 8] (fun av zv wi => av = .int .i64 r ∧ zv = .int .i64 z ∧ Hid (Below w.heap.size w wi)) (fun _ _ _ => 0)
          case atStart => exact ⟨rfl, rfl, HB1⟩
          case round =>
            obtain ⟨rfl, rfl, HBI⟩ := hrel
            go_wp2
            go_ret2
            exact ⟨.inr ⟨HNO.out, rfl⟩, HBI.out⟩
      · have e1 : decide ((p : Int) < (n : Int)) = false := by simp; omega
        have e1' : decide (p < n) = false := by simp; omega
        have HYES := Lib.hid (show isRuns bs k from ⟨by rw [HL.out]; exact H5.out, by
          have hpb : (p : Int) = (bs.length : Int) := by rw [HL.out]; omega
          have := HS.out.1 0 (by rw [hpb]; exact RunsP.done)
          simpa using this⟩)
        clear hkp hpn hp
        go_wp2
        go_ret2
        exact ⟨.inl ⟨k, HYES.out, rfl⟩, HS.out.2.2⟩
end Go.Proofs.YtjihcpnaebghnaaDoor
