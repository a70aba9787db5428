/-
  Proved here: a grid behind what was done to it.
-/
import Derived.Test.YtahmnipcdkcpiaaHo
import Derived.Deep.DeepCutAuto
set_option linter.unusedSimpArgs false
set_option linter.unusedVariables false
namespace Go.Proofs.Ytahmnipcdkcpiaa
open Go.RowKit
/-- None, or a grid since w. -/
def MadePost (w : World) (e : Ending) (w' : World) : Prop :=
  (e = .returned (.pointer none) ∧ Below w.heap.size w w') ∨ ∃ g b cap R C L, e = .returned (.pointer (some ⟨g, 0, none⟩)) ∧ Gr g b cap R C L w' ∧ OkL L ∧ w.heap.size ≤ g ∧ w.heap.size ≤ b ∧ Below w.heap.size w w'
theorem op8 {W : World} {b off i : Nat} {kd oa ob on p f gg bb : Int} (h : ∀ j v, (opL ⟨kd, oa, ob, on, p, f, gg, bb⟩)[j]? = some v → W.cell? ⟨b, off + i * 8 + j, none⟩ = some v) :
    W.cell? ⟨b, off + i * 8, none⟩ = some (.int .i64 kd) ∧ W.cell? ⟨b, off + i * 8 + 1, none⟩ = some (.int .i64 oa) ∧ W.cell? ⟨b, off + i * 8 + 2, none⟩ = some (.int .i64 ob) ∧ W.cell? ⟨b, off + i * 8 + 3, none⟩ = some (.int .i64 on) ∧ W.cell? ⟨b, off + i * 8 + 4, none⟩ = some (.int .i32 p) ∧ W.cell? ⟨b, off + i * 8 + 5, none⟩ = some (.int .u8 f) ∧ W.cell? ⟨b, off + i * 8 + 6, none⟩ = some (.int .u32 gg) ∧ W.cell? ⟨b, off + i * 8 + 7, none⟩ = some (.int .u32 bb) :=
  ⟨h 0 _ rfl, h 1 _ rfl, h 2 _ rfl, h 3 _ rfl, h 4 _ rfl, h 5 _ rfl, h 6 _ rfl, h 7 _ rfl⟩
theorem three_cells {W : World} {g : Nat} {c0 c1 c2 : Value} {t : TypeId} (h : W.heap[g]? = some (.cells #[c0, c1, c2] t (0, 0))) : W.cell? ⟨g, 0, none⟩ = some c0 ∧ W.cell? ⟨g, 1, none⟩ = some c1 ∧ W.cell? ⟨g, 2, none⟩ = some c2 := by
  refine ⟨?_, ?_, ?_⟩ <;> (unfold World.cell?; simp only [h]; rfl)
set_option maxRecDepth 100000 in
set_option maxHeartbeats 64000000 in
theorem made_some {w : World} {bo off len cap0 : Nat} {zs : List Opn} (sl : SlO w (some ⟨bo, off, none⟩) len cap0 zs) (hcells : ∀ i, i < len → ∀ W : World, Below w.heap.size w W → ∀ j v, (opL (opAt zs i))[j]? = some v → W.cell? ⟨bo, off + i * 8 + j, none⟩ = some v) (r c : Int) : Calls Try.prog 28 #[.int .i64 r, .int .i64 c, .slice (some ⟨bo, off, none⟩) len cap0] w (MadePost w) := by
  have HSL := Lib.hid sl
  have HCE8 := Lib.hid hcells
  clear sl hcells
  cases hq0 : rightB r c with
  | false =>
    go_enter Try.func28, Try.ntmps28
    go_wp2_with fail
    refine (new_any r c _).mono ?_
    rintro e w1 ⟨h1, h2, hb1⟩
    obtain rfl := h1 hq0
    have HB1 := Lib.hid hb1
    clear h1 h2 hb1
    go_wp2
    go_ret
    exact .inl ⟨rfl, HB1.out⟩
  | true =>
    obtain ⟨R, C, rfl, rfl, hp⟩ := right_pos hq0
    have HQ0 := Lib.hid hq0
    clear hp hq0
    go_enter Try.func28, Try.ntmps28
    go_wp2_with fail
    refine (new_any R C _).mono ?_
    rintro e w1 ⟨h1, h2, hb1⟩
    obtain ⟨g, b, rfl, hg, hb, hG, _⟩ : ∃ g b, e = .returned (.tuple #[.pointer (some ⟨g, 0, none⟩), .int .i64 0]) ∧ w.heap.size ≤ g ∧ w.heap.size ≤ b ∧ Gr g b (R * C) R C (rep (R * C) blC) w1 ∧ True := by
      obtain ⟨g, b, x1, x2, x3, x4⟩ := h2 R C rfl rfl HQ0.out
      exact ⟨g, b, x1, x2, x3, x4, trivial⟩
    have hok : OkL (rep (R * C) blC) := fun d hd => by
      rw [List.eq_of_mem_replicate hd]
      exact ⟨by decide, by decide⟩
    have H1 := Lib.hid (And.intro hg (And.intro hb (And.intro hG (And.intro hb1 hok))))
    clear h1 h2 hb1 hg hb hG hok
    go_wp2_with fail
    refine (as_gr H1.out.2.2.1 H1.out.2.2.2.2).mono ?_
    rintro e w2 ⟨yb, ycap, rfl, hl, hR, hb2⟩
    obtain ⟨tb, htb⟩ : ∃ t, w2.heap.size = t := ⟨_, rfl⟩
    have hbU := (Below.refl w2.heap.size w2).alloc (Nat.le_refl _) (.cells #[.int .i64 R, .int .i64 C, .slice (some ⟨yb, 0, none⟩) (R * C) ycap] 29)
    have HS0 : Hid (LV w.heap.size tb g R C yb ycap (rep (R * C) blC) (w2.alloc (.cells #[.int .i64 R, .int .i64 C, .slice (some ⟨yb, 0, none⟩) (R * C) ycap] 29)) ∧ Below w.heap.size w (w2.alloc (.cells #[.int .i64 R, .int .i64 C, .slice (some ⟨yb, 0, none⟩) (R * C) ycap] 29))) := Lib.hid (by
      obtain ⟨q1, q2, q3, q4, q5⟩ := H1.out
      have l1 := q3.lt
      have l2 := q3.row.lt
      have l3 := hb2.size
      refine ⟨⟨⟨b, _, yb, ycap, (q3.below hb2).below hbU, hR.yr.below hbU, rfl, by omega, by omega, q5, q1, q2⟩, ?_, by have := q4.size; omega, by omega⟩, q4.trans ((hb2.trans (hbU.mono hb2.size)).mono q4.size)⟩
      rw [← htb]; exact heap_alloc_new _ _)
    clear hl hR hb2 hbU H1 HQ0
    go_wp2_with fail
    generalize (w2.alloc (.cells #[.int .i64 R, .int .i64 C, .slice (some ⟨yb, 0, none⟩) (R * C) ycap] 29)) = U at HS0 ⊢
    try simp only [htb]
    clear htb
    go_loopw [10] (fun iv wr => ∃ i : Nat, iv = .int .i64 i ∧ i ≤ len ∧ ∃ R C yb ycap L, Hid (LV w.heap.size tb g R C yb ycap L wr ∧ Below w.heap.size w wr)) (fun iv _ => len - (intOf iv).toNat)
    case atStart => exact ⟨0, rfl, by omega, R, C, yb, ycap, _, HS0⟩
    case round =>
      obtain ⟨i, rfl, hi, R, C, yb, ycap, L, HS⟩ := hrel
      clear HS0
      by_cases hin : i < len
      · have d1 : decide ((i : Int) < (len : Int)) = true := by simp; omega
        have d1' : decide (i < len) = true := by simp; omega
        by_cases h40 : i < 30
        · have d2 : decide ((i : Int) < 30) = true := by simp; omega
          have d2' : decide (i < 30) = true := by simp; omega
          have HF := Lib.hid (HSL.out.ok i hin)
          have HOP0 := Lib.hid (HCE8.out i hin)
          obtain ⟨o, ho⟩ : ∃ o, opAt zs i = o := ⟨_, rfl⟩
          rw [ho] at HF HOP0
          clear ho
          obtain ⟨kd, oa, ob, on, p, f, gg, bb⟩ := o
          have HOP := Lib.hid (fun (W : World) (hW : Below w.heap.size w W) => op8 (HOP0.out W hW))
          have g1 : (0 : Int) ≤ (i : Int) := by omega
          have g2 : (i : Int) < (len : Int) := by omega
          have w1 : IntKind.i64.wrap ((i : Int) + 1) = (i : Int) + 1 := IntWalk.i64_in _ (by omega)
          have HL := Lib.hid (And.intro (HS.out.1.next (Below.refl wr.heap.size wr).drew) HS.out.2.drew)
          have HIN := Lib.hid (And.intro hin h40)
          clear HS HOP0 hin h40 hi
          go_wp2_with fail
          refine wp_region_held_drew (S := fun W => Below w.heap.size w W) (by kernel_rfl) HL.out.2 (fun hHeld => ?_)
          refine wpAnyH_take (i := 0) (v := ?_) (by simp; rfl) (by kernel_rfl) (by kernel_rfl) (by kernel_rfl) (by exact fun _ _ _ h => h) (Or.inl ⟨by rfl, fun wx hSx => ?_⟩) hHeld ?_
          rotate_left
          · clear hSx; go_simp; (try with_reducible rfl)
          simp only [Act.put, List.setIfInBounds_toArray, List.set_cons_zero, List.set_cons_succ]
          refine wpAnyH_take (i := 2) (v := ?_) (by simp; rfl) (by kernel_rfl) (by kernel_rfl) (by kernel_rfl) (by exact fun _ _ _ h => h) (Or.inl ⟨by rfl, fun wx hSx => ?_⟩) hHeld ?_
          rotate_left
          · clear hSx; go_simp; (try with_reducible rfl)
          simp only [Act.put, List.setIfInBounds_toArray, List.set_cons_zero, List.set_cons_succ]
          refine wpAnyH_take (i := 3) (v := ?_) (by simp; rfl) (by kernel_rfl) (by kernel_rfl) (by kernel_rfl) (by exact fun _ _ _ h => h) (Or.inl ⟨by rfl, fun wx hSx => ?_⟩) hHeld ?_
          rotate_left
          · clear hSx; go_simp; (try with_reducible rfl)
          simp only [Act.put, List.setIfInBounds_toArray, List.set_cons_zero, List.set_cons_succ]
          refine wpAnyH_take (i := 4) (v := ?_) (by simp; rfl) (by kernel_rfl) (by kernel_rfl) (by kernel_rfl) (by exact fun _ _ _ h => h) (Or.inl ⟨by rfl, fun wx hSx => ?_⟩) hHeld ?_
          rotate_left
          · clear hSx; go_simp; (try with_reducible rfl)
          simp only [Act.put, List.setIfInBounds_toArray, List.set_cons_zero, List.set_cons_succ]
          refine wpAnyH_take (i := 5) (v := ?_) (by simp; rfl) (by kernel_rfl) (by kernel_rfl) (by kernel_rfl) (by exact fun _ _ _ h => h) (Or.inl ⟨by rfl, fun wx hSx => ?_⟩) hHeld ?_
          rotate_left
          · obtain ⟨o0, o1, o2, o3, o4, o5, o6, o7⟩ := HOP.out wx (hSx); clear hSx; go_simp; (try with_reducible rfl)
          simp only [Act.put, List.setIfInBounds_toArray, List.set_cons_zero, List.set_cons_succ]
          refine wpAnyH_ready (rs := [1]) (by kernel_rfl) (by simp) ?_
          refine AllReadyH.cons (by simp; rfl) (fun K0 hK0 => ?_) AllReadyH.nil
          obtain ⟨x0, x1, x2⟩ := HL.out.1.cells
          go_simp
          refine hK0.out _ _ HL.out.2 (fun _ => ?_)
          clear hK0 K0 x0 x1 x2
          refine wpAnyH_ready (rs := [6]) (by kernel_rfl) (by simp) ?_
          refine AllReadyH.cons (by simp; rfl) (fun K0 hK0 => ?_) AllReadyH.nil
          go_simp
          refine (do_op HL.out.1.bo ⟨kd, oa, ob, on, p, f, gg, bb⟩ HF.out).mono ?_
          rintro e X hd
          obtain ⟨R2, C2, yb2, ycap2, L2, rfl, ht, hlv, hb1, hb2⟩ := HL.out.1.did hd
          have HT := Lib.hid ht
          have HL2 := Lib.hid (And.intro hlv (HL.out.2.trans hb2))
          have HX := Lib.hid (HL.out.2.trans hb1)
          clear hd ht hlv hb1 hb2 hHeld
          refine hK0.out _ _ HX.out (fun _ => ?_)
          clear hK0 K0
          have hHeld := HX.out
          refine wpAnyH_take (i := 7) (v := ?_) (by simp; rfl) (by kernel_rfl) (by kernel_rfl) (by kernel_rfl) (by exact fun _ _ _ h => h) (Or.inl ⟨by rfl, fun wx hSx => ?_⟩) hHeld ?_
          rotate_left
          · clear hSx; go_simp; (try with_reducible rfl)
          simp only [Act.put, List.setIfInBounds_toArray, List.set_cons_zero, List.set_cons_succ]
          refine wpAnyH_take (i := 8) (v := ?_) (by simp; rfl) (by kernel_rfl) (by kernel_rfl) (by kernel_rfl) (by exact fun _ _ _ h => h) (Or.inl ⟨by rfl, fun wx hSx => ?_⟩) hHeld ?_
          rotate_left
          · clear hSx; go_simp; (try with_reducible rfl)
          simp only [Act.put, List.setIfInBounds_toArray, List.set_cons_zero, List.set_cons_succ]
          refine wpAnyH_take (i := 9) (v := ?_) (by simp; rfl) (by kernel_rfl) (by kernel_rfl) (by kernel_rfl) (by exact fun _ _ _ h => h) (Or.inl ⟨by rfl, fun wx hSx => ?_⟩) hHeld ?_
          rotate_left
          · clear hSx; go_simp; (try with_reducible rfl)
          simp only [Act.put, List.setIfInBounds_toArray, List.set_cons_zero, List.set_cons_succ]
          refine wpAnyH_ready (rs := [10]) (by kernel_rfl) (by simp) ?_
          refine AllReadyH.cons (by simp; rfl) (fun K0 hK0 => ?_) AllReadyH.nil
          have hrow := HT.out
          refine step_store_row rfl 29 (.tmp 9) (.tmp 43) rfl tb #[.int .i64 R2, .int .i64 C2, .slice (some ⟨yb2, 0, none⟩) (R2 * C2) ycap2] rfl rfl 29 _ hrow gy_info rfl (gy_one _ _ rfl) ?_
          simp only [Act.put, List.setIfInBounds_toArray, List.set_cons_zero, List.set_cons_succ]
          refine hK0.out _ _ HL2.out.2 (fun _ => ?_)
          clear hK0 K0 hHeld hrow
          have hHeld := HL2.out.2
          refine wpAnyH_done (by kernel_rfl) ?_ _
          clear HT HX HL hHeld
          generalize (X.setRow tb #[.int .i64 R2, .int .i64 C2, .slice (some ⟨yb2, 0, none⟩) (R2 * C2) ycap2]) = V at HL2 ⊢
          go_wp2
          go_roundw
          case rel => exact ⟨i + 1, by go_num, by have := HIN.out; omega, R2, C2, yb2, ycap2, L2, HL2⟩
          case measure => have := HIN.out; simp [intOf]; omega
        · have d2 : decide ((i : Int) < 30) = false := by simp; omega
          have d2' : decide (i < 30) = false := by simp; omega
          clear hi hin h40
          obtain ⟨b, cap, yb', ycap', hG, hY, hx, hr1, hr2, hok, hg1, hb1⟩ := HS.out.1.bo
          have HZ := Lib.hid (show MadePost w (.returned (.pointer (some ⟨g, 0, none⟩))) wr from .inr ⟨g, b, cap, R, C, L, rfl, hG, hok, hg1, hb1, HS.out.2⟩)
          clear hG hY hx hr1 hr2 hok hg1 hb1
          go_wp2
          go_ret
          exact HZ.out

      · have d1 : decide ((i : Int) < (len : Int)) = false := by simp; omega
        have d1' : decide (i < len) = false := by simp; omega
        clear hi hin
        obtain ⟨b, cap, yb', ycap', hG, hY, hx, hr1, hr2, hok, hg1, hb1⟩ := HS.out.1.bo
        have HZ := Lib.hid (show MadePost w (.returned (.pointer (some ⟨g, 0, none⟩))) wr from .inr ⟨g, b, cap, R, C, L, rfl, hG, hok, hg1, hb1, HS.out.2⟩)
        clear hG hY hx hr1 hr2 hok hg1 hb1
        go_wp2
        go_ret
        exact HZ.out
set_option maxRecDepth 100000 in
set_option maxHeartbeats 64000000 in
theorem made_zero {w : World} {A : Option Addr} {len cap0 : Nat} {zs : List Opn} (hz : len = 0) (sl : SlO w A len cap0 zs) (r c : Int) : Calls Try.prog 28 #[.int .i64 r, .int .i64 c, .slice A len cap0] w (MadePost w) := by
  have HSL := Lib.hid sl
  clear sl
  cases hq0 : rightB r c with
  | false =>
    go_enter Try.func28, Try.ntmps28
    go_wp2_with fail
    refine (new_any r c _).mono ?_
    rintro e w1 ⟨h1, h2, hb1⟩
    obtain rfl := h1 hq0
    have HB1 := Lib.hid hb1
    clear h1 h2 hb1
    go_wp2
    go_ret
    exact .inl ⟨rfl, HB1.out⟩
  | true =>
    obtain ⟨R, C, rfl, rfl, hp⟩ := right_pos hq0
    have HQ0 := Lib.hid hq0
    clear hp hq0
    go_enter Try.func28, Try.ntmps28
    go_wp2_with fail
    refine (new_any R C _).mono ?_
    rintro e w1 ⟨h1, h2, hb1⟩
    obtain ⟨g, b, rfl, hg, hb, hG, _⟩ : ∃ g b, e = .returned (.tuple #[.pointer (some ⟨g, 0, none⟩), .int .i64 0]) ∧ w.heap.size ≤ g ∧ w.heap.size ≤ b ∧ Gr g b (R * C) R C (rep (R * C) blC) w1 ∧ True := by
      obtain ⟨g, b, x1, x2, x3, x4⟩ := h2 R C rfl rfl HQ0.out
      exact ⟨g, b, x1, x2, x3, x4, trivial⟩
    have hok : OkL (rep (R * C) blC) := fun d hd => by
      rw [List.eq_of_mem_replicate hd]
      exact ⟨by decide, by decide⟩
    have H1 := Lib.hid (And.intro hg (And.intro hb (And.intro hG (And.intro hb1 hok))))
    clear h1 h2 hb1 hg hb hG hok
    go_wp2_with fail
    refine (as_gr H1.out.2.2.1 H1.out.2.2.2.2).mono ?_
    rintro e w2 ⟨yb, ycap, rfl, hl, hR, hb2⟩
    obtain ⟨tb, htb⟩ : ∃ t, w2.heap.size = t := ⟨_, rfl⟩
    have hbU := (Below.refl w2.heap.size w2).alloc (Nat.le_refl _) (.cells #[.int .i64 R, .int .i64 C, .slice (some ⟨yb, 0, none⟩) (R * C) ycap] 29)
    have HS0 : Hid (LV w.heap.size tb g R C yb ycap (rep (R * C) blC) (w2.alloc (.cells #[.int .i64 R, .int .i64 C, .slice (some ⟨yb, 0, none⟩) (R * C) ycap] 29)) ∧ Below w.heap.size w (w2.alloc (.cells #[.int .i64 R, .int .i64 C, .slice (some ⟨yb, 0, none⟩) (R * C) ycap] 29))) := Lib.hid (by
      obtain ⟨q1, q2, q3, q4, q5⟩ := H1.out
      have l1 := q3.lt
      have l2 := q3.row.lt
      have l3 := hb2.size
      refine ⟨⟨⟨b, _, yb, ycap, (q3.below hb2).below hbU, hR.yr.below hbU, rfl, by omega, by omega, q5, q1, q2⟩, ?_, by have := q4.size; omega, by omega⟩, q4.trans ((hb2.trans (hbU.mono hb2.size)).mono q4.size)⟩
      rw [← htb]; exact heap_alloc_new _ _)
    clear hl hR hb2 hbU H1 HQ0
    go_wp2_with fail
    generalize (w2.alloc (.cells #[.int .i64 R, .int .i64 C, .slice (some ⟨yb, 0, none⟩) (R * C) ycap] 29)) = U at HS0 ⊢
    try simp only [htb]
    clear htb
    go_loopw [10] (fun iv wr => ∃ i : Nat, iv = .int .i64 i ∧ i ≤ len ∧ ∃ R C yb ycap L, Hid (LV w.heap.size tb g R C yb ycap L wr ∧ Below w.heap.size w wr)) (fun iv _ => len - (intOf iv).toNat)
    case atStart => exact ⟨0, rfl, by omega, R, C, yb, ycap, _, HS0⟩
    case round =>
      obtain ⟨i, rfl, hi, R, C, yb, ycap, L, HS⟩ := hrel
      clear HS0
      by_cases hin : i < len
      · exact absurd hin (by omega)
      · have d1 : decide ((i : Int) < (len : Int)) = false := by simp; omega
        have d1' : decide (i < len) = false := by simp; omega
        clear hi hin
        obtain ⟨b, cap, yb', ycap', hG, hY, hx, hr1, hr2, hok, hg1, hb1⟩ := HS.out.1.bo
        have HZ := Lib.hid (show MadePost w (.returned (.pointer (some ⟨g, 0, none⟩))) wr from .inr ⟨g, b, cap, R, C, L, rfl, hG, hok, hg1, hb1, HS.out.2⟩)
        clear hG hY hx hr1 hr2 hok hg1 hb1
        go_wp2
        go_ret
        exact HZ.out
theorem made_any {w : World} {A : Option Addr} {len cap0 : Nat} {zs : List Opn} (sl : SlO w A len cap0 zs) (r c : Int) : Calls Try.prog 28 #[.int .i64 r, .int .i64 c, .slice A len cap0] w (MadePost w) := by
  by_cases h : 0 < len
  · obtain ⟨b, off, rfl, hb, hr⟩ := sl.reads h
    exact made_some sl (fun i hi W hW j v hv => (hW.cell (p := ⟨b, off + i * 8 + j, none⟩) hb).trans (hr i hi j v hv)) r c
  · exact made_zero (by omega) sl r c
end Go.Proofs.Ytahmnipcdkcpiaa
