/-
  Proved here: some of a row's cells are others.
-/
import Derived.Test.YtahmnipcdkcpiaaGg
import Derived.Deep.DeepCutAuto
set_option linter.unusedSimpArgs false
set_option linter.unusedVariables false
namespace Go.Proofs.Ytahmnipcdkcpiaa
open Go.RowKit
theorem slice_mid4 {b o m dc f t : Nat} (hf : f < t) (ht : t ≤ m) (hm : m ≤ dc) (W : World) : (Instr.slice 55 (.slice (some ⟨b, o * 4, none⟩) m dc) (some (.int .i64 (f : Int))) (some (.int .i64 (t : Int))) none).run Try.prog W = .ok (.slice (some ⟨b, (o + f) * 4, none⟩) (t - f) (dc - f)) W := by
  have h1 : (f : Int) ≤ (t : Int) := by omega
  have h2 : (t : Int) ≤ (dc : Int) := by omega
  have h3 : ¬ dc = f := by omega
  obtain ⟨i0, hi, _, hz1, _⟩ := info_parts infoCell
  have ha : (⟨b, o * 4, none⟩ : Addr).add (f * 4) = ⟨b, (o + f) * 4, none⟩ := by
    rw [Nat.add_mul]; unfold Addr.add; split <;> simp_all
  simp [Instr.slice, run_underlying Try.underlying55, Instr.sliceBounds, run_sliceBound, h1, h2, h3, hi, hz1, ha]
def lo (x : Int) : Int := if x < 0 then 0 else x
def hi (x : Int) (C : Nat) : Int := if (C : Int) < x then C else x
/-- Some of a row's cells are others. -/
def filL (C : Nat) (L : List Ce) (i : Nat) (x y : Int) (c : Ce) : List Ce := if lo x < hi y C then lay L (i * C + (lo x).toNat) (rep (hi y C - lo x).toNat c) else L
set_option maxRecDepth 100000 in
set_option maxHeartbeats 8000000 in
theorem fill_gr {g b cap R C : Nat} {L : List Ce} {w : World} (h : Gr g b cap R C L w) (row x y : Int) (c : Ce) : Calls Try.prog 19 #[.pointer (some ⟨g, 0, none⟩), .int .i64 row, .int .i64 x, .int .i64 y, cV c] w (PutPost g b cap R C L (hasR R row) (filL C L row.toNat x y c) w) := by
  obtain ⟨p, f, gg, bb⟩ := c
  have hb0 : Below w.heap.size w (w.alloc (.cells #[.int .i32 p, .int .u8 f, .int .u32 gg, .int .u32 bb] 39)) := (Below.refl _ _).alloc (Nat.le_refl _) _
  have h1 := h.below hb0
  have HF := Lib.hid (rowFault_gr h1 row)
  cases hq : hasR R row with
  | false =>
    rw [hq, show flt false = 1 from rfl] at HF
    have HH := Lib.hid (show PutPost g b cap R C L false (filL C L row.toNat x y ⟨p, f, gg, bb⟩) w (.returned (.int .i64 1)) (w.alloc (.cells #[.int .i32 p, .int .u8 f, .int .u32 gg, .int .u32 bb] 39)) from ⟨rfl, by rw [if_neg (by decide)]; exact h1, below_grown hb0 (World.grownBy.refl _ _)⟩)
    unfold cV
    clear h h1 hb0 hq
    go_enter Try.func19, Try.ntmps19
    go_wp2_with fail
    refine HF.out.mono ?_
    rintro e wx ⟨rfl, rfl⟩
    go_wp2
    go_ret
    exact HH.out
  | true =>
    obtain ⟨i, rfl, hiR⟩ : ∃ i : Nat, row = i ∧ i < R := by
      unfold hasR at hq
      simp at hq
      exact ⟨row.toNat, by omega, by omega⟩
    rw [hq, show flt true = 0 from rfl] at HF
    rw [Int.toNat_natCast]
    obtain ⟨o, ho⟩ : ∃ o, i * C = o := ⟨_, rfl⟩
    obtain ⟨F, hF⟩ : ∃ F, lo x = F := ⟨_, rfl⟩
    obtain ⟨T, hT⟩ : ∃ T, hi y C = T := ⟨_, rfl⟩
    have hF1 : x < 0 → F = 0 := fun hx => by rw [← hF]; exact if_pos hx
    have hF2 : ¬ x < 0 → F = x := fun hx => by rw [← hF]; exact if_neg hx
    have hT1 : (C : Int) < y → T = C := fun hx => by rw [← hT]; exact if_pos hx
    have hT2 : ¬ (C : Int) < y → T = y := fun hx => by rw [← hT]; exact if_neg hx
    have hF3 : 0 ≤ F := by
      by_cases hx : x < 0
      · have := hF1 hx; omega
      · have := hF2 hx; omega
    have hT3 : T ≤ C := by
      by_cases hx : (C : Int) < y
      · have := hT1 hx; omega
      · have := hT2 hx; omega
    have hp := h.pos
    have hroom := h.room
    have hrow := (rows_in (C := C) (t := i) (d := i) (Nat.le_refl _) hiR)
    rw [show i + 1 - i = 1 by omega, Nat.one_mul, ho] at hrow
    have hlen := h.len
    obtain ⟨r0, r1, r2⟩ := h1.cells
    have HLN := Lib.hid (fun W (hW : Below (w.alloc (.cells #[.int .i32 p, .int .u8 f, .int .u32 gg, .int .u32 bb] 39)).heap.size (w.alloc (.cells #[.int .i32 p, .int .u8 f, .int .u32 gg, .int .u32 bb] 39)) W) => line_gr (h1.below hW) hiR ho)
    have HH1 := Lib.hid h1
    have HBN := Lib.hid h.row.lt
    have HB0 := Lib.hid hb0
    have HFL := Lib.hid (show filL C L i x y ⟨p, f, gg, bb⟩ = if F < T then lay L (o + F.toNat) (rep (T - F).toNat ⟨p, f, gg, bb⟩) else L from by unfold filL; rw [hF, hT, ho])
    have HGR := Lib.hid (fun (L' : List Ce) (V : World) (hl : L'.length = L.length) (hr : RowAt V b cap L') (hg : (w.alloc (.cells #[.int .i32 p, .int .u8 f, .int .u32 gg, .int .u32 bb] 39)).grownBy V (some b)) => show PutPost g b cap R C L true L' w (.returned (.int .i64 0)) V from ⟨rfl, by rw [if_pos rfl]; exact h1.put hr hl hg, below_grown hb0 hg⟩)
    have HFT := Lib.hid (And.intro hF1 (And.intro hF2 (And.intro hT1 hT2)))
    unfold cV
    clear hF hT hF1 hF2 hT1 hT2 h h1 hb0 hq ho hp
    obtain ⟨LL, hLL⟩ : ∃ l, filL C L i x y ⟨p, f, gg, bb⟩ = l := ⟨_, rfl⟩
    rw [hLL] at HFL ⊢
    clear hLL
    go_enter Try.func19, Try.ntmps19
    go_wp2_with fail
    refine HF.out.mono ?_
    rintro e wx ⟨rfl, rfl⟩
    clear HF
    go_upto_region 4 with fail
    go_cut [2, 3] (fun a z wx => a = .int .i64 F ∧ z = .int .i64 T ∧ wx = (w.alloc (.cells #[.int .i32 p, .int .u8 f, .int .u32 gg, .int .u32 bb] 39)).drew)
    case first =>
      obtain ⟨q1, q2, q3, q4⟩ := HFT.out
      clear HFT HLN HH1 HFL HGR hroom hrow hlen r0 r2
      by_cases hx : x < 0
      · obtain rfl := q1 hx
        by_cases hy : (C : Int) < y
        · obtain rfl := q3 hy
          clear q1 q2 q3 q4
          go_region
          all_goals (go_wp2; go_meet; exact ⟨rfl, rfl, rfl⟩)
        · obtain rfl := q4 (by omega)
          clear q1 q2 q3 q4
          go_region
          all_goals (go_wp2; go_meet; exact ⟨rfl, rfl, rfl⟩)
      · obtain rfl := q2 (by omega)
        by_cases hy : (C : Int) < y
        · obtain rfl := q3 hy
          clear q1 q2 q3 q4
          go_region
          all_goals (go_wp2; go_meet; exact ⟨rfl, rfl, rfl⟩)
        · obtain rfl := q4 (by omega)
          clear q1 q2 q3 q4
          go_region
          all_goals (go_wp2; go_meet; exact ⟨rfl, rfl, rfl⟩)
    case rest =>
      obtain ⟨rfl, rfl, rfl⟩ := hcut
      clear HFT r0 r1 r2
      by_cases hft : F < T
      · obtain ⟨ff, rfl⟩ : ∃ n : Nat, F = n := ⟨F.toNat, by omega⟩
        obtain ⟨tt, rfl⟩ : ∃ n : Nat, T = n := ⟨T.toNat, by omega⟩
        have d1 : decide ((ff : Int) < (tt : Int)) = true := by simpa using hft
        have d1' : decide (ff < tt) = true := by simp; omega
        have e1 : ((tt : Int) - (ff : Int)).toNat = tt - ff := by omega
        have hfl := HFL.out
        rw [if_pos hft, Int.toNat_natCast, e1] at hfl
        have hbb : Below (w.alloc (.cells #[.int .i32 p, .int .u8 f, .int .u32 gg, .int .u32 bb] 39)).heap.size (w.alloc (.cells #[.int .i32 p, .int .u8 f, .int .u32 gg, .int .u32 bb] 39)) (w.alloc (.cells #[.int .i32 p, .int .u8 f, .int .u32 gg, .int .u32 bb] 39)).drew.drew := (Below.refl _ _).drew.drew
        have HLN2 := Lib.hid (HLN.out (w.alloc (.cells #[.int .i32 p, .int .u8 f, .int .u32 gg, .int .u32 bb] 39)).drew.drew hbb)
        have HFI := Lib.hid (fill_any (w := (w.alloc (.cells #[.int .i32 p, .int .u8 f, .int .u32 gg, .int .u32 bb] 39)).drew.drew.drew) (HH1.out.row.below (Below.refl _ _).drew.drew.drew) (A := some ⟨b, (o + ff) * 4, none⟩) (o := o + ff) (m := tt - ff) (dc := cap - o - ff) (fun _ => rfl) (by omega) (by omega) ⟨p, f, gg, bb⟩)
        have HEND := Lib.hid (fun (V : World) (hr : RowAt V b cap (lay L (o + ff) (rep (tt - ff) ⟨p, f, gg, bb⟩))) (hg : (w.alloc (.cells #[.int .i32 p, .int .u8 f, .int .u32 gg, .int .u32 bb] 39)).grownBy V (some b)) => HGR.out LL V (by rw [hfl, lay_len (by rw [rep_len]; omega)]) (by rw [hfl]; exact hr) hg)
        have hsl := slice_mid4 (b := b) (o := o) (m := C) (dc := cap - o) (f := ff) (t := tt) (by omega) (by omega) (by omega)
        have HG1 := Lib.hid (World.grownBy.refl (w.alloc (.cells #[.int .i32 p, .int .u8 f, .int .u32 gg, .int .u32 bb] 39)) (some b))
        have HG2 := Lib.hid (show (w.alloc (.cells #[.int .i32 p, .int .u8 f, .int .u32 gg, .int .u32 bb] 39)).grownBy (w.alloc (.cells #[.int .i32 p, .int .u8 f, .int .u32 gg, .int .u32 bb] 39)).drew.drew.drew (some b) from ⟨rfl, rfl, rfl, Nat.le_refl _, fun _ _ _ => rfl⟩)
        clear HLN HFL HGR hfl e1 hbb HH1 hroom hrow hlen hF3 hT3
        go_upto_region 6 with fail
        refine wp_region_held_drew (S := fun W => (w.alloc (.cells #[.int .i32 p, .int .u8 f, .int .u32 gg, .int .u32 bb] 39)).grownBy W (some b)) (by kernel_rfl) (show (w.alloc (.cells #[.int .i32 p, .int .u8 f, .int .u32 gg, .int .u32 bb] 39)).grownBy (w.alloc (.cells #[.int .i32 p, .int .u8 f, .int .u32 gg, .int .u32 bb] 39)).drew.drew (some b) from ⟨rfl, rfl, rfl, Nat.le_refl _, fun _ _ _ => rfl⟩) (fun hHeld => ?_)
        refine wpAnyH_take (i := 0) (v := ?_) (by simp; rfl) (by kernel_rfl) (by kernel_rfl) (by kernel_rfl) (by exact fun _ _ _ h => h) (Or.inl ⟨by rfl, fun wx hSx => ?_⟩) hHeld ?_
        rotate_left
        · clear hSx; go_simp; (try with_reducible rfl)
        simp only [Act.put, List.setIfInBounds_toArray, List.set_cons_zero, List.set_cons_succ]
        refine wpAnyH_take (i := 1) (v := ?_) (by simp; rfl) (by kernel_rfl) (by kernel_rfl) (by kernel_rfl) (by exact fun _ _ _ h => h) (Or.inl ⟨by rfl, fun wx hSx => ?_⟩) hHeld ?_
        rotate_left
        · clear hSx; go_simp; (try with_reducible rfl)
        simp only [Act.put, List.setIfInBounds_toArray, List.set_cons_zero, List.set_cons_succ]
        refine wpAnyH_take (i := 3) (v := ?_) (by simp; rfl) (by kernel_rfl) (by kernel_rfl) (by kernel_rfl) (by exact fun _ _ _ h => h) (Or.inl ⟨by rfl, fun wx hSx => ?_⟩) hHeld ?_
        rotate_left
        · clear hSx; go_simp; (try with_reducible rfl)
        simp only [Act.put, List.setIfInBounds_toArray, List.set_cons_zero, List.set_cons_succ]
        refine wpAnyH_take (i := 4) (v := ?_) (by simp; rfl) (by kernel_rfl) (by kernel_rfl) (by kernel_rfl) (by exact fun _ _ _ h => h) (Or.inl ⟨by rfl, fun wx hSx => ?_⟩) hHeld ?_
        rotate_left
        · clear hSx; go_simp; (try with_reducible rfl)
        simp only [Act.put, List.setIfInBounds_toArray, List.set_cons_zero, List.set_cons_succ]
        refine wpAnyH_take (i := 6) (v := ?_) (by simp; rfl) (by kernel_rfl) (by kernel_rfl) (by kernel_rfl) (by exact fun _ _ _ h => h) (Or.inl ⟨by rfl, fun wx hSx => ?_⟩) hHeld ?_
        rotate_left
        · obtain ⟨q0, q1, q2, q3⟩ := box_cells HBN.out hSx; clear hSx; go_simp; (try with_reducible rfl)
        simp only [Act.put, List.setIfInBounds_toArray, List.set_cons_zero, List.set_cons_succ]
        refine wpAnyH_ready (rs := [2]) (by kernel_rfl) (by simp) ?_
        refine AllReadyH.cons (by simp; rfl) (fun K0 hK0 => ?_) AllReadyH.nil
        go_simp
        refine HLN2.out.mono ?_
        rintro e V ⟨rfl, rfl⟩
        refine hK0.out _ _ HG2.out (fun _ => ?_)
        clear hK0 K0 hHeld
        have hHeld := HG2.out
        refine wpAnyH_take (i := 5) (v := ?_) (by simp; rfl) (by kernel_rfl) (by kernel_rfl) (by kernel_rfl) (by exact fun _ _ _ h => h) (Or.inl ⟨by rfl, fun wx hSx => ?_⟩) hHeld ?_
        rotate_left
        · clear hSx; go_simp; (try with_reducible rfl)
        simp only [Act.put, List.setIfInBounds_toArray, List.set_cons_zero, List.set_cons_succ]
        refine wpAnyH_ready (rs := [7]) (by kernel_rfl) (by simp) ?_
        refine AllReadyH.cons (by simp; rfl) (fun K0 hK0 => ?_) AllReadyH.nil
        go_simp
        refine HFI.out.mono ?_
        rintro e V ⟨rfl, hV, hgV⟩
        have HV := Lib.hid (And.intro hV (grown_trans HG2.out hgV))
        refine hK0.out _ _ HV.out.2 (fun _ => ?_)
        clear hK0 K0 hV hgV hHeld
        refine wpAnyH_done (by kernel_rfl) ?_ _
        go_wp2
        go_ret
        exact HEND.out _ HV.out.1 HV.out.2
      · have d1 : decide (F < T) = false := by simpa using hft
        have hfl := HFL.out
        rw [if_neg hft] at hfl
        have HEND := Lib.hid (HGR.out L (w.alloc (.cells #[.int .i32 p, .int .u8 f, .int .u32 gg, .int .u32 bb] 39)).drew rfl (HH1.out.row.below (Below.refl _ _).drew) ⟨rfl, rfl, rfl, Nat.le_refl _, fun _ _ _ => rfl⟩)
        rw [← hfl] at HEND
        clear HLN HFL HGR hfl HH1 hroom hrow hlen hF3 hT3 hft
        go_wp2
        go_ret
        exact HEND.out
end Go.Proofs.Ytahmnipcdkcpiaa
