/-
  Proved here: GridLives.
-/
import Derived.Test.YtahmnipcdkcpiaaHo
import Derived.Deep.DeepCutAuto
set_option linter.unusedSimpArgs false
set_option linter.unusedVariables false
namespace Go.Proofs.Ytahmnipcdkcpiaa
open Go.RowKit
theorem op8 {W : World} {b off i : Nat} {kd oa ob on p f gg bb : Int} (h : ∀ j v, (opL ⟨kd, oa, ob, on, p, f, gg, bb⟩)[j]? = some v → W.cell? ⟨b, off + i * 8 + j, none⟩ = some v) :
    W.cell? ⟨b, off + i * 8, none⟩ = some (.int .i64 kd) ∧ W.cell? ⟨b, off + i * 8 + 1, none⟩ = some (.int .i64 oa) ∧ W.cell? ⟨b, off + i * 8 + 2, none⟩ = some (.int .i64 ob) ∧ W.cell? ⟨b, off + i * 8 + 3, none⟩ = some (.int .i64 on) ∧ W.cell? ⟨b, off + i * 8 + 4, none⟩ = some (.int .i32 p) ∧ W.cell? ⟨b, off + i * 8 + 5, none⟩ = some (.int .u8 f) ∧ W.cell? ⟨b, off + i * 8 + 6, none⟩ = some (.int .u32 gg) ∧ W.cell? ⟨b, off + i * 8 + 7, none⟩ = some (.int .u32 bb) :=
  ⟨h 0 _ rfl, h 1 _ rfl, h 2 _ rfl, h 3 _ rfl, h 4 _ rfl, h 5 _ rfl, h 6 _ rfl, h 7 _ rfl⟩
set_option maxRecDepth 100000 in
set_option maxHeartbeats 64000000 in
theorem lives_some {w : World} {bo off len cap0 : Nat} {zs : List Opn} (sl : SlO w (some ⟨bo, off, none⟩) len cap0 zs) (hcells : ∀ i, i < len → ∀ W : World, Below w.heap.size w W → ∀ j v, (opL (opAt zs i))[j]? = some v → W.cell? ⟨bo, off + i * 8 + j, none⟩ = some v) (r c : Int) : Calls Try.prog 3 #[.int .i64 r, .int .i64 c, .slice (some ⟨bo, off, none⟩) len cap0] w fun e w' => e = .returned (.bool true) ∧ Below w.heap.size w w' := by
  have HSL := Lib.hid sl
  have HCE8 := Lib.hid hcells
  have HMX := Lib.hid (And.intro sl.le sl.max)
  clear sl hcells
  cases hq0 : rightB r c with
  | false =>
    go_enter Try.func3, Try.ntmps3
    go_wp2_with fail
    refine (new_any r c _).mono ?_
    rintro e w1 ⟨h1, h2, hb1⟩
    obtain rfl := h1 hq0
    have HB1 := Lib.hid hb1
    clear h1 h2 hb1
    go_wp2_with fail
    refine (rnew_bad r c hq0 _).mono ?_
    rintro e w2 ⟨rfl, hb2⟩
    have HB2 := Lib.hid (HB1.out.trans (hb2.mono HB1.out.size))
    have HB3 := Lib.hid (HB2.out.alloc HB2.out.size (.cells #[.int .i64 0, .int .i64 0, .slice none 0 0] 29))
    clear hb2
    go_wp2_with fail
    refine (alive_any _).mono ?_
    rintro e w4 ⟨rfl, hb4⟩
    have HB4 := Lib.hid (HB3.out.trans (hb4.mono HB3.out.size))
    clear hb4
    go_wp2
    go_ret
    exact ⟨rfl, HB4.out⟩
  | true =>
    obtain ⟨R, C, rfl, rfl, hp⟩ := right_pos hq0
    obtain ⟨n, hn⟩ : ∃ n, R * C = n := ⟨_, rfl⟩
    have HNW := Lib.hid (fun W => rnew_yes hn hp W)
    have HP := Lib.hid (And.intro hp hn)
    have HQ0 := Lib.hid hq0
    clear hp hn hq0
    go_enter Try.func3, Try.ntmps3
    go_wp2_with fail
    refine (new_any R C _).mono ?_
    rintro e w1 ⟨h1, h2, hb1⟩
    obtain ⟨g, b, rfl, hg, hb, hG, _⟩ : ∃ g b, e = .returned (.tuple #[.pointer (some ⟨g, 0, none⟩), .int .i64 0]) ∧ w.heap.size ≤ g ∧ w.heap.size ≤ b ∧ Gr g b (R * C) R C (rep (R * C) blC) w1 ∧ True := by
      obtain ⟨g, b, x1, x2, x3, x4⟩ := h2 R C rfl rfl HQ0.out
      exact ⟨g, b, x1, x2, x3, x4, trivial⟩
    have H1 := Lib.hid (And.intro hg (And.intro hb (And.intro hG hb1)))
    clear h1 h2 hb1 hg hb hG
    go_wp2_with fail
    refine (HNW.out _).mono ?_
    rintro e w2 ⟨v, rfl, ho, hb2⟩
    obtain ⟨yb, ycap, rfl, hR, hnl, hB2⟩ := RowY.of_own ho (by have := HP.out; rw [← this.2]; exact Nat.mul_pos this.1.1 this.1.2.2.1)
    obtain ⟨tb, htb⟩ : ∃ t, w2.heap.size = t := ⟨_, rfl⟩
    have hbU := (Below.refl w2.heap.size w2).alloc (Nat.le_refl _) (.cells #[.int .i64 R, .int .i64 C, .slice (some ⟨yb, 0, none⟩) n ycap] 29)
    have HS0 : Hid (LV w.heap.size tb g R C yb ycap (rep (R * C) blC) (w2.alloc (.cells #[.int .i64 R, .int .i64 C, .slice (some ⟨yb, 0, none⟩) n ycap] 29)) ∧ Below w.heap.size w (w2.alloc (.cells #[.int .i64 R, .int .i64 C, .slice (some ⟨yb, 0, none⟩) n ycap] 29))) := Lib.hid (by
      obtain ⟨q1, q2, q3, q4⟩ := H1.out
      have e := HP.out.2
      have l1 := q3.lt
      have l2 := q3.row.lt
      have l3 := hb2.size
      refine ⟨⟨⟨b, _, yb, ycap, (q3.below hb2).below hbU, ?_, rfl, by omega, by omega, ?_, q1, q2⟩, ?_, by have := q4.size; omega, by omega⟩, q4.trans ((hb2.trans (hbU.mono hb2.size)).mono q4.size)⟩
      · rw [e]; exact hR.yr.below hbU
      · intro d hd
        rw [List.eq_of_mem_replicate hd]
        exact ⟨by decide, by decide⟩
      · rw [e, ← htb]; exact heap_alloc_new _ _)
    have HE := Lib.hid HP.out.2
    clear ho hb2 hR hnl hB2 hbU HNW H1
    go_wp2_with fail
    generalize (w2.alloc (.cells #[.int .i64 R, .int .i64 C, .slice (some ⟨yb, 0, none⟩) n ycap] 29)) = U at HS0 ⊢
    try simp only [htb]
    clear htb
    go_loopw [11] (fun iv wr => ∃ i : Nat, iv = .int .i64 i ∧ i ≤ len ∧ ∃ R C yb ycap L, Hid (LV w.heap.size tb g R C yb ycap L wr ∧ Below w.heap.size w wr)) (fun iv _ => len - (intOf iv).toNat)
    case atStart => exact ⟨0, rfl, by omega, R, C, yb, ycap, _, HS0⟩
    case round =>
      obtain ⟨i, rfl, hi, R, C, yb, ycap, L, HS⟩ := hrel
      clear HS0 HE HP HQ0
      by_cases hin : i < len
      · have d1 : decide ((i : Int) < (len : Int)) = true := by simp; omega
        have d1' : decide (i < len) = true := by simp; omega
        by_cases h40 : i < 40
        · have d2 : decide ((i : Int) < 40) = true := by simp; omega
          have d2' : decide (i < 40) = true := by simp; omega
          have HF := Lib.hid (HSL.out.ok i hin)
          have HOP0 := Lib.hid (HCE8.out i hin)
          obtain ⟨o, ho⟩ : ∃ o, opAt zs i = o := ⟨_, rfl⟩
          rw [ho] at HF HOP0
          clear ho
          obtain ⟨kd, oa, ob, on, p, f, gg, bb⟩ := o
          have HOP := Lib.hid (fun (W : World) (hW : Below w.heap.size w W) => op8 (HOP0.out W hW))
          have g1 : (0 : Int) ≤ (i : Int) := by omega
          have g2 : (i : Int) < (len : Int) := by omega
          have w1 : IntKind.i64.wrap ((i : Int) + 1) = (i : Int) + 1 := IntWalk.i64_in _ (by omega)
          have HL := Lib.hid (And.intro (HS.out.1.next (Below.refl wr.heap.size wr).drew) HS.out.2.drew)
          have HIN := Lib.hid (And.intro hin h40)
          clear HS HOP0 hin h40 hi
          go_wp2_with fail
          refine wp_region_held_drew (S := fun W => Below w.heap.size w W) (by kernel_rfl) HL.out.2 (fun hHeld => ?_)
          refine wpAnyH_take (i := 0) (v := ?_) (by simp; rfl) (by kernel_rfl) (by kernel_rfl) (by kernel_rfl) (by exact fun _ _ _ h => h) (Or.inl ⟨by rfl, fun wx hSx => ?_⟩) hHeld ?_
          rotate_left
          · clear hSx; go_simp; (try with_reducible rfl)
          simp only [Act.put, List.setIfInBounds_toArray, List.set_cons_zero, List.set_cons_succ]
          refine wpAnyH_take (i := 2) (v := ?_) (by simp; rfl) (by kernel_rfl) (by kernel_rfl) (by kernel_rfl) (by exact fun _ _ _ h => h) (Or.inl ⟨by rfl, fun wx hSx => ?_⟩) hHeld ?_
          rotate_left
          · clear hSx; go_simp; (try with_reducible rfl)
          simp only [Act.put, List.setIfInBounds_toArray, List.set_cons_zero, List.set_cons_succ]
          refine wpAnyH_take (i := 3) (v := ?_) (by simp; rfl) (by kernel_rfl) (by kernel_rfl) (by kernel_rfl) (by exact fun _ _ _ h => h) (Or.inl ⟨by rfl, fun wx hSx => ?_⟩) hHeld ?_
          rotate_left
          · clear hSx; go_simp; (try with_reducible rfl)
          simp only [Act.put, List.setIfInBounds_toArray, List.set_cons_zero, List.set_cons_succ]
          refine wpAnyH_take (i := 4) (v := ?_) (by simp; rfl) (by kernel_rfl) (by kernel_rfl) (by kernel_rfl) (by exact fun _ _ _ h => h) (Or.inl ⟨by rfl, fun wx hSx => ?_⟩) hHeld ?_
          rotate_left
          · clear hSx; go_simp; (try with_reducible rfl)
          simp only [Act.put, List.setIfInBounds_toArray, List.set_cons_zero, List.set_cons_succ]
          refine wpAnyH_take (i := 5) (v := ?_) (by simp; rfl) (by kernel_rfl) (by kernel_rfl) (by kernel_rfl) (by exact fun _ _ _ h => h) (Or.inl ⟨by rfl, fun wx hSx => ?_⟩) hHeld ?_
          rotate_left
          · obtain ⟨o0, o1, o2, o3, o4, o5, o6, o7⟩ := HOP.out wx (hSx); clear hSx; go_simp; (try with_reducible rfl)
          simp only [Act.put, List.setIfInBounds_toArray, List.set_cons_zero, List.set_cons_succ]
          refine wpAnyH_ready (rs := [1]) (by kernel_rfl) (by simp) ?_
          refine AllReadyH.cons (by simp; rfl) (fun K0 hK0 => ?_) AllReadyH.nil
          obtain ⟨x0, x1, x2⟩ := HL.out.1.cells
          go_simp
          refine hK0.out _ _ HL.out.2 (fun _ => ?_)
          clear hK0 K0 x0 x1 x2
          refine wpAnyH_ready (rs := [6]) (by kernel_rfl) (by simp) ?_
          refine AllReadyH.cons (by simp; rfl) (fun K0 hK0 => ?_) AllReadyH.nil
          go_simp
          refine (do_op HL.out.1.bo ⟨kd, oa, ob, on, p, f, gg, bb⟩ HF.out).mono ?_
          rintro e X hd
          obtain ⟨R2, C2, yb2, ycap2, L2, rfl, ht, hlv, hb1, hb2⟩ := HL.out.1.did hd
          have HT := Lib.hid ht
          have HL2 := Lib.hid (And.intro hlv (HL.out.2.trans hb2))
          have HX := Lib.hid (HL.out.2.trans hb1)
          clear hd ht hlv hb1 hb2 hHeld
          refine hK0.out _ _ HX.out (fun _ => ?_)
          clear hK0 K0
          have hHeld := HX.out
          refine wpAnyH_take (i := 7) (v := ?_) (by simp; rfl) (by kernel_rfl) (by kernel_rfl) (by kernel_rfl) (by exact fun _ _ _ h => h) (Or.inl ⟨by rfl, fun wx hSx => ?_⟩) hHeld ?_
          rotate_left
          · clear hSx; go_simp; (try with_reducible rfl)
          simp only [Act.put, List.setIfInBounds_toArray, List.set_cons_zero, List.set_cons_succ]
          refine wpAnyH_take (i := 8) (v := ?_) (by simp; rfl) (by kernel_rfl) (by kernel_rfl) (by kernel_rfl) (by exact fun _ _ _ h => h) (Or.inl ⟨by rfl, fun wx hSx => ?_⟩) hHeld ?_
          rotate_left
          · clear hSx; go_simp; (try with_reducible rfl)
          simp only [Act.put, List.setIfInBounds_toArray, List.set_cons_zero, List.set_cons_succ]
          refine wpAnyH_take (i := 9) (v := ?_) (by simp; rfl) (by kernel_rfl) (by kernel_rfl) (by kernel_rfl) (by exact fun _ _ _ h => h) (Or.inl ⟨by rfl, fun wx hSx => ?_⟩) hHeld ?_
          rotate_left
          · clear hSx; go_simp; (try with_reducible rfl)
          simp only [Act.put, List.setIfInBounds_toArray, List.set_cons_zero, List.set_cons_succ]
          refine wpAnyH_ready (rs := [10]) (by kernel_rfl) (by simp) ?_
          refine AllReadyH.cons (by simp; rfl) (fun K0 hK0 => ?_) AllReadyH.nil
          have hrow := HT.out
          refine step_store_row rfl 29 (.tmp 9) (.tmp 58) rfl tb #[.int .i64 R2, .int .i64 C2, .slice (some ⟨yb2, 0, none⟩) (R2 * C2) ycap2] rfl rfl 29 _ hrow gy_info rfl (gy_one _ _ rfl) ?_
          simp only [Act.put, List.setIfInBounds_toArray, List.set_cons_zero, List.set_cons_succ]
          refine hK0.out _ _ HL2.out.2 (fun _ => ?_)
          clear hK0 K0 hHeld hrow
          have hHeld := HL2.out.2
          refine wpAnyH_take (i := 11) (v := ?_) (by simp; rfl) (by kernel_rfl) (by kernel_rfl) (by kernel_rfl) (by exact fun _ _ _ h => h) (Or.inl ⟨by rfl, fun wx hSx => ?_⟩) hHeld ?_
          rotate_left
          · clear hSx; go_simp; (try with_reducible rfl)
          simp only [Act.put, List.setIfInBounds_toArray, List.set_cons_zero, List.set_cons_succ]
          refine wpAnyH_done (by kernel_rfl) ?_ _
          clear HT HX HL
          generalize (X.setRow tb #[.int .i64 R2, .int .i64 C2, .slice (some ⟨yb2, 0, none⟩) (R2 * C2) ycap2]) = V at HL2 ⊢
          obtain ⟨b2, cap2, yb', ycap', hG, hY, hx, hr1, hr2, hok, _, _⟩ := HL2.out.1.bo
          injection hx with hx
          have hx2 := congrArg Array.toList hx
          simp at hx2
          obtain ⟨hyy, hcc⟩ := hx2
          subst hyy hcc
          have HGG := Lib.hid hG
          have HYY := Lib.hid hY
          have HOK := Lib.hid hok
          clear hG hY hx hr1 hr2 hok
          cases hq : hasC R2 C2 oa ob with
          | false =>
            have hcx : True := trivial
            obtain ⟨cx, hcx2⟩ : ∃ cx, zeC = cx := ⟨_, rfl⟩
            have HAT : Hid (∀ X : World, Below V.drew.heap.size V.drew X → Calls Try.prog 11 #[.pointer (some ⟨g, 0, none⟩), .int .i64 oa, .int .i64 ob] X fun e w' => e = .returned (.tuple #[cV cx, .int .i64 1]) ∧ Below X.heap.size X w') := Lib.hid (fun X hX => by
              have hz := at_gr (HGG.out.below ((Below.refl V.heap.size V).drew.trans hX)) (oa : Int) (ob : Int)
              rw [hq, if_neg (by decide), hcx2] at hz
              exact hz)
            obtain ⟨xp, xf, xg, xb⟩ := cx
            unfold cV at HAT
            clear hcx hcx2
            have HB14 := Lib.hid (Below.refl V.drew.heap.size V.drew)
            have HSV := Lib.hid (fun (X : World) (hX : Below V.drew.heap.size V.drew X) => HL2.out.2.drew.trans (hX.mono HL2.out.2.size))
            go_upto_region 14 with fail
            go_cut [13, 14] (fun a z wx => ∃ hb : Nat, a = .pointer (some ⟨hb, 0, none⟩) ∧ z = .int .i64 1 ∧ Hid (wx.heap[hb]? = some (.cells #[.int .i32 xp, .int .u8 xf, .int .u32 xg, .int .u32 xb] 39 (0, 0)) ∧ Below V.drew.heap.size V.drew wx))
            case first =>
              refine wp_region_held_drew (S := fun W => Below V.drew.heap.size V.drew W) (by kernel_rfl) (Below.refl _ _) (fun hHeld => ?_)
              obtain ⟨VD, hVD⟩ : ∃ X, V.drew = X := ⟨_, rfl⟩
              simp only [hVD] at HB14 HSV HAT hHeld ⊢
              have HVD := Lib.hid hVD
              clear hVD
              refine wpAnyH_take (i := 0) (v := ?_) (by simp; rfl) (by kernel_rfl) (by kernel_rfl) (by kernel_rfl) (by exact fun _ _ _ h => h) (Or.inl ⟨by rfl, fun wx hSx => ?_⟩) hHeld ?_
              rotate_left
              · clear hSx; go_simp; (try with_reducible rfl)
              simp only [Act.put, List.setIfInBounds_toArray, List.set_cons_zero, List.set_cons_succ]
              refine wpAnyH_take (i := 1) (v := ?_) (by simp; rfl) (by kernel_rfl) (by kernel_rfl) (by kernel_rfl) (by exact fun _ _ _ h => h) (Or.inl ⟨by rfl, fun wx hSx => ?_⟩) hHeld ?_
              rotate_left
              · clear hSx; go_simp; (try with_reducible rfl)
              simp only [Act.put, List.setIfInBounds_toArray, List.set_cons_zero, List.set_cons_succ]
              refine wpAnyH_take (i := 2) (v := ?_) (by simp; rfl) (by kernel_rfl) (by kernel_rfl) (by kernel_rfl) (by exact fun _ _ _ h => h) (Or.inl ⟨by rfl, fun wx hSx => ?_⟩) hHeld ?_
              rotate_left
              · clear hSx; go_simp; (try with_reducible rfl)
              simp only [Act.put, List.setIfInBounds_toArray, List.set_cons_zero, List.set_cons_succ]
              refine wpAnyH_take (i := 3) (v := ?_) (by simp; rfl) (by kernel_rfl) (by kernel_rfl) (by kernel_rfl) (by exact fun _ _ _ h => h) (Or.inl ⟨by rfl, fun wx hSx => ?_⟩) hHeld ?_
              rotate_left
              · clear hSx; go_simp; (try with_reducible rfl)
              simp only [Act.put, List.setIfInBounds_toArray, List.set_cons_zero, List.set_cons_succ]
              refine wpAnyH_take (i := 4) (v := ?_) (by simp; rfl) (by kernel_rfl) (by kernel_rfl) (by kernel_rfl) (by exact fun _ _ _ h => h) (Or.inl ⟨by rfl, fun wx hSx => ?_⟩) hHeld ?_
              rotate_left
              · clear hSx; go_simp; (try with_reducible rfl)
              simp only [Act.put, List.setIfInBounds_toArray, List.set_cons_zero, List.set_cons_succ]
              refine wpAnyH_take (i := 5) (v := ?_) (by simp; rfl) (by kernel_rfl) (by kernel_rfl) (by kernel_rfl) (by exact fun _ _ _ h => h) (Or.inl ⟨by rfl, fun wx hSx => ?_⟩) hHeld ?_
              rotate_left
              · obtain ⟨o0, o1, o2, o3, o4, o5, o6, o7⟩ := HOP.out wx (HSV.out wx hSx); clear hSx; go_simp; (try with_reducible rfl)
              simp only [Act.put, List.setIfInBounds_toArray, List.set_cons_zero, List.set_cons_succ]
              refine wpAnyH_take (i := 6) (v := ?_) (by simp; rfl) (by kernel_rfl) (by kernel_rfl) (by kernel_rfl) (by exact fun _ _ _ h => h) (Or.inl ⟨by rfl, fun wx hSx => ?_⟩) hHeld ?_
              rotate_left
              · clear hSx; go_simp; (try with_reducible rfl)
              simp only [Act.put, List.setIfInBounds_toArray, List.set_cons_zero, List.set_cons_succ]
              refine wpAnyH_take (i := 7) (v := ?_) (by simp; rfl) (by kernel_rfl) (by kernel_rfl) (by kernel_rfl) (by exact fun _ _ _ h => h) (Or.inl ⟨by rfl, fun wx hSx => ?_⟩) hHeld ?_
              rotate_left
              · clear hSx; go_simp; (try with_reducible rfl)
              simp only [Act.put, List.setIfInBounds_toArray, List.set_cons_zero, List.set_cons_succ]
              refine wpAnyH_take (i := 8) (v := ?_) (by simp; rfl) (by kernel_rfl) (by kernel_rfl) (by kernel_rfl) (by exact fun _ _ _ h => h) (Or.inl ⟨by rfl, fun wx hSx => ?_⟩) hHeld ?_
              rotate_left
              · clear hSx; go_simp; (try with_reducible rfl)
              simp only [Act.put, List.setIfInBounds_toArray, List.set_cons_zero, List.set_cons_succ]
              refine wpAnyH_take (i := 9) (v := ?_) (by simp; rfl) (by kernel_rfl) (by kernel_rfl) (by kernel_rfl) (by exact fun _ _ _ h => h) (Or.inl ⟨by rfl, fun wx hSx => ?_⟩) hHeld ?_
              rotate_left
              · clear hSx; go_simp; (try with_reducible rfl)
              simp only [Act.put, List.setIfInBounds_toArray, List.set_cons_zero, List.set_cons_succ]
              refine wpAnyH_take (i := 10) (v := ?_) (by simp; rfl) (by kernel_rfl) (by kernel_rfl) (by kernel_rfl) (by exact fun _ _ _ h => h) (Or.inl ⟨by rfl, fun wx hSx => ?_⟩) hHeld ?_
              rotate_left
              · obtain ⟨o0, o1, o2, o3, o4, o5, o6, o7⟩ := HOP.out wx (HSV.out wx hSx); clear hSx; go_simp; (try with_reducible rfl)
              simp only [Act.put, List.setIfInBounds_toArray, List.set_cons_zero, List.set_cons_succ]
              refine wpAnyH_ready (rs := [11, 15]) (by kernel_rfl) (by simp) ?_
              refine AllReadyH.cons (by simp; rfl) (fun K0 hK0 => ?_) (AllReadyH.cons (by simp; rfl) (fun K0 hK0 => ?_) AllReadyH.nil)
              · go_simp
                refine (HAT.out _ HB14.out).mono ?_
                rintro e c1 ⟨rfl, hbV⟩
                have HB2 := Lib.hid (HB14.out.trans (hbV.mono HB14.out.size))
                clear HB14 hbV
                have HB14 := HB2
                clear HB2
                refine hK0.out _ _ HB14.out (fun _ => ?_)
                clear hK0 K0 hHeld
                have hHeld := HB14.out
                refine wpAnyH_take (i := 12) (v := ?_) (by simp; rfl) (by kernel_rfl) (by kernel_rfl) (by kernel_rfl) (by exact fun _ _ _ h => h) (Or.inl ⟨by rfl, fun wx hSx => ?_⟩) hHeld ?_
                rotate_left
                · clear hSx; go_simp; (try with_reducible rfl)
                simp only [Act.put, List.setIfInBounds_toArray, List.set_cons_zero, List.set_cons_succ]
                refine wpAnyH_take (i := 13) (v := ?_) (by simp; rfl) (by kernel_rfl) (by kernel_rfl) (by kernel_rfl) (by exact fun _ _ _ h => h) (Or.inl ⟨by rfl, fun wx hSx => ?_⟩) hHeld ?_
                rotate_left
                · clear hSx; go_simp; (try with_reducible rfl)
                simp only [Act.put, List.setIfInBounds_toArray, List.set_cons_zero, List.set_cons_succ]
                refine wpAnyH_take (i := 14) (v := ?_) (by simp; rfl) (by kernel_rfl) (by kernel_rfl) (by kernel_rfl) (by exact fun _ _ _ h => h) (Or.inl ⟨by rfl, fun wx hSx => ?_⟩) hHeld ?_
                rotate_left
                · clear hSx; go_simp; (try with_reducible rfl)
                simp only [Act.put, List.setIfInBounds_toArray, List.set_cons_zero, List.set_cons_succ]
                refine wpAnyH_ready (rs := [15]) (by kernel_rfl) (by simp) ?_
                refine AllReadyH.cons (by simp; rfl) (fun K0 hK0 => ?_) AllReadyH.nil
                go_simp
                have hbV : Below c1.heap.size c1 (c1.alloc (.cells #[.int .i32 0, .int .u8 0, .int .u32 0, .int .u32 0] 39)) := (Below.refl _ _).alloc (Nat.le_refl _) _
                have HT9 := Lib.hid (show (c1.alloc (.cells #[.int .i32 0, .int .u8 0, .int .u32 0, .int .u32 0] 39)).heap[c1.heap.size]? = some (.cells #[.int .i32 0, .int .u8 0, .int .u32 0, .int .u32 0] 39 (0, 0)) from heap_alloc_new c1 _)
                have hle14 := HB14.out.size
                have HB2 := Lib.hid (HB14.out.trans (hbV.mono HB14.out.size))
                clear HB14 hbV
                have HB14 := HB2
                clear HB2
                obtain ⟨hb, hhb⟩ : ∃ g, c1.heap.size = g := ⟨_, rfl⟩
                have HLE := Lib.hid (show VD.heap.size ≤ hb from by rw [← hhb]; exact hle14)
                rw [hhb] at HT9 ⊢
                clear hhb hle14
                generalize (c1.alloc (.cells #[.int .i32 0, .int .u8 0, .int .u32 0, .int .u32 0] 39)) = a2 at HT9 HB14 ⊢
                refine hK0.out _ _ HB14.out (fun _ => ?_)
                clear hK0 K0 hHeld
                have hHeld := HB14.out
                refine wpAnyH_ready (rs := [16]) (by kernel_rfl) (by simp) ?_
                refine AllReadyH.cons (by simp; rfl) (fun K0 hK0 => ?_) AllReadyH.nil
                have hrow := HT9.out
                refine step_store_row rfl 39 (.tmp 13) (.tmp 75) rfl hb #[.int .i32 xp, .int .u8 xf, .int .u32 xg, .int .u32 xb] rfl rfl 39 _ hrow (by kernel_rfl) rfl (by simp [Value.oneCell']) ?_
                simp only [Act.put, List.setIfInBounds_toArray, List.set_cons_zero, List.set_cons_succ]
                have HSB := below_setRow HB14.out HLE.out #[.int .i32 xp, .int .u8 xf, .int .u32 xg, .int .u32 xb]
                have HEND := Lib.hid (And.intro (setRow_heap _ _ _ #[.int .i32 xp, .int .u8 xf, .int .u32 xg, .int .u32 xb] _ _ hrow) HSB)
                refine hK0.out _ _ HSB (fun _ => ?_)
                clear hK0 K0 hHeld hrow
                have hHeld := HSB
                refine wpAnyH_take (i := 17) (v := ?_) (by simp; rfl) (by kernel_rfl) (by kernel_rfl) (by kernel_rfl) (by exact fun _ _ _ h => h) (Or.inl ⟨by rfl, fun wx hSx => ?_⟩) hHeld ?_
                rotate_left
                · clear hSx; go_simp; (try with_reducible rfl)
                simp only [Act.put, List.setIfInBounds_toArray, List.set_cons_zero, List.set_cons_succ]
                refine wpAnyH_done (by kernel_rfl) ?_ _
                go_wp2
                go_meet
                exact ⟨hb, rfl, rfl, by rw [HVD.out]; exact HEND⟩
              · go_simp
                have hbV : Below VD.heap.size VD (VD.alloc (.cells #[.int .i32 0, .int .u8 0, .int .u32 0, .int .u32 0] 39)) := (Below.refl _ _).alloc (Nat.le_refl _) _
                have HT9 := Lib.hid (show (VD.alloc (.cells #[.int .i32 0, .int .u8 0, .int .u32 0, .int .u32 0] 39)).heap[VD.heap.size]? = some (.cells #[.int .i32 0, .int .u8 0, .int .u32 0, .int .u32 0] 39 (0, 0)) from heap_alloc_new VD _)
                have hle14 := HB14.out.size
                have HB2 := Lib.hid (HB14.out.trans (hbV.mono HB14.out.size))
                clear HB14 hbV
                have HB14 := HB2
                clear HB2
                obtain ⟨hb, hhb⟩ : ∃ g, VD.heap.size = g := ⟨_, rfl⟩
                have HLE := Lib.hid (show VD.heap.size ≤ hb from by rw [← hhb]; exact hle14)
                rw [hhb] at HT9 ⊢
                clear hhb hle14
                generalize (VD.alloc (.cells #[.int .i32 0, .int .u8 0, .int .u32 0, .int .u32 0] 39)) = a1 at HT9 HB14 ⊢
                refine hK0.out _ _ HB14.out (fun _ => ?_)
                clear hK0 K0 hHeld
                have hHeld := HB14.out
                refine wpAnyH_ready (rs := [11]) (by kernel_rfl) (by simp) ?_
                refine AllReadyH.cons (by simp; rfl) (fun K0 hK0 => ?_) AllReadyH.nil
                go_simp
                refine (HAT.out _ HB14.out).mono ?_
                rintro e c2 ⟨rfl, hbV⟩
                have HT92 := Lib.hid ((hbV.block _ (lt_of_block HT9.out)).trans HT9.out)
                clear HT9
                have HT9 := HT92
                clear HT92
                have HB2 := Lib.hid (HB14.out.trans (hbV.mono HB14.out.size))
                clear HB14 hbV
                have HB14 := HB2
                clear HB2
                refine hK0.out _ _ HB14.out (fun _ => ?_)
                clear hK0 K0 hHeld
                have hHeld := HB14.out
                refine wpAnyH_take (i := 12) (v := ?_) (by simp; rfl) (by kernel_rfl) (by kernel_rfl) (by kernel_rfl) (by exact fun _ _ _ h => h) (Or.inl ⟨by rfl, fun wx hSx => ?_⟩) hHeld ?_
                rotate_left
                · clear hSx; go_simp; (try with_reducible rfl)
                simp only [Act.put, List.setIfInBounds_toArray, List.set_cons_zero, List.set_cons_succ]
                refine wpAnyH_take (i := 13) (v := ?_) (by simp; rfl) (by kernel_rfl) (by kernel_rfl) (by kernel_rfl) (by exact fun _ _ _ h => h) (Or.inl ⟨by rfl, fun wx hSx => ?_⟩) hHeld ?_
                rotate_left
                · clear hSx; go_simp; (try with_reducible rfl)
                simp only [Act.put, List.setIfInBounds_toArray, List.set_cons_zero, List.set_cons_succ]
                refine wpAnyH_take (i := 14) (v := ?_) (by simp; rfl) (by kernel_rfl) (by kernel_rfl) (by kernel_rfl) (by exact fun _ _ _ h => h) (Or.inl ⟨by rfl, fun wx hSx => ?_⟩) hHeld ?_
                rotate_left
                · clear hSx; go_simp; (try with_reducible rfl)
                simp only [Act.put, List.setIfInBounds_toArray, List.set_cons_zero, List.set_cons_succ]
                refine wpAnyH_ready (rs := [16]) (by kernel_rfl) (by simp) ?_
                refine AllReadyH.cons (by simp; rfl) (fun K0 hK0 => ?_) AllReadyH.nil
                have hrow := HT9.out
                refine step_store_row rfl 39 (.tmp 13) (.tmp 75) rfl hb #[.int .i32 xp, .int .u8 xf, .int .u32 xg, .int .u32 xb] rfl rfl 39 _ hrow (by kernel_rfl) rfl (by simp [Value.oneCell']) ?_
                simp only [Act.put, List.setIfInBounds_toArray, List.set_cons_zero, List.set_cons_succ]
                have HSB := below_setRow HB14.out HLE.out #[.int .i32 xp, .int .u8 xf, .int .u32 xg, .int .u32 xb]
                have HEND := Lib.hid (And.intro (setRow_heap _ _ _ #[.int .i32 xp, .int .u8 xf, .int .u32 xg, .int .u32 xb] _ _ hrow) HSB)
                refine hK0.out _ _ HSB (fun _ => ?_)
                clear hK0 K0 hHeld hrow
                have hHeld := HSB
                refine wpAnyH_take (i := 17) (v := ?_) (by simp; rfl) (by kernel_rfl) (by kernel_rfl) (by kernel_rfl) (by exact fun _ _ _ h => h) (Or.inl ⟨by rfl, fun wx hSx => ?_⟩) hHeld ?_
                rotate_left
                · clear hSx; go_simp; (try with_reducible rfl)
                simp only [Act.put, List.setIfInBounds_toArray, List.set_cons_zero, List.set_cons_succ]
                refine wpAnyH_done (by kernel_rfl) ?_ _
                go_wp2
                go_meet
                exact ⟨hb, rfl, rfl, by rw [HVD.out]; exact HEND⟩
            case rest =>
              obtain ⟨hb, rfl, rfl, HEND⟩ := hcut
              have HL3 := Lib.hid (And.intro (HL2.out.1.next ((Below.refl V.heap.size V).drew.trans HEND.out.2)) (HL2.out.2.drew.trans (HEND.out.2.mono HL2.out.2.size)))
              have HSC := Lib.hid (fun (X : World) (hX : Below wc.drew.heap.size wc.drew X) => HL3.out.2.drew.trans (hX.mono HL3.out.2.size))
              have HLC := Lib.hid (fun (X : World) (hX : Below wc.drew.heap.size wc.drew X) => (HL3.out.1.next ((Below.refl wc.heap.size wc).drew.trans hX)).cells)
              have HT3 := Lib.hid (fun (X : World) (hX : Below wc.drew.heap.size wc.drew X) => four_cells ((hX.block _ (show hb < wc.heap.size from lt_of_block HEND.out.1)).trans HEND.out.1))
              have HB15 := Lib.hid (Below.refl wc.drew.heap.size wc.drew)
              go_wp2_with fail
              refine wp_region_held_drew (S := fun W => Below wc.drew.heap.size wc.drew W) (by kernel_rfl) (Below.refl _ _) (fun hHeld => ?_)
              refine wpAnyH_take (i := 0) (v := ?_) (by simp; rfl) (by kernel_rfl) (by kernel_rfl) (by kernel_rfl) (by exact fun _ _ _ h => h) (Or.inl ⟨by rfl, fun wx hSx => ?_⟩) hHeld ?_
              rotate_left
              · obtain ⟨x0, x1, x2⟩ := HLC.out wx hSx; clear hSx; go_simp; (try with_reducible rfl)
              simp only [Act.put, List.setIfInBounds_toArray, List.set_cons_zero, List.set_cons_succ]
              refine wpAnyH_take (i := 1) (v := ?_) (by simp; rfl) (by kernel_rfl) (by kernel_rfl) (by kernel_rfl) (by exact fun _ _ _ h => h) (Or.inl ⟨by rfl, fun wx hSx => ?_⟩) hHeld ?_
              rotate_left
              · clear hSx; go_simp; (try with_reducible rfl)
              simp only [Act.put, List.setIfInBounds_toArray, List.set_cons_zero, List.set_cons_succ]
              refine wpAnyH_take (i := 2) (v := ?_) (by simp; rfl) (by kernel_rfl) (by kernel_rfl) (by kernel_rfl) (by exact fun _ _ _ h => h) (Or.inl ⟨by rfl, fun wx hSx => ?_⟩) hHeld ?_
              rotate_left
              · clear hSx; go_simp; (try with_reducible rfl)
              simp only [Act.put, List.setIfInBounds_toArray, List.set_cons_zero, List.set_cons_succ]
              refine wpAnyH_take (i := 3) (v := ?_) (by simp; rfl) (by kernel_rfl) (by kernel_rfl) (by kernel_rfl) (by exact fun _ _ _ h => h) (Or.inl ⟨by rfl, fun wx hSx => ?_⟩) hHeld ?_
              rotate_left
              · clear hSx; go_simp; (try with_reducible rfl)
              simp only [Act.put, List.setIfInBounds_toArray, List.set_cons_zero, List.set_cons_succ]
              refine wpAnyH_take (i := 4) (v := ?_) (by simp; rfl) (by kernel_rfl) (by kernel_rfl) (by kernel_rfl) (by exact fun _ _ _ h => h) (Or.inl ⟨by rfl, fun wx hSx => ?_⟩) hHeld ?_
              rotate_left
              · clear hSx; go_simp; (try with_reducible rfl)
              simp only [Act.put, List.setIfInBounds_toArray, List.set_cons_zero, List.set_cons_succ]
              refine wpAnyH_take (i := 5) (v := ?_) (by simp; rfl) (by kernel_rfl) (by kernel_rfl) (by kernel_rfl) (by exact fun _ _ _ h => h) (Or.inl ⟨by rfl, fun wx hSx => ?_⟩) hHeld ?_
              rotate_left
              · obtain ⟨o0, o1, o2, o3, o4, o5, o6, o7⟩ := HOP.out wx (HSC.out wx hSx); clear hSx; go_simp; (try with_reducible rfl)
              simp only [Act.put, List.setIfInBounds_toArray, List.set_cons_zero, List.set_cons_succ]
              refine wpAnyH_take (i := 6) (v := ?_) (by simp; rfl) (by kernel_rfl) (by kernel_rfl) (by kernel_rfl) (by exact fun _ _ _ h => h) (Or.inl ⟨by rfl, fun wx hSx => ?_⟩) hHeld ?_
              rotate_left
              · clear hSx; go_simp; (try with_reducible rfl)
              simp only [Act.put, List.setIfInBounds_toArray, List.set_cons_zero, List.set_cons_succ]
              refine wpAnyH_take (i := 7) (v := ?_) (by simp; rfl) (by kernel_rfl) (by kernel_rfl) (by kernel_rfl) (by exact fun _ _ _ h => h) (Or.inl ⟨by rfl, fun wx hSx => ?_⟩) hHeld ?_
              rotate_left
              · clear hSx; go_simp; (try with_reducible rfl)
              simp only [Act.put, List.setIfInBounds_toArray, List.set_cons_zero, List.set_cons_succ]
              refine wpAnyH_take (i := 8) (v := ?_) (by simp; rfl) (by kernel_rfl) (by kernel_rfl) (by kernel_rfl) (by exact fun _ _ _ h => h) (Or.inl ⟨by rfl, fun wx hSx => ?_⟩) hHeld ?_
              rotate_left
              · clear hSx; go_simp; (try with_reducible rfl)
              simp only [Act.put, List.setIfInBounds_toArray, List.set_cons_zero, List.set_cons_succ]
              refine wpAnyH_take (i := 9) (v := ?_) (by simp; rfl) (by kernel_rfl) (by kernel_rfl) (by kernel_rfl) (by exact fun _ _ _ h => h) (Or.inl ⟨by rfl, fun wx hSx => ?_⟩) hHeld ?_
              rotate_left
              · clear hSx; go_simp; (try with_reducible rfl)
              simp only [Act.put, List.setIfInBounds_toArray, List.set_cons_zero, List.set_cons_succ]
              refine wpAnyH_take (i := 10) (v := ?_) (by simp; rfl) (by kernel_rfl) (by kernel_rfl) (by kernel_rfl) (by exact fun _ _ _ h => h) (Or.inl ⟨by rfl, fun wx hSx => ?_⟩) hHeld ?_
              rotate_left
              · obtain ⟨o0, o1, o2, o3, o4, o5, o6, o7⟩ := HOP.out wx (HSC.out wx hSx); clear hSx; go_simp; (try with_reducible rfl)
              simp only [Act.put, List.setIfInBounds_toArray, List.set_cons_zero, List.set_cons_succ]
              refine wpAnyH_take (i := 12) (v := ?_) (by simp; rfl) (by kernel_rfl) (by kernel_rfl) (by kernel_rfl) (by exact fun _ _ _ h => h) (Or.inl ⟨by rfl, fun wx hSx => ?_⟩) hHeld ?_
              rotate_left
              · clear hSx; go_simp; (try with_reducible rfl)
              simp only [Act.put, List.setIfInBounds_toArray, List.set_cons_zero, List.set_cons_succ]
              refine wpAnyH_take (i := 13) (v := ?_) (by simp; rfl) (by kernel_rfl) (by kernel_rfl) (by kernel_rfl) (by exact fun _ _ _ h => h) (Or.inl ⟨by rfl, fun wx hSx => ?_⟩) hHeld ?_
              rotate_left
              · clear hSx; go_simp; (try with_reducible rfl)
              simp only [Act.put, List.setIfInBounds_toArray, List.set_cons_zero, List.set_cons_succ]
              refine wpAnyH_ready (rs := [11]) (by kernel_rfl) (by simp) ?_
              refine AllReadyH.cons (by simp; rfl) (fun K0 hK0 => ?_) AllReadyH.nil
              go_simp
              refine (rhas_any _ _ _ _ _ _ _ _).mono ?_
              rintro e d1 ⟨rfl, hbV⟩
              have HB2 := Lib.hid (HB15.out.trans (hbV.mono HB15.out.size))
              clear HB15 hbV
              have HB15 := HB2
              clear HB2
              refine hK0.out _ _ HB15.out (fun _ => ?_)
              clear hK0 K0 hHeld
              have hHeld := HB15.out
              rw [hq]
              refine wpAnyH_take (i := 14) (v := ?_) (by simp; rfl) (by kernel_rfl) (by kernel_rfl) (by kernel_rfl) (by exact fun _ _ _ h => h) (Or.inl ⟨by rfl, fun wx hSx => ?_⟩) hHeld ?_
              rotate_left
              · clear hSx; go_simp; (try with_reducible rfl)
              simp only [Act.put, List.setIfInBounds_toArray, List.set_cons_zero, List.set_cons_succ]
              refine wpAnyH_take (i := 15) (v := ?_) (by simp; rfl) (by kernel_rfl) (by kernel_rfl) (by kernel_rfl) (by exact fun _ _ _ h => h) (Or.inl ⟨by rfl, fun wx hSx => ?_⟩) hHeld ?_
              rotate_left
              · clear hSx; go_simp; (try with_reducible rfl)
              simp only [Act.put, List.setIfInBounds_toArray, List.set_cons_zero, List.set_cons_succ]
              refine wpAnyH_take (i := 16) (v := ?_) (by simp; rfl) (by kernel_rfl) (by kernel_rfl) (by kernel_rfl) (by exact fun _ _ _ h => h) (Or.inl ⟨by rfl, fun wx hSx => ?_⟩) hHeld ?_
              rotate_left
              · clear hSx; go_simp; (try with_reducible rfl)
              simp only [Act.put, List.setIfInBounds_toArray, List.set_cons_zero, List.set_cons_succ]
              refine wpAnyH_take (i := 17) (v := ?_) (by simp; rfl) (by kernel_rfl) (by kernel_rfl) (by kernel_rfl) (by exact fun _ _ _ h => h) (Or.inl ⟨by rfl, fun wx hSx => ?_⟩) hHeld ?_
              rotate_left
              · clear hSx; go_simp; (try with_reducible rfl)
              simp only [Act.put, List.setIfInBounds_toArray, List.set_cons_zero, List.set_cons_succ]
              refine wpAnyH_take (i := 18) (v := ?_) (by simp; rfl) (by kernel_rfl) (by kernel_rfl) (by kernel_rfl) (by exact fun _ _ _ h => h) (Or.inl ⟨by rfl, fun wx hSx => ?_⟩) hHeld ?_
              rotate_left
              · clear hSx; go_simp; (try with_reducible rfl)
              simp only [Act.put, List.setIfInBounds_toArray, List.set_cons_zero, List.set_cons_succ]
              refine wpAnyH_take (i := 19) (v := undef) (by simp; rfl) (by kernel_rfl) (by kernel_rfl) (by kernel_rfl) (by exact fun _ _ _ h => h) (Or.inr ⟨by rfl, rfl⟩) hHeld ?_
              simp only [Act.put, List.setIfInBounds_toArray, List.set_cons_zero, List.set_cons_succ]
              refine wpAnyH_take (i := 20) (v := undef) (by simp; rfl) (by kernel_rfl) (by kernel_rfl) (by kernel_rfl) (by exact fun _ _ _ h => h) (Or.inr ⟨by rfl, rfl⟩) hHeld ?_
              simp only [Act.put, List.setIfInBounds_toArray, List.set_cons_zero, List.set_cons_succ]
              refine wpAnyH_take (i := 21) (v := undef) (by simp; rfl) (by kernel_rfl) (by kernel_rfl) (by kernel_rfl) (by exact fun _ _ _ h => h) (Or.inr ⟨by rfl, rfl⟩) hHeld ?_
              simp only [Act.put, List.setIfInBounds_toArray, List.set_cons_zero, List.set_cons_succ]
              refine wpAnyH_take (i := 22) (v := undef) (by simp; rfl) (by kernel_rfl) (by kernel_rfl) (by kernel_rfl) (by exact fun _ _ _ h => h) (Or.inr ⟨by rfl, rfl⟩) hHeld ?_
              simp only [Act.put, List.setIfInBounds_toArray, List.set_cons_zero, List.set_cons_succ]
              refine wpAnyH_take (i := 23) (v := undef) (by simp; rfl) (by kernel_rfl) (by kernel_rfl) (by kernel_rfl) (by exact fun _ _ _ h => h) (Or.inr ⟨by rfl, rfl⟩) hHeld ?_
              simp only [Act.put, List.setIfInBounds_toArray, List.set_cons_zero, List.set_cons_succ]
              refine wpAnyH_take (i := 24) (v := undef) (by simp; rfl) (by kernel_rfl) (by kernel_rfl) (by kernel_rfl) (by exact fun _ _ _ h => h) (Or.inr ⟨by rfl, rfl⟩) hHeld ?_
              simp only [Act.put, List.setIfInBounds_toArray, List.set_cons_zero, List.set_cons_succ]
              refine wpAnyH_take (i := 25) (v := undef) (by simp; rfl) (by kernel_rfl) (by kernel_rfl) (by kernel_rfl) (by exact fun _ _ _ h => h) (Or.inr ⟨by rfl, rfl⟩) hHeld ?_
              simp only [Act.put, List.setIfInBounds_toArray, List.set_cons_zero, List.set_cons_succ]
              refine wpAnyH_take (i := 26) (v := undef) (by simp; rfl) (by kernel_rfl) (by kernel_rfl) (by kernel_rfl) (by exact fun _ _ _ h => h) (Or.inr ⟨by rfl, rfl⟩) hHeld ?_
              simp only [Act.put, List.setIfInBounds_toArray, List.set_cons_zero, List.set_cons_succ]
              refine wpAnyH_take (i := 27) (v := undef) (by simp; rfl) (by kernel_rfl) (by kernel_rfl) (by kernel_rfl) (by exact fun _ _ _ h => h) (Or.inr ⟨by rfl, rfl⟩) hHeld ?_
              simp only [Act.put, List.setIfInBounds_toArray, List.set_cons_zero, List.set_cons_succ]
              refine wpAnyH_take (i := 28) (v := undef) (by simp; rfl) (by kernel_rfl) (by kernel_rfl) (by kernel_rfl) (by exact fun _ _ _ h => h) (Or.inr ⟨by rfl, rfl⟩) hHeld ?_
              simp only [Act.put, List.setIfInBounds_toArray, List.set_cons_zero, List.set_cons_succ]
              refine wpAnyH_take (i := 29) (v := undef) (by simp; rfl) (by kernel_rfl) (by kernel_rfl) (by kernel_rfl) (by exact fun _ _ _ h => h) (Or.inr ⟨by rfl, rfl⟩) hHeld ?_
              simp only [Act.put, List.setIfInBounds_toArray, List.set_cons_zero, List.set_cons_succ]
              refine wpAnyH_take (i := 30) (v := undef) (by simp; rfl) (by kernel_rfl) (by kernel_rfl) (by kernel_rfl) (by exact fun _ _ _ h => h) (Or.inr ⟨by rfl, rfl⟩) hHeld ?_
              simp only [Act.put, List.setIfInBounds_toArray, List.set_cons_zero, List.set_cons_succ]
              refine wpAnyH_take (i := 31) (v := undef) (by simp; rfl) (by kernel_rfl) (by kernel_rfl) (by kernel_rfl) (by exact fun _ _ _ h => h) (Or.inr ⟨by rfl, rfl⟩) hHeld ?_
              simp only [Act.put, List.setIfInBounds_toArray, List.set_cons_zero, List.set_cons_succ]
              refine wpAnyH_take (i := 32) (v := undef) (by simp; rfl) (by kernel_rfl) (by kernel_rfl) (by kernel_rfl) (by exact fun _ _ _ h => h) (Or.inr ⟨by rfl, rfl⟩) hHeld ?_
              simp only [Act.put, List.setIfInBounds_toArray, List.set_cons_zero, List.set_cons_succ]
              refine wpAnyH_take (i := 33) (v := undef) (by simp; rfl) (by kernel_rfl) (by kernel_rfl) (by kernel_rfl) (by exact fun _ _ _ h => h) (Or.inr ⟨by rfl, rfl⟩) hHeld ?_
              simp only [Act.put, List.setIfInBounds_toArray, List.set_cons_zero, List.set_cons_succ]
              refine wpAnyH_take (i := 34) (v := ?_) (by simp; rfl) (by kernel_rfl) (by kernel_rfl) (by kernel_rfl) (by exact fun _ _ _ h => h) (Or.inl ⟨by rfl, fun wx hSx => ?_⟩) hHeld ?_
              rotate_left
              · clear hSx; go_simp; (try with_reducible rfl)
              simp only [Act.put, List.setIfInBounds_toArray, List.set_cons_zero, List.set_cons_succ]
              refine wpAnyH_take (i := 35) (v := ?_) (by simp; rfl) (by kernel_rfl) (by kernel_rfl) (by kernel_rfl) (by exact fun _ _ _ h => h) (Or.inl ⟨by rfl, fun wx hSx => ?_⟩) hHeld ?_
              rotate_left
              · clear hSx; go_simp; (try with_reducible rfl)
              simp only [Act.put, List.setIfInBounds_toArray, List.set_cons_zero, List.set_cons_succ]
              refine wpAnyH_take (i := 36) (v := ?_) (by simp; rfl) (by kernel_rfl) (by kernel_rfl) (by kernel_rfl) (by exact fun _ _ _ h => h) (Or.inl ⟨by rfl, fun wx hSx => ?_⟩) hHeld ?_
              rotate_left
              · clear hSx; go_simp; (try with_reducible rfl)
              simp only [Act.put, List.setIfInBounds_toArray, List.set_cons_zero, List.set_cons_succ]
              refine wpAnyH_take (i := 37) (v := ?_) (by simp; rfl) (by kernel_rfl) (by kernel_rfl) (by kernel_rfl) (by exact fun _ _ _ h => h) (Or.inl ⟨by rfl, fun wx hSx => ?_⟩) hHeld ?_
              rotate_left
              · clear hSx; go_simp; (try with_reducible rfl)
              simp only [Act.put, List.setIfInBounds_toArray, List.set_cons_zero, List.set_cons_succ]
              refine wpAnyH_take (i := 38) (v := ?_) (by simp; rfl) (by kernel_rfl) (by kernel_rfl) (by kernel_rfl) (by exact fun _ _ _ h => h) (Or.inl ⟨by rfl, fun wx hSx => ?_⟩) hHeld ?_
              rotate_left
              · clear hSx; go_simp; (try with_reducible rfl)
              simp only [Act.put, List.setIfInBounds_toArray, List.set_cons_zero, List.set_cons_succ]
              refine wpAnyH_take (i := 39) (v := ?_) (by simp; rfl) (by kernel_rfl) (by kernel_rfl) (by kernel_rfl) (by exact fun _ _ _ h => h) (Or.inl ⟨by rfl, fun wx hSx => ?_⟩) hHeld ?_
              rotate_left
              · clear hSx; go_simp; (try with_reducible rfl)
              simp only [Act.put, List.setIfInBounds_toArray, List.set_cons_zero, List.set_cons_succ]
              refine wpAnyH_take (i := 40) (v := ?_) (by simp; rfl) (by kernel_rfl) (by kernel_rfl) (by kernel_rfl) (by exact fun _ _ _ h => h) (Or.inl ⟨by rfl, fun wx hSx => ?_⟩) hHeld ?_
              rotate_left
              · clear hSx; go_simp; (try with_reducible rfl)
              simp only [Act.put, List.setIfInBounds_toArray, List.set_cons_zero, List.set_cons_succ]
              refine wpAnyH_take (i := 41) (v := ?_) (by simp; rfl) (by kernel_rfl) (by kernel_rfl) (by kernel_rfl) (by exact fun _ _ _ h => h) (Or.inl ⟨by rfl, fun wx hSx => ?_⟩) hHeld ?_
              rotate_left
              · clear hSx; go_simp; (try with_reducible rfl)
              simp only [Act.put, List.setIfInBounds_toArray, List.set_cons_zero, List.set_cons_succ]
              refine wpAnyH_take (i := 42) (v := ?_) (by simp; rfl) (by kernel_rfl) (by kernel_rfl) (by kernel_rfl) (by exact fun _ _ _ h => h) (Or.inl ⟨by rfl, fun wx hSx => ?_⟩) hHeld ?_
              rotate_left
              · clear hSx; go_simp; (try with_reducible rfl)
              simp only [Act.put, List.setIfInBounds_toArray, List.set_cons_zero, List.set_cons_succ]
              refine wpAnyH_take (i := 43) (v := ?_) (by simp; rfl) (by kernel_rfl) (by kernel_rfl) (by kernel_rfl) (by exact fun _ _ _ h => h) (Or.inl ⟨by rfl, fun wx hSx => ?_⟩) hHeld ?_
              rotate_left
              · clear hSx; go_simp; (try with_reducible rfl)
              simp only [Act.put, List.setIfInBounds_toArray, List.set_cons_zero, List.set_cons_succ]
              refine wpAnyH_done (by kernel_rfl) ?_ _
              have HL4 := Lib.hid (And.intro (HL3.out.1.next ((Below.refl wc.heap.size wc).drew.trans HB15.out)) (HSC.out _ HB15.out))
              clear hHeld 
              go_wp2
              go_roundw
              case rel => exact ⟨i + 1, by go_num, by have := HIN.out; omega, R2, C2, yb2, ycap2, L2, HL4⟩
              case measure => have := HIN.out; simp [intOf]; omega
          | true =>
            obtain ⟨ci, cj, rfl, rfl, hci, hcj⟩ := has_bounds hq
            have hkl : ci * C2 + cj < R2 * C2 := ix_lt hci hcj
            obtain ⟨cx, hcx⟩ : ∃ cx, ceAt L2 (ci * C2 + cj) = cx := ⟨_, rfl⟩
            have hcok : OkC cx := by rw [← hcx]; exact okC_at HOK.out _
            have HAT : Hid (∀ X : World, Below V.drew.heap.size V.drew X → Calls Try.prog 11 #[.pointer (some ⟨g, 0, none⟩), .int .i64 ci, .int .i64 cj] X fun e w' => e = .returned (.tuple #[cV cx, .int .i64 0]) ∧ Below X.heap.size X w') := Lib.hid (fun X hX => by
              have hz := at_gr (HGG.out.below ((Below.refl V.heap.size V).drew.trans hX)) (ci : Int) (cj : Int)
              rw [hq, if_pos rfl, Int.toNat_natCast, Int.toNat_natCast, hcx] at hz
              exact hz)
            have hce := fun W => l_cell cx W hcok.1 hcok.2
            have hra := fun (X : World) (hX : Below V.heap.size V X) => rat_any (R := R2) (cap := ycap2) (HYY.out.below hX) HGG.out.len (by have := HGG.out.room.2.1; omega) (i := ci) (j := cj) (o := ci * C2) (k := ci * C2 + cj) rfl rfl hkl (by have := HGG.out.pos; omega) (c := cx) hcx
            have heq := fun W => eq_yc hcok hcok W
            simp only [decide_true] at heq
            obtain ⟨xp, xf, xg, xb⟩ := cx
            unfold cV at HAT
            obtain ⟨mp, m0, m1, m2, m3, m4, m5, m6, m7, mg, mb, hm⟩ := yC_form ⟨xp, xf, xg, xb⟩
            unfold yV at hce hra heq
            rw [hm] at hce hra heq
            have HCE := Lib.hid hce
            have HRA0 := Lib.hid hra
            have HEQ := Lib.hid heq
            clear hce hra heq hm hcok hkl hcx hci hcj
            have HB14 := Lib.hid (Below.refl V.drew.heap.size V.drew)
            have HSV := Lib.hid (fun (X : World) (hX : Below V.drew.heap.size V.drew X) => HL2.out.2.drew.trans (hX.mono HL2.out.2.size))
            go_upto_region 14 with fail
            go_cut [13, 14] (fun a z wx => ∃ hb : Nat, a = .pointer (some ⟨hb, 0, none⟩) ∧ z = .int .i64 0 ∧ Hid (wx.heap[hb]? = some (.cells #[.int .i32 xp, .int .u8 xf, .int .u32 xg, .int .u32 xb] 39 (0, 0)) ∧ Below V.drew.heap.size V.drew wx))
            case first =>
              refine wp_region_held_drew (S := fun W => Below V.drew.heap.size V.drew W) (by kernel_rfl) (Below.refl _ _) (fun hHeld => ?_)
              obtain ⟨VD, hVD⟩ : ∃ X, V.drew = X := ⟨_, rfl⟩
              simp only [hVD] at HB14 HSV HAT hHeld ⊢
              have HVD := Lib.hid hVD
              clear hVD
              refine wpAnyH_take (i := 0) (v := ?_) (by simp; rfl) (by kernel_rfl) (by kernel_rfl) (by kernel_rfl) (by exact fun _ _ _ h => h) (Or.inl ⟨by rfl, fun wx hSx => ?_⟩) hHeld ?_
              rotate_left
              · clear hSx; go_simp; (try with_reducible rfl)
              simp only [Act.put, List.setIfInBounds_toArray, List.set_cons_zero, List.set_cons_succ]
              refine wpAnyH_take (i := 1) (v := ?_) (by simp; rfl) (by kernel_rfl) (by kernel_rfl) (by kernel_rfl) (by exact fun _ _ _ h => h) (Or.inl ⟨by rfl, fun wx hSx => ?_⟩) hHeld ?_
              rotate_left
              · clear hSx; go_simp; (try with_reducible rfl)
              simp only [Act.put, List.setIfInBounds_toArray, List.set_cons_zero, List.set_cons_succ]
              refine wpAnyH_take (i := 2) (v := ?_) (by simp; rfl) (by kernel_rfl) (by kernel_rfl) (by kernel_rfl) (by exact fun _ _ _ h => h) (Or.inl ⟨by rfl, fun wx hSx => ?_⟩) hHeld ?_
              rotate_left
              · clear hSx; go_simp; (try with_reducible rfl)
              simp only [Act.put, List.setIfInBounds_toArray, List.set_cons_zero, List.set_cons_succ]
              refine wpAnyH_take (i := 3) (v := ?_) (by simp; rfl) (by kernel_rfl) (by kernel_rfl) (by kernel_rfl) (by exact fun _ _ _ h => h) (Or.inl ⟨by rfl, fun wx hSx => ?_⟩) hHeld ?_
              rotate_left
              · clear hSx; go_simp; (try with_reducible rfl)
              simp only [Act.put, List.setIfInBounds_toArray, List.set_cons_zero, List.set_cons_succ]
              refine wpAnyH_take (i := 4) (v := ?_) (by simp; rfl) (by kernel_rfl) (by kernel_rfl) (by kernel_rfl) (by exact fun _ _ _ h => h) (Or.inl ⟨by rfl, fun wx hSx => ?_⟩) hHeld ?_
              rotate_left
              · clear hSx; go_simp; (try with_reducible rfl)
              simp only [Act.put, List.setIfInBounds_toArray, List.set_cons_zero, List.set_cons_succ]
              refine wpAnyH_take (i := 5) (v := ?_) (by simp; rfl) (by kernel_rfl) (by kernel_rfl) (by kernel_rfl) (by exact fun _ _ _ h => h) (Or.inl ⟨by rfl, fun wx hSx => ?_⟩) hHeld ?_
              rotate_left
              · obtain ⟨o0, o1, o2, o3, o4, o5, o6, o7⟩ := HOP.out wx (HSV.out wx hSx); clear hSx; go_simp; (try with_reducible rfl)
              simp only [Act.put, List.setIfInBounds_toArray, List.set_cons_zero, List.set_cons_succ]
              refine wpAnyH_take (i := 6) (v := ?_) (by simp; rfl) (by kernel_rfl) (by kernel_rfl) (by kernel_rfl) (by exact fun _ _ _ h => h) (Or.inl ⟨by rfl, fun wx hSx => ?_⟩) hHeld ?_
              rotate_left
              · clear hSx; go_simp; (try with_reducible rfl)
              simp only [Act.put, List.setIfInBounds_toArray, List.set_cons_zero, List.set_cons_succ]
              refine wpAnyH_take (i := 7) (v := ?_) (by simp; rfl) (by kernel_rfl) (by kernel_rfl) (by kernel_rfl) (by exact fun _ _ _ h => h) (Or.inl ⟨by rfl, fun wx hSx => ?_⟩) hHeld ?_
              rotate_left
              · clear hSx; go_simp; (try with_reducible rfl)
              simp only [Act.put, List.setIfInBounds_toArray, List.set_cons_zero, List.set_cons_succ]
              refine wpAnyH_take (i := 8) (v := ?_) (by simp; rfl) (by kernel_rfl) (by kernel_rfl) (by kernel_rfl) (by exact fun _ _ _ h => h) (Or.inl ⟨by rfl, fun wx hSx => ?_⟩) hHeld ?_
              rotate_left
              · clear hSx; go_simp; (try with_reducible rfl)
              simp only [Act.put, List.setIfInBounds_toArray, List.set_cons_zero, List.set_cons_succ]
              refine wpAnyH_take (i := 9) (v := ?_) (by simp; rfl) (by kernel_rfl) (by kernel_rfl) (by kernel_rfl) (by exact fun _ _ _ h => h) (Or.inl ⟨by rfl, fun wx hSx => ?_⟩) hHeld ?_
              rotate_left
              · clear hSx; go_simp; (try with_reducible rfl)
              simp only [Act.put, List.setIfInBounds_toArray, List.set_cons_zero, List.set_cons_succ]
              refine wpAnyH_take (i := 10) (v := ?_) (by simp; rfl) (by kernel_rfl) (by kernel_rfl) (by kernel_rfl) (by exact fun _ _ _ h => h) (Or.inl ⟨by rfl, fun wx hSx => ?_⟩) hHeld ?_
              rotate_left
              · obtain ⟨o0, o1, o2, o3, o4, o5, o6, o7⟩ := HOP.out wx (HSV.out wx hSx); clear hSx; go_simp; (try with_reducible rfl)
              simp only [Act.put, List.setIfInBounds_toArray, List.set_cons_zero, List.set_cons_succ]
              refine wpAnyH_ready (rs := [11, 15]) (by kernel_rfl) (by simp) ?_
              refine AllReadyH.cons (by simp; rfl) (fun K0 hK0 => ?_) (AllReadyH.cons (by simp; rfl) (fun K0 hK0 => ?_) AllReadyH.nil)
              · go_simp
                refine (HAT.out _ HB14.out).mono ?_
                rintro e c1 ⟨rfl, hbV⟩
                have HB2 := Lib.hid (HB14.out.trans (hbV.mono HB14.out.size))
                clear HB14 hbV
                have HB14 := HB2
                clear HB2
                refine hK0.out _ _ HB14.out (fun _ => ?_)
                clear hK0 K0 hHeld
                have hHeld := HB14.out
                refine wpAnyH_take (i := 12) (v := ?_) (by simp; rfl) (by kernel_rfl) (by kernel_rfl) (by kernel_rfl) (by exact fun _ _ _ h => h) (Or.inl ⟨by rfl, fun wx hSx => ?_⟩) hHeld ?_
                rotate_left
                · clear hSx; go_simp; (try with_reducible rfl)
                simp only [Act.put, List.setIfInBounds_toArray, List.set_cons_zero, List.set_cons_succ]
                refine wpAnyH_take (i := 13) (v := ?_) (by simp; rfl) (by kernel_rfl) (by kernel_rfl) (by kernel_rfl) (by exact fun _ _ _ h => h) (Or.inl ⟨by rfl, fun wx hSx => ?_⟩) hHeld ?_
                rotate_left
                · clear hSx; go_simp; (try with_reducible rfl)
                simp only [Act.put, List.setIfInBounds_toArray, List.set_cons_zero, List.set_cons_succ]
                refine wpAnyH_take (i := 14) (v := ?_) (by simp; rfl) (by kernel_rfl) (by kernel_rfl) (by kernel_rfl) (by exact fun _ _ _ h => h) (Or.inl ⟨by rfl, fun wx hSx => ?_⟩) hHeld ?_
                rotate_left
                · clear hSx; go_simp; (try with_reducible rfl)
                simp only [Act.put, List.setIfInBounds_toArray, List.set_cons_zero, List.set_cons_succ]
                refine wpAnyH_ready (rs := [15]) (by kernel_rfl) (by simp) ?_
                refine AllReadyH.cons (by simp; rfl) (fun K0 hK0 => ?_) AllReadyH.nil
                go_simp
                have hbV : Below c1.heap.size c1 (c1.alloc (.cells #[.int .i32 0, .int .u8 0, .int .u32 0, .int .u32 0] 39)) := (Below.refl _ _).alloc (Nat.le_refl _) _
                have HT9 := Lib.hid (show (c1.alloc (.cells #[.int .i32 0, .int .u8 0, .int .u32 0, .int .u32 0] 39)).heap[c1.heap.size]? = some (.cells #[.int .i32 0, .int .u8 0, .int .u32 0, .int .u32 0] 39 (0, 0)) from heap_alloc_new c1 _)
                have hle14 := HB14.out.size
                have HB2 := Lib.hid (HB14.out.trans (hbV.mono HB14.out.size))
                clear HB14 hbV
                have HB14 := HB2
                clear HB2
                obtain ⟨hb, hhb⟩ : ∃ g, c1.heap.size = g := ⟨_, rfl⟩
                have HLE := Lib.hid (show VD.heap.size ≤ hb from by rw [← hhb]; exact hle14)
                rw [hhb] at HT9 ⊢
                clear hhb hle14
                generalize (c1.alloc (.cells #[.int .i32 0, .int .u8 0, .int .u32 0, .int .u32 0] 39)) = a2 at HT9 HB14 ⊢
                refine hK0.out _ _ HB14.out (fun _ => ?_)
                clear hK0 K0 hHeld
                have hHeld := HB14.out
                refine wpAnyH_ready (rs := [16]) (by kernel_rfl) (by simp) ?_
                refine AllReadyH.cons (by simp; rfl) (fun K0 hK0 => ?_) AllReadyH.nil
                have hrow := HT9.out
                refine step_store_row rfl 39 (.tmp 13) (.tmp 75) rfl hb #[.int .i32 xp, .int .u8 xf, .int .u32 xg, .int .u32 xb] rfl rfl 39 _ hrow (by kernel_rfl) rfl (by simp [Value.oneCell']) ?_
                simp only [Act.put, List.setIfInBounds_toArray, List.set_cons_zero, List.set_cons_succ]
                have HSB := below_setRow HB14.out HLE.out #[.int .i32 xp, .int .u8 xf, .int .u32 xg, .int .u32 xb]
                have HEND := Lib.hid (And.intro (setRow_heap _ _ _ #[.int .i32 xp, .int .u8 xf, .int .u32 xg, .int .u32 xb] _ _ hrow) HSB)
                refine hK0.out _ _ HSB (fun _ => ?_)
                clear hK0 K0 hHeld hrow
                have hHeld := HSB
                refine wpAnyH_take (i := 17) (v := ?_) (by simp; rfl) (by kernel_rfl) (by kernel_rfl) (by kernel_rfl) (by exact fun _ _ _ h => h) (Or.inl ⟨by rfl, fun wx hSx => ?_⟩) hHeld ?_
                rotate_left
                · clear hSx; go_simp; (try with_reducible rfl)
                simp only [Act.put, List.setIfInBounds_toArray, List.set_cons_zero, List.set_cons_succ]
                refine wpAnyH_done (by kernel_rfl) ?_ _
                go_wp2
                go_meet
                exact ⟨hb, rfl, rfl, by rw [HVD.out]; exact HEND⟩
              · go_simp
                have hbV : Below VD.heap.size VD (VD.alloc (.cells #[.int .i32 0, .int .u8 0, .int .u32 0, .int .u32 0] 39)) := (Below.refl _ _).alloc (Nat.le_refl _) _
                have HT9 := Lib.hid (show (VD.alloc (.cells #[.int .i32 0, .int .u8 0, .int .u32 0, .int .u32 0] 39)).heap[VD.heap.size]? = some (.cells #[.int .i32 0, .int .u8 0, .int .u32 0, .int .u32 0] 39 (0, 0)) from heap_alloc_new VD _)
                have hle14 := HB14.out.size
                have HB2 := Lib.hid (HB14.out.trans (hbV.mono HB14.out.size))
                clear HB14 hbV
                have HB14 := HB2
                clear HB2
                obtain ⟨hb, hhb⟩ : ∃ g, VD.heap.size = g := ⟨_, rfl⟩
                have HLE := Lib.hid (show VD.heap.size ≤ hb from by rw [← hhb]; exact hle14)
                rw [hhb] at HT9 ⊢
                clear hhb hle14
                generalize (VD.alloc (.cells #[.int .i32 0, .int .u8 0, .int .u32 0, .int .u32 0] 39)) = a1 at HT9 HB14 ⊢
                refine hK0.out _ _ HB14.out (fun _ => ?_)
                clear hK0 K0 hHeld
                have hHeld := HB14.out
                refine wpAnyH_ready (rs := [11]) (by kernel_rfl) (by simp) ?_
                refine AllReadyH.cons (by simp; rfl) (fun K0 hK0 => ?_) AllReadyH.nil
                go_simp
                refine (HAT.out _ HB14.out).mono ?_
                rintro e c2 ⟨rfl, hbV⟩
                have HT92 := Lib.hid ((hbV.block _ (lt_of_block HT9.out)).trans HT9.out)
                clear HT9
                have HT9 := HT92
                clear HT92
                have HB2 := Lib.hid (HB14.out.trans (hbV.mono HB14.out.size))
                clear HB14 hbV
                have HB14 := HB2
                clear HB2
                refine hK0.out _ _ HB14.out (fun _ => ?_)
                clear hK0 K0 hHeld
                have hHeld := HB14.out
                refine wpAnyH_take (i := 12) (v := ?_) (by simp; rfl) (by kernel_rfl) (by kernel_rfl) (by kernel_rfl) (by exact fun _ _ _ h => h) (Or.inl ⟨by rfl, fun wx hSx => ?_⟩) hHeld ?_
                rotate_left
                · clear hSx; go_simp; (try with_reducible rfl)
                simp only [Act.put, List.setIfInBounds_toArray, List.set_cons_zero, List.set_cons_succ]
                refine wpAnyH_take (i := 13) (v := ?_) (by simp; rfl) (by kernel_rfl) (by kernel_rfl) (by kernel_rfl) (by exact fun _ _ _ h => h) (Or.inl ⟨by rfl, fun wx hSx => ?_⟩) hHeld ?_
                rotate_left
                · clear hSx; go_simp; (try with_reducible rfl)
                simp only [Act.put, List.setIfInBounds_toArray, List.set_cons_zero, List.set_cons_succ]
                refine wpAnyH_take (i := 14) (v := ?_) (by simp; rfl) (by kernel_rfl) (by kernel_rfl) (by kernel_rfl) (by exact fun _ _ _ h => h) (Or.inl ⟨by rfl, fun wx hSx => ?_⟩) hHeld ?_
                rotate_left
                · clear hSx; go_simp; (try with_reducible rfl)
                simp only [Act.put, List.setIfInBounds_toArray, List.set_cons_zero, List.set_cons_succ]
                refine wpAnyH_ready (rs := [16]) (by kernel_rfl) (by simp) ?_
                refine AllReadyH.cons (by simp; rfl) (fun K0 hK0 => ?_) AllReadyH.nil
                have hrow := HT9.out
                refine step_store_row rfl 39 (.tmp 13) (.tmp 75) rfl hb #[.int .i32 xp, .int .u8 xf, .int .u32 xg, .int .u32 xb] rfl rfl 39 _ hrow (by kernel_rfl) rfl (by simp [Value.oneCell']) ?_
                simp only [Act.put, List.setIfInBounds_toArray, List.set_cons_zero, List.set_cons_succ]
                have HSB := below_setRow HB14.out HLE.out #[.int .i32 xp, .int .u8 xf, .int .u32 xg, .int .u32 xb]
                have HEND := Lib.hid (And.intro (setRow_heap _ _ _ #[.int .i32 xp, .int .u8 xf, .int .u32 xg, .int .u32 xb] _ _ hrow) HSB)
                refine hK0.out _ _ HSB (fun _ => ?_)
                clear hK0 K0 hHeld hrow
                have hHeld := HSB
                refine wpAnyH_take (i := 17) (v := ?_) (by simp; rfl) (by kernel_rfl) (by kernel_rfl) (by kernel_rfl) (by exact fun _ _ _ h => h) (Or.inl ⟨by rfl, fun wx hSx => ?_⟩) hHeld ?_
                rotate_left
                · clear hSx; go_simp; (try with_reducible rfl)
                simp only [Act.put, List.setIfInBounds_toArray, List.set_cons_zero, List.set_cons_succ]
                refine wpAnyH_done (by kernel_rfl) ?_ _
                go_wp2
                go_meet
                exact ⟨hb, rfl, rfl, by rw [HVD.out]; exact HEND⟩
            case rest =>
              obtain ⟨hb, rfl, rfl, HEND⟩ := hcut
              have HL3 := Lib.hid (And.intro (HL2.out.1.next ((Below.refl V.heap.size V).drew.trans HEND.out.2)) (HL2.out.2.drew.trans (HEND.out.2.mono HL2.out.2.size)))
              have HSC := Lib.hid (fun (X : World) (hX : Below wc.drew.heap.size wc.drew X) => HL3.out.2.drew.trans (hX.mono HL3.out.2.size))
              have HLC := Lib.hid (fun (X : World) (hX : Below wc.drew.heap.size wc.drew X) => (HL3.out.1.next ((Below.refl wc.heap.size wc).drew.trans hX)).cells)
              have HT3 := Lib.hid (fun (X : World) (hX : Below wc.drew.heap.size wc.drew X) => four_cells ((hX.block _ (show hb < wc.heap.size from lt_of_block HEND.out.1)).trans HEND.out.1))
              have HB15 := Lib.hid (Below.refl wc.drew.heap.size wc.drew)
              have HRA := Lib.hid (fun (X : World) (hX : Below wc.drew.heap.size wc.drew X) => HRA0.out X ((Below.refl V.heap.size V).drew.trans (HEND.out.2.trans ((Below.refl wc.heap.size wc).drew.trans (hX.mono (show wc.heap.size ≤ wc.drew.heap.size from Nat.le_refl _)) |>.mono HEND.out.2.size))))
              have heq := HEQ.out
              go_wp2_with fail
              refine wp_region_held_drew (S := fun W => Below wc.drew.heap.size wc.drew W) (by kernel_rfl) (Below.refl _ _) (fun hHeld => ?_)
              refine wpAnyH_take (i := 0) (v := ?_) (by simp; rfl) (by kernel_rfl) (by kernel_rfl) (by kernel_rfl) (by exact fun _ _ _ h => h) (Or.inl ⟨by rfl, fun wx hSx => ?_⟩) hHeld ?_
              rotate_left
              · obtain ⟨x0, x1, x2⟩ := HLC.out wx hSx; clear hSx; go_simp; (try with_reducible rfl)
              simp only [Act.put, List.setIfInBounds_toArray, List.set_cons_zero, List.set_cons_succ]
              refine wpAnyH_take (i := 1) (v := ?_) (by simp; rfl) (by kernel_rfl) (by kernel_rfl) (by kernel_rfl) (by exact fun _ _ _ h => h) (Or.inl ⟨by rfl, fun wx hSx => ?_⟩) hHeld ?_
              rotate_left
              · clear hSx; go_simp; (try with_reducible rfl)
              simp only [Act.put, List.setIfInBounds_toArray, List.set_cons_zero, List.set_cons_succ]
              refine wpAnyH_take (i := 2) (v := ?_) (by simp; rfl) (by kernel_rfl) (by kernel_rfl) (by kernel_rfl) (by exact fun _ _ _ h => h) (Or.inl ⟨by rfl, fun wx hSx => ?_⟩) hHeld ?_
              rotate_left
              · clear hSx; go_simp; (try with_reducible rfl)
              simp only [Act.put, List.setIfInBounds_toArray, List.set_cons_zero, List.set_cons_succ]
              refine wpAnyH_take (i := 3) (v := ?_) (by simp; rfl) (by kernel_rfl) (by kernel_rfl) (by kernel_rfl) (by exact fun _ _ _ h => h) (Or.inl ⟨by rfl, fun wx hSx => ?_⟩) hHeld ?_
              rotate_left
              · clear hSx; go_simp; (try with_reducible rfl)
              simp only [Act.put, List.setIfInBounds_toArray, List.set_cons_zero, List.set_cons_succ]
              refine wpAnyH_take (i := 4) (v := ?_) (by simp; rfl) (by kernel_rfl) (by kernel_rfl) (by kernel_rfl) (by exact fun _ _ _ h => h) (Or.inl ⟨by rfl, fun wx hSx => ?_⟩) hHeld ?_
              rotate_left
              · clear hSx; go_simp; (try with_reducible rfl)
              simp only [Act.put, List.setIfInBounds_toArray, List.set_cons_zero, List.set_cons_succ]
              refine wpAnyH_take (i := 5) (v := ?_) (by simp; rfl) (by kernel_rfl) (by kernel_rfl) (by kernel_rfl) (by exact fun _ _ _ h => h) (Or.inl ⟨by rfl, fun wx hSx => ?_⟩) hHeld ?_
              rotate_left
              · obtain ⟨o0, o1, o2, o3, o4, o5, o6, o7⟩ := HOP.out wx (HSC.out wx hSx); clear hSx; go_simp; (try with_reducible rfl)
              simp only [Act.put, List.setIfInBounds_toArray, List.set_cons_zero, List.set_cons_succ]
              refine wpAnyH_take (i := 6) (v := ?_) (by simp; rfl) (by kernel_rfl) (by kernel_rfl) (by kernel_rfl) (by exact fun _ _ _ h => h) (Or.inl ⟨by rfl, fun wx hSx => ?_⟩) hHeld ?_
              rotate_left
              · clear hSx; go_simp; (try with_reducible rfl)
              simp only [Act.put, List.setIfInBounds_toArray, List.set_cons_zero, List.set_cons_succ]
              refine wpAnyH_take (i := 7) (v := ?_) (by simp; rfl) (by kernel_rfl) (by kernel_rfl) (by kernel_rfl) (by exact fun _ _ _ h => h) (Or.inl ⟨by rfl, fun wx hSx => ?_⟩) hHeld ?_
              rotate_left
              · clear hSx; go_simp; (try with_reducible rfl)
              simp only [Act.put, List.setIfInBounds_toArray, List.set_cons_zero, List.set_cons_succ]
              refine wpAnyH_take (i := 8) (v := ?_) (by simp; rfl) (by kernel_rfl) (by kernel_rfl) (by kernel_rfl) (by exact fun _ _ _ h => h) (Or.inl ⟨by rfl, fun wx hSx => ?_⟩) hHeld ?_
              rotate_left
              · clear hSx; go_simp; (try with_reducible rfl)
              simp only [Act.put, List.setIfInBounds_toArray, List.set_cons_zero, List.set_cons_succ]
              refine wpAnyH_take (i := 9) (v := ?_) (by simp; rfl) (by kernel_rfl) (by kernel_rfl) (by kernel_rfl) (by exact fun _ _ _ h => h) (Or.inl ⟨by rfl, fun wx hSx => ?_⟩) hHeld ?_
              rotate_left
              · clear hSx; go_simp; (try with_reducible rfl)
              simp only [Act.put, List.setIfInBounds_toArray, List.set_cons_zero, List.set_cons_succ]
              refine wpAnyH_take (i := 10) (v := ?_) (by simp; rfl) (by kernel_rfl) (by kernel_rfl) (by kernel_rfl) (by exact fun _ _ _ h => h) (Or.inl ⟨by rfl, fun wx hSx => ?_⟩) hHeld ?_
              rotate_left
              · obtain ⟨o0, o1, o2, o3, o4, o5, o6, o7⟩ := HOP.out wx (HSC.out wx hSx); clear hSx; go_simp; (try with_reducible rfl)
              simp only [Act.put, List.setIfInBounds_toArray, List.set_cons_zero, List.set_cons_succ]
              refine wpAnyH_take (i := 12) (v := ?_) (by simp; rfl) (by kernel_rfl) (by kernel_rfl) (by kernel_rfl) (by exact fun _ _ _ h => h) (Or.inl ⟨by rfl, fun wx hSx => ?_⟩) hHeld ?_
              rotate_left
              · clear hSx; go_simp; (try with_reducible rfl)
              simp only [Act.put, List.setIfInBounds_toArray, List.set_cons_zero, List.set_cons_succ]
              refine wpAnyH_take (i := 13) (v := ?_) (by simp; rfl) (by kernel_rfl) (by kernel_rfl) (by kernel_rfl) (by exact fun _ _ _ h => h) (Or.inl ⟨by rfl, fun wx hSx => ?_⟩) hHeld ?_
              rotate_left
              · clear hSx; go_simp; (try with_reducible rfl)
              simp only [Act.put, List.setIfInBounds_toArray, List.set_cons_zero, List.set_cons_succ]
              refine wpAnyH_ready (rs := [11]) (by kernel_rfl) (by simp) ?_
              refine AllReadyH.cons (by simp; rfl) (fun K0 hK0 => ?_) AllReadyH.nil
              go_simp
              refine (rhas_any _ _ _ _ _ _ _ _).mono ?_
              rintro e d1 ⟨rfl, hbV⟩
              have HB2 := Lib.hid (HB15.out.trans (hbV.mono HB15.out.size))
              clear HB15 hbV
              have HB15 := HB2
              clear HB2
              refine hK0.out _ _ HB15.out (fun _ => ?_)
              clear hK0 K0 hHeld
              have hHeld := HB15.out
              rw [hq]
              refine wpAnyH_take (i := 14) (v := ?_) (by simp; rfl) (by kernel_rfl) (by kernel_rfl) (by kernel_rfl) (by exact fun _ _ _ h => h) (Or.inl ⟨by rfl, fun wx hSx => ?_⟩) hHeld ?_
              rotate_left
              · clear hSx; go_simp; (try with_reducible rfl)
              simp only [Act.put, List.setIfInBounds_toArray, List.set_cons_zero, List.set_cons_succ]
              refine wpAnyH_take (i := 15) (v := ?_) (by simp; rfl) (by kernel_rfl) (by kernel_rfl) (by kernel_rfl) (by exact fun _ _ _ h => h) (Or.inl ⟨by rfl, fun wx hSx => ?_⟩) hHeld ?_
              rotate_left
              · clear hSx; go_simp; (try with_reducible rfl)
              simp only [Act.put, List.setIfInBounds_toArray, List.set_cons_zero, List.set_cons_succ]
              refine wpAnyH_take (i := 16) (v := ?_) (by simp; rfl) (by kernel_rfl) (by kernel_rfl) (by kernel_rfl) (by exact fun _ _ _ h => h) (Or.inl ⟨by rfl, fun wx hSx => ?_⟩) hHeld ?_
              rotate_left
              · clear hSx; go_simp; (try with_reducible rfl)
              simp only [Act.put, List.setIfInBounds_toArray, List.set_cons_zero, List.set_cons_succ]
              refine wpAnyH_take (i := 17) (v := ?_) (by simp; rfl) (by kernel_rfl) (by kernel_rfl) (by kernel_rfl) (by exact fun _ _ _ h => h) (Or.inl ⟨by rfl, fun wx hSx => ?_⟩) hHeld ?_
              rotate_left
              · clear hSx; go_simp; (try with_reducible rfl)
              simp only [Act.put, List.setIfInBounds_toArray, List.set_cons_zero, List.set_cons_succ]
              refine wpAnyH_take (i := 18) (v := ?_) (by simp; rfl) (by kernel_rfl) (by kernel_rfl) (by kernel_rfl) (by exact fun _ _ _ h => h) (Or.inl ⟨by rfl, fun wx hSx => ?_⟩) hHeld ?_
              rotate_left
              · clear hSx; go_simp; (try with_reducible rfl)
              simp only [Act.put, List.setIfInBounds_toArray, List.set_cons_zero, List.set_cons_succ]
              refine wpAnyH_take (i := 19) (v := ?_) (by simp; rfl) (by kernel_rfl) (by kernel_rfl) (by kernel_rfl) (by exact fun _ _ _ h => h) (Or.inl ⟨by rfl, fun wx hSx => ?_⟩) hHeld ?_
              rotate_left
              · obtain ⟨x0, x1, x2, x3⟩ := HT3.out wx hSx; clear hSx; go_simp; (try with_reducible rfl)
              simp only [Act.put, List.setIfInBounds_toArray, List.set_cons_zero, List.set_cons_succ]
              refine wpAnyH_take (i := 21) (v := ?_) (by simp; rfl) (by kernel_rfl) (by kernel_rfl) (by kernel_rfl) (by exact fun _ _ _ h => h) (Or.inl ⟨by rfl, fun wx hSx => ?_⟩) hHeld ?_
              rotate_left
              · obtain ⟨x0, x1, x2⟩ := HLC.out wx hSx; clear hSx; go_simp; (try with_reducible rfl)
              simp only [Act.put, List.setIfInBounds_toArray, List.set_cons_zero, List.set_cons_succ]
              refine wpAnyH_take (i := 22) (v := ?_) (by simp; rfl) (by kernel_rfl) (by kernel_rfl) (by kernel_rfl) (by exact fun _ _ _ h => h) (Or.inl ⟨by rfl, fun wx hSx => ?_⟩) hHeld ?_
              rotate_left
              · clear hSx; go_simp; (try with_reducible rfl)
              simp only [Act.put, List.setIfInBounds_toArray, List.set_cons_zero, List.set_cons_succ]
              refine wpAnyH_take (i := 23) (v := ?_) (by simp; rfl) (by kernel_rfl) (by kernel_rfl) (by kernel_rfl) (by exact fun _ _ _ h => h) (Or.inl ⟨by rfl, fun wx hSx => ?_⟩) hHeld ?_
              rotate_left
              · clear hSx; go_simp; (try with_reducible rfl)
              simp only [Act.put, List.setIfInBounds_toArray, List.set_cons_zero, List.set_cons_succ]
              refine wpAnyH_take (i := 24) (v := ?_) (by simp; rfl) (by kernel_rfl) (by kernel_rfl) (by kernel_rfl) (by exact fun _ _ _ h => h) (Or.inl ⟨by rfl, fun wx hSx => ?_⟩) hHeld ?_
              rotate_left
              · clear hSx; go_simp; (try with_reducible rfl)
              simp only [Act.put, List.setIfInBounds_toArray, List.set_cons_zero, List.set_cons_succ]
              refine wpAnyH_take (i := 25) (v := ?_) (by simp; rfl) (by kernel_rfl) (by kernel_rfl) (by kernel_rfl) (by exact fun _ _ _ h => h) (Or.inl ⟨by rfl, fun wx hSx => ?_⟩) hHeld ?_
              rotate_left
              · clear hSx; go_simp; (try with_reducible rfl)
              simp only [Act.put, List.setIfInBounds_toArray, List.set_cons_zero, List.set_cons_succ]
              refine wpAnyH_take (i := 26) (v := ?_) (by simp; rfl) (by kernel_rfl) (by kernel_rfl) (by kernel_rfl) (by exact fun _ _ _ h => h) (Or.inl ⟨by rfl, fun wx hSx => ?_⟩) hHeld ?_
              rotate_left
              · obtain ⟨o0, o1, o2, o3, o4, o5, o6, o7⟩ := HOP.out wx (HSC.out wx hSx); clear hSx; go_simp; (try with_reducible rfl)
              simp only [Act.put, List.setIfInBounds_toArray, List.set_cons_zero, List.set_cons_succ]
              refine wpAnyH_take (i := 27) (v := ?_) (by simp; rfl) (by kernel_rfl) (by kernel_rfl) (by kernel_rfl) (by exact fun _ _ _ h => h) (Or.inl ⟨by rfl, fun wx hSx => ?_⟩) hHeld ?_
              rotate_left
              · clear hSx; go_simp; (try with_reducible rfl)
              simp only [Act.put, List.setIfInBounds_toArray, List.set_cons_zero, List.set_cons_succ]
              refine wpAnyH_take (i := 28) (v := ?_) (by simp; rfl) (by kernel_rfl) (by kernel_rfl) (by kernel_rfl) (by exact fun _ _ _ h => h) (Or.inl ⟨by rfl, fun wx hSx => ?_⟩) hHeld ?_
              rotate_left
              · clear hSx; go_simp; (try with_reducible rfl)
              simp only [Act.put, List.setIfInBounds_toArray, List.set_cons_zero, List.set_cons_succ]
              refine wpAnyH_take (i := 29) (v := ?_) (by simp; rfl) (by kernel_rfl) (by kernel_rfl) (by kernel_rfl) (by exact fun _ _ _ h => h) (Or.inl ⟨by rfl, fun wx hSx => ?_⟩) hHeld ?_
              rotate_left
              · clear hSx; go_simp; (try with_reducible rfl)
              simp only [Act.put, List.setIfInBounds_toArray, List.set_cons_zero, List.set_cons_succ]
              refine wpAnyH_take (i := 30) (v := ?_) (by simp; rfl) (by kernel_rfl) (by kernel_rfl) (by kernel_rfl) (by exact fun _ _ _ h => h) (Or.inl ⟨by rfl, fun wx hSx => ?_⟩) hHeld ?_
              rotate_left
              · clear hSx; go_simp; (try with_reducible rfl)
              simp only [Act.put, List.setIfInBounds_toArray, List.set_cons_zero, List.set_cons_succ]
              refine wpAnyH_take (i := 31) (v := ?_) (by simp; rfl) (by kernel_rfl) (by kernel_rfl) (by kernel_rfl) (by exact fun _ _ _ h => h) (Or.inl ⟨by rfl, fun wx hSx => ?_⟩) hHeld ?_
              rotate_left
              · obtain ⟨o0, o1, o2, o3, o4, o5, o6, o7⟩ := HOP.out wx (HSC.out wx hSx); clear hSx; go_simp; (try with_reducible rfl)
              simp only [Act.put, List.setIfInBounds_toArray, List.set_cons_zero, List.set_cons_succ]
              refine wpAnyH_ready (rs := [20]) (by kernel_rfl) (by simp) ?_
              refine AllReadyH.cons (by simp; rfl) (fun K0 hK0 => ?_) AllReadyH.nil
              go_simp
              refine (HCE.out _).mono ?_
              rintro e d2 ⟨rfl, hbV⟩
              have HB2 := Lib.hid (HB15.out.trans (hbV.mono HB15.out.size))
              clear HB15 hbV
              have HB15 := HB2
              clear HB2
              refine hK0.out _ _ HB15.out (fun _ => ?_)
              clear hK0 K0 hHeld
              have hHeld := HB15.out
              refine wpAnyH_ready (rs := [32]) (by kernel_rfl) (by simp) ?_
              refine AllReadyH.cons (by simp; rfl) (fun K0 hK0 => ?_) AllReadyH.nil
              go_simp
              refine (HRA.out _ HB15.out).mono ?_
              rintro e d3 ⟨rfl, hbV⟩
              have HB2 := Lib.hid (HB15.out.trans (hbV.mono HB15.out.size))
              clear HB15 hbV
              have HB15 := HB2
              clear HB2
              refine hK0.out _ _ HB15.out (fun _ => ?_)
              clear hK0 K0 hHeld
              have hHeld := HB15.out
              refine wpAnyH_take (i := 33) (v := ?_) (by simp; rfl) (by kernel_rfl) (by kernel_rfl) (by kernel_rfl) (by exact fun _ _ _ h => h) (Or.inl ⟨by rfl, fun wx hSx => ?_⟩) hHeld ?_
              rotate_left
              · clear hSx; go_simp; (try with_reducible rfl)
              simp only [Act.put, List.setIfInBounds_toArray, List.set_cons_zero, List.set_cons_succ]
              refine wpAnyH_take (i := 34) (v := ?_) (by simp; rfl) (by kernel_rfl) (by kernel_rfl) (by kernel_rfl) (by exact fun _ _ _ h => h) (Or.inl ⟨by rfl, fun wx hSx => ?_⟩) hHeld ?_
              rotate_left
              · clear hSx; go_simp; (try with_reducible rfl)
              simp only [Act.put, List.setIfInBounds_toArray, List.set_cons_zero, List.set_cons_succ]
              refine wpAnyH_take (i := 35) (v := ?_) (by simp; rfl) (by kernel_rfl) (by kernel_rfl) (by kernel_rfl) (by exact fun _ _ _ h => h) (Or.inl ⟨by rfl, fun wx hSx => ?_⟩) hHeld ?_
              rotate_left
              · clear hSx; go_simp; (try with_reducible rfl)
              simp only [Act.put, List.setIfInBounds_toArray, List.set_cons_zero, List.set_cons_succ]
              refine wpAnyH_take (i := 36) (v := ?_) (by simp; rfl) (by kernel_rfl) (by kernel_rfl) (by kernel_rfl) (by exact fun _ _ _ h => h) (Or.inl ⟨by rfl, fun wx hSx => ?_⟩) hHeld ?_
              rotate_left
              · clear hSx; go_simp; (try with_reducible rfl)
              simp only [Act.put, List.setIfInBounds_toArray, List.set_cons_zero, List.set_cons_succ]
              refine wpAnyH_take (i := 37) (v := ?_) (by simp; rfl) (by kernel_rfl) (by kernel_rfl) (by kernel_rfl) (by exact fun _ _ _ h => h) (Or.inl ⟨by rfl, fun wx hSx => ?_⟩) hHeld ?_
              rotate_left
              · clear hSx; go_simp; (try with_reducible rfl)
              simp only [Act.put, List.setIfInBounds_toArray, List.set_cons_zero, List.set_cons_succ]
              refine wpAnyH_take (i := 38) (v := ?_) (by simp; rfl) (by kernel_rfl) (by kernel_rfl) (by kernel_rfl) (by exact fun _ _ _ h => h) (Or.inl ⟨by rfl, fun wx hSx => ?_⟩) hHeld ?_
              rotate_left
              · clear hSx; go_simp; (try with_reducible rfl)
              simp only [Act.put, List.setIfInBounds_toArray, List.set_cons_zero, List.set_cons_succ]
              refine wpAnyH_take (i := 39) (v := ?_) (by simp; rfl) (by kernel_rfl) (by kernel_rfl) (by kernel_rfl) (by exact fun _ _ _ h => h) (Or.inl ⟨by rfl, fun wx hSx => ?_⟩) hHeld ?_
              rotate_left
              · clear hSx; go_simp; (try with_reducible rfl)
              simp only [Act.put, List.setIfInBounds_toArray, List.set_cons_zero, List.set_cons_succ]
              refine wpAnyH_take (i := 40) (v := undef) (by simp; rfl) (by kernel_rfl) (by kernel_rfl) (by kernel_rfl) (by exact fun _ _ _ h => h) (Or.inr ⟨by rfl, rfl⟩) hHeld ?_
              simp only [Act.put, List.setIfInBounds_toArray, List.set_cons_zero, List.set_cons_succ]
              refine wpAnyH_take (i := 41) (v := undef) (by simp; rfl) (by kernel_rfl) (by kernel_rfl) (by kernel_rfl) (by exact fun _ _ _ h => h) (Or.inr ⟨by rfl, rfl⟩) hHeld ?_
              simp only [Act.put, List.setIfInBounds_toArray, List.set_cons_zero, List.set_cons_succ]
              refine wpAnyH_take (i := 42) (v := ?_) (by simp; rfl) (by kernel_rfl) (by kernel_rfl) (by kernel_rfl) (by exact fun _ _ _ h => h) (Or.inl ⟨by rfl, fun wx hSx => ?_⟩) hHeld ?_
              rotate_left
              · clear hSx; go_simp; (try with_reducible rfl)
              simp only [Act.put, List.setIfInBounds_toArray, List.set_cons_zero, List.set_cons_succ]
              refine wpAnyH_take (i := 43) (v := ?_) (by simp; rfl) (by kernel_rfl) (by kernel_rfl) (by kernel_rfl) (by exact fun _ _ _ h => h) (Or.inl ⟨by rfl, fun wx hSx => ?_⟩) hHeld ?_
              rotate_left
              · clear hSx; go_simp; (try with_reducible rfl)
              simp only [Act.put, List.setIfInBounds_toArray, List.set_cons_zero, List.set_cons_succ]
              refine wpAnyH_done (by kernel_rfl) ?_ _
              have HL4 := Lib.hid (And.intro (HL3.out.1.next ((Below.refl wc.heap.size wc).drew.trans HB15.out)) (HSC.out _ HB15.out))
              clear hHeld heq
              go_wp2
              go_roundw
              case rel => exact ⟨i + 1, by go_num, by have := HIN.out; omega, R2, C2, yb2, ycap2, L2, HL4⟩
              case measure => have := HIN.out; simp [intOf]; omega
        · have d2 : decide ((i : Int) < 40) = false := by simp; omega
          have d2' : decide (i < 40) = false := by simp; omega
          clear hi hin h40
          obtain ⟨b, cap, yb', ycap', hG, hY, hx, hr1, hr2, hok, _, _⟩ := HS.out.1.bo
          have HLC := Lib.hid (fun (X : World) (hX : Below wr.drew.heap.size wr.drew X) => (HS.out.1.next ((Below.refl wr.heap.size wr).drew.trans hX)).cells)
          have HWX := Lib.hid (HS.out.2.drew)
          injection hx with hx
          have hx2 := congrArg Array.toList hx
          simp at hx2
          obtain ⟨hyy, hcc⟩ := hx2
          subst hyy hcc
          have HAS := Lib.hid (fun (X : World) (hX : Below wr.drew.heap.size wr.drew X) => as_gr (hG.below ((Below.refl wr.heap.size wr).drew.trans hX)) hok)
          have hlen := hG.len
          have hroom := hG.room.2.1
          have HSA := Lib.hid (fun (X : World) (hX : Below wr.drew.heap.size wr.drew X) (b9 cap9 : Nat) (h9 : RowY X b9 cap9 L) => (rsame_any (R := R) (C := C) (R2 := R) (C2 := C) (c1 := cap9) (c2 := ycap) h9.yr (hY.below ((Below.refl wr.heap.size wr).drew.trans hX)) hlen hlen (by omega) (by omega) hok hok).mono (R' := fun e w' => e = .returned (.bool true) ∧ Below X.heap.size X w') (fun e w' h => ⟨by rw [h.1]; simp, h.2⟩))
          have HB17 := Lib.hid (Below.refl wr.drew.heap.size wr.drew)
          clear hG hY hx hr1 hr2 hok hlen hroom
          go_wp2_with fail
          refine wp_region_held_drew (S := fun W => Below wr.drew.heap.size wr.drew W) (by kernel_rfl) (Below.refl _ _) (fun hHeld => ?_)
          refine wpAnyH_ready (rs := [0]) (by kernel_rfl) (by simp) ?_
          refine AllReadyH.cons (by simp; rfl) (fun K0 hK0 => ?_) AllReadyH.nil
          go_simp
          refine (alive_any _).mono ?_
          rintro e e1 ⟨rfl, hbV⟩
          have HB2 := Lib.hid (HB17.out.trans (hbV.mono HB17.out.size))
          clear HB17 hbV
          have HB17 := HB2
          clear HB2
          refine hK0.out _ _ HB17.out (fun _ => ?_)
          clear hK0 K0 hHeld
          have hHeld := HB17.out
          refine wpAnyH_take (i := 1) (v := ?_) (by simp; rfl) (by kernel_rfl) (by kernel_rfl) (by kernel_rfl) (by exact fun _ _ _ h => h) (Or.inl ⟨by rfl, fun wx hSx => ?_⟩) hHeld ?_
          rotate_left
          · clear hSx; go_simp; (try with_reducible rfl)
          simp only [Act.put, List.setIfInBounds_toArray, List.set_cons_zero, List.set_cons_succ]
          refine wpAnyH_take (i := 2) (v := ?_) (by simp; rfl) (by kernel_rfl) (by kernel_rfl) (by kernel_rfl) (by exact fun _ _ _ h => h) (Or.inl ⟨by rfl, fun wx hSx => ?_⟩) hHeld ?_
          rotate_left
          · clear hSx; go_simp; (try with_reducible rfl)
          simp only [Act.put, List.setIfInBounds_toArray, List.set_cons_zero, List.set_cons_succ]
          refine wpAnyH_take (i := 4) (v := ?_) (by simp; rfl) (by kernel_rfl) (by kernel_rfl) (by kernel_rfl) (by exact fun _ _ _ h => h) (Or.inl ⟨by rfl, fun wx hSx => ?_⟩) hHeld ?_
          rotate_left
          · obtain ⟨x0, x1, x2⟩ := HLC.out wx hSx; clear hSx; go_simp; (try with_reducible rfl)
          simp only [Act.put, List.setIfInBounds_toArray, List.set_cons_zero, List.set_cons_succ]
          refine wpAnyH_ready (rs := [3]) (by kernel_rfl) (by simp) ?_
          refine AllReadyH.cons (by simp; rfl) (fun K0 hK0 => ?_) AllReadyH.nil
          go_simp
          refine (HAS.out _ HB17.out).mono ?_
          rintro e e2 ⟨b9, cap9, rfl, hl9, hR9, hbV⟩
          have HB2 := Lib.hid (HB17.out.trans (hbV.mono HB17.out.size))
          clear HB17 hbV
          have HB17 := HB2
          clear HB2
          have HR9 := Lib.hid hR9
          clear hl9 hR9
          refine hK0.out _ _ HB17.out (fun _ => ?_)
          clear hK0 K0 hHeld
          have hHeld := HB17.out
          refine wpAnyH_ready (rs := [5]) (by kernel_rfl) (by simp) ?_
          refine AllReadyH.cons (by simp; rfl) (fun K0 hK0 => ?_) AllReadyH.nil
          go_simp
          refine (HSA.out _ HB17.out b9 cap9 HR9.out).mono ?_
          rintro e e3 ⟨rfl, hbV⟩
          have HB2 := Lib.hid (HB17.out.trans (hbV.mono HB17.out.size))
          clear HB17 hbV
          have HB17 := HB2
          clear HB2
          refine hK0.out _ _ HB17.out (fun _ => ?_)
          clear hK0 K0 hHeld
          have hHeld := HB17.out
          refine wpAnyH_take (i := 6) (v := ?_) (by simp; rfl) (by kernel_rfl) (by kernel_rfl) (by kernel_rfl) (by exact fun _ _ _ h => h) (Or.inl ⟨by rfl, fun wx hSx => ?_⟩) hHeld ?_
          rotate_left
          · clear hSx; go_simp; (try with_reducible rfl)
          simp only [Act.put, List.setIfInBounds_toArray, List.set_cons_zero, List.set_cons_succ]
          refine wpAnyH_take (i := 7) (v := ?_) (by simp; rfl) (by kernel_rfl) (by kernel_rfl) (by kernel_rfl) (by exact fun _ _ _ h => h) (Or.inl ⟨by rfl, fun wx hSx => ?_⟩) hHeld ?_
          rotate_left
          · clear hSx; go_simp; (try with_reducible rfl)
          simp only [Act.put, List.setIfInBounds_toArray, List.set_cons_zero, List.set_cons_succ]
          refine wpAnyH_done (by kernel_rfl) ?_ _
          go_wp2
          go_ret
          exact ⟨rfl, HWX.out.trans (HB17.out.mono HWX.out.size)⟩

      · have d1 : decide ((i : Int) < (len : Int)) = false := by simp; omega
        have d1' : decide (i < len) = false := by simp; omega
        clear hi hin
        obtain ⟨b, cap, yb', ycap', hG, hY, hx, hr1, hr2, hok, _, _⟩ := HS.out.1.bo
        have HLC := Lib.hid (fun (X : World) (hX : Below wr.drew.heap.size wr.drew X) => (HS.out.1.next ((Below.refl wr.heap.size wr).drew.trans hX)).cells)
        have HWX := Lib.hid (HS.out.2.drew)
        injection hx with hx
        have hx2 := congrArg Array.toList hx
        simp at hx2
        obtain ⟨hyy, hcc⟩ := hx2
        subst hyy hcc
        have HAS := Lib.hid (fun (X : World) (hX : Below wr.drew.heap.size wr.drew X) => as_gr (hG.below ((Below.refl wr.heap.size wr).drew.trans hX)) hok)
        have hlen := hG.len
        have hroom := hG.room.2.1
        have HSA := Lib.hid (fun (X : World) (hX : Below wr.drew.heap.size wr.drew X) (b9 cap9 : Nat) (h9 : RowY X b9 cap9 L) => (rsame_any (R := R) (C := C) (R2 := R) (C2 := C) (c1 := cap9) (c2 := ycap) h9.yr (hY.below ((Below.refl wr.heap.size wr).drew.trans hX)) hlen hlen (by omega) (by omega) hok hok).mono (R' := fun e w' => e = .returned (.bool true) ∧ Below X.heap.size X w') (fun e w' h => ⟨by rw [h.1]; simp, h.2⟩))
        have HB17 := Lib.hid (Below.refl wr.drew.heap.size wr.drew)
        clear hG hY hx hr1 hr2 hok hlen hroom
        go_wp2_with fail
        refine wp_region_held_drew (S := fun W => Below wr.drew.heap.size wr.drew W) (by kernel_rfl) (Below.refl _ _) (fun hHeld => ?_)
        refine wpAnyH_ready (rs := [0]) (by kernel_rfl) (by simp) ?_
        refine AllReadyH.cons (by simp; rfl) (fun K0 hK0 => ?_) AllReadyH.nil
        go_simp
        refine (alive_any _).mono ?_
        rintro e e1 ⟨rfl, hbV⟩
        have HB2 := Lib.hid (HB17.out.trans (hbV.mono HB17.out.size))
        clear HB17 hbV
        have HB17 := HB2
        clear HB2
        refine hK0.out _ _ HB17.out (fun _ => ?_)
        clear hK0 K0 hHeld
        have hHeld := HB17.out
        refine wpAnyH_take (i := 1) (v := ?_) (by simp; rfl) (by kernel_rfl) (by kernel_rfl) (by kernel_rfl) (by exact fun _ _ _ h => h) (Or.inl ⟨by rfl, fun wx hSx => ?_⟩) hHeld ?_
        rotate_left
        · clear hSx; go_simp; (try with_reducible rfl)
        simp only [Act.put, List.setIfInBounds_toArray, List.set_cons_zero, List.set_cons_succ]
        refine wpAnyH_take (i := 2) (v := ?_) (by simp; rfl) (by kernel_rfl) (by kernel_rfl) (by kernel_rfl) (by exact fun _ _ _ h => h) (Or.inl ⟨by rfl, fun wx hSx => ?_⟩) hHeld ?_
        rotate_left
        · clear hSx; go_simp; (try with_reducible rfl)
        simp only [Act.put, List.setIfInBounds_toArray, List.set_cons_zero, List.set_cons_succ]
        refine wpAnyH_take (i := 4) (v := ?_) (by simp; rfl) (by kernel_rfl) (by kernel_rfl) (by kernel_rfl) (by exact fun _ _ _ h => h) (Or.inl ⟨by rfl, fun wx hSx => ?_⟩) hHeld ?_
        rotate_left
        · obtain ⟨x0, x1, x2⟩ := HLC.out wx hSx; clear hSx; go_simp; (try with_reducible rfl)
        simp only [Act.put, List.setIfInBounds_toArray, List.set_cons_zero, List.set_cons_succ]
        refine wpAnyH_ready (rs := [3]) (by kernel_rfl) (by simp) ?_
        refine AllReadyH.cons (by simp; rfl) (fun K0 hK0 => ?_) AllReadyH.nil
        go_simp
        refine (HAS.out _ HB17.out).mono ?_
        rintro e e2 ⟨b9, cap9, rfl, hl9, hR9, hbV⟩
        have HB2 := Lib.hid (HB17.out.trans (hbV.mono HB17.out.size))
        clear HB17 hbV
        have HB17 := HB2
        clear HB2
        have HR9 := Lib.hid hR9
        clear hl9 hR9
        refine hK0.out _ _ HB17.out (fun _ => ?_)
        clear hK0 K0 hHeld
        have hHeld := HB17.out
        refine wpAnyH_ready (rs := [5]) (by kernel_rfl) (by simp) ?_
        refine AllReadyH.cons (by simp; rfl) (fun K0 hK0 => ?_) AllReadyH.nil
        go_simp
        refine (HSA.out _ HB17.out b9 cap9 HR9.out).mono ?_
        rintro e e3 ⟨rfl, hbV⟩
        have HB2 := Lib.hid (HB17.out.trans (hbV.mono HB17.out.size))
        clear HB17 hbV
        have HB17 := HB2
        clear HB2
        refine hK0.out _ _ HB17.out (fun _ => ?_)
        clear hK0 K0 hHeld
        have hHeld := HB17.out
        refine wpAnyH_take (i := 6) (v := ?_) (by simp; rfl) (by kernel_rfl) (by kernel_rfl) (by kernel_rfl) (by exact fun _ _ _ h => h) (Or.inl ⟨by rfl, fun wx hSx => ?_⟩) hHeld ?_
        rotate_left
        · clear hSx; go_simp; (try with_reducible rfl)
        simp only [Act.put, List.setIfInBounds_toArray, List.set_cons_zero, List.set_cons_succ]
        refine wpAnyH_take (i := 7) (v := ?_) (by simp; rfl) (by kernel_rfl) (by kernel_rfl) (by kernel_rfl) (by exact fun _ _ _ h => h) (Or.inl ⟨by rfl, fun wx hSx => ?_⟩) hHeld ?_
        rotate_left
        · clear hSx; go_simp; (try with_reducible rfl)
        simp only [Act.put, List.setIfInBounds_toArray, List.set_cons_zero, List.set_cons_succ]
        refine wpAnyH_done (by kernel_rfl) ?_ _
        go_wp2
        go_ret
        exact ⟨rfl, HWX.out.trans (HB17.out.mono HWX.out.size)⟩
set_option maxRecDepth 100000 in
set_option maxHeartbeats 64000000 in
theorem lives_zero {w : World} {A : Option Addr} {len cap0 : Nat} {zs : List Opn} (hz : len = 0) (sl : SlO w A len cap0 zs) (r c : Int) : Calls Try.prog 3 #[.int .i64 r, .int .i64 c, .slice A len cap0] w fun e w' => e = .returned (.bool true) ∧ Below w.heap.size w w' := by
  have HSL := Lib.hid sl
  have HMX := Lib.hid (And.intro sl.le sl.max)
  clear sl
  cases hq0 : rightB r c with
  | false =>
    go_enter Try.func3, Try.ntmps3
    go_wp2_with fail
    refine (new_any r c _).mono ?_
    rintro e w1 ⟨h1, h2, hb1⟩
    obtain rfl := h1 hq0
    have HB1 := Lib.hid hb1
    clear h1 h2 hb1
    go_wp2_with fail
    refine (rnew_bad r c hq0 _).mono ?_
    rintro e w2 ⟨rfl, hb2⟩
    have HB2 := Lib.hid (HB1.out.trans (hb2.mono HB1.out.size))
    have HB3 := Lib.hid (HB2.out.alloc HB2.out.size (.cells #[.int .i64 0, .int .i64 0, .slice none 0 0] 29))
    clear hb2
    go_wp2_with fail
    refine (alive_any _).mono ?_
    rintro e w4 ⟨rfl, hb4⟩
    have HB4 := Lib.hid (HB3.out.trans (hb4.mono HB3.out.size))
    clear hb4
    go_wp2
    go_ret
    exact ⟨rfl, HB4.out⟩
  | true =>
    obtain ⟨R, C, rfl, rfl, hp⟩ := right_pos hq0
    obtain ⟨n, hn⟩ : ∃ n, R * C = n := ⟨_, rfl⟩
    have HNW := Lib.hid (fun W => rnew_yes hn hp W)
    have HP := Lib.hid (And.intro hp hn)
    have HQ0 := Lib.hid hq0
    clear hp hn hq0
    go_enter Try.func3, Try.ntmps3
    go_wp2_with fail
    refine (new_any R C _).mono ?_
    rintro e w1 ⟨h1, h2, hb1⟩
    obtain ⟨g, b, rfl, hg, hb, hG, _⟩ : ∃ g b, e = .returned (.tuple #[.pointer (some ⟨g, 0, none⟩), .int .i64 0]) ∧ w.heap.size ≤ g ∧ w.heap.size ≤ b ∧ Gr g b (R * C) R C (rep (R * C) blC) w1 ∧ True := by
      obtain ⟨g, b, x1, x2, x3, x4⟩ := h2 R C rfl rfl HQ0.out
      exact ⟨g, b, x1, x2, x3, x4, trivial⟩
    have H1 := Lib.hid (And.intro hg (And.intro hb (And.intro hG hb1)))
    clear h1 h2 hb1 hg hb hG
    go_wp2_with fail
    refine (HNW.out _).mono ?_
    rintro e w2 ⟨v, rfl, ho, hb2⟩
    obtain ⟨yb, ycap, rfl, hR, hnl, hB2⟩ := RowY.of_own ho (by have := HP.out; rw [← this.2]; exact Nat.mul_pos this.1.1 this.1.2.2.1)
    obtain ⟨tb, htb⟩ : ∃ t, w2.heap.size = t := ⟨_, rfl⟩
    have hbU := (Below.refl w2.heap.size w2).alloc (Nat.le_refl _) (.cells #[.int .i64 R, .int .i64 C, .slice (some ⟨yb, 0, none⟩) n ycap] 29)
    have HS0 : Hid (LV w.heap.size tb g R C yb ycap (rep (R * C) blC) (w2.alloc (.cells #[.int .i64 R, .int .i64 C, .slice (some ⟨yb, 0, none⟩) n ycap] 29)) ∧ Below w.heap.size w (w2.alloc (.cells #[.int .i64 R, .int .i64 C, .slice (some ⟨yb, 0, none⟩) n ycap] 29))) := Lib.hid (by
      obtain ⟨q1, q2, q3, q4⟩ := H1.out
      have e := HP.out.2
      have l1 := q3.lt
      have l2 := q3.row.lt
      have l3 := hb2.size
      refine ⟨⟨⟨b, _, yb, ycap, (q3.below hb2).below hbU, ?_, rfl, by omega, by omega, ?_, q1, q2⟩, ?_, by have := q4.size; omega, by omega⟩, q4.trans ((hb2.trans (hbU.mono hb2.size)).mono q4.size)⟩
      · rw [e]; exact hR.yr.below hbU
      · intro d hd
        rw [List.eq_of_mem_replicate hd]
        exact ⟨by decide, by decide⟩
      · rw [e, ← htb]; exact heap_alloc_new _ _)
    have HE := Lib.hid HP.out.2
    clear ho hb2 hR hnl hB2 hbU HNW H1
    go_wp2_with fail
    generalize (w2.alloc (.cells #[.int .i64 R, .int .i64 C, .slice (some ⟨yb, 0, none⟩) n ycap] 29)) = U at HS0 ⊢
    try simp only [htb]
    clear htb
    go_loopw [11] (fun iv wr => ∃ i : Nat, iv = .int .i64 i ∧ i ≤ len ∧ ∃ R C yb ycap L, Hid (LV w.heap.size tb g R C yb ycap L wr ∧ Below w.heap.size w wr)) (fun iv _ => len - (intOf iv).toNat)
    case atStart => exact ⟨0, rfl, by omega, R, C, yb, ycap, _, HS0⟩
    case round =>
      obtain ⟨i, rfl, hi, R, C, yb, ycap, L, HS⟩ := hrel
      clear HS0 HE HP HQ0
      by_cases hin : i < len
      · exact absurd hin (by omega)
      · have d1 : decide ((i : Int) < (len : Int)) = false := by simp; omega
        have d1' : decide (i < len) = false := by simp; omega
        clear hi hin
        obtain ⟨b, cap, yb', ycap', hG, hY, hx, hr1, hr2, hok, _, _⟩ := HS.out.1.bo
        have HLC := Lib.hid (fun (X : World) (hX : Below wr.drew.heap.size wr.drew X) => (HS.out.1.next ((Below.refl wr.heap.size wr).drew.trans hX)).cells)
        have HWX := Lib.hid (HS.out.2.drew)
        injection hx with hx
        have hx2 := congrArg Array.toList hx
        simp at hx2
        obtain ⟨hyy, hcc⟩ := hx2
        subst hyy hcc
        have HAS := Lib.hid (fun (X : World) (hX : Below wr.drew.heap.size wr.drew X) => as_gr (hG.below ((Below.refl wr.heap.size wr).drew.trans hX)) hok)
        have hlen := hG.len
        have hroom := hG.room.2.1
        have HSA := Lib.hid (fun (X : World) (hX : Below wr.drew.heap.size wr.drew X) (b9 cap9 : Nat) (h9 : RowY X b9 cap9 L) => (rsame_any (R := R) (C := C) (R2 := R) (C2 := C) (c1 := cap9) (c2 := ycap) h9.yr (hY.below ((Below.refl wr.heap.size wr).drew.trans hX)) hlen hlen (by omega) (by omega) hok hok).mono (R' := fun e w' => e = .returned (.bool true) ∧ Below X.heap.size X w') (fun e w' h => ⟨by rw [h.1]; simp, h.2⟩))
        have HB17 := Lib.hid (Below.refl wr.drew.heap.size wr.drew)
        clear hG hY hx hr1 hr2 hok hlen hroom
        go_wp2_with fail
        refine wp_region_held_drew (S := fun W => Below wr.drew.heap.size wr.drew W) (by kernel_rfl) (Below.refl _ _) (fun hHeld => ?_)
        refine wpAnyH_ready (rs := [0]) (by kernel_rfl) (by simp) ?_
        refine AllReadyH.cons (by simp; rfl) (fun K0 hK0 => ?_) AllReadyH.nil
        go_simp
        refine (alive_any _).mono ?_
        rintro e e1 ⟨rfl, hbV⟩
        have HB2 := Lib.hid (HB17.out.trans (hbV.mono HB17.out.size))
        clear HB17 hbV
        have HB17 := HB2
        clear HB2
        refine hK0.out _ _ HB17.out (fun _ => ?_)
        clear hK0 K0 hHeld
        have hHeld := HB17.out
        refine wpAnyH_take (i := 1) (v := ?_) (by simp; rfl) (by kernel_rfl) (by kernel_rfl) (by kernel_rfl) (by exact fun _ _ _ h => h) (Or.inl ⟨by rfl, fun wx hSx => ?_⟩) hHeld ?_
        rotate_left
        · clear hSx; go_simp; (try with_reducible rfl)
        simp only [Act.put, List.setIfInBounds_toArray, List.set_cons_zero, List.set_cons_succ]
        refine wpAnyH_take (i := 2) (v := ?_) (by simp; rfl) (by kernel_rfl) (by kernel_rfl) (by kernel_rfl) (by exact fun _ _ _ h => h) (Or.inl ⟨by rfl, fun wx hSx => ?_⟩) hHeld ?_
        rotate_left
        · clear hSx; go_simp; (try with_reducible rfl)
        simp only [Act.put, List.setIfInBounds_toArray, List.set_cons_zero, List.set_cons_succ]
        refine wpAnyH_take (i := 4) (v := ?_) (by simp; rfl) (by kernel_rfl) (by kernel_rfl) (by kernel_rfl) (by exact fun _ _ _ h => h) (Or.inl ⟨by rfl, fun wx hSx => ?_⟩) hHeld ?_
        rotate_left
        · obtain ⟨x0, x1, x2⟩ := HLC.out wx hSx; clear hSx; go_simp; (try with_reducible rfl)
        simp only [Act.put, List.setIfInBounds_toArray, List.set_cons_zero, List.set_cons_succ]
        refine wpAnyH_ready (rs := [3]) (by kernel_rfl) (by simp) ?_
        refine AllReadyH.cons (by simp; rfl) (fun K0 hK0 => ?_) AllReadyH.nil
        go_simp
        refine (HAS.out _ HB17.out).mono ?_
        rintro e e2 ⟨b9, cap9, rfl, hl9, hR9, hbV⟩
        have HB2 := Lib.hid (HB17.out.trans (hbV.mono HB17.out.size))
        clear HB17 hbV
        have HB17 := HB2
        clear HB2
        have HR9 := Lib.hid hR9
        clear hl9 hR9
        refine hK0.out _ _ HB17.out (fun _ => ?_)
        clear hK0 K0 hHeld
        have hHeld := HB17.out
        refine wpAnyH_ready (rs := [5]) (by kernel_rfl) (by simp) ?_
        refine AllReadyH.cons (by simp; rfl) (fun K0 hK0 => ?_) AllReadyH.nil
        go_simp
        refine (HSA.out _ HB17.out b9 cap9 HR9.out).mono ?_
        rintro e e3 ⟨rfl, hbV⟩
        have HB2 := Lib.hid (HB17.out.trans (hbV.mono HB17.out.size))
        clear HB17 hbV
        have HB17 := HB2
        clear HB2
        refine hK0.out _ _ HB17.out (fun _ => ?_)
        clear hK0 K0 hHeld
        have hHeld := HB17.out
        refine wpAnyH_take (i := 6) (v := ?_) (by simp; rfl) (by kernel_rfl) (by kernel_rfl) (by kernel_rfl) (by exact fun _ _ _ h => h) (Or.inl ⟨by rfl, fun wx hSx => ?_⟩) hHeld ?_
        rotate_left
        · clear hSx; go_simp; (try with_reducible rfl)
        simp only [Act.put, List.setIfInBounds_toArray, List.set_cons_zero, List.set_cons_succ]
        refine wpAnyH_take (i := 7) (v := ?_) (by simp; rfl) (by kernel_rfl) (by kernel_rfl) (by kernel_rfl) (by exact fun _ _ _ h => h) (Or.inl ⟨by rfl, fun wx hSx => ?_⟩) hHeld ?_
        rotate_left
        · clear hSx; go_simp; (try with_reducible rfl)
        simp only [Act.put, List.setIfInBounds_toArray, List.set_cons_zero, List.set_cons_succ]
        refine wpAnyH_done (by kernel_rfl) ?_ _
        go_wp2
        go_ret
        exact ⟨rfl, HWX.out.trans (HB17.out.mono HWX.out.size)⟩
theorem lives_any {w : World} {A : Option Addr} {len cap0 : Nat} {zs : List Opn} (sl : SlO w A len cap0 zs) (r c : Int) : Calls Try.prog 3 #[.int .i64 r, .int .i64 c, .slice A len cap0] w fun e w' => e = .returned (.bool true) ∧ Below w.heap.size w w' := by
  by_cases h : 0 < len
  · obtain ⟨b, off, rfl, hb, hr⟩ := sl.reads h
    exact lives_some sl (fun i hi W hW j v hv => (hW.cell (p := ⟨b, off + i * 8 + j, none⟩) hb).trans (hr i hi j v hv)) r c
  · exact lives_zero (by omega) sl r c
end Go.Proofs.Ytahmnipcdkcpiaa
