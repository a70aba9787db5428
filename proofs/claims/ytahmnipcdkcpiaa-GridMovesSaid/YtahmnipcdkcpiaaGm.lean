/-
  Proved here: a grid by itself.
-/
import Derived.Test.YtahmnipcdkcpiaaGk
import Derived.Lib.SliceRun
set_option linter.unusedSimpArgs false
set_option linter.unusedVariables false
namespace Go.Proofs.Ytahmnipcdkcpiaa
open Go.RowKit
set_option maxRecDepth 100000 in
set_option maxHeartbeats 4000000 in
theorem clone_cells {w : World} {b cap n : Nat} {L : List Ce} (h : RowAt w b cap L) (hn : L.length = n) (h1 : 1 ≤ n) (h2 : n ≤ 1000) :
    Calls Try.prog 49 #[.slice (some ⟨b, 0, none⟩) n cap] w fun e w' => ∃ b2 c2, e = .returned (.slice (some ⟨b2, 0, none⟩) n c2) ∧ w.heap.size ≤ b2 ∧ RowAt w' b2 c2 L ∧ Below w.heap.size w w' := by
  have hnil := fun W => Lib.run_eql_slice_nil (P := Try.prog) W 55 39 (some ⟨b, 0, none⟩) n cap 0 0 Try.underlying55
  obtain ⟨i0, hi, hz0, hz1, hz2⟩ := info_parts infoCell
  have hlt := h.lt
  have hat := fun k (hk : k < n * 4) => h.at_ (k := k) (by rw [hn]; exact hk)
  have HF := Lib.hid (flat_cells L)
  have hfl := flat_len L
  rw [hn] at hfl
  obtain ⟨FL, hFL⟩ : ∃ l, flat L = l := ⟨_, rfl⟩
  have HFE := Lib.hid (fun (_ : Unit) => hFL)
  have HN := Lib.hid (fun (_ : Unit) => hn)
  rw [hFL] at hfl hat HF
  clear h hFL hn
  go_enter Try.func49, Try.ntmps49
  go_wp2_with (at_builtin; refine wpList_append_own _ rfl _ _ 55 rfl w.heap.size 39 i0 (cV zeC) 4 16 Try.underlying55 hi hz0 hz1 hz2 rfl (by decide) _ 0 [] rfl (World.ownsRow_made w #[] 0 (Nat.le_refl _) (by unfold maxLen; omega) rfl) ⟨b, 0, none⟩ n cap FL rfl hfl ?c1 HF.out ?c3 ?c4 ?c5 ?_)
  case c1 =>
    intro j u hj
    have hjl : j < n * 4 := by rw [← hfl]; exact (List.getElem?_eq_some_iff.1 hj).1
    have e : (⟨b, 0, none⟩ : Addr).add j = ⟨b, j, none⟩ := by unfold Addr.add; split <;> simp_all
    rw [e]
    exact ((Below.refl w.heap.size w).alloc (Nat.le_refl _) _ |>.cell (p := ⟨b, j, none⟩) hlt).trans ((hat j hjl).trans hj)
  case c3 => unfold maxLen; omega
  case c4 => omega
  case c5 => simp
  · intro v' w1 hown1 hgrow _
    have hb1 : Below w.heap.size w w1 := ((Below.refl _ _).alloc (Nat.le_refl _) _).grown hgrow (by simp) (by
      intro k hk
      have : w.heap.size = k := by simpa [Value.ownBlock] using hk
      omega)
    have HZ : ∃ b2 c2, v' = .slice (some ⟨b2, 0, none⟩) n c2 ∧ w.heap.size ≤ b2 ∧ RowAt w1 b2 c2 L := by
      have hh := hown1
      obtain ⟨_, hh⟩ := hh
      rcases hh with ⟨_, h0⟩ | ⟨g, c, cur, rfl, hB, _⟩
      · omega
      · rw [← HFE.out ()] at hown1
        have := RowAt.of_own hown1
        exact ⟨g, c, rfl, hB, this.1⟩
    obtain ⟨b2, c2, rfl, hb2, hr2⟩ := HZ
    have HE := Lib.hid (And.intro hb2 (And.intro hr2 hb1))
    clear hown1 hgrow hb2 hr2 hb1 hat hnil hi hz0 hz1 hz2
    go_wp2
    go_ret
    exact ⟨b2, c2, rfl, HE.out⟩
set_option maxRecDepth 100000 in
set_option maxHeartbeats 4000000 in
theorem copy_gr {g b cap R C : Nat} {L : List Ce} {w : World} (h : Gr g b cap R C L w) : Calls Try.prog 26 #[.pointer (some ⟨g, 0, none⟩)] w fun e w' => ∃ g2 b2 c2, e = .returned (.pointer (some ⟨g2, 0, none⟩)) ∧ w.heap.size ≤ g2 ∧ w.heap.size ≤ b2 ∧ Gr g2 b2 c2 R C L w' ∧ Below w.heap.size w w' := by
  have HNO := Lib.hid (none_no h)
  have hp := h.pos
  have hroom := h.room
  obtain ⟨n, hn⟩ : ∃ n, R * C = n := ⟨_, rfl⟩
  have h1 : 1 ≤ n := by rw [← hn]; exact Nat.mul_pos hp.1 hp.2.2.1
  have hdr := (Below.refl w.heap.size w).drew
  have hgd := h.below hdr
  have hln := h.len
  rw [hn] at hroom hln
  have HCE := Lib.hid (fun (X : World) (hX : Below w.drew.heap.size w.drew X) => by have := (hgd.below hX).cells; rw [hn] at this; exact this)
  have HCL := Lib.hid (clone_cells hgd.row hln h1 (by omega))
  have HEND := Lib.hid (fun (V : World) (b2 c2 : Nat) (hb : w.drew.heap.size ≤ b2) (hr : RowAt V b2 c2 L) (hV : Below w.drew.heap.size w.drew V) => show w.heap.size ≤ V.heap.size ∧ w.heap.size ≤ b2 ∧ Gr V.heap.size b2 c2 R C L (V.alloc (.cells #[.int .i64 R, .int .i64 C, .slice (some ⟨b2, 0, none⟩) n c2] 57)) ∧ Below w.heap.size w (V.alloc (.cells #[.int .i64 R, .int .i64 C, .slice (some ⟨b2, 0, none⟩) n c2] 57)) from
    ⟨hV.size, hb, ⟨by rw [hn]; exact heap_alloc_new V _, hr.below ((Below.refl _ _).alloc (Nat.le_refl _) _), hln.trans hn.symm, hp⟩, (hdr.trans (hV.mono (Nat.le_refl _))).alloc hV.size _⟩)
  clear h hp hroom hn h1 hdr hgd hln
  go_enter Try.func26, Try.ntmps26
  go_wp2_with fail
  refine HNO.out.mono ?_
  rintro e wx ⟨rfl, rfl⟩
  clear HNO
  go_wp2
  refine wp_region_held_drew (S := fun W => Below w.drew.heap.size w.drew W) (by kernel_rfl) (Below.refl _ _) (fun hHeld => ?_)
  refine wpAnyH_take (i := 0) (v := ?_) (by simp; rfl) (by kernel_rfl) (by kernel_rfl) (by kernel_rfl) (by exact fun _ _ _ h => h) (Or.inl ⟨by rfl, fun wx hSx => ?_⟩) hHeld ?_
  rotate_left
  · clear hSx; go_simp; (try with_reducible rfl)
  simp only [Act.put, List.setIfInBounds_toArray, List.set_cons_zero, List.set_cons_succ]
  refine wpAnyH_take (i := 1) (v := ?_) (by simp; rfl) (by kernel_rfl) (by kernel_rfl) (by kernel_rfl) (by exact fun _ _ _ h => h) (Or.inl ⟨by rfl, fun wx hSx => ?_⟩) hHeld ?_
  rotate_left
  · clear hSx; go_simp; (try with_reducible rfl)
  simp only [Act.put, List.setIfInBounds_toArray, List.set_cons_zero, List.set_cons_succ]
  refine wpAnyH_take (i := 2) (v := ?_) (by simp; rfl) (by kernel_rfl) (by kernel_rfl) (by kernel_rfl) (by exact fun _ _ _ h => h) (Or.inl ⟨by rfl, fun wx hSx => ?_⟩) hHeld ?_
  rotate_left
  · clear hSx; go_simp; (try with_reducible rfl)
  simp only [Act.put, List.setIfInBounds_toArray, List.set_cons_zero, List.set_cons_succ]
  refine wpAnyH_take (i := 3) (v := ?_) (by simp; rfl) (by kernel_rfl) (by kernel_rfl) (by kernel_rfl) (by exact fun _ _ _ h => h) (Or.inl ⟨by rfl, fun wx hSx => ?_⟩) hHeld ?_
  rotate_left
  · obtain ⟨q0, q1, q2⟩ := HCE.out wx hSx; clear hSx; go_simp; (try with_reducible rfl)
  simp only [Act.put, List.setIfInBounds_toArray, List.set_cons_zero, List.set_cons_succ]
  refine wpAnyH_take (i := 4) (v := ?_) (by simp; rfl) (by kernel_rfl) (by kernel_rfl) (by kernel_rfl) (by exact fun _ _ _ h => h) (Or.inl ⟨by rfl, fun wx hSx => ?_⟩) hHeld ?_
  rotate_left
  · clear hSx; go_simp; (try with_reducible rfl)
  simp only [Act.put, List.setIfInBounds_toArray, List.set_cons_zero, List.set_cons_succ]
  refine wpAnyH_take (i := 5) (v := ?_) (by simp; rfl) (by kernel_rfl) (by kernel_rfl) (by kernel_rfl) (by exact fun _ _ _ h => h) (Or.inl ⟨by rfl, fun wx hSx => ?_⟩) hHeld ?_
  rotate_left
  · clear hSx; go_simp; (try with_reducible rfl)
  simp only [Act.put, List.setIfInBounds_toArray, List.set_cons_zero, List.set_cons_succ]
  refine wpAnyH_take (i := 6) (v := ?_) (by simp; rfl) (by kernel_rfl) (by kernel_rfl) (by kernel_rfl) (by exact fun _ _ _ h => h) (Or.inl ⟨by rfl, fun wx hSx => ?_⟩) hHeld ?_
  rotate_left
  · clear hSx; go_simp; (try with_reducible rfl)
  simp only [Act.put, List.setIfInBounds_toArray, List.set_cons_zero, List.set_cons_succ]
  refine wpAnyH_take (i := 7) (v := ?_) (by simp; rfl) (by kernel_rfl) (by kernel_rfl) (by kernel_rfl) (by exact fun _ _ _ h => h) (Or.inl ⟨by rfl, fun wx hSx => ?_⟩) hHeld ?_
  rotate_left
  · obtain ⟨q0, q1, q2⟩ := HCE.out wx hSx; clear hSx; go_simp; (try with_reducible rfl)
  simp only [Act.put, List.setIfInBounds_toArray, List.set_cons_zero, List.set_cons_succ]
  refine wpAnyH_take (i := 8) (v := ?_) (by simp; rfl) (by kernel_rfl) (by kernel_rfl) (by kernel_rfl) (by exact fun _ _ _ h => h) (Or.inl ⟨by rfl, fun wx hSx => ?_⟩) hHeld ?_
  rotate_left
  · clear hSx; go_simp; (try with_reducible rfl)
  simp only [Act.put, List.setIfInBounds_toArray, List.set_cons_zero, List.set_cons_succ]
  refine wpAnyH_take (i := 9) (v := ?_) (by simp; rfl) (by kernel_rfl) (by kernel_rfl) (by kernel_rfl) (by exact fun _ _ _ h => h) (Or.inl ⟨by rfl, fun wx hSx => ?_⟩) hHeld ?_
  rotate_left
  · clear hSx; go_simp; (try with_reducible rfl)
  simp only [Act.put, List.setIfInBounds_toArray, List.set_cons_zero, List.set_cons_succ]
  refine wpAnyH_take (i := 10) (v := ?_) (by simp; rfl) (by kernel_rfl) (by kernel_rfl) (by kernel_rfl) (by exact fun _ _ _ h => h) (Or.inl ⟨by rfl, fun wx hSx => ?_⟩) hHeld ?_
  rotate_left
  · clear hSx; go_simp; (try with_reducible rfl)
  simp only [Act.put, List.setIfInBounds_toArray, List.set_cons_zero, List.set_cons_succ]
  refine wpAnyH_take (i := 11) (v := ?_) (by simp; rfl) (by kernel_rfl) (by kernel_rfl) (by kernel_rfl) (by exact fun _ _ _ h => h) (Or.inl ⟨by rfl, fun wx hSx => ?_⟩) hHeld ?_
  rotate_left
  · obtain ⟨q0, q1, q2⟩ := HCE.out wx hSx; clear hSx; go_simp; (try with_reducible rfl)
  simp only [Act.put, List.setIfInBounds_toArray, List.set_cons_zero, List.set_cons_succ]
  refine wpAnyH_ready (rs := [12]) (by kernel_rfl) (by simp) ?_
  refine AllReadyH.cons (by simp; rfl) (fun K0 hK0 => ?_) AllReadyH.nil
  go_simp
  refine HCL.out.mono ?_
  rintro e V ⟨b2, c2, rfl, hb2, hr2, hV⟩
  have HV := Lib.hid (And.intro hb2 (And.intro hr2 hV))
  clear hb2 hr2 hV
  refine hK0.out _ _ HV.out.2.2 (fun _ => ?_)
  clear hK0 K0 hHeld
  have hHeld := HV.out.2.2
  refine wpAnyH_take (i := 13) (v := ?_) (by simp; rfl) (by kernel_rfl) (by kernel_rfl) (by kernel_rfl) (by exact fun _ _ _ h => h) (Or.inl ⟨by rfl, fun wx hSx => ?_⟩) hHeld ?_
  rotate_left
  · clear hSx; go_simp; (try with_reducible rfl)
  simp only [Act.put, List.setIfInBounds_toArray, List.set_cons_zero, List.set_cons_succ]
  refine wpAnyH_ready (rs := [14]) (by kernel_rfl) (by simp) ?_
  refine AllReadyH.cons (by simp; rfl) (fun K0 hK0 => ?_) AllReadyH.nil
  go_simp
  have HB2 := Lib.hid (HV.out.2.2.trans ((((Below.refl V.heap.size V).alloc (Nat.le_refl _) (.cells #[.int .i64 R, .int .i64 C, .slice (some ⟨b2, 0, none⟩) n c2] 57))).mono HV.out.2.2.size))
  refine hK0.out _ _ HB2.out (fun _ => ?_)
  clear hK0 K0 hHeld
  have hHeld := HB2.out
  refine wpAnyH_take (i := 15) (v := ?_) (by simp; rfl) (by kernel_rfl) (by kernel_rfl) (by kernel_rfl) (by exact fun _ _ _ h => h) (Or.inl ⟨by rfl, fun wx hSx => ?_⟩) hHeld ?_
  rotate_left
  · clear hSx; go_simp; (try with_reducible rfl)
  simp only [Act.put, List.setIfInBounds_toArray, List.set_cons_zero, List.set_cons_succ]
  refine wpAnyH_done (by kernel_rfl) ?_ _
  go_wp2
  go_ret
  exact ⟨_, b2, c2, rfl, HEND.out V b2 c2 HV.out.1 HV.out.2.1 HV.out.2.2⟩
end Go.Proofs.Ytahmnipcdkcpiaa
