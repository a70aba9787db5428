/-
  Proved here: of the document's parser: osc, and Feed whole.
-/
import Derived.Test.YtfacnemgjdmlmaaNf
import Derived.LoopTactic
set_option linter.unusedSimpArgs false
set_option linter.unusedVariables false
namespace Go.Proofs.Ytfacnemgjdmlmaa
open Go.RowKit
/-- What stands between the start and the end of a text of the system. -/
def ftS (L : List Int) (i : Nat) : List Int := ((L.take i).drop 2).filter (fun x => decide (x ≠ 27))
theorem ftS_succ {L : List Int} {i : Nat} (h2 : 2 ≤ i) (hi : i < L.length) : ftS L (i + 1) = ftS L i ++ (if L.getD i 0 = 27 then [] else [L.getD i 0]) := by
  unfold ftS
  rw [take_succ hi, List.drop_append_of_le_length (by simp; omega), List.filter_append]
  split
  · rename_i e; rw [e]; simp
  · rename_i e; simp; exact e
theorem ftS_two (L : List Int) : ftS L 2 = [] := by unfold ftS; rw [List.drop_eq_nil_of_le (by simp; omega)]; rfl
theorem ftS_len (L : List Int) (i : Nat) : (ftS L i).length ≤ i := by unfold ftS; refine Nat.le_trans (List.length_filter_le _ _) ?_; simp; omega
/-- The end of a text of the system. -/
def endS (l : List Int) : List Int × Option Ev := if 600 < l.length then ([], none) else ([], some ⟨5, 0, 0, 0, 0, [], bytesL l⟩)
/-- A point of a text of the system. -/
def oscS (L : List Int) (r : Int) : List Int × Option Ev :=
  if r = 7 ∨ (lastS L = 27 ∧ r = 92) then endS (ftS L L.length)
  else if r = 27 ∧ lastS L ≠ 27 then (L ++ [r], none)
  else if r < 32 then (L, none)
  else if lastS L = 27 then plainS [27] r
  else (L ++ [r], none)
/-- What a point brings. -/
def feedS (L : List Int) (r : Int) : List Int × Option Ev :=
  if noneS r = true then (L, none) else if stopS r = true then ([], none) else if oscB L = true then oscS L r else plainS L r
theorem Below.both {B g : Nat} {w wr : World} {o : Array Value} {e : TypeId} (h : Below B w wr) (hg : g < B) (hb : w.heap[g]? = some (.cells o e (0, 0))) (x : Value) : Below B (w.setCell ⟨g, 0, none⟩ x) (wr.setCell ⟨g, 0, none⟩ x) := by
  refine ⟨h.os, h.tape, h.output, by simpa using h.size, fun k hk => ?_⟩
  by_cases e1 : k = g
  · subst e1
    rw [heap_setCell_same w k 0 _ _ _ hb, heap_setCell_same wr k 0 _ _ _ ((h.block k hk).trans hb)]
  · exact (heap_setCell_other wr _ k _ e1).trans ((h.block k hk).trans (heap_setCell_other w _ k _ e1).symm)
theorem conv_text {w : World} {A : Option Addr} {bs : List Int} {n : Nat} (hn : bs.length = n) (c : Nat) (h : RI .u8 w A bs) :
    (convert 56 9 (.slice A n c)).run Try.prog w = .ok (.string (strOfNums bs)) w := by
  subst hn
  rcases Nat.eq_zero_or_pos bs.length with h0 | h0
  · obtain rfl : bs = [] := List.eq_nil_of_length_eq_zero h0
    rcases A with _ | ad
    · exact run_convert_bytes_nil (P := Try.prog) w 56 5 Try.underlying56 Try.underlying5 0 c 9 Try.underlying9
    · rw [run_convert_bytes_string w 56 9 5 _ _ c Try.underlying56 Try.underlying5 Try.underlying9]
      exact run_bytesToString w ad 0 c [] (run_loadCells_list (P := Try.prog) w ad [] (fun j v hj => by simp at hj))
  · obtain ⟨b, off, rfl, _, hc⟩ := h h0
    exact run_convert_bytes_arg (P := Try.prog) w 56 5 Try.underlying56 Try.underlying5 b off _ c bs rfl hc 9 Try.underlying9
theorem Own32.ri {w : World} {A : Option Addr} {n c : Nat} {xs : List Int} {W : World} (h : Own32 w (.slice A n c) xs W) : RI .i32 W A xs ∧ n = xs.length := by
  obtain ⟨A', c', e, _⟩ := own_slice h.own
  injection e with e1 e2 e3
  subst e1 e2 e3
  refine ⟨fun hp => ?_, rfl⟩
  obtain ⟨g, e, _, hg, hc⟩ := own_cells h.own rfl hp
  subst e
  exact ⟨g, 0, rfl, hg, fun i hi => by rw [Nat.zero_add]; exact hc i hi⟩
theorem After.undrew {B g : Nat} {v : Value} {w : World} {R : List Int × Option Ev} {x : Ending} {w2 : World} (h : After B g v w.drew R x w2) : After B g v w R x w2 :=
  After.from h (Fr.of_below (Below.refl _ _).drew) (fun k hk => .inl hk)
set_option maxRecDepth 100000 in
set_option maxHeartbeats 1000000 in
theorem ro_none {B g : Nat} {v : Value} {L : List Int} {w : World} (h : Ps B g v L w) (hlen : 2 ≤ L.length) (hn : L.length ≤ 5000) {r : Int} (h7 : r ≠ 7) (h27 : r = 27 → lastS L = 27) (h32 : r < 32) :
    Calls Try.prog 24 #[.pointer (some ⟨g, 0, none⟩), .int .i32 r] w (After B g v w (L, none)) := by
  have c0 := h.c0
  obtain ⟨A, c, hv, hnc, hcm, _, hR, hge⟩ := h.row
  obtain ⟨b, off, rfl, hbl, hc⟩ := hR (by omega)
  subst hv
  have hbB := hge _ _ _ rfl
  clear hge
  obtain ⟨n, hln⟩ : ∃ n, L.length = n := ⟨_, rfl⟩
  rw [hln] at c0 hnc hlen hn
  obtain ⟨m, hm⟩ : ∃ m, n - 1 = m := ⟨_, rfl⟩
  have cm := hc m (by rw [hln]; omega)
  obtain ⟨z, hz⟩ : ∃ z, L.getD m 0 = z := ⟨_, rfl⟩
  have hlast : lastS L = z := by unfold lastS; rw [hln, hm, hz]
  rw [hz] at cm
  have e1 : (n : Int) - 1 = (m : Int) := by omega
  have m0 : (0 : Int) ≤ (m : Int) := by omega
  have m1 : (m : Int) < (n : Int) := by omega
  have wm : IntKind.i64.wrap (m : Int) = (m : Int) := IntWalk.i64_in _ (by omega)
  have mm : ((m : Int)).toNat = m := rfl
  have HPS := Lib.hid h
  have HLN := Lib.hid hln
  have ff := h.free
  rw [hlast] at h27
  have d1 : (r == 7) = false := by simpa using h7
  have d2 : (r == 92) = false := by simp; omega
  have d3 : decide (r < 32) = true := by simpa using h32
  by_cases hz27 : z = 27
  · have d4 : (z == 27) = true := by simpa using hz27
    obtain ⟨y, hy⟩ : ∃ y, (r == 27) = y := ⟨_, rfl⟩
    clear h27 hz27 h7 h h32
    clear hR hc hz hlast hln hm hbl hbB
    cases y
    · go_enter Try.func24, Try.ntmps24
      go_wp2
      refine wp_region_held_drew (S := fun W => W.cell? ⟨g, 0, none⟩ = some (.slice (some ⟨b, off, none⟩) n c) ∧ W.cell? ⟨b, off + m, none⟩ = some (.int .i32 z)) (by kernel_rfl) ⟨c0, cm⟩ (fun hHeld => ?_)
      refine wpAnyH_take (i := 0) (v := ?_) (by simp; rfl) (by kernel_rfl) (by kernel_rfl) (by kernel_rfl) (by exact fun _ _ _ h => h) (Or.inl ⟨by rfl, fun wx hSx => ?_⟩) hHeld ?_
      rotate_left
      · clear hSx; go_simp; (try with_reducible rfl)
      simp only [Act.put, List.setIfInBounds_toArray, List.set_cons_zero, List.set_cons_succ]
      refine wpAnyH_take (i := 1) (v := ?_) (by simp; rfl) (by kernel_rfl) (by kernel_rfl) (by kernel_rfl) (by exact fun _ _ _ h => h) (Or.inl ⟨by rfl, fun wx hSx => ?_⟩) hHeld ?_
      rotate_left
      · clear hSx; go_simp; (try with_reducible rfl)
      simp only [Act.put, List.setIfInBounds_toArray, List.set_cons_zero, List.set_cons_succ]
      refine wpAnyH_take (i := 2) (v := ?_) (by simp; rfl) (by kernel_rfl) (by kernel_rfl) (by kernel_rfl) (by exact fun _ _ _ h => h) (Or.inl ⟨by rfl, fun wx hSx => ?_⟩) hHeld ?_
      rotate_left
      · clear hSx; go_simp; (try with_reducible rfl)
      simp only [Act.put, List.setIfInBounds_toArray, List.set_cons_zero, List.set_cons_succ]
      refine wpAnyH_take (i := 3) (v := ?_) (by simp; rfl) (by kernel_rfl) (by kernel_rfl) (by kernel_rfl) (by exact fun _ _ _ h => h) (Or.inl ⟨by rfl, fun wx hSx => ?_⟩) hHeld ?_
      rotate_left
      · obtain ⟨s1, s2⟩ := hSx; clear s2; go_simp; (try with_reducible rfl)
      simp only [Act.put, List.setIfInBounds_toArray, List.set_cons_zero, List.set_cons_succ]
      refine wpAnyH_take (i := 4) (v := ?_) (by simp; rfl) (by kernel_rfl) (by kernel_rfl) (by kernel_rfl) (by exact fun _ _ _ h => h) (Or.inl ⟨by rfl, fun wx hSx => ?_⟩) hHeld ?_
      rotate_left
      · clear hSx; go_simp; (try with_reducible rfl)
      simp only [Act.put, List.setIfInBounds_toArray, List.set_cons_zero, List.set_cons_succ]
      refine wpAnyH_take (i := 5) (v := ?_) (by simp; rfl) (by kernel_rfl) (by kernel_rfl) (by kernel_rfl) (by exact fun _ _ _ h => h) (Or.inl ⟨by rfl, fun wx hSx => ?_⟩) hHeld ?_
      rotate_left
      · clear hSx; go_simp; (try with_reducible rfl)
      simp only [Act.put, List.setIfInBounds_toArray, List.set_cons_zero, List.set_cons_succ]
      refine wpAnyH_take (i := 6) (v := ?_) (by simp; rfl) (by kernel_rfl) (by kernel_rfl) (by kernel_rfl) (by exact fun _ _ _ h => h) (Or.inl ⟨by rfl, fun wx hSx => ?_⟩) hHeld ?_
      rotate_left
      · clear hSx; go_simp; (try with_reducible rfl)
      simp only [Act.put, List.setIfInBounds_toArray, List.set_cons_zero, List.set_cons_succ]
      refine wpAnyH_take (i := 7) (v := ?_) (by simp; rfl) (by kernel_rfl) (by kernel_rfl) (by kernel_rfl) (by exact fun _ _ _ h => h) (Or.inl ⟨by rfl, fun wx hSx => ?_⟩) hHeld ?_
      rotate_left
      · obtain ⟨s1, s2⟩ := hSx; clear s2; go_simp; (try with_reducible rfl)
      simp only [Act.put, List.setIfInBounds_toArray, List.set_cons_zero, List.set_cons_succ]
      refine wpAnyH_take (i := 8) (v := ?_) (by simp; rfl) (by kernel_rfl) (by kernel_rfl) (by kernel_rfl) (by exact fun _ _ _ h => h) (Or.inl ⟨by rfl, fun wx hSx => ?_⟩) hHeld ?_
      rotate_left
      · clear hSx; go_simp; (try with_reducible rfl)
      simp only [Act.put, List.setIfInBounds_toArray, List.set_cons_zero, List.set_cons_succ]
      refine wpAnyH_take (i := 9) (v := ?_) (by simp; rfl) (by kernel_rfl) (by kernel_rfl) (by kernel_rfl) (by exact fun _ _ _ h => h) (Or.inl ⟨by rfl, fun wx hSx => ?_⟩) hHeld ?_
      rotate_left
      · clear hSx; go_simp; (try with_reducible rfl)
      simp only [Act.put, List.setIfInBounds_toArray, List.set_cons_zero, List.set_cons_succ]
      refine wpAnyH_take (i := 10) (v := ?_) (by simp; rfl) (by kernel_rfl) (by kernel_rfl) (by kernel_rfl) (by exact fun _ _ _ h => h) (Or.inl ⟨by rfl, fun wx hSx => ?_⟩) hHeld ?_
      rotate_left
      · clear hSx; go_simp; (try with_reducible rfl)
      simp only [Act.put, List.setIfInBounds_toArray, List.set_cons_zero, List.set_cons_succ]
      refine wpAnyH_take (i := 11) (v := ?_) (by simp; rfl) (by kernel_rfl) (by kernel_rfl) (by kernel_rfl) (by exact fun _ _ _ h => h) (Or.inl ⟨by rfl, fun wx hSx => ?_⟩) hHeld ?_
      rotate_left
      · obtain ⟨s1, s2⟩ := hSx; clear s1; go_simp; (try with_reducible rfl)
      simp only [Act.put, List.setIfInBounds_toArray, List.set_cons_zero, List.set_cons_succ]
      refine wpAnyH_take (i := 12) (v := ?_) (by simp; rfl) (by kernel_rfl) (by kernel_rfl) (by kernel_rfl) (by exact fun _ _ _ h => h) (Or.inl ⟨by rfl, fun wx hSx => ?_⟩) hHeld ?_
      rotate_left
      · clear hSx; go_simp; (try with_reducible rfl)
      simp only [Act.put, List.setIfInBounds_toArray, List.set_cons_zero, List.set_cons_succ]
      refine wpAnyH_take (i := 13) (v := ?_) (by simp; rfl) (by kernel_rfl) (by kernel_rfl) (by kernel_rfl) (by exact fun _ _ _ h => h) (Or.inl ⟨by rfl, fun wx hSx => ?_⟩) hHeld ?_
      rotate_left
      · clear hSx; go_simp; (try with_reducible rfl)
      simp only [Act.put, List.setIfInBounds_toArray, List.set_cons_zero, List.set_cons_succ]
      refine wpAnyH_done (by kernel_rfl) ?_ _
      clear hHeld
      go_wp2
      go_ret
      exact after_same HPS.out (Below.refl _ _).drew
    · go_enter Try.func24, Try.ntmps24
      go_wp2
      refine wp_region_held_drew (S := fun W => W.cell? ⟨g, 0, none⟩ = some (.slice (some ⟨b, off, none⟩) n c) ∧ W.cell? ⟨b, off + m, none⟩ = some (.int .i32 z)) (by kernel_rfl) ⟨c0, cm⟩ (fun hHeld => ?_)
      refine wpAnyH_take (i := 0) (v := ?_) (by simp; rfl) (by kernel_rfl) (by kernel_rfl) (by kernel_rfl) (by exact fun _ _ _ h => h) (Or.inl ⟨by rfl, fun wx hSx => ?_⟩) hHeld ?_
      rotate_left
      · clear hSx; go_simp; (try with_reducible rfl)
      simp only [Act.put, List.setIfInBounds_toArray, List.set_cons_zero, List.set_cons_succ]
      refine wpAnyH_take (i := 1) (v := ?_) (by simp; rfl) (by kernel_rfl) (by kernel_rfl) (by kernel_rfl) (by exact fun _ _ _ h => h) (Or.inl ⟨by rfl, fun wx hSx => ?_⟩) hHeld ?_
      rotate_left
      · clear hSx; go_simp; (try with_reducible rfl)
      simp only [Act.put, List.setIfInBounds_toArray, List.set_cons_zero, List.set_cons_succ]
      refine wpAnyH_take (i := 2) (v := ?_) (by simp; rfl) (by kernel_rfl) (by kernel_rfl) (by kernel_rfl) (by exact fun _ _ _ h => h) (Or.inl ⟨by rfl, fun wx hSx => ?_⟩) hHeld ?_
      rotate_left
      · clear hSx; go_simp; (try with_reducible rfl)
      simp only [Act.put, List.setIfInBounds_toArray, List.set_cons_zero, List.set_cons_succ]
      refine wpAnyH_take (i := 3) (v := ?_) (by simp; rfl) (by kernel_rfl) (by kernel_rfl) (by kernel_rfl) (by exact fun _ _ _ h => h) (Or.inl ⟨by rfl, fun wx hSx => ?_⟩) hHeld ?_
      rotate_left
      · obtain ⟨s1, s2⟩ := hSx; clear s2; go_simp; (try with_reducible rfl)
      simp only [Act.put, List.setIfInBounds_toArray, List.set_cons_zero, List.set_cons_succ]
      refine wpAnyH_take (i := 4) (v := ?_) (by simp; rfl) (by kernel_rfl) (by kernel_rfl) (by kernel_rfl) (by exact fun _ _ _ h => h) (Or.inl ⟨by rfl, fun wx hSx => ?_⟩) hHeld ?_
      rotate_left
      · clear hSx; go_simp; (try with_reducible rfl)
      simp only [Act.put, List.setIfInBounds_toArray, List.set_cons_zero, List.set_cons_succ]
      refine wpAnyH_take (i := 5) (v := ?_) (by simp; rfl) (by kernel_rfl) (by kernel_rfl) (by kernel_rfl) (by exact fun _ _ _ h => h) (Or.inl ⟨by rfl, fun wx hSx => ?_⟩) hHeld ?_
      rotate_left
      · clear hSx; go_simp; (try with_reducible rfl)
      simp only [Act.put, List.setIfInBounds_toArray, List.set_cons_zero, List.set_cons_succ]
      refine wpAnyH_take (i := 6) (v := ?_) (by simp; rfl) (by kernel_rfl) (by kernel_rfl) (by kernel_rfl) (by exact fun _ _ _ h => h) (Or.inl ⟨by rfl, fun wx hSx => ?_⟩) hHeld ?_
      rotate_left
      · clear hSx; go_simp; (try with_reducible rfl)
      simp only [Act.put, List.setIfInBounds_toArray, List.set_cons_zero, List.set_cons_succ]
      refine wpAnyH_take (i := 7) (v := ?_) (by simp; rfl) (by kernel_rfl) (by kernel_rfl) (by kernel_rfl) (by exact fun _ _ _ h => h) (Or.inl ⟨by rfl, fun wx hSx => ?_⟩) hHeld ?_
      rotate_left
      · obtain ⟨s1, s2⟩ := hSx; clear s2; go_simp; (try with_reducible rfl)
      simp only [Act.put, List.setIfInBounds_toArray, List.set_cons_zero, List.set_cons_succ]
      refine wpAnyH_take (i := 8) (v := ?_) (by simp; rfl) (by kernel_rfl) (by kernel_rfl) (by kernel_rfl) (by exact fun _ _ _ h => h) (Or.inl ⟨by rfl, fun wx hSx => ?_⟩) hHeld ?_
      rotate_left
      · clear hSx; go_simp; (try with_reducible rfl)
      simp only [Act.put, List.setIfInBounds_toArray, List.set_cons_zero, List.set_cons_succ]
      refine wpAnyH_take (i := 9) (v := ?_) (by simp; rfl) (by kernel_rfl) (by kernel_rfl) (by kernel_rfl) (by exact fun _ _ _ h => h) (Or.inl ⟨by rfl, fun wx hSx => ?_⟩) hHeld ?_
      rotate_left
      · clear hSx; go_simp; (try with_reducible rfl)
      simp only [Act.put, List.setIfInBounds_toArray, List.set_cons_zero, List.set_cons_succ]
      refine wpAnyH_take (i := 10) (v := ?_) (by simp; rfl) (by kernel_rfl) (by kernel_rfl) (by kernel_rfl) (by exact fun _ _ _ h => h) (Or.inl ⟨by rfl, fun wx hSx => ?_⟩) hHeld ?_
      rotate_left
      · clear hSx; go_simp; (try with_reducible rfl)
      simp only [Act.put, List.setIfInBounds_toArray, List.set_cons_zero, List.set_cons_succ]
      refine wpAnyH_take (i := 11) (v := ?_) (by simp; rfl) (by kernel_rfl) (by kernel_rfl) (by kernel_rfl) (by exact fun _ _ _ h => h) (Or.inl ⟨by rfl, fun wx hSx => ?_⟩) hHeld ?_
      rotate_left
      · obtain ⟨s1, s2⟩ := hSx; clear s1; go_simp; (try with_reducible rfl)
      simp only [Act.put, List.setIfInBounds_toArray, List.set_cons_zero, List.set_cons_succ]
      refine wpAnyH_take (i := 12) (v := ?_) (by simp; rfl) (by kernel_rfl) (by kernel_rfl) (by kernel_rfl) (by exact fun _ _ _ h => h) (Or.inl ⟨by rfl, fun wx hSx => ?_⟩) hHeld ?_
      rotate_left
      · clear hSx; go_simp; (try with_reducible rfl)
      simp only [Act.put, List.setIfInBounds_toArray, List.set_cons_zero, List.set_cons_succ]
      refine wpAnyH_take (i := 13) (v := ?_) (by simp; rfl) (by kernel_rfl) (by kernel_rfl) (by kernel_rfl) (by exact fun _ _ _ h => h) (Or.inl ⟨by rfl, fun wx hSx => ?_⟩) hHeld ?_
      rotate_left
      · clear hSx; go_simp; (try with_reducible rfl)
      simp only [Act.put, List.setIfInBounds_toArray, List.set_cons_zero, List.set_cons_succ]
      refine wpAnyH_done (by kernel_rfl) ?_ _
      clear hHeld
      go_wp2
      go_ret
      exact after_same HPS.out (Below.refl _ _).drew
  · have d4 : (z == 27) = false := by simpa using hz27
    have d5 : (r == 27) = false := by simp; intro e; exact hz27 (h27 e)
    clear h27 hz27 h7 h h32
    clear hR hc hz hlast hln hm hbl hbB
    go_enter Try.func24, Try.ntmps24
    go_wp2
    refine wp_region_held_drew (S := fun W => W.cell? ⟨g, 0, none⟩ = some (.slice (some ⟨b, off, none⟩) n c) ∧ W.cell? ⟨b, off + m, none⟩ = some (.int .i32 z)) (by kernel_rfl) ⟨c0, cm⟩ (fun hHeld => ?_)
    refine wpAnyH_take (i := 0) (v := ?_) (by simp; rfl) (by kernel_rfl) (by kernel_rfl) (by kernel_rfl) (by exact fun _ _ _ h => h) (Or.inl ⟨by rfl, fun wx hSx => ?_⟩) hHeld ?_
    rotate_left
    · clear hSx; go_simp; (try with_reducible rfl)
    simp only [Act.put, List.setIfInBounds_toArray, List.set_cons_zero, List.set_cons_succ]
    refine wpAnyH_take (i := 1) (v := ?_) (by simp; rfl) (by kernel_rfl) (by kernel_rfl) (by kernel_rfl) (by exact fun _ _ _ h => h) (Or.inl ⟨by rfl, fun wx hSx => ?_⟩) hHeld ?_
    rotate_left
    · clear hSx; go_simp; (try with_reducible rfl)
    simp only [Act.put, List.setIfInBounds_toArray, List.set_cons_zero, List.set_cons_succ]
    refine wpAnyH_take (i := 2) (v := ?_) (by simp; rfl) (by kernel_rfl) (by kernel_rfl) (by kernel_rfl) (by exact fun _ _ _ h => h) (Or.inl ⟨by rfl, fun wx hSx => ?_⟩) hHeld ?_
    rotate_left
    · clear hSx; go_simp; (try with_reducible rfl)
    simp only [Act.put, List.setIfInBounds_toArray, List.set_cons_zero, List.set_cons_succ]
    refine wpAnyH_take (i := 3) (v := ?_) (by simp; rfl) (by kernel_rfl) (by kernel_rfl) (by kernel_rfl) (by exact fun _ _ _ h => h) (Or.inl ⟨by rfl, fun wx hSx => ?_⟩) hHeld ?_
    rotate_left
    · obtain ⟨s1, s2⟩ := hSx; clear s2; go_simp; (try with_reducible rfl)
    simp only [Act.put, List.setIfInBounds_toArray, List.set_cons_zero, List.set_cons_succ]
    refine wpAnyH_take (i := 4) (v := ?_) (by simp; rfl) (by kernel_rfl) (by kernel_rfl) (by kernel_rfl) (by exact fun _ _ _ h => h) (Or.inl ⟨by rfl, fun wx hSx => ?_⟩) hHeld ?_
    rotate_left
    · clear hSx; go_simp; (try with_reducible rfl)
    simp only [Act.put, List.setIfInBounds_toArray, List.set_cons_zero, List.set_cons_succ]
    refine wpAnyH_take (i := 5) (v := ?_) (by simp; rfl) (by kernel_rfl) (by kernel_rfl) (by kernel_rfl) (by exact fun _ _ _ h => h) (Or.inl ⟨by rfl, fun wx hSx => ?_⟩) hHeld ?_
    rotate_left
    · clear hSx; go_simp; (try with_reducible rfl)
    simp only [Act.put, List.setIfInBounds_toArray, List.set_cons_zero, List.set_cons_succ]
    refine wpAnyH_take (i := 6) (v := ?_) (by simp; rfl) (by kernel_rfl) (by kernel_rfl) (by kernel_rfl) (by exact fun _ _ _ h => h) (Or.inl ⟨by rfl, fun wx hSx => ?_⟩) hHeld ?_
    rotate_left
    · clear hSx; go_simp; (try with_reducible rfl)
    simp only [Act.put, List.setIfInBounds_toArray, List.set_cons_zero, List.set_cons_succ]
    refine wpAnyH_take (i := 7) (v := ?_) (by simp; rfl) (by kernel_rfl) (by kernel_rfl) (by kernel_rfl) (by exact fun _ _ _ h => h) (Or.inl ⟨by rfl, fun wx hSx => ?_⟩) hHeld ?_
    rotate_left
    · obtain ⟨s1, s2⟩ := hSx; clear s2; go_simp; (try with_reducible rfl)
    simp only [Act.put, List.setIfInBounds_toArray, List.set_cons_zero, List.set_cons_succ]
    refine wpAnyH_take (i := 8) (v := ?_) (by simp; rfl) (by kernel_rfl) (by kernel_rfl) (by kernel_rfl) (by exact fun _ _ _ h => h) (Or.inl ⟨by rfl, fun wx hSx => ?_⟩) hHeld ?_
    rotate_left
    · clear hSx; go_simp; (try with_reducible rfl)
    simp only [Act.put, List.setIfInBounds_toArray, List.set_cons_zero, List.set_cons_succ]
    refine wpAnyH_take (i := 9) (v := ?_) (by simp; rfl) (by kernel_rfl) (by kernel_rfl) (by kernel_rfl) (by exact fun _ _ _ h => h) (Or.inl ⟨by rfl, fun wx hSx => ?_⟩) hHeld ?_
    rotate_left
    · clear hSx; go_simp; (try with_reducible rfl)
    simp only [Act.put, List.setIfInBounds_toArray, List.set_cons_zero, List.set_cons_succ]
    refine wpAnyH_take (i := 10) (v := ?_) (by simp; rfl) (by kernel_rfl) (by kernel_rfl) (by kernel_rfl) (by exact fun _ _ _ h => h) (Or.inl ⟨by rfl, fun wx hSx => ?_⟩) hHeld ?_
    rotate_left
    · clear hSx; go_simp; (try with_reducible rfl)
    simp only [Act.put, List.setIfInBounds_toArray, List.set_cons_zero, List.set_cons_succ]
    refine wpAnyH_take (i := 11) (v := ?_) (by simp; rfl) (by kernel_rfl) (by kernel_rfl) (by kernel_rfl) (by exact fun _ _ _ h => h) (Or.inl ⟨by rfl, fun wx hSx => ?_⟩) hHeld ?_
    rotate_left
    · obtain ⟨s1, s2⟩ := hSx; clear s1; go_simp; (try with_reducible rfl)
    simp only [Act.put, List.setIfInBounds_toArray, List.set_cons_zero, List.set_cons_succ]
    refine wpAnyH_take (i := 12) (v := ?_) (by simp; rfl) (by kernel_rfl) (by kernel_rfl) (by kernel_rfl) (by exact fun _ _ _ h => h) (Or.inl ⟨by rfl, fun wx hSx => ?_⟩) hHeld ?_
    rotate_left
    · clear hSx; go_simp; (try with_reducible rfl)
    simp only [Act.put, List.setIfInBounds_toArray, List.set_cons_zero, List.set_cons_succ]
    refine wpAnyH_take (i := 13) (v := ?_) (by simp; rfl) (by kernel_rfl) (by kernel_rfl) (by kernel_rfl) (by exact fun _ _ _ h => h) (Or.inl ⟨by rfl, fun wx hSx => ?_⟩) hHeld ?_
    rotate_left
    · clear hSx; go_simp; (try with_reducible rfl)
    simp only [Act.put, List.setIfInBounds_toArray, List.set_cons_zero, List.set_cons_succ]
    refine wpAnyH_done (by kernel_rfl) ?_ _
    clear hHeld
    go_wp2
    go_ret
    exact after_same HPS.out (Below.refl _ _).drew
set_option maxRecDepth 100000 in
set_option maxHeartbeats 1000000 in
theorem ro_mark {B g : Nat} {v : Value} {L : List Int} {w : World} (h : Ps B g v L w) (hlen : 2 ≤ L.length) (hn : L.length ≤ 5000)  (hz27 : lastS L ≠ 27) :
    Calls Try.prog 24 #[.pointer (some ⟨g, 0, none⟩), .int .i32 27] w (After B g v w (L ++ [27], none)) := by
  have c0 := h.c0
  obtain ⟨A, c, hv, hnc, hcm, _, hR, hge⟩ := h.row
  obtain ⟨b, off, rfl, hbl, hc⟩ := hR (by omega)
  subst hv
  have hbB := hge _ _ _ rfl
  clear hge
  obtain ⟨n, hln⟩ : ∃ n, L.length = n := ⟨_, rfl⟩
  rw [hln] at c0 hnc hlen hn
  obtain ⟨m, hm⟩ : ∃ m, n - 1 = m := ⟨_, rfl⟩
  have cm := hc m (by rw [hln]; omega)
  obtain ⟨z, hz⟩ : ∃ z, L.getD m 0 = z := ⟨_, rfl⟩
  have hlast : lastS L = z := by unfold lastS; rw [hln, hm, hz]
  rw [hz] at cm
  have e1 : (n : Int) - 1 = (m : Int) := by omega
  have m0 : (0 : Int) ≤ (m : Int) := by omega
  have m1 : (m : Int) < (n : Int) := by omega
  have wm : IntKind.i64.wrap (m : Int) = (m : Int) := IntWalk.i64_in _ (by omega)
  have mm : ((m : Int)).toNat = m := rfl
  have HPS := Lib.hid h
  have HLN := Lib.hid hln
  have ff := h.free
  rw [hlast] at hz27
  have d4 : (z == 27) = false := by simpa using hz27
  obtain ⟨A1, c1, w1, hrun, hf1, hc1, hps1, hfr1, hob1⟩ := ps_push h.drew (by omega) 27
  rw [hln] at hrun hc1 hps1 hfr1 hob1
  have c0d : w.drew.cell? ⟨g, 0, none⟩ = some (.slice (some ⟨b, off, none⟩) n c) := c0
  have HRUN := Lib.hid hrun
  have HPS1 := Lib.hid hps1
  have HFR := Lib.hid hfr1
  have HOB := Lib.hid hob1
  clear hrun hps1 hfr1 hob1
  rw [hln]
  clear hz27
  clear h hR hc hz hlast hln hm hbl hbB
  go_enter Try.func24, Try.ntmps24
  go_wp2
  refine wp_region_held_drew (S := fun W => W.cell? ⟨g, 0, none⟩ = some (.slice (some ⟨b, off, none⟩) n c) ∧ W.cell? ⟨b, off + m, none⟩ = some (.int .i32 z)) (by kernel_rfl) ⟨c0, cm⟩ (fun hHeld => ?_)
  refine wpAnyH_take (i := 0) (v := ?_) (by simp; rfl) (by kernel_rfl) (by kernel_rfl) (by kernel_rfl) (by exact fun _ _ _ h => h) (Or.inl ⟨by rfl, fun wx hSx => ?_⟩) hHeld ?_
  rotate_left
  · clear hSx; go_simp; (try with_reducible rfl)
  simp only [Act.put, List.setIfInBounds_toArray, List.set_cons_zero, List.set_cons_succ]
  refine wpAnyH_take (i := 1) (v := ?_) (by simp; rfl) (by kernel_rfl) (by kernel_rfl) (by kernel_rfl) (by exact fun _ _ _ h => h) (Or.inl ⟨by rfl, fun wx hSx => ?_⟩) hHeld ?_
  rotate_left
  · clear hSx; go_simp; (try with_reducible rfl)
  simp only [Act.put, List.setIfInBounds_toArray, List.set_cons_zero, List.set_cons_succ]
  refine wpAnyH_take (i := 2) (v := ?_) (by simp; rfl) (by kernel_rfl) (by kernel_rfl) (by kernel_rfl) (by exact fun _ _ _ h => h) (Or.inl ⟨by rfl, fun wx hSx => ?_⟩) hHeld ?_
  rotate_left
  · clear hSx; go_simp; (try with_reducible rfl)
  simp only [Act.put, List.setIfInBounds_toArray, List.set_cons_zero, List.set_cons_succ]
  refine wpAnyH_take (i := 3) (v := ?_) (by simp; rfl) (by kernel_rfl) (by kernel_rfl) (by kernel_rfl) (by exact fun _ _ _ h => h) (Or.inl ⟨by rfl, fun wx hSx => ?_⟩) hHeld ?_
  rotate_left
  · obtain ⟨s1, s2⟩ := hSx; clear s2; go_simp; (try with_reducible rfl)
  simp only [Act.put, List.setIfInBounds_toArray, List.set_cons_zero, List.set_cons_succ]
  refine wpAnyH_take (i := 4) (v := ?_) (by simp; rfl) (by kernel_rfl) (by kernel_rfl) (by kernel_rfl) (by exact fun _ _ _ h => h) (Or.inl ⟨by rfl, fun wx hSx => ?_⟩) hHeld ?_
  rotate_left
  · clear hSx; go_simp; (try with_reducible rfl)
  simp only [Act.put, List.setIfInBounds_toArray, List.set_cons_zero, List.set_cons_succ]
  refine wpAnyH_take (i := 5) (v := ?_) (by simp; rfl) (by kernel_rfl) (by kernel_rfl) (by kernel_rfl) (by exact fun _ _ _ h => h) (Or.inl ⟨by rfl, fun wx hSx => ?_⟩) hHeld ?_
  rotate_left
  · clear hSx; go_simp; (try with_reducible rfl)
  simp only [Act.put, List.setIfInBounds_toArray, List.set_cons_zero, List.set_cons_succ]
  refine wpAnyH_take (i := 6) (v := ?_) (by simp; rfl) (by kernel_rfl) (by kernel_rfl) (by kernel_rfl) (by exact fun _ _ _ h => h) (Or.inl ⟨by rfl, fun wx hSx => ?_⟩) hHeld ?_
  rotate_left
  · clear hSx; go_simp; (try with_reducible rfl)
  simp only [Act.put, List.setIfInBounds_toArray, List.set_cons_zero, List.set_cons_succ]
  refine wpAnyH_take (i := 7) (v := ?_) (by simp; rfl) (by kernel_rfl) (by kernel_rfl) (by kernel_rfl) (by exact fun _ _ _ h => h) (Or.inl ⟨by rfl, fun wx hSx => ?_⟩) hHeld ?_
  rotate_left
  · obtain ⟨s1, s2⟩ := hSx; clear s2; go_simp; (try with_reducible rfl)
  simp only [Act.put, List.setIfInBounds_toArray, List.set_cons_zero, List.set_cons_succ]
  refine wpAnyH_take (i := 8) (v := ?_) (by simp; rfl) (by kernel_rfl) (by kernel_rfl) (by kernel_rfl) (by exact fun _ _ _ h => h) (Or.inl ⟨by rfl, fun wx hSx => ?_⟩) hHeld ?_
  rotate_left
  · clear hSx; go_simp; (try with_reducible rfl)
  simp only [Act.put, List.setIfInBounds_toArray, List.set_cons_zero, List.set_cons_succ]
  refine wpAnyH_take (i := 9) (v := ?_) (by simp; rfl) (by kernel_rfl) (by kernel_rfl) (by kernel_rfl) (by exact fun _ _ _ h => h) (Or.inl ⟨by rfl, fun wx hSx => ?_⟩) hHeld ?_
  rotate_left
  · clear hSx; go_simp; (try with_reducible rfl)
  simp only [Act.put, List.setIfInBounds_toArray, List.set_cons_zero, List.set_cons_succ]
  refine wpAnyH_take (i := 10) (v := ?_) (by simp; rfl) (by kernel_rfl) (by kernel_rfl) (by kernel_rfl) (by exact fun _ _ _ h => h) (Or.inl ⟨by rfl, fun wx hSx => ?_⟩) hHeld ?_
  rotate_left
  · clear hSx; go_simp; (try with_reducible rfl)
  simp only [Act.put, List.setIfInBounds_toArray, List.set_cons_zero, List.set_cons_succ]
  refine wpAnyH_take (i := 11) (v := ?_) (by simp; rfl) (by kernel_rfl) (by kernel_rfl) (by kernel_rfl) (by exact fun _ _ _ h => h) (Or.inl ⟨by rfl, fun wx hSx => ?_⟩) hHeld ?_
  rotate_left
  · obtain ⟨s1, s2⟩ := hSx; clear s1; go_simp; (try with_reducible rfl)
  simp only [Act.put, List.setIfInBounds_toArray, List.set_cons_zero, List.set_cons_succ]
  refine wpAnyH_take (i := 12) (v := ?_) (by simp; rfl) (by kernel_rfl) (by kernel_rfl) (by kernel_rfl) (by exact fun _ _ _ h => h) (Or.inl ⟨by rfl, fun wx hSx => ?_⟩) hHeld ?_
  rotate_left
  · clear hSx; go_simp; (try with_reducible rfl)
  simp only [Act.put, List.setIfInBounds_toArray, List.set_cons_zero, List.set_cons_succ]
  refine wpAnyH_take (i := 13) (v := ?_) (by simp; rfl) (by kernel_rfl) (by kernel_rfl) (by kernel_rfl) (by exact fun _ _ _ h => h) (Or.inl ⟨by rfl, fun wx hSx => ?_⟩) hHeld ?_
  rotate_left
  · clear hSx; go_simp; (try with_reducible rfl)
  simp only [Act.put, List.setIfInBounds_toArray, List.set_cons_zero, List.set_cons_succ]
  refine wpAnyH_done (by kernel_rfl) ?_ _
  clear hHeld
  go_wp2_with (at_builtin; refine wpList_app rfl (.tmp 90) (.tmp 92) _ rfl _ _ rfl rfl HRUN.out ?_)
  go_ret
  refine After.undrew ⟨_, _, rfl, HPS1.out, ?_, HOB.out, rfl⟩
  exact HFR.out
set_option maxRecDepth 100000 in
set_option maxHeartbeats 1000000 in
theorem ro_push {B g : Nat} {v : Value} {L : List Int} {w : World} (h : Ps B g v L w) (hlen : 2 ≤ L.length) (hn : L.length ≤ 5000) {r : Int} (hz27 : lastS L ≠ 27) (h32 : 32 ≤ r) :
    Calls Try.prog 24 #[.pointer (some ⟨g, 0, none⟩), .int .i32 r] w (After B g v w (L ++ [r], none)) := by
  have c0 := h.c0
  obtain ⟨A, c, hv, hnc, hcm, _, hR, hge⟩ := h.row
  obtain ⟨b, off, rfl, hbl, hc⟩ := hR (by omega)
  subst hv
  have hbB := hge _ _ _ rfl
  clear hge
  obtain ⟨n, hln⟩ : ∃ n, L.length = n := ⟨_, rfl⟩
  rw [hln] at c0 hnc hlen hn
  obtain ⟨m, hm⟩ : ∃ m, n - 1 = m := ⟨_, rfl⟩
  have cm := hc m (by rw [hln]; omega)
  obtain ⟨z, hz⟩ : ∃ z, L.getD m 0 = z := ⟨_, rfl⟩
  have hlast : lastS L = z := by unfold lastS; rw [hln, hm, hz]
  rw [hz] at cm
  have e1 : (n : Int) - 1 = (m : Int) := by omega
  have m0 : (0 : Int) ≤ (m : Int) := by omega
  have m1 : (m : Int) < (n : Int) := by omega
  have wm : IntKind.i64.wrap (m : Int) = (m : Int) := IntWalk.i64_in _ (by omega)
  have mm : ((m : Int)).toNat = m := rfl
  have HPS := Lib.hid h
  have HLN := Lib.hid hln
  have ff := h.free
  rw [hlast] at hz27
  have d4 : (z == 27) = false := by simpa using hz27
  have d1 : (r == 7) = false := by simp; omega
  have d2 : (r == 27) = false := by simp; omega
  have d3 : decide (r < 32) = false := by simp; omega
  obtain ⟨A1, c1, w1, hrun, hf1, hc1, hps1, hfr1, hob1⟩ := ps_push h.drew (by omega) r
  rw [hln] at hrun hc1 hps1 hfr1 hob1
  have c0d : w.drew.cell? ⟨g, 0, none⟩ = some (.slice (some ⟨b, off, none⟩) n c) := c0
  have HRUN := Lib.hid hrun
  have HPS1 := Lib.hid hps1
  have HFR := Lib.hid hfr1
  have HOB := Lib.hid hob1
  clear hrun hps1 hfr1 hob1
  rw [hln]
  clear hz27
  clear h hR hc hz hlast hln hm hbl hbB
  go_enter Try.func24, Try.ntmps24
  go_wp2
  refine wp_region_held_drew (S := fun W => W.cell? ⟨g, 0, none⟩ = some (.slice (some ⟨b, off, none⟩) n c) ∧ W.cell? ⟨b, off + m, none⟩ = some (.int .i32 z)) (by kernel_rfl) ⟨c0, cm⟩ (fun hHeld => ?_)
  refine wpAnyH_take (i := 0) (v := ?_) (by simp; rfl) (by kernel_rfl) (by kernel_rfl) (by kernel_rfl) (by exact fun _ _ _ h => h) (Or.inl ⟨by rfl, fun wx hSx => ?_⟩) hHeld ?_
  rotate_left
  · clear hSx; go_simp; (try with_reducible rfl)
  simp only [Act.put, List.setIfInBounds_toArray, List.set_cons_zero, List.set_cons_succ]
  refine wpAnyH_take (i := 1) (v := ?_) (by simp; rfl) (by kernel_rfl) (by kernel_rfl) (by kernel_rfl) (by exact fun _ _ _ h => h) (Or.inl ⟨by rfl, fun wx hSx => ?_⟩) hHeld ?_
  rotate_left
  · clear hSx; go_simp; (try with_reducible rfl)
  simp only [Act.put, List.setIfInBounds_toArray, List.set_cons_zero, List.set_cons_succ]
  refine wpAnyH_take (i := 2) (v := ?_) (by simp; rfl) (by kernel_rfl) (by kernel_rfl) (by kernel_rfl) (by exact fun _ _ _ h => h) (Or.inl ⟨by rfl, fun wx hSx => ?_⟩) hHeld ?_
  rotate_left
  · clear hSx; go_simp; (try with_reducible rfl)
  simp only [Act.put, List.setIfInBounds_toArray, List.set_cons_zero, List.set_cons_succ]
  refine wpAnyH_take (i := 3) (v := ?_) (by simp; rfl) (by kernel_rfl) (by kernel_rfl) (by kernel_rfl) (by exact fun _ _ _ h => h) (Or.inl ⟨by rfl, fun wx hSx => ?_⟩) hHeld ?_
  rotate_left
  · obtain ⟨s1, s2⟩ := hSx; clear s2; go_simp; (try with_reducible rfl)
  simp only [Act.put, List.setIfInBounds_toArray, List.set_cons_zero, List.set_cons_succ]
  refine wpAnyH_take (i := 4) (v := ?_) (by simp; rfl) (by kernel_rfl) (by kernel_rfl) (by kernel_rfl) (by exact fun _ _ _ h => h) (Or.inl ⟨by rfl, fun wx hSx => ?_⟩) hHeld ?_
  rotate_left
  · clear hSx; go_simp; (try with_reducible rfl)
  simp only [Act.put, List.setIfInBounds_toArray, List.set_cons_zero, List.set_cons_succ]
  refine wpAnyH_take (i := 5) (v := ?_) (by simp; rfl) (by kernel_rfl) (by kernel_rfl) (by kernel_rfl) (by exact fun _ _ _ h => h) (Or.inl ⟨by rfl, fun wx hSx => ?_⟩) hHeld ?_
  rotate_left
  · clear hSx; go_simp; (try with_reducible rfl)
  simp only [Act.put, List.setIfInBounds_toArray, List.set_cons_zero, List.set_cons_succ]
  refine wpAnyH_take (i := 6) (v := ?_) (by simp; rfl) (by kernel_rfl) (by kernel_rfl) (by kernel_rfl) (by exact fun _ _ _ h => h) (Or.inl ⟨by rfl, fun wx hSx => ?_⟩) hHeld ?_
  rotate_left
  · clear hSx; go_simp; (try with_reducible rfl)
  simp only [Act.put, List.setIfInBounds_toArray, List.set_cons_zero, List.set_cons_succ]
  refine wpAnyH_take (i := 7) (v := ?_) (by simp; rfl) (by kernel_rfl) (by kernel_rfl) (by kernel_rfl) (by exact fun _ _ _ h => h) (Or.inl ⟨by rfl, fun wx hSx => ?_⟩) hHeld ?_
  rotate_left
  · obtain ⟨s1, s2⟩ := hSx; clear s2; go_simp; (try with_reducible rfl)
  simp only [Act.put, List.setIfInBounds_toArray, List.set_cons_zero, List.set_cons_succ]
  refine wpAnyH_take (i := 8) (v := ?_) (by simp; rfl) (by kernel_rfl) (by kernel_rfl) (by kernel_rfl) (by exact fun _ _ _ h => h) (Or.inl ⟨by rfl, fun wx hSx => ?_⟩) hHeld ?_
  rotate_left
  · clear hSx; go_simp; (try with_reducible rfl)
  simp only [Act.put, List.setIfInBounds_toArray, List.set_cons_zero, List.set_cons_succ]
  refine wpAnyH_take (i := 9) (v := ?_) (by simp; rfl) (by kernel_rfl) (by kernel_rfl) (by kernel_rfl) (by exact fun _ _ _ h => h) (Or.inl ⟨by rfl, fun wx hSx => ?_⟩) hHeld ?_
  rotate_left
  · clear hSx; go_simp; (try with_reducible rfl)
  simp only [Act.put, List.setIfInBounds_toArray, List.set_cons_zero, List.set_cons_succ]
  refine wpAnyH_take (i := 10) (v := ?_) (by simp; rfl) (by kernel_rfl) (by kernel_rfl) (by kernel_rfl) (by exact fun _ _ _ h => h) (Or.inl ⟨by rfl, fun wx hSx => ?_⟩) hHeld ?_
  rotate_left
  · clear hSx; go_simp; (try with_reducible rfl)
  simp only [Act.put, List.setIfInBounds_toArray, List.set_cons_zero, List.set_cons_succ]
  refine wpAnyH_take (i := 11) (v := ?_) (by simp; rfl) (by kernel_rfl) (by kernel_rfl) (by kernel_rfl) (by exact fun _ _ _ h => h) (Or.inl ⟨by rfl, fun wx hSx => ?_⟩) hHeld ?_
  rotate_left
  · obtain ⟨s1, s2⟩ := hSx; clear s1; go_simp; (try with_reducible rfl)
  simp only [Act.put, List.setIfInBounds_toArray, List.set_cons_zero, List.set_cons_succ]
  refine wpAnyH_take (i := 12) (v := ?_) (by simp; rfl) (by kernel_rfl) (by kernel_rfl) (by kernel_rfl) (by exact fun _ _ _ h => h) (Or.inl ⟨by rfl, fun wx hSx => ?_⟩) hHeld ?_
  rotate_left
  · clear hSx; go_simp; (try with_reducible rfl)
  simp only [Act.put, List.setIfInBounds_toArray, List.set_cons_zero, List.set_cons_succ]
  refine wpAnyH_take (i := 13) (v := ?_) (by simp; rfl) (by kernel_rfl) (by kernel_rfl) (by kernel_rfl) (by exact fun _ _ _ h => h) (Or.inl ⟨by rfl, fun wx hSx => ?_⟩) hHeld ?_
  rotate_left
  · clear hSx; go_simp; (try with_reducible rfl)
  simp only [Act.put, List.setIfInBounds_toArray, List.set_cons_zero, List.set_cons_succ]
  refine wpAnyH_done (by kernel_rfl) ?_ _
  clear hHeld
  go_wp2_with (at_builtin; refine wpList_app rfl (.tmp 25) (.tmp 27) _ rfl _ _ rfl rfl HRUN.out ?_)
  go_ret
  refine After.undrew ⟨_, _, rfl, HPS1.out, ?_, HOB.out, rfl⟩
  exact HFR.out
set_option maxRecDepth 100000 in
set_option maxHeartbeats 1000000 in
theorem ro_again {B g : Nat} {v : Value} {L : List Int} {w : World} (h : Ps B g v L w) (hlen : 2 ≤ L.length) (hn : L.length ≤ 5000) {r : Int} (hz27 : lastS L = 27) (h32 : 32 ≤ r) (h92 : r ≠ 92) (h0 : noneS r = false) (h1 : stopS r = false) :
    Calls Try.prog 24 #[.pointer (some ⟨g, 0, none⟩), .int .i32 r] w (After B g v w (plainS [27] r)) := by
  have c0 := h.c0
  obtain ⟨A, c, hv, hnc, hcm, _, hR, hge⟩ := h.row
  obtain ⟨b, off, rfl, hbl, hc⟩ := hR (by omega)
  subst hv
  have hbB := hge _ _ _ rfl
  clear hge
  obtain ⟨n, hln⟩ : ∃ n, L.length = n := ⟨_, rfl⟩
  rw [hln] at c0 hnc hlen hn
  obtain ⟨m, hm⟩ : ∃ m, n - 1 = m := ⟨_, rfl⟩
  have cm := hc m (by rw [hln]; omega)
  obtain ⟨z, hz⟩ : ∃ z, L.getD m 0 = z := ⟨_, rfl⟩
  have hlast : lastS L = z := by unfold lastS; rw [hln, hm, hz]
  rw [hz] at cm
  have e1 : (n : Int) - 1 = (m : Int) := by omega
  have m0 : (0 : Int) ≤ (m : Int) := by omega
  have m1 : (m : Int) < (n : Int) := by omega
  have wm : IntKind.i64.wrap (m : Int) = (m : Int) := IntWalk.i64_in _ (by omega)
  have mm : ((m : Int)).toNat = m := rfl
  have HPS := Lib.hid h
  have HLN := Lib.hid hln
  have ff := h.free
  rw [hlast] at hz27
  have d4 : (z == 27) = true := by simpa using hz27
  have d1 : (r == 7) = false := by simp; omega
  have d2 : (r == 27) = false := by simp; omega
  have d3 : decide (r < 32) = false := by simp; omega
  have d5 : (r == 92) = false := by simpa using h92
  have hba := (Below.refl w.drew.heap.size w.drew).alloc (Nat.le_refl _) (.cells #[.int .i32 27] 21)
  have hlt : g < w.drew.heap.size := lt_of_block h.blk
  have hb1 := (hba.block g hlt).trans h.drew.blk
  have c0d : (w.alloc (.cells #[.int .i32 27] 21)).cell? ⟨g, 0, none⟩ = some (.slice (some ⟨b, off, none⟩) n c) := by have hb2 : (w.alloc (.cells #[.int .i32 27] 21)).heap[g]? = some (.cells #[.slice (some ⟨b, off, none⟩) L.length c] 28 (0, 0)) := hb1; unfold World.cell?; simp only [hb2]; rw [hln]; rfl
  have ffd : (w.alloc (.cells #[.int .i32 27] 21)).frozen? ⟨g, 0, none⟩ = false := frozen_of_row _ _ 0 _ _ (show (w.alloc (.cells #[.int .i32 27] 21)).heap[g]? = _ from hb1)
  have hol := World.ownsRow_lit (e := 21) (size := 1) (base := w.drew.heap.size) w.drew #[.int .i32 27] 1 (Nat.le_refl _) (by unfold maxLen; omega) rfl
  have hps : Ps B g (.slice (some ⟨w.drew.heap.size, 0, none⟩) 1 1) [27] ((w.drew.alloc (.cells #[.int .i32 27] 21)).setCell ⟨g, 0, none⟩ (.slice (some ⟨w.drew.heap.size, 0, none⟩) 1 1)) := by
    refine ⟨?_, ?_, h.low, ?_⟩
    · rw [heap_setCell_same _ g 0 _ _ _ hb1]; rfl
    · exact ownsRow_setCell_below (own_mono hol h.drew.big) h.low _
    · have := h.drew.big; simp at this ⊢; omega
  have HFR := Lib.hid (show Fr g (.slice (some ⟨b, off, none⟩) n c) w.drew ((w.drew.alloc (.cells #[.int .i32 27] 21)).setCell ⟨g, 0, none⟩ (.slice (some ⟨w.drew.heap.size, 0, none⟩) 1 1)) from (Fr.of_below hba).setCell 0 _)
  have HFEED := Lib.hid (rf_plain hps (by simp) (fun i h1 h2 => by simp at h2; omega) rfl h0 h1)
  obtain ⟨R, hRR⟩ : ∃ R, plainS [27] r = R := ⟨_, rfl⟩
  rw [hRR] at HFEED ⊢
  rw [hln]
  clear hz27 h92 h0 h1 hba hlt hb1 hol hps hRR
  clear h hR hc hz hlast hln hm hbl hbB
  go_enter Try.func24, Try.ntmps24
  go_wp2
  refine wp_region_held_drew (S := fun W => W.cell? ⟨g, 0, none⟩ = some (.slice (some ⟨b, off, none⟩) n c) ∧ W.cell? ⟨b, off + m, none⟩ = some (.int .i32 z)) (by kernel_rfl) ⟨c0, cm⟩ (fun hHeld => ?_)
  refine wpAnyH_take (i := 0) (v := ?_) (by simp; rfl) (by kernel_rfl) (by kernel_rfl) (by kernel_rfl) (by exact fun _ _ _ h => h) (Or.inl ⟨by rfl, fun wx hSx => ?_⟩) hHeld ?_
  rotate_left
  · clear hSx; go_simp; (try with_reducible rfl)
  simp only [Act.put, List.setIfInBounds_toArray, List.set_cons_zero, List.set_cons_succ]
  refine wpAnyH_take (i := 1) (v := ?_) (by simp; rfl) (by kernel_rfl) (by kernel_rfl) (by kernel_rfl) (by exact fun _ _ _ h => h) (Or.inl ⟨by rfl, fun wx hSx => ?_⟩) hHeld ?_
  rotate_left
  · clear hSx; go_simp; (try with_reducible rfl)
  simp only [Act.put, List.setIfInBounds_toArray, List.set_cons_zero, List.set_cons_succ]
  refine wpAnyH_take (i := 2) (v := ?_) (by simp; rfl) (by kernel_rfl) (by kernel_rfl) (by kernel_rfl) (by exact fun _ _ _ h => h) (Or.inl ⟨by rfl, fun wx hSx => ?_⟩) hHeld ?_
  rotate_left
  · clear hSx; go_simp; (try with_reducible rfl)
  simp only [Act.put, List.setIfInBounds_toArray, List.set_cons_zero, List.set_cons_succ]
  refine wpAnyH_take (i := 3) (v := ?_) (by simp; rfl) (by kernel_rfl) (by kernel_rfl) (by kernel_rfl) (by exact fun _ _ _ h => h) (Or.inl ⟨by rfl, fun wx hSx => ?_⟩) hHeld ?_
  rotate_left
  · obtain ⟨s1, s2⟩ := hSx; clear s2; go_simp; (try with_reducible rfl)
  simp only [Act.put, List.setIfInBounds_toArray, List.set_cons_zero, List.set_cons_succ]
  refine wpAnyH_take (i := 4) (v := ?_) (by simp; rfl) (by kernel_rfl) (by kernel_rfl) (by kernel_rfl) (by exact fun _ _ _ h => h) (Or.inl ⟨by rfl, fun wx hSx => ?_⟩) hHeld ?_
  rotate_left
  · clear hSx; go_simp; (try with_reducible rfl)
  simp only [Act.put, List.setIfInBounds_toArray, List.set_cons_zero, List.set_cons_succ]
  refine wpAnyH_take (i := 5) (v := ?_) (by simp; rfl) (by kernel_rfl) (by kernel_rfl) (by kernel_rfl) (by exact fun _ _ _ h => h) (Or.inl ⟨by rfl, fun wx hSx => ?_⟩) hHeld ?_
  rotate_left
  · clear hSx; go_simp; (try with_reducible rfl)
  simp only [Act.put, List.setIfInBounds_toArray, List.set_cons_zero, List.set_cons_succ]
  refine wpAnyH_take (i := 6) (v := ?_) (by simp; rfl) (by kernel_rfl) (by kernel_rfl) (by kernel_rfl) (by exact fun _ _ _ h => h) (Or.inl ⟨by rfl, fun wx hSx => ?_⟩) hHeld ?_
  rotate_left
  · clear hSx; go_simp; (try with_reducible rfl)
  simp only [Act.put, List.setIfInBounds_toArray, List.set_cons_zero, List.set_cons_succ]
  refine wpAnyH_take (i := 7) (v := ?_) (by simp; rfl) (by kernel_rfl) (by kernel_rfl) (by kernel_rfl) (by exact fun _ _ _ h => h) (Or.inl ⟨by rfl, fun wx hSx => ?_⟩) hHeld ?_
  rotate_left
  · obtain ⟨s1, s2⟩ := hSx; clear s2; go_simp; (try with_reducible rfl)
  simp only [Act.put, List.setIfInBounds_toArray, List.set_cons_zero, List.set_cons_succ]
  refine wpAnyH_take (i := 8) (v := ?_) (by simp; rfl) (by kernel_rfl) (by kernel_rfl) (by kernel_rfl) (by exact fun _ _ _ h => h) (Or.inl ⟨by rfl, fun wx hSx => ?_⟩) hHeld ?_
  rotate_left
  · clear hSx; go_simp; (try with_reducible rfl)
  simp only [Act.put, List.setIfInBounds_toArray, List.set_cons_zero, List.set_cons_succ]
  refine wpAnyH_take (i := 9) (v := ?_) (by simp; rfl) (by kernel_rfl) (by kernel_rfl) (by kernel_rfl) (by exact fun _ _ _ h => h) (Or.inl ⟨by rfl, fun wx hSx => ?_⟩) hHeld ?_
  rotate_left
  · clear hSx; go_simp; (try with_reducible rfl)
  simp only [Act.put, List.setIfInBounds_toArray, List.set_cons_zero, List.set_cons_succ]
  refine wpAnyH_take (i := 10) (v := ?_) (by simp; rfl) (by kernel_rfl) (by kernel_rfl) (by kernel_rfl) (by exact fun _ _ _ h => h) (Or.inl ⟨by rfl, fun wx hSx => ?_⟩) hHeld ?_
  rotate_left
  · clear hSx; go_simp; (try with_reducible rfl)
  simp only [Act.put, List.setIfInBounds_toArray, List.set_cons_zero, List.set_cons_succ]
  refine wpAnyH_take (i := 11) (v := ?_) (by simp; rfl) (by kernel_rfl) (by kernel_rfl) (by kernel_rfl) (by exact fun _ _ _ h => h) (Or.inl ⟨by rfl, fun wx hSx => ?_⟩) hHeld ?_
  rotate_left
  · obtain ⟨s1, s2⟩ := hSx; clear s1; go_simp; (try with_reducible rfl)
  simp only [Act.put, List.setIfInBounds_toArray, List.set_cons_zero, List.set_cons_succ]
  refine wpAnyH_take (i := 12) (v := ?_) (by simp; rfl) (by kernel_rfl) (by kernel_rfl) (by kernel_rfl) (by exact fun _ _ _ h => h) (Or.inl ⟨by rfl, fun wx hSx => ?_⟩) hHeld ?_
  rotate_left
  · clear hSx; go_simp; (try with_reducible rfl)
  simp only [Act.put, List.setIfInBounds_toArray, List.set_cons_zero, List.set_cons_succ]
  refine wpAnyH_take (i := 13) (v := ?_) (by simp; rfl) (by kernel_rfl) (by kernel_rfl) (by kernel_rfl) (by exact fun _ _ _ h => h) (Or.inl ⟨by rfl, fun wx hSx => ?_⟩) hHeld ?_
  rotate_left
  · clear hSx; go_simp; (try with_reducible rfl)
  simp only [Act.put, List.setIfInBounds_toArray, List.set_cons_zero, List.set_cons_succ]
  refine wpAnyH_done (by kernel_rfl) ?_ _
  clear hHeld
  go_wp2_with (go_at_call 11; refine HFEED.out.mono ?_; rintro x w2 ⟨v2, out2, rfl, q1, q2, q3, q4⟩)
  go_ret
  exact After.undrew (After.from ⟨v2, out2, rfl, q1, q2, q3, q4⟩ HFR.out (fun k hk => by right; simp [Value.ownBlock] at hk; simp; omega))
set_option maxRecDepth 100000 in
set_option maxHeartbeats 1000000 in
theorem ro_bel {B g : Nat} {v : Value} {L : List Int} {w : World} (h : Ps B g v L w) (hlen : 2 ≤ L.length) (hn : L.length ≤ 5000) {r : Int} (hr : r = 7) :
    Calls Try.prog 24 #[.pointer (some ⟨g, 0, none⟩), .int .i32 r] w (After B g v w (endS (ftS L L.length))) := by
  have c0 := h.c0
  obtain ⟨A, c, hv, hnc, hcm, _, hR, hge⟩ := h.row
  obtain ⟨b, off, rfl, hbl, hc⟩ := hR (by omega)
  subst hv
  have hbB := hge _ _ _ rfl
  clear hge
  obtain ⟨n, hln⟩ : ∃ n, L.length = n := ⟨_, rfl⟩
  rw [hln] at c0 hnc hlen hn
  obtain ⟨m, hm⟩ : ∃ m, n - 1 = m := ⟨_, rfl⟩
  have cm := hc m (by rw [hln]; omega)
  obtain ⟨z, hz⟩ : ∃ z, L.getD m 0 = z := ⟨_, rfl⟩
  have hlast : lastS L = z := by unfold lastS; rw [hln, hm, hz]
  rw [hz] at cm
  have e1 : (n : Int) - 1 = (m : Int) := by omega
  have m0 : (0 : Int) ≤ (m : Int) := by omega
  have m1 : (m : Int) < (n : Int) := by omega
  have wm : IntKind.i64.wrap (m : Int) = (m : Int) := IntWalk.i64_in _ (by omega)
  have mm : ((m : Int)).toNat = m := rfl
  have HPS := Lib.hid h
  have HLN := Lib.hid hln
  have ff := h.free
  have d1 : (r == 7) = true := by simpa using hr
  have hglt : g < w.drew.heap.size := lt_of_block h.blk
  have HC := Lib.hid hc
  have HO0 : Hid (Own32 w.drew (.slice none 0 0) (ftS L 2) w.drew) := Lib.hid (by rw [ftS_two]; exact Own32.new _)
  have hvv : (Value.slice (some ⟨b, off, none⟩) L.length c) = .slice (some ⟨b, off, none⟩) n c := by rw [hln]
  rw [hvv]
  rw [hvv] at HPS
  clear h hR hc hz hlast hln hm hbB hvv hr
  go_enter Try.func24, Try.ntmps24
  go_wp2
  refine wp_region_held_drew (S := fun W => W.cell? ⟨g, 0, none⟩ = some (.slice (some ⟨b, off, none⟩) n c) ∧ W.cell? ⟨b, off + m, none⟩ = some (.int .i32 z)) (by kernel_rfl) ⟨c0, cm⟩ (fun hHeld => ?_)
  refine wpAnyH_take (i := 0) (v := ?_) (by simp; rfl) (by kernel_rfl) (by kernel_rfl) (by kernel_rfl) (by exact fun _ _ _ h => h) (Or.inl ⟨by rfl, fun wx hSx => ?_⟩) hHeld ?_
  rotate_left
  · clear hSx; go_simp; (try with_reducible rfl)
  simp only [Act.put, List.setIfInBounds_toArray, List.set_cons_zero, List.set_cons_succ]
  refine wpAnyH_take (i := 1) (v := ?_) (by simp; rfl) (by kernel_rfl) (by kernel_rfl) (by kernel_rfl) (by exact fun _ _ _ h => h) (Or.inl ⟨by rfl, fun wx hSx => ?_⟩) hHeld ?_
  rotate_left
  · clear hSx; go_simp; (try with_reducible rfl)
  simp only [Act.put, List.setIfInBounds_toArray, List.set_cons_zero, List.set_cons_succ]
  refine wpAnyH_take (i := 2) (v := ?_) (by simp; rfl) (by kernel_rfl) (by kernel_rfl) (by kernel_rfl) (by exact fun _ _ _ h => h) (Or.inl ⟨by rfl, fun wx hSx => ?_⟩) hHeld ?_
  rotate_left
  · clear hSx; go_simp; (try with_reducible rfl)
  simp only [Act.put, List.setIfInBounds_toArray, List.set_cons_zero, List.set_cons_succ]
  refine wpAnyH_take (i := 3) (v := ?_) (by simp; rfl) (by kernel_rfl) (by kernel_rfl) (by kernel_rfl) (by exact fun _ _ _ h => h) (Or.inl ⟨by rfl, fun wx hSx => ?_⟩) hHeld ?_
  rotate_left
  · obtain ⟨s1, s2⟩ := hSx; clear s2; go_simp; (try with_reducible rfl)
  simp only [Act.put, List.setIfInBounds_toArray, List.set_cons_zero, List.set_cons_succ]
  refine wpAnyH_take (i := 4) (v := ?_) (by simp; rfl) (by kernel_rfl) (by kernel_rfl) (by kernel_rfl) (by exact fun _ _ _ h => h) (Or.inl ⟨by rfl, fun wx hSx => ?_⟩) hHeld ?_
  rotate_left
  · clear hSx; go_simp; (try with_reducible rfl)
  simp only [Act.put, List.setIfInBounds_toArray, List.set_cons_zero, List.set_cons_succ]
  refine wpAnyH_take (i := 5) (v := ?_) (by simp; rfl) (by kernel_rfl) (by kernel_rfl) (by kernel_rfl) (by exact fun _ _ _ h => h) (Or.inl ⟨by rfl, fun wx hSx => ?_⟩) hHeld ?_
  rotate_left
  · clear hSx; go_simp; (try with_reducible rfl)
  simp only [Act.put, List.setIfInBounds_toArray, List.set_cons_zero, List.set_cons_succ]
  refine wpAnyH_take (i := 6) (v := ?_) (by simp; rfl) (by kernel_rfl) (by kernel_rfl) (by kernel_rfl) (by exact fun _ _ _ h => h) (Or.inl ⟨by rfl, fun wx hSx => ?_⟩) hHeld ?_
  rotate_left
  · clear hSx; go_simp; (try with_reducible rfl)
  simp only [Act.put, List.setIfInBounds_toArray, List.set_cons_zero, List.set_cons_succ]
  refine wpAnyH_take (i := 7) (v := ?_) (by simp; rfl) (by kernel_rfl) (by kernel_rfl) (by kernel_rfl) (by exact fun _ _ _ h => h) (Or.inl ⟨by rfl, fun wx hSx => ?_⟩) hHeld ?_
  rotate_left
  · obtain ⟨s1, s2⟩ := hSx; clear s2; go_simp; (try with_reducible rfl)
  simp only [Act.put, List.setIfInBounds_toArray, List.set_cons_zero, List.set_cons_succ]
  refine wpAnyH_take (i := 8) (v := ?_) (by simp; rfl) (by kernel_rfl) (by kernel_rfl) (by kernel_rfl) (by exact fun _ _ _ h => h) (Or.inl ⟨by rfl, fun wx hSx => ?_⟩) hHeld ?_
  rotate_left
  · clear hSx; go_simp; (try with_reducible rfl)
  simp only [Act.put, List.setIfInBounds_toArray, List.set_cons_zero, List.set_cons_succ]
  refine wpAnyH_take (i := 9) (v := ?_) (by simp; rfl) (by kernel_rfl) (by kernel_rfl) (by kernel_rfl) (by exact fun _ _ _ h => h) (Or.inl ⟨by rfl, fun wx hSx => ?_⟩) hHeld ?_
  rotate_left
  · clear hSx; go_simp; (try with_reducible rfl)
  simp only [Act.put, List.setIfInBounds_toArray, List.set_cons_zero, List.set_cons_succ]
  refine wpAnyH_take (i := 10) (v := ?_) (by simp; rfl) (by kernel_rfl) (by kernel_rfl) (by kernel_rfl) (by exact fun _ _ _ h => h) (Or.inl ⟨by rfl, fun wx hSx => ?_⟩) hHeld ?_
  rotate_left
  · clear hSx; go_simp; (try with_reducible rfl)
  simp only [Act.put, List.setIfInBounds_toArray, List.set_cons_zero, List.set_cons_succ]
  refine wpAnyH_take (i := 11) (v := ?_) (by simp; rfl) (by kernel_rfl) (by kernel_rfl) (by kernel_rfl) (by exact fun _ _ _ h => h) (Or.inl ⟨by rfl, fun wx hSx => ?_⟩) hHeld ?_
  rotate_left
  · obtain ⟨s1, s2⟩ := hSx; clear s1; go_simp; (try with_reducible rfl)
  simp only [Act.put, List.setIfInBounds_toArray, List.set_cons_zero, List.set_cons_succ]
  refine wpAnyH_take (i := 12) (v := ?_) (by simp; rfl) (by kernel_rfl) (by kernel_rfl) (by kernel_rfl) (by exact fun _ _ _ h => h) (Or.inl ⟨by rfl, fun wx hSx => ?_⟩) hHeld ?_
  rotate_left
  · clear hSx; go_simp; (try with_reducible rfl)
  simp only [Act.put, List.setIfInBounds_toArray, List.set_cons_zero, List.set_cons_succ]
  refine wpAnyH_take (i := 13) (v := ?_) (by simp; rfl) (by kernel_rfl) (by kernel_rfl) (by kernel_rfl) (by exact fun _ _ _ h => h) (Or.inl ⟨by rfl, fun wx hSx => ?_⟩) hHeld ?_
  rotate_left
  · clear hSx; go_simp; (try with_reducible rfl)
  simp only [Act.put, List.setIfInBounds_toArray, List.set_cons_zero, List.set_cons_succ]
  refine wpAnyH_done (by kernel_rfl) ?_ _
  clear hHeld
  go_wp2
  go_loopw [6, 7] (fun lv iv wr => ∃ (lw : Value) (i : Nat), lw = lv ∧ iv = .int .i64 i ∧ 2 ≤ i ∧ i ≤ n ∧ Hid (Own32 w.drew lw (ftS L i) wr)) (fun _ iv _ => n - (intOf iv).toNat)
  case atStart => exact ⟨_, 2, rfl, rfl, Nat.le_refl _, hlen, HO0⟩
  case round =>
    obtain ⟨lw, i, rfl, rfl, hi2, hi, HO⟩ := hrel
    clear HO0
    obtain ⟨Al, cl, hlw, _⟩ := own_slice HO.out.own
    have c0r : wr.cell? ⟨g, 0, none⟩ = some (.slice (some ⟨b, off, none⟩) n c) := (HO.out.below.cell (p := ⟨g, 0, none⟩) hglt).trans c0
    by_cases hin : i < n
    · have d9 : decide ((i : Int) < (n : Int)) = true := by simp; omega
      have d9' : decide (i < n) = true := by simp; omega
      have ci := (HO.out.below.cell (p := ⟨b, off + i, none⟩) hbl).trans (HC.out i (by rw [HLN.out]; exact hin))
      have hsc := ftS_succ hi2 (show i < L.length by rw [HLN.out]; exact hin)
      obtain ⟨x, hx⟩ : ∃ x, L.getD i 0 = x := ⟨_, rfl⟩
      rw [hx] at ci hsc
      have g3 : (0 : Int) ≤ (i : Int) := by omega
      have g4 : (i : Int) < (n : Int) := by omega
      have w1 : IntKind.i64.wrap ((i : Int) + 1) = (i : Int) + 1 := IntWalk.i64_in _ (by omega)
      by_cases hx27 : x = 27
      · have d10 : (x == 27) = true := by simpa using hx27
        have HO' : Hid (Own32 w.drew lw (ftS L (i + 1)) wr) := Lib.hid (by rw [hsc, if_pos hx27, List.append_nil]; exact HO.out)
        clear HO hsc hx27 hx hlw
        go_wp2
        go_roundw
        case rel => exact ⟨lw, i + 1, rfl, by go_num, by omega, by omega, HO'⟩
        case measure => simp [intOf]; omega
      · have d10 : (x == 27) = false := by simpa using hx27
        have hlen4 := ftS_len L i
        obtain ⟨A4, c4, w4, hrun, hO4⟩ := HO.out.app (by omega) x
        rw [if_neg hx27] at hsc
        rw [← hsc] at hO4
        have hbw := (Below.refl wr.heap.size wr).alloc (Nat.le_refl _) (.cells #[.int .i32 x] 21)
        have HRUN := Lib.hid hrun
        have HO4 := Lib.hid hO4
        clear HO hsc hx27 hx hrun hO4 hlw hlen4 hbw
        go_wp2_with (at_builtin; refine wpList_app rfl (.tmp 58) (.tmp 66) _ rfl _ _ rfl rfl HRUN.out ?_)
        go_roundw
        case rel => exact ⟨_, i + 1, rfl, by go_num, by omega, by omega, HO4⟩
        case measure => simp [intOf]; omega
    · have d9 : decide ((i : Int) < (n : Int)) = false := by simp; omega
      have d9' : decide (i < n) = false := by simp; omega
      obtain rfl : i = n := by omega
      obtain ⟨K, hK⟩ : ∃ K, ftS L i = K := ⟨_, rfl⟩
      rw [hK] at HO hlw
      have hRi := HO.out
      subst hlw
      have hri := hRi.ri
      obtain ⟨k, hkl⟩ : ∃ k, K.length = k := ⟨_, rfl⟩
      have fr : wr.frozen? ⟨g, 0, none⟩ = false := frozen_of_row _ _ 0 _ _ ((HO.out.below.block g hglt).trans HPS.out.drew.blk)
      have HBW := Lib.hid (Below.both (HO.out.below) hglt HPS.out.drew.blk (.slice none 0 0))
      have HAN := Lib.hid (fun (w2 : World) (hb : Below w.heap.size (w.setCell ⟨g, 0, none⟩ (.slice none 0 0)) w2) => after_none HPS.out hb)
      have hRI : RI .i32 (wr.setCell ⟨g, 0, none⟩ (.slice none 0 0)) Al K := fun hp => by
        obtain ⟨b', e, hge', _, _⟩ := own_cells hRi.own rfl hp
        obtain ⟨b2, o2, e2, hb2, hc2⟩ := hri.1 hp
        rw [e] at e2
        injection e2 with e2
        injection e2 with e3 e4 _
        subst e3 e4
        exact ⟨b', 0, e, by simpa using hb2, fun j hj => (World.cell?_setCell_far wr ⟨g, 0, none⟩ ⟨b', 0 + j, none⟩ _ (by show g ≠ b'; have := hglt; simp at hge' this; omega)).trans (hc2 j hj)⟩
      rw [hkl] at hri hRi
      have hvk : (Value.slice Al K.length cl) = .slice Al k cl := by rw [hkl]
      have e5 : endS (ftS L L.length) = endS K := by rw [HLN.out, hK]
      by_cases h6 : 600 < k
      · have d11 : decide ((600 : Int) < (k : Int)) = true := by simp; omega
        have d11' : decide (600 < k) = true := by simp; omega
        have HE := Lib.hid (fun (_ : Unit) => show endS (ftS L L.length) = ([], none) from by rw [e5]; unfold endS; rw [hkl, if_pos h6])
        clear hRI hri hRi e5 HO hkl
        go_wp2
        go_ret
        rw [HE.out ()]
        exact HAN.out _ (Below.trans (Below.both (Below.refl _ _).drew (lt_of_block HPS.out.blk) HPS.out.blk _) HBW.out)
      · have d11 : decide ((600 : Int) < (k : Int)) = false := by simp; omega
        have d11' : decide (600 < k) = false := by simp; omega
        have HE := Lib.hid (fun (_ : Unit) => show endS (ftS L L.length) = ([], some ⟨5, 0, 0, 0, 0, [], bytesL K⟩) from by rw [e5]; unfold endS; rw [hkl, if_neg h6])
        have HBY := Lib.hid (rbytes_any (c := cl) hRI hkl (by omega))
        clear hRI hri hRi e5 HO hkl
        go_wp2_with (go_at_call 30; refine HBY.out.mono ?_; rintro x w5 ⟨v5, rfl, hO5⟩; obtain ⟨A5, c5, rfl, _⟩ := own_slice hO5.own; have hcv := conv_text rfl c5 hO5.ri.1; have HO5 := Lib.hid hO5; clear hO5)
        go_ret
        rw [HE.out ()]
        have hsz : w.heap.size ≤ w5.heap.size := by have h1 := HO5.out.below.size; have h2 := HBW.out.size; simp at h1 h2; omega
        have hb5 : Below w.heap.size (w.setCell ⟨g, 0, none⟩ (.slice none 0 0)) w5 := (Below.trans (Below.both (Below.refl _ _).drew (lt_of_block HPS.out.blk) HPS.out.blk _) HBW.out).trans (HO5.out.below.mono (by have h2 := HBW.out.size; simp at h2; simp; omega))
        have hb6 := hb5.alloc hsz (.cells #[.int .i64 5, .int .i32 0, .int .u8 0, .int .u8 0, .int .u8 0, .slice none 0 0, .string (strOfNums (bytesL K))] 38)
        exact after_some (e := ⟨5, 0, 0, 0, 0, [], bytesL K⟩) (pv := .slice none 0 0) HPS.out hb6 (heap_alloc_new w5 (.cells #[.int .i64 5, .int .i32 0, .int .u8 0, .int .u8 0, .int .u8 0, .slice none 0 0, .string (strOfNums (bytesL K))] 38)) hsz (World.ownsRow_nil _ _ _ _) (fun x hx => by cases hx)
set_option maxRecDepth 100000 in
set_option maxHeartbeats 1000000 in
theorem ro_st {B g : Nat} {v : Value} {L : List Int} {w : World} (h : Ps B g v L w) (hlen : 2 ≤ L.length) (hn : L.length ≤ 5000) {r : Int} (hz27 : lastS L = 27) (hr : r = 92) :
    Calls Try.prog 24 #[.pointer (some ⟨g, 0, none⟩), .int .i32 r] w (After B g v w (endS (ftS L L.length))) := by
  have c0 := h.c0
  obtain ⟨A, c, hv, hnc, hcm, _, hR, hge⟩ := h.row
  obtain ⟨b, off, rfl, hbl, hc⟩ := hR (by omega)
  subst hv
  have hbB := hge _ _ _ rfl
  clear hge
  obtain ⟨n, hln⟩ : ∃ n, L.length = n := ⟨_, rfl⟩
  rw [hln] at c0 hnc hlen hn
  obtain ⟨m, hm⟩ : ∃ m, n - 1 = m := ⟨_, rfl⟩
  have cm := hc m (by rw [hln]; omega)
  obtain ⟨z, hz⟩ : ∃ z, L.getD m 0 = z := ⟨_, rfl⟩
  have hlast : lastS L = z := by unfold lastS; rw [hln, hm, hz]
  rw [hz] at cm
  have e1 : (n : Int) - 1 = (m : Int) := by omega
  have m0 : (0 : Int) ≤ (m : Int) := by omega
  have m1 : (m : Int) < (n : Int) := by omega
  have wm : IntKind.i64.wrap (m : Int) = (m : Int) := IntWalk.i64_in _ (by omega)
  have mm : ((m : Int)).toNat = m := rfl
  have HPS := Lib.hid h
  have HLN := Lib.hid hln
  have ff := h.free
  rw [hlast] at hz27
  have d4 : (z == 27) = true := by simpa using hz27
  have d1 : (r == 7) = false := by simp; omega
  have d2 : (r == 92) = true := by simpa using hr
  have hglt : g < w.drew.heap.size := lt_of_block h.blk
  have HC := Lib.hid hc
  have HO0 : Hid (Own32 w.drew (.slice none 0 0) (ftS L 2) w.drew) := Lib.hid (by rw [ftS_two]; exact Own32.new _)
  have hvv : (Value.slice (some ⟨b, off, none⟩) L.length c) = .slice (some ⟨b, off, none⟩) n c := by rw [hln]
  rw [hvv]
  rw [hvv] at HPS
  clear h hR hc hz hlast hln hm hbB hvv hz27 hr
  go_enter Try.func24, Try.ntmps24
  go_wp2
  refine wp_region_held_drew (S := fun W => W.cell? ⟨g, 0, none⟩ = some (.slice (some ⟨b, off, none⟩) n c) ∧ W.cell? ⟨b, off + m, none⟩ = some (.int .i32 z)) (by kernel_rfl) ⟨c0, cm⟩ (fun hHeld => ?_)
  refine wpAnyH_take (i := 0) (v := ?_) (by simp; rfl) (by kernel_rfl) (by kernel_rfl) (by kernel_rfl) (by exact fun _ _ _ h => h) (Or.inl ⟨by rfl, fun wx hSx => ?_⟩) hHeld ?_
  rotate_left
  · clear hSx; go_simp; (try with_reducible rfl)
  simp only [Act.put, List.setIfInBounds_toArray, List.set_cons_zero, List.set_cons_succ]
  refine wpAnyH_take (i := 1) (v := ?_) (by simp; rfl) (by kernel_rfl) (by kernel_rfl) (by kernel_rfl) (by exact fun _ _ _ h => h) (Or.inl ⟨by rfl, fun wx hSx => ?_⟩) hHeld ?_
  rotate_left
  · clear hSx; go_simp; (try with_reducible rfl)
  simp only [Act.put, List.setIfInBounds_toArray, List.set_cons_zero, List.set_cons_succ]
  refine wpAnyH_take (i := 2) (v := ?_) (by simp; rfl) (by kernel_rfl) (by kernel_rfl) (by kernel_rfl) (by exact fun _ _ _ h => h) (Or.inl ⟨by rfl, fun wx hSx => ?_⟩) hHeld ?_
  rotate_left
  · clear hSx; go_simp; (try with_reducible rfl)
  simp only [Act.put, List.setIfInBounds_toArray, List.set_cons_zero, List.set_cons_succ]
  refine wpAnyH_take (i := 3) (v := ?_) (by simp; rfl) (by kernel_rfl) (by kernel_rfl) (by kernel_rfl) (by exact fun _ _ _ h => h) (Or.inl ⟨by rfl, fun wx hSx => ?_⟩) hHeld ?_
  rotate_left
  · obtain ⟨s1, s2⟩ := hSx; clear s2; go_simp; (try with_reducible rfl)
  simp only [Act.put, List.setIfInBounds_toArray, List.set_cons_zero, List.set_cons_succ]
  refine wpAnyH_take (i := 4) (v := ?_) (by simp; rfl) (by kernel_rfl) (by kernel_rfl) (by kernel_rfl) (by exact fun _ _ _ h => h) (Or.inl ⟨by rfl, fun wx hSx => ?_⟩) hHeld ?_
  rotate_left
  · clear hSx; go_simp; (try with_reducible rfl)
  simp only [Act.put, List.setIfInBounds_toArray, List.set_cons_zero, List.set_cons_succ]
  refine wpAnyH_take (i := 5) (v := ?_) (by simp; rfl) (by kernel_rfl) (by kernel_rfl) (by kernel_rfl) (by exact fun _ _ _ h => h) (Or.inl ⟨by rfl, fun wx hSx => ?_⟩) hHeld ?_
  rotate_left
  · clear hSx; go_simp; (try with_reducible rfl)
  simp only [Act.put, List.setIfInBounds_toArray, List.set_cons_zero, List.set_cons_succ]
  refine wpAnyH_take (i := 6) (v := ?_) (by simp; rfl) (by kernel_rfl) (by kernel_rfl) (by kernel_rfl) (by exact fun _ _ _ h => h) (Or.inl ⟨by rfl, fun wx hSx => ?_⟩) hHeld ?_
  rotate_left
  · clear hSx; go_simp; (try with_reducible rfl)
  simp only [Act.put, List.setIfInBounds_toArray, List.set_cons_zero, List.set_cons_succ]
  refine wpAnyH_take (i := 7) (v := ?_) (by simp; rfl) (by kernel_rfl) (by kernel_rfl) (by kernel_rfl) (by exact fun _ _ _ h => h) (Or.inl ⟨by rfl, fun wx hSx => ?_⟩) hHeld ?_
  rotate_left
  · obtain ⟨s1, s2⟩ := hSx; clear s2; go_simp; (try with_reducible rfl)
  simp only [Act.put, List.setIfInBounds_toArray, List.set_cons_zero, List.set_cons_succ]
  refine wpAnyH_take (i := 8) (v := ?_) (by simp; rfl) (by kernel_rfl) (by kernel_rfl) (by kernel_rfl) (by exact fun _ _ _ h => h) (Or.inl ⟨by rfl, fun wx hSx => ?_⟩) hHeld ?_
  rotate_left
  · clear hSx; go_simp; (try with_reducible rfl)
  simp only [Act.put, List.setIfInBounds_toArray, List.set_cons_zero, List.set_cons_succ]
  refine wpAnyH_take (i := 9) (v := ?_) (by simp; rfl) (by kernel_rfl) (by kernel_rfl) (by kernel_rfl) (by exact fun _ _ _ h => h) (Or.inl ⟨by rfl, fun wx hSx => ?_⟩) hHeld ?_
  rotate_left
  · clear hSx; go_simp; (try with_reducible rfl)
  simp only [Act.put, List.setIfInBounds_toArray, List.set_cons_zero, List.set_cons_succ]
  refine wpAnyH_take (i := 10) (v := ?_) (by simp; rfl) (by kernel_rfl) (by kernel_rfl) (by kernel_rfl) (by exact fun _ _ _ h => h) (Or.inl ⟨by rfl, fun wx hSx => ?_⟩) hHeld ?_
  rotate_left
  · clear hSx; go_simp; (try with_reducible rfl)
  simp only [Act.put, List.setIfInBounds_toArray, List.set_cons_zero, List.set_cons_succ]
  refine wpAnyH_take (i := 11) (v := ?_) (by simp; rfl) (by kernel_rfl) (by kernel_rfl) (by kernel_rfl) (by exact fun _ _ _ h => h) (Or.inl ⟨by rfl, fun wx hSx => ?_⟩) hHeld ?_
  rotate_left
  · obtain ⟨s1, s2⟩ := hSx; clear s1; go_simp; (try with_reducible rfl)
  simp only [Act.put, List.setIfInBounds_toArray, List.set_cons_zero, List.set_cons_succ]
  refine wpAnyH_take (i := 12) (v := ?_) (by simp; rfl) (by kernel_rfl) (by kernel_rfl) (by kernel_rfl) (by exact fun _ _ _ h => h) (Or.inl ⟨by rfl, fun wx hSx => ?_⟩) hHeld ?_
  rotate_left
  · clear hSx; go_simp; (try with_reducible rfl)
  simp only [Act.put, List.setIfInBounds_toArray, List.set_cons_zero, List.set_cons_succ]
  refine wpAnyH_take (i := 13) (v := ?_) (by simp; rfl) (by kernel_rfl) (by kernel_rfl) (by kernel_rfl) (by exact fun _ _ _ h => h) (Or.inl ⟨by rfl, fun wx hSx => ?_⟩) hHeld ?_
  rotate_left
  · clear hSx; go_simp; (try with_reducible rfl)
  simp only [Act.put, List.setIfInBounds_toArray, List.set_cons_zero, List.set_cons_succ]
  refine wpAnyH_done (by kernel_rfl) ?_ _
  clear hHeld
  go_wp2
  go_loopw [6, 7] (fun lv iv wr => ∃ (lw : Value) (i : Nat), lw = lv ∧ iv = .int .i64 i ∧ 2 ≤ i ∧ i ≤ n ∧ Hid (Own32 w.drew lw (ftS L i) wr)) (fun _ iv _ => n - (intOf iv).toNat)
  case atStart => exact ⟨_, 2, rfl, rfl, Nat.le_refl _, hlen, HO0⟩
  case round =>
    obtain ⟨lw, i, rfl, rfl, hi2, hi, HO⟩ := hrel
    clear HO0
    obtain ⟨Al, cl, hlw, _⟩ := own_slice HO.out.own
    have c0r : wr.cell? ⟨g, 0, none⟩ = some (.slice (some ⟨b, off, none⟩) n c) := (HO.out.below.cell (p := ⟨g, 0, none⟩) hglt).trans c0
    by_cases hin : i < n
    · have d9 : decide ((i : Int) < (n : Int)) = true := by simp; omega
      have d9' : decide (i < n) = true := by simp; omega
      have ci := (HO.out.below.cell (p := ⟨b, off + i, none⟩) hbl).trans (HC.out i (by rw [HLN.out]; exact hin))
      have hsc := ftS_succ hi2 (show i < L.length by rw [HLN.out]; exact hin)
      obtain ⟨x, hx⟩ : ∃ x, L.getD i 0 = x := ⟨_, rfl⟩
      rw [hx] at ci hsc
      have g3 : (0 : Int) ≤ (i : Int) := by omega
      have g4 : (i : Int) < (n : Int) := by omega
      have w1 : IntKind.i64.wrap ((i : Int) + 1) = (i : Int) + 1 := IntWalk.i64_in _ (by omega)
      by_cases hx27 : x = 27
      · have d10 : (x == 27) = true := by simpa using hx27
        have HO' : Hid (Own32 w.drew lw (ftS L (i + 1)) wr) := Lib.hid (by rw [hsc, if_pos hx27, List.append_nil]; exact HO.out)
        clear HO hsc hx27 hx hlw
        go_wp2
        go_roundw
        case rel => exact ⟨lw, i + 1, rfl, by go_num, by omega, by omega, HO'⟩
        case measure => simp [intOf]; omega
      · have d10 : (x == 27) = false := by simpa using hx27
        have hlen4 := ftS_len L i
        obtain ⟨A4, c4, w4, hrun, hO4⟩ := HO.out.app (by omega) x
        rw [if_neg hx27] at hsc
        rw [← hsc] at hO4
        have hbw := (Below.refl wr.heap.size wr).alloc (Nat.le_refl _) (.cells #[.int .i32 x] 21)
        have HRUN := Lib.hid hrun
        have HO4 := Lib.hid hO4
        clear HO hsc hx27 hx hrun hO4 hlw hlen4 hbw
        go_wp2_with (at_builtin; refine wpList_app rfl (.tmp 58) (.tmp 66) _ rfl _ _ rfl rfl HRUN.out ?_)
        go_roundw
        case rel => exact ⟨_, i + 1, rfl, by go_num, by omega, by omega, HO4⟩
        case measure => simp [intOf]; omega
    · have d9 : decide ((i : Int) < (n : Int)) = false := by simp; omega
      have d9' : decide (i < n) = false := by simp; omega
      obtain rfl : i = n := by omega
      obtain ⟨K, hK⟩ : ∃ K, ftS L i = K := ⟨_, rfl⟩
      rw [hK] at HO hlw
      have hRi := HO.out
      subst hlw
      have hri := hRi.ri
      obtain ⟨k, hkl⟩ : ∃ k, K.length = k := ⟨_, rfl⟩
      have fr : wr.frozen? ⟨g, 0, none⟩ = false := frozen_of_row _ _ 0 _ _ ((HO.out.below.block g hglt).trans HPS.out.drew.blk)
      have HBW := Lib.hid (Below.both (HO.out.below) hglt HPS.out.drew.blk (.slice none 0 0))
      have HAN := Lib.hid (fun (w2 : World) (hb : Below w.heap.size (w.setCell ⟨g, 0, none⟩ (.slice none 0 0)) w2) => after_none HPS.out hb)
      have hRI : RI .i32 (wr.setCell ⟨g, 0, none⟩ (.slice none 0 0)) Al K := fun hp => by
        obtain ⟨b', e, hge', _, _⟩ := own_cells hRi.own rfl hp
        obtain ⟨b2, o2, e2, hb2, hc2⟩ := hri.1 hp
        rw [e] at e2
        injection e2 with e2
        injection e2 with e3 e4 _
        subst e3 e4
        exact ⟨b', 0, e, by simpa using hb2, fun j hj => (World.cell?_setCell_far wr ⟨g, 0, none⟩ ⟨b', 0 + j, none⟩ _ (by show g ≠ b'; have := hglt; simp at hge' this; omega)).trans (hc2 j hj)⟩
      rw [hkl] at hri hRi
      have hvk : (Value.slice Al K.length cl) = .slice Al k cl := by rw [hkl]
      have e5 : endS (ftS L L.length) = endS K := by rw [HLN.out, hK]
      by_cases h6 : 600 < k
      · have d11 : decide ((600 : Int) < (k : Int)) = true := by simp; omega
        have d11' : decide (600 < k) = true := by simp; omega
        have HE := Lib.hid (fun (_ : Unit) => show endS (ftS L L.length) = ([], none) from by rw [e5]; unfold endS; rw [hkl, if_pos h6])
        clear hRI hri hRi e5 HO hkl
        go_wp2
        go_ret
        rw [HE.out ()]
        exact HAN.out _ (Below.trans (Below.both (Below.refl _ _).drew (lt_of_block HPS.out.blk) HPS.out.blk _) HBW.out)
      · have d11 : decide ((600 : Int) < (k : Int)) = false := by simp; omega
        have d11' : decide (600 < k) = false := by simp; omega
        have HE := Lib.hid (fun (_ : Unit) => show endS (ftS L L.length) = ([], some ⟨5, 0, 0, 0, 0, [], bytesL K⟩) from by rw [e5]; unfold endS; rw [hkl, if_neg h6])
        have HBY := Lib.hid (rbytes_any (c := cl) hRI hkl (by omega))
        clear hRI hri hRi e5 HO hkl
        go_wp2_with (go_at_call 30; refine HBY.out.mono ?_; rintro x w5 ⟨v5, rfl, hO5⟩; obtain ⟨A5, c5, rfl, _⟩ := own_slice hO5.own; have hcv := conv_text rfl c5 hO5.ri.1; have HO5 := Lib.hid hO5; clear hO5)
        go_ret
        rw [HE.out ()]
        have hsz : w.heap.size ≤ w5.heap.size := by have h1 := HO5.out.below.size; have h2 := HBW.out.size; simp at h1 h2; omega
        have hb5 : Below w.heap.size (w.setCell ⟨g, 0, none⟩ (.slice none 0 0)) w5 := (Below.trans (Below.both (Below.refl _ _).drew (lt_of_block HPS.out.blk) HPS.out.blk _) HBW.out).trans (HO5.out.below.mono (by have h2 := HBW.out.size; simp at h2; simp; omega))
        have hb6 := hb5.alloc hsz (.cells #[.int .i64 5, .int .i32 0, .int .u8 0, .int .u8 0, .int .u8 0, .slice none 0 0, .string (strOfNums (bytesL K))] 38)
        exact after_some (e := ⟨5, 0, 0, 0, 0, [], bytesL K⟩) (pv := .slice none 0 0) HPS.out hb6 (heap_alloc_new w5 (.cells #[.int .i64 5, .int .i32 0, .int .u8 0, .int .u8 0, .int .u8 0, .slice none 0 0, .string (strOfNums (bytesL K))] 38)) hsz (World.ownsRow_nil _ _ _ _) (fun x hx => by cases hx)
theorem ro_any {B g : Nat} {v : Value} {L : List Int} {w : World} (h : Ps B g v L w) (hlen : 2 ≤ L.length) (hn : L.length ≤ 5000) {r : Int} (h0 : noneS r = false) (h1 : stopS r = false) :
    Calls Try.prog 24 #[.pointer (some ⟨g, 0, none⟩), .int .i32 r] w (After B g v w (oscS L r)) := by
  unfold oscS
  by_cases h7 : r = 7
  · rw [if_pos (.inl h7)]; exact ro_bel h hlen hn h7
  by_cases hz : lastS L = 27
  · by_cases h92 : r = 92
    · rw [if_pos (.inr ⟨hz, h92⟩)]; exact ro_st h hlen hn hz h92
    · rw [if_neg (fun e => e.elim h7 (fun e => h92 e.2)), if_neg (fun e => e.2 hz)]
      by_cases h32 : r < 32
      · rw [if_pos h32]; exact ro_none h hlen hn h7 (fun _ => hz) h32
      · rw [if_neg h32, if_pos hz]; exact ro_again h hlen hn hz (by omega) h92 h0 h1
  · rw [if_neg (fun e => e.elim h7 (fun e => hz e.1))]
    by_cases h27 : r = 27
    · rw [if_pos ⟨h27, hz⟩]; subst h27; exact ro_mark h hlen hn hz
    · rw [if_neg (fun e => h27 e.1)]
      by_cases h32 : r < 32
      · rw [if_pos h32]; exact ro_none h hlen hn h7 (fun e => absurd e h27) h32
      · rw [if_neg h32, if_neg hz]; exact ro_push h hlen hn hz (by omega)
set_option maxRecDepth 100000 in
set_option maxHeartbeats 1000000 in
theorem rf_osc {B g : Nat} {v : Value} {L : List Int} {w : World} (h : Ps B g v L w) (hn : L.length ≤ 5000) (hos : oscB L = true) {r : Int} (h0 : noneS r = false) (h1 : stopS r = false) :
    Calls Try.prog 11 #[.pointer (some ⟨g, 0, none⟩), .int .i32 r] w (After B g v w (oscS L r)) := by
  have hp : isP r = true ∧ r ≠ 127 := by simpa [noneS] using h0
  have hq : r ≠ 24 ∧ r ≠ 26 := by simpa [stopS] using h1
  have HIS : Hid (∀ w : World, Calls Try.prog 22 #[.int .i32 r] w fun e w' => e = .returned (.bool true) ∧ w = w') := Lib.hid (fun w => hp.1 ▸ ris_any r w)
  have HOSC : Hid (Calls Try.prog 23 #[.pointer (some ⟨g, 0, none⟩)] w fun e w' => e = .returned (.bool true) ∧ w = w') := Lib.hid (hos ▸ rp_osc h (by omega))
  have h2 : 2 ≤ L.length := by unfold oscB at hos; simp at hos; exact hos.1
  have HO := Lib.hid (ro_any h h2 hn h0 h1)
  have d1 : (r == 127) = false := by simpa using hp.2
  have d2 : (r == 24) = false := by simpa using hq.1
  have d3 : (r == 26) = false := by simpa using hq.2
  clear h hp hq h0 h1 hos h2 hn
  go_enter Try.func11, Try.ntmps11
  go_wp2_with (first | (go_at_call 22; refine (HIS.out _).mono ?_; rintro e w' ⟨rfl, rfl⟩) | (go_at_call 23; refine HOSC.out.mono ?_; rintro e w' ⟨rfl, rfl⟩) | (go_at_call 24; refine HO.out.mono ?_; rintro x w2 ⟨v2, out2, rfl, q1, q2, q3, q4⟩))
  go_ret
  exact ⟨v2, out2, rfl, q1, q2, q3, q4⟩
/-- What a point brings: Feed, for whatever stands in the parser. -/
theorem rfeed_any {B g : Nat} {v : Value} {L : List Int} {w : World} (h : Ps B g v L w) (hn : L.length < 5000) (hL : oscB L = false → SeqOk L) (r : Int) :
    Calls Try.prog 11 #[.pointer (some ⟨g, 0, none⟩), .int .i32 r] w (After B g v w (feedS L r)) := by
  unfold feedS
  by_cases h0 : noneS r = true
  · rw [if_pos h0]; exact rf_no h (by omega) h0
  have h0 : noneS r = false := by simpa using h0
  rw [if_neg (by simp [h0])]
  by_cases h1 : stopS r = true
  · rw [if_pos h1]; exact rf_stop h (by omega) h1
  have h1 : stopS r = false := by simpa using h1
  rw [if_neg (by simp [h1])]
  by_cases ho : oscB L = true
  · rw [if_pos ho]; exact rf_osc h (by omega) ho h0 h1
  have ho : oscB L = false := by simpa using ho
  rw [if_neg (by simp [ho])]
  exact rf_plain h hn (hL ho) ho h0 h1
end Go.Proofs.Ytfacnemgjdmlmaa

