/-
  Proved here: New (join) makes an empty Table; rise makes all frames old that are below a floor.
-/
import Derived.Test.YtikijkhblfgbpaaJm
namespace Go.Proofs.Ytikijkhblfgbpaa
open Go.RowKit Go.Maps Go.Sort

theorem own_tight {w : World} {b n m : Nat} {fs : List FV} (h : w.ownsMap Try.prog 27 RF b n (dat fs)) (hm : m = fs.length) : w.ownsMap Try.prog 27 RF b m (dat fs) := by
  subst hm
  obtain ⟨es, clock, hh, Ft, hs, hD⟩ := h
  refine ⟨es, clock, hh, Ft, ?_, hD⟩
  have := congrArg Maps.size hD
  rw [size_dat] at this
  simp [Maps.size, length_sorted] at this
  omega

/-- A step that turns one block, which is neither the frame's nor one of bytes. -/
theorem FrameAt.grown {w w' : World} {base : Nat} {f : FV} {r : Nat} {o : Obj} (h : FrameAt w base f) (hg : w.grownBy w' (some r)) (hr : r ≠ f.g) (ho : w.heap[r]? = some o) (hno : ∀ cur, o ≠ .cells cur 5 (0, 0)) : FrameAt w' base f := by
  obtain ⟨h1, ⟨C, hC, hP⟩, h2, h3, h4⟩ := h
  exact ⟨h1, ⟨C, (hg.block _ (Array.getElem?_eq_some_iff.1 hC).1 (fun e => hr (by injection e with e; exact e.symm))).trans hC, hP.imp fun v d h2 => h2.kept hg (row_other h2 ho hno)⟩, h2, h3, h4⟩

theorem below_grown {w w' : World} {base r : Nat} (hg : w.grownBy w' (some r)) (hr : base ≤ r) (hb : base ≤ w.heap.size) : Below base w w' := (Below.refl base w).grown hg hb (fun k e => by cases e; exact hr)

set_option maxHeartbeats 1000000 in
theorem new_any (w : World) : Calls Try.prog 6 #[] w fun e w' => ∃ t, e = .returned (.pointer (some ⟨t, 0, none⟩)) ∧ TabAt w' w.heap.size t ⟨1, []⟩ ∧ Below w.heap.size w w' := by
  have hm : (w.alloc (.map #[] 0)).ownsMap Try.prog 27 RF w.heap.size 0 (dat []) := World.ownsMap_made w _ _ _
  have ht : ((w.alloc (.map #[] 0)).alloc (.cells #[.int .u64 1, .map (some w.heap.size)] 47)).heap[w.heap.size + 1]? = some (.cells #[.int .u64 1, .map (some w.heap.size)] 47 (0, 0)) := by
    have := World.alloc_heap_new (w.alloc (.map #[] 0)) (.cells #[.int .u64 1, .map (some w.heap.size)] 47)
    rwa [World.size_alloc] at this
  have hT : TabAt ((w.alloc (.map #[] 0)).alloc (.cells #[.int .u64 1, .map (some w.heap.size)] 47)) w.heap.size (w.heap.size + 1) ⟨1, []⟩ :=
    { le := by omega, map := ⟨w.heap.size, Nat.le_refl _, ht, own_map_keep hm ((Below.refl _ _).alloc (Nat.le_refl _) _)⟩, frames := fun f hf => absurd hf (by simp), apart := by simp, fl0 := by decide, fl1 := by decide, few := by simp }
  have HT := Lib.hid hT
  have hmm : ∀ (t : TypeId) (w : World), (Instr.makeMap t none).run Try.prog w = .ok (.map (some w.heap.size)) (w.alloc (.map #[] 0)) := fun _ _ => rfl
  clear hT hm
  go_enter Try.func6, Try.ntmps6
  go_wp2
  go_ret
  exact ⟨_, rfl, by simpa using HT.out, ((Below.refl _ w).alloc (Nat.le_refl _) _).alloc (by simp) _⟩

/-- What is left of the frames when k of them were looked at. -/
def keepS (fl : Int) (fs : List FV) (k : Nat) : List FV := (fs.take k).filter (fun f => decide (fl ≤ f.id)) ++ fs.drop k
theorem keepS_all (fl : Int) (fs : List FV) : keepS fl fs fs.length = fs.filter (fun f => decide (fl ≤ f.id)) := by simp [keepS]
theorem keepS_sub (fl : Int) (fs : List FV) (k : Nat) : (keepS fl fs k).Sublist fs := by
  have h := (List.filter_sublist (p := fun f : FV => decide (fl ≤ f.id)) (l := fs.take k)).append (List.Sublist.refl (fs.drop k))
  rwa [List.take_append_drop] at h
def fAt (fs : List FV) (k : Nat) : FV := fs.getD k ⟨0, 0, 0, []⟩
theorem fAt_eq {fs : List FV} {k : Nat} (h : k < fs.length) : fs[k]? = some (fAt fs k) := by simp [fAt, h]
theorem drop_fAt {fs : List FV} {k : Nat} (h : k < fs.length) : fs.drop k = fAt fs k :: fs.drop (k + 1) := by rw [List.drop_eq_getElem_cons h]; simp [fAt, h]
theorem take_fAt {fs : List FV} {k : Nat} (h : k < fs.length) : fs.take (k + 1) = fs.take k ++ [fAt fs k] := by rw [List.take_add_one, List.getElem?_eq_getElem h]; simp [fAt, h]
theorem keepS_stay {fl : Int} {fs : List FV} {k : Nat} (h : k < fs.length) (hf : fl ≤ (fAt fs k).id) : keepS fl fs (k + 1) = keepS fl fs k := by
  unfold keepS
  rw [take_fAt h, List.filter_append, drop_fAt h, List.append_assoc]
  simp [hf]
theorem keepS_go {fl : Int} {fs : List FV} {k : Nat} (h : k < fs.length) (hf : ¬ fl ≤ (fAt fs k).id) (hp : (fs.map FV.id).Pairwise (· < ·)) : keepS fl fs (k + 1) = (keepS fl fs k).filter (fun f => !decide (f.id = (fAt fs k).id)) := by
  have hp' : fs.Pairwise (fun a b => a.id < b.id) := List.pairwise_map.1 hp
  have e : fs = fs.take k ++ (fAt fs k :: fs.drop (k + 1)) := by rw [← drop_fAt h, List.take_append_drop]
  rw [e] at hp'
  obtain ⟨_, h2, h3⟩ := List.pairwise_append.1 hp'
  obtain ⟨h4, _⟩ := List.pairwise_cons.1 h2
  unfold keepS
  rw [take_fAt h, List.filter_append, drop_fAt h, List.filter_append]
  congr 1
  · simp only [List.filter_cons, List.filter_nil, hf, decide_false, Bool.false_eq_true, if_false, List.append_nil]
    exact (List.filter_eq_self.2 (fun f hf' => by
      have := h3 f (List.mem_filter.1 hf').1 (fAt fs k) (by simp)
      simp; omega)).symm
  · rw [List.filter_cons, if_neg (by simp)]
    exact (List.filter_eq_self.2 (fun f hf' => by
      have := h4 f hf'
      simp; omega)).symm
theorem del_dat (fs : List FV) (id : Int) : (dat fs).del (.int .u64 id) = dat (fs.filter fun f => !decide (f.id = id)) := by
  unfold dat DataW.del
  simp only [List.filter_map]
  congr 2
  apply List.filter_congr
  intro f _
  by_cases h : f.id = id <;> simp [Lit.sameKey, h]

/-- The map turned, the table's cells did not. -/
theorem TabAt.turned {w w' : World} {base t b : Nat} {T : TV} {fs : List FV} {es : Array MapEntry} {clock : Nat} (h : TabAt w base t T) (hb : base ≤ b) (ht : w.heap[t]? = some (.cells #[.int .u64 T.fl, .map (some b)] 47 (0, 0)))
    (ho : w.heap[b]? = some (.map es clock)) (hg : w.grownBy w' (some b)) (n : Nat) (hm : w'.ownsMap Try.prog 27 RF b n (dat fs)) (hs : fs.Sublist T.fs) : TabAt w' base t ⟨T.fl, fs⟩ := by
  have hbt : some t ≠ some b := fun e => by injection e with e; subst e; rw [ht] at ho; cases ho
  have htl := (Array.getElem?_eq_some_iff.1 ht).1
  refine ⟨h.le, ⟨b, hb, (hg.block _ htl hbt).trans ht, own_tight hm rfl⟩, fun f hf => ?_, (hs.map FV.g).nodup h.apart, h.fl0, h.fl1, Nat.le_trans hs.length_le h.few⟩
  have hF := h.frames f (hs.subset hf)
  obtain ⟨C, hC, _⟩ := hF.row
  exact hF.grown hg (fun e => by subst e; rw [hC] at ho; cases ho) ho (fun cur => by simp)
/-- The floor is set. -/
theorem TabAt.floor {w : World} {base t : Nat} {T : TV} (h : TabAt w base t T) (fl : Int) (h0 : 1 ≤ fl) (h1 : fl < 18446744073709551616) : TabAt (w.setCell ⟨t, 0, none⟩ (.int .u64 fl)) base t ⟨fl, T.fs⟩ := by
  obtain ⟨b, hb, ht, hm⟩ := h.map
  have hg := set_grown w t (.int .u64 fl)
  have hm0 := hm
  obtain ⟨es, clock, ho, _⟩ := hm0
  have hbt : b ≠ t := fun e => by subst e; rw [ht] at ho; cases ho
  refine ⟨h.le, ⟨b, hb, ?_, hm.kept hg (fun e => by injection e with e; exact hbt e)⟩, fun f hf => ?_, h.apart, h0, h1, h.few⟩
  · have := heap_setCell_same w t 0 _ _ (.int .u64 fl) ht
    simpa using this
  · have hF := h.frames f hf
    obtain ⟨C, hC, _⟩ := hF.row
    exact hF.grown hg (fun e => by rw [e, hC] at ht; injection ht with ht; injection ht with _ e2; exact absurd e2 (by decide)) ht (fun cur e => by injection e with _ e2; exact absurd e2 (by decide))

/-- All rows of cells but the Table's stand as they did. -/
def Kept (t : Nat) (w w' : World) : Prop := ∀ (k : Nat) (c : Array Value) (ty : TypeId) (fr : Nat × Nat), w.heap[k]? = some (.cells c ty fr) → k ≠ t → w'.heap[k]? = some (.cells c ty fr)
theorem Kept.trans {t : Nat} {a b c : World} (h : Kept t a b) (h' : Kept t b c) : Kept t a c := fun k x ty fr hk hn => h' k x ty fr (h k x ty fr hk hn) hn
theorem Kept.below {t : Nat} {w w' : World} (hb : Below w.heap.size w w') : Kept t w w' := fun k _ _ _ hk _ => (hb.block k (Array.getElem?_eq_some_iff.1 hk).1).trans hk
theorem Kept.grown {t : Nat} {w w' : World} {r : Nat} {o : Obj} (hg : w.grownBy w' (some r)) (ho : w.heap[r]? = some o) (hno : r = t ∨ ∀ c ty fr, o ≠ .cells c ty fr) : Kept t w w' := fun k c ty fr hk hn =>
  (hg.block k (Array.getElem?_eq_some_iff.1 hk).1 (fun e => by
    injection e with e
    subst e
    rcases hno with e | hno
    · exact hn e
    · rw [ho] at hk; injection hk with hk; exact hno _ _ _ hk)).trans hk
theorem TabAt.floor_kept {w : World} {base t : Nat} {T : TV} (h : TabAt w base t T) (fl : Int) : Kept t w (w.setCell ⟨t, 0, none⟩ (.int .u64 fl)) := by
  obtain ⟨b, hb, ht, hm⟩ := h.map
  exact Kept.grown (set_grown w t (.int .u64 fl)) ht (.inl rfl)

structure RiseAt (w : World) (base t B n c g : Nat) (T : TV) (fl : Int) (k : Nat) (wr : World) : Prop where
  tab : TabAt wr base t ⟨fl, keepS fl T.fs k⟩
  row : wr.ownsRow B 27 1 (.slice (some ⟨g, 0, none⟩) n c) n ((ids T).map eU)
  below : Below base w wr
  kept : Kept t w wr
theorem RiseAt.go {w : World} {base t B n c g : Nat} {T : TV} {fl : Int} {k : Nat} {wr : World} (h : RiseAt w base t B n c g T fl k wr) (hk : k < T.fs.length) (hi0 : 0 ≤ (fAt T.fs k).id) (hi1 : (fAt T.fs k).id < 18446744073709551616) (hf : ¬ fl ≤ (fAt T.fs k).id) (hs : (ids T).Pairwise (· < ·)) :
    ∃ b w', wr.cell? ⟨t, 1, none⟩ = some (.map (some b)) ∧ (Builtin.delete_ #[45, 27] 0 #[.map (some b), .int .u64 (fAt T.fs k).id]).run Try.prog wr = .ok (.tuple #[]) w' ∧ RiseAt w base t B n c g T fl (k + 1) w' := by
  obtain ⟨b, hb, ht, hm⟩ := h.tab.map
  obtain ⟨w', hrun, hm', htu⟩ := hm.drop (int_keyed underU) Try.underlying45 (keyOf_u64 hi0 hi1) 0
  obtain ⟨es, clock, ho, _⟩ := hm
  have hg := htu.grown
  rw [del_dat, ← keepS_go hk hf hs] at hm'
  refine ⟨b, w', by simp [World.cell?, ht], hrun, ?_, h.row.kept hg (row_other h.row ho (fun cur => by simp)), h.below.trans (below_grown hg hb (Nat.le_trans h.tab.le (Nat.le_of_lt (Array.getElem?_eq_some_iff.1 ht).1))), h.kept.trans (Kept.grown hg ho (.inr (fun c ty fr e => by cases e)))⟩
  exact h.tab.turned hb ht ho hg _ hm' (by rw [keepS_go hk hf hs]; exact List.filter_sublist)

set_option maxRecDepth 100000 in
set_option maxHeartbeats 2000000 in
theorem rise_any {w : World} {base t : Nat} {T : TV} (h : TabAt w base t T) (fl : Int) (h0 : 1 ≤ fl) (h1 : fl < 18446744073709551616) (hbw : base ≤ w.heap.size) :
    Calls Try.prog 23 #[.pointer (some ⟨t, 0, none⟩), .int .u64 fl] w fun e w' => e = .returned (.tuple #[]) ∧ TabAt w' base t ⟨fl, T.fs.filter fun f => decide (fl ≤ f.id)⟩ ∧ Below base w w' ∧ Kept t w w' := by
  obtain ⟨htl, hc0, hf0, _⟩ := h.cells
  have hk1 := h.floor_kept fl
  have hT1 := h.floor fl h0 h1
  have hb1 : Below base w (w.setCell ⟨t, 0, none⟩ (.int .u64 fl)) := below_grown (set_grown w t (.int .u64 fl)) h.le hbw
  obtain ⟨w1, hw1⟩ : ∃ w1, w.setCell ⟨t, 0, none⟩ (.int .u64 fl) = w1 := ⟨_, rfl⟩
  have hs := h.sorted
  have hidw := h.idw
  rw [hw1] at hT1 hb1 hk1
  have HK := Lib.hid hk1
  clear hk1
  have HW := Lib.hid (waits_any hT1)
  have HT := Lib.hid hT1
  have HB := Lib.hid hb1
  have HS := Lib.hid hs
  have HI := Lib.hid hidw
  have hn4 := h.few
  obtain ⟨n, hn⟩ : ∃ n, n = T.fs.length := ⟨_, rfl⟩
  have HN := Lib.hid hn
  have hl : (ids T).length = n := by simp [ids, hn]
  have HL := Lib.hid hl
  rw [← hn] at hn4
  clear h hT1 hb1 hs hidw hn hl
  go_enter Try.func23, Try.ntmps23
  go_wp2_with (go_at_call 12; refine HW.out.mono ?_; rintro e w2 ⟨v, rfl, hrow, hnil, hb2⟩; have hrow0 := own_cast (m := n) (ys := (ids T).map eU) hrow HL.out rfl; clear hrow hnil; obtain ⟨A, c, rfl, _, _, _⟩ := own_slice hrow0)
  have HT2 := Lib.hid (HT.out.keep hb2)
  have HB2 := Lib.hid (HB.out.trans (hb2.mono (Nat.le_trans hbw HB.out.size)))
  have HK2 := Lib.hid (HK.out.trans (Kept.below hb2))
  clear hb2
  by_cases hz : n = 0
  · subst hz
    refine wp_loop_rounds 1 ?_
    rw [rounds_succ]
    go_wp2
    go_end0
    have e := List.eq_nil_of_length_eq_zero HN.out.symm
    have hT := HT2.out
    rw [e] at hT ⊢
    exact ⟨rfl, by simpa using hT, HB2.out, HK2.out⟩
  · obtain ⟨g, cap, hv, _, _⟩ := hrow0.form (by omega)
    injection hv with hA _ hc
    subst hA; subst hc
    have HR0 : Hid (RiseAt w base t w1.heap.size n c g T fl 0 w2) := ⟨by simpa [keepS] using HT2.out, hrow0, HB2.out, HK2.out⟩
    clear hrow0
    go_loopw [13] (fun i wr => ∃ k : Nat, k ≤ n ∧ i = .int .i64 k ∧ RiseAt w base t w1.heap.size n c g T fl k wr) (fun i _ => n - (intOf i).toNat)
    case atStart => exact ⟨0, by omega, rfl, HR0.out⟩
    case round =>
      clear HR0
      obtain ⟨k, hk, rfl, hR⟩ := hrel
      have HR := Lib.hid hR
      by_cases hlt : k < n
      · have hkT : k < T.fs.length := by rw [← HN.out]; exact hlt
        obtain ⟨i0, i1⟩ := HI.out (fAt T.fs k) (List.mem_of_getElem? (fAt_eq hkT))
        have hck : wr.cell? ⟨g, k, none⟩ = some (.int .u64 (fAt T.fs k).id) := by
          have := hR.row.cellAt k (by omega)
          rw [this]
          simp [ids, fAt_eq hkT]
        have hfk : wr.frozen? ⟨g, k, none⟩ = false ∨ True := .inr trivial
        clear hfk hR
        obtain ⟨x, hx⟩ : ∃ x, x = (fAt T.fs k).id := ⟨_, rfl⟩
        by_cases hf : fl ≤ x
        · have HRn : Hid (RiseAt w base t w1.heap.size n c g T fl (k + 1) wr) := ⟨by rw [keepS_stay hkT (by rw [← hx]; exact hf)]; exact HR.out.tab, HR.out.row, HR.out.below, HR.out.kept⟩
          rw [← hx] at hck i0 i1
          clear hx
          go_wp2
          go_roundw
          case rel => exact ⟨k + 1, by omega, by go_num, HRn.out⟩
          case measure => simp [intOf]; omega
        · obtain ⟨b, w3, hcb, hrun, hR3⟩ := HR.out.go hkT i0 i1 (by rw [← hx]; exact hf) HS.out
          have HR3 := Lib.hid hR3
          rw [← hx] at hck i0 i1 hrun
          clear hx hR3
          go_wp2
          go_roundw
          case rel => exact ⟨k + 1, by omega, by go_num, HR3.out⟩
          case measure => simp [intOf]; omega
      · obtain rfl : k = n := by omega
        go_wp2
        go_end0
        have hT := HR.out.tab
        rw [HN.out, keepS_all] at hT
        exact ⟨rfl, hT, HR.out.below, HR.out.kept⟩

end Go.Proofs.Ytikijkhblfgbpaa
