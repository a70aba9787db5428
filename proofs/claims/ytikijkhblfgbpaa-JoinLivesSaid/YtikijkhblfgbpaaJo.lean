/-
  Proved here: the frame of a part that can be put (frameOf).
-/
import Derived.Test.YtikijkhblfgbpaaJf
namespace Go.Proofs.Ytikijkhblfgbpaa
open Go.RowKit Go.Maps Go.Sort

def insF (f : FV) : List FV → List FV
  | [] => [f]
  | y :: r => if f.id < y.id then f :: y :: r else y :: insF f r
theorem insF_mem (f : FV) : ∀ (l : List FV) (x : FV), x ∈ insF f l ↔ x = f ∨ x ∈ l
  | [], x => by simp [insF]
  | y :: r, x => by
    unfold insF
    split
    · simp
    · have := insF_mem f r x
      simp only [List.mem_cons, this]
      constructor
      · rintro (h | h | h)
        · exact .inr (.inl h)
        · exact .inl h
        · exact .inr (.inr h)
      · rintro (h | h | h)
        · exact .inr (.inl h)
        · exact .inl h
        · exact .inr (.inr h)
theorem insF_length (f : FV) : ∀ l : List FV, (insF f l).length = l.length + 1
  | [] => rfl
  | y :: r => by unfold insF; split <;> simp [insF_length f r]
theorem insF_perm (f : FV) : ∀ l : List FV, (insF f l).Perm (f :: l)
  | [] => List.Perm.refl _
  | y :: r => by
    unfold insF
    split
    · exact List.Perm.refl _
    · exact ((insF_perm f r).cons y).trans (List.Perm.swap f y r)
theorem insert_dat (f : FV) : ∀ l : List FV, DataW.insert (H := Unit) (.int .u64 f.id, .lit (.int .i64 f.g)) (l.map fun f => (.int .u64 f.id, .lit (.int .i64 f.g))) = (insF f l).map fun f => (.int .u64 f.id, .lit (.int .i64 f.g))
  | [] => rfl
  | y :: r => by
    have ih := insert_dat f r
    by_cases h : f.id < y.id
    · simp [insF, DataW.insert, Lit.before, h]
    · simp [insF, DataW.insert, Lit.before, h, ih]
theorem put_dat {fs : List FV} {f : FV} (h : getF fs f.id = none) : (dat fs).put (.int .u64 f.id) (.lit (.int .i64 f.g)) = dat (insF f fs) := by
  unfold dat DataW.put
  simp only
  rw [← insert_dat]
  congr 2
  rw [List.filter_eq_self.2]
  intro p hp
  obtain ⟨y, hy, rfl⟩ := List.mem_map.1 hp
  have := List.find?_eq_none.1 h y hy
  simpa [Lit.sameKey] using this

theorem TabAt.put {w w' : World} {base t b : Nat} {T : TV} {f : FV} {es : Array MapEntry} {clock : Nat} (h : TabAt w base t T) (hb : base ≤ b) (ht : w.heap[t]? = some (.cells #[.int .u64 T.fl, .map (some b)] 47 (0, 0)))
    (ho : w.heap[b]? = some (.map es clock)) (hg : w.grownBy w' (some b)) (n : Nat) (hm : w'.ownsMap Try.prog 27 RF b n (dat (insF f T.fs))) (hF : FrameAt w base f) (hn : ∀ y ∈ T.fs, y.g ≠ f.g) (h4 : T.fs.length < 4) : TabAt w' base t ⟨T.fl, insF f T.fs⟩ := by
  have hbt : some t ≠ some b := fun e => by injection e with e; subst e; rw [ht] at ho; cases ho
  have htl := (Array.getElem?_eq_some_iff.1 ht).1
  refine ⟨h.le, ⟨b, hb, (hg.block _ htl hbt).trans ht, own_tight hm rfl⟩, fun y hy => ?_, ?_, h.fl0, h.fl1, by simp only [insF_length]; omega⟩
  · have hY : FrameAt w base y := by
      rcases (insF_mem f T.fs y).1 hy with rfl | hy
      · exact hF
      · exact h.frames y hy
    obtain ⟨C, hC, _⟩ := hY.row
    exact hY.grown hg (fun e => by subst e; rw [hC] at ho; cases ho) ho (fun cur => by simp)
  · refine (((insF_perm f T.fs).map FV.g).nodup_iff).2 ?_
    simp only [List.map_cons, List.nodup_cons]
    exact ⟨fun hm => by obtain ⟨y, hy, e⟩ := List.mem_map.1 hm; exact hn y hy e, h.apart⟩

set_option maxRecDepth 100000 in
set_option maxHeartbeats 2000000 in
theorem frameOf_some {w : World} {base t : Nat} {T : TV} (h : TabAt w base t T) (id ix ct : Int) (A : Option Addr) (n c : Nat) (w0 : 0 ≤ id) (w1 : id < 18446744073709551616) (f : FV) (hf : getF T.fs id = some f) :
    Calls Try.prog 19 #[.pointer (some ⟨t, 0, none⟩), PV id ix ct A n c] w fun e w' => e = .returned (.pointer (some ⟨f.g, 0, none⟩)) ∧ Below w.heap.size w w' := by
  have HR := Lib.hid (RefAt.start h id ix ct A n c)
  obtain ⟨ht, hfl, _, b, hbl, hmc, hm⟩ := HR.out.tab.cells
  obtain ⟨hbx, b0, b1, b2⟩ := HR.out.box
  have hlk := look_any hm id w0 w1 1
  rw [hf] at hlk
  obtain ⟨W, hW⟩ : ∃ W, w.alloc (.cells #[.int .u64 id, .int .i64 ix, .int .i64 ct, .slice A n c] 30) = W := ⟨_, rfl⟩
  rw [hW] at hlk hmc HR b0
  change (Instr.lookup 45 (.map (some b)) (.int .u64 id) false).run Try.prog W.drew = .ok (.pointer (some ⟨f.g, 0, none⟩)) W.drew at hlk
  clear h hf hm ht hfl hbl hbx b1 b2
  go_enter Try.func19, Try.ntmps19
  go_wp2
  try rw [hW]
  go_region
  all_goals go_wp2
  go_ret
  exact ⟨rfl, belowN HR.out.below 1⟩

def zeros64 : List Value := (List.replicate 64 [Value.int .u64 0, .int .i64 0, .int .i64 0, .slice none 0 0]).flatten
theorem zeroF : ∀ w, (zeroValue 59).run Try.prog w = .ok (.agg (Value.int .i64 0 :: zeros64).toArray) w := fun w => by kernel_rfl
theorem po_zeros (w : World) (base : Nat) : ∀ m : Nat, PO w base (List.replicate m [Value.int .u64 0, .int .i64 0, .int .i64 0, .slice none 0 0]).flatten (List.replicate m pNil)
  | 0 => trivial
  | m + 1 => ⟨rfl, rfl, rfl, World.ownsRow_nil _ _ _ _, po_zeros w base m⟩
def newF (id : Int) (g : Nat) (ct : Int) : FV := ⟨id, g, ct.toNat, List.replicate 64 pNil⟩

/-- A new frame laid and put into the map. -/
theorem open_frame {X : World} {base t : Nat} {T : TV} (h : TabAt X base t T) (id ct : Int) (w0 : 0 ≤ id) (w1 : id < 18446744073709551616) (c1 : 1 ≤ ct) (c2 : ct ≤ 64) (hf : getF T.fs id = none) (h4 : T.fs.length < 4) (hbx : base ≤ X.heap.size) :
    ∃ b w', (X.alloc (.cells (Value.int .i64 ct :: zeros64).toArray 59)).cell? ⟨t, 1, none⟩ = some (.map (some b)) ∧
      (Instr.mapUpdate 45 (.map (some b)) (.int .u64 id) (.pointer (some ⟨X.heap.size, 0, none⟩))).run Try.prog (X.alloc (.cells (Value.int .i64 ct :: zeros64).toArray 59)).drew = .ok () w' ∧
      TabAt w' base t ⟨T.fl, insF (newF id X.heap.size ct) T.fs⟩ ∧ Below base X w' ∧ Kept t X w' := by
  obtain ⟨X2, hX2⟩ : ∃ X2, X.alloc (.cells (Value.int .i64 ct :: zeros64).toArray 59) = X2 := ⟨_, rfl⟩
  have hb2 : Below X.heap.size X X2 := by rw [← hX2]; exact (Below.refl _ _).alloc (Nat.le_refl _) _
  have hrow : X2.heap[X.heap.size]? = some (.cells (Value.int .i64 ct :: zeros64).toArray 59 (0, 0)) := by rw [← hX2]; exact World.alloc_heap_new _ _
  rw [hX2]
  have hT2 := h.keep hb2
  obtain ⟨b, hb, ht, hm⟩ := hT2.map
  have hm' : X2.drew.ownsMap Try.prog 27 RF b T.fs.length (dat T.fs) := hm
  have hn4 : T.fs.length < maxLen := by unfold maxLen; omega
  obtain ⟨w', hrun, hmw, hg⟩ := hm'.update (int_keyed underU) Try.underlying45 hn4 (key := .int .u64 id) (val := .pointer (some ⟨X.heap.size, 0, none⟩)) (d := .lit (.int .i64 X.heap.size)) (ps := []) (keyOf_u64 w0 w1) rfl
  have hpd := put_dat (fs := T.fs) (f := newF id X.heap.size ct) hf
  change (dat T.fs).put (.int .u64 id) (.lit (.int .i64 X.heap.size)) = _ at hpd
  rw [hpd] at hmw
  have hg2 : X2.grownBy w' (some b) := grown_undrew hg
  obtain ⟨es, clock, ho, _⟩ := hm
  have hF : FrameAt X2 base (newF id X.heap.size ct) := ⟨hbx, ⟨zeros64, by simpa [newF, show ((ct.toNat : Nat) : Int) = ct by omega] using hrow, po_zeros X2 base 64⟩, by simp [newF], by simp only [newF]; omega, by simp only [newF]; omega⟩
  refine ⟨b, w', by simp [World.cell?, ht], hrun, hT2.put hb ht ho hg2 _ hmw hF (fun y hy e => ?_) h4, (hb2.mono hbx).trans (below_grown hg2 hb (Nat.le_trans hbx hb2.size)), (Kept.below hb2).trans (Kept.grown hg2 ho (.inr (fun c ty fr e => by cases e)))⟩
  have hY := h.frames y hy
  obtain ⟨C, hC, _⟩ := hY.row
  have := (Array.getElem?_eq_some_iff.1 hC).1
  simp only [newF] at e
  omega

set_option maxRecDepth 100000 in
set_option maxHeartbeats 2000000 in
theorem frameOf_new {w : World} {base t : Nat} {T : TV} (h : TabAt w base t T) (id ix ct : Int) (A : Option Addr) (n c : Nat) (w0 : 0 ≤ id) (w1 : id < 18446744073709551616) (c1 : 1 ≤ ct) (c2 : ct ≤ 64) (hf : getF T.fs id = none) (h4 : ¬ 4 ≤ T.fs.length) (hbw : base ≤ w.heap.size) :
    Calls Try.prog 19 #[.pointer (some ⟨t, 0, none⟩), PV id ix ct A n c] w fun e w' => ∃ g, e = .returned (.pointer (some ⟨g, 0, none⟩)) ∧ w.heap.size ≤ g ∧ TabAt w' base t ⟨T.fl, insF (newF id g ct) T.fs⟩ ∧ Below base w w' ∧ Kept t w w' := by
  have HR := Lib.hid (RefAt.start h id ix ct A n c)
  obtain ⟨ht, hfl, _, b, hbl, hmc, hm⟩ := HR.out.tab.cells
  obtain ⟨hbx, b0, b1, b2⟩ := HR.out.box
  have hlk := look_any hm id w0 w1 1
  rw [hf] at hlk
  obtain ⟨W, hW⟩ : ∃ W, w.alloc (.cells #[.int .u64 id, .int .i64 ix, .int .i64 ct, .slice A n c] 30) = W := ⟨_, rfl⟩
  rw [hW] at hlk hmc HR b0 b2 hbx
  change (Instr.lookup 45 (.map (some b)) (.int .u64 id) false).run Try.prog W.drew = .ok (.pointer none) W.drew at hlk
  have H4 := Lib.hid h4
  obtain ⟨b', w', hc', hrun, hT', hB', hK'⟩ := open_frame (HR.out.drews 1).tab id ct w0 w1 c1 c2 hf (by omega) (Nat.le_trans hbw (by have := HR.out.below.size; exact this))
  have HBW := Lib.hid ((HR.out.below.mono hbw).trans (belowN (Below.refl base W) 1) |>.trans hB')
  have HKW := Lib.hid ((Kept.below HR.out.below).trans hK')
  have HT := Lib.hid hT'
  have hz := zeroF
  obtain ⟨ZA, hZA⟩ : ∃ ZA, (Value.int .i64 0 :: zeros64).toArray = ZA := ⟨_, rfl⟩
  obtain ⟨FC, hFC⟩ : ∃ FC, (Value.int .i64 ct :: zeros64).toArray = FC := ⟨_, rfl⟩
  have hne : (ZA = #[]) = False := by rw [← hZA]; simp
  have hset : ZA.setIfInBounds 0 (.int .i64 ct) = FC := by rw [← hZA, ← hFC]; simp
  rw [hZA] at hz
  rw [hFC] at hrun hc'
  have hb2' : ((W.drewN 1).alloc (.cells FC 59)).cell? ⟨w.heap.size, 0, none⟩ = some (.int .u64 id) := (((Below.refl _ (W.drewN 1)).alloc (Nat.le_refl _) _).cell (p := ⟨w.heap.size, 0, none⟩) hbx).trans b0
  clear h hf hm ht hfl hbl b1 h4 hZA hFC hT' hB' hK'
  change (Instr.mapUpdate 45 (.map (some b')) (.int .u64 id) (.pointer (some ⟨W.heap.size, 0, none⟩))).run Try.prog ((W.drewN 1).alloc (.cells FC 59)).drew = _ at hrun
  change ((W.drewN 1).alloc (.cells FC 59)).cell? _ = _ at hc'
  go_enter Try.func19, Try.ntmps19
  go_wp2
  try rw [hW]
  go_region
  all_goals go_wp2_with (go_at_call 34; refine (isFull_not (HR.out.drews 1).tab H4.out).mono ?_; rintro e w' ⟨rfl, rfl⟩)
  go_region
  all_goals go_wp2
  go_ret
  exact ⟨_, rfl, HR.out.below.size, HT.out, HBW.out, HKW.out⟩

theorem getF_filter {fs : List FV} {id : Int} {p : FV → Bool} (h : getF fs id = none) : getF (fs.filter p) id = none :=
  List.find?_eq_none.2 fun y hy => List.find?_eq_none.1 h y (List.mem_filter.1 hy).1
theorem drop_head {T : TV} (h4 : T.fs.length ≤ 4) (h0 : 0 < T.fs.length) : (T.fs.filter fun f => decide ((ids T).headD 0 + 1 ≤ f.id)).length < 4 := by
  cases hh : T.fs with
  | nil => rw [hh] at h0; cases h0
  | cons a r =>
    have e : (ids T).headD 0 = a.id := by simp [ids, hh]
    rw [e, List.filter_cons, if_neg (by simp; omega)]
    have := List.length_filter_le (fun f : FV => decide (a.id + 1 ≤ f.id)) r
    rw [hh] at h4
    simp at h4
    omega

set_option maxRecDepth 100000 in
set_option maxHeartbeats 2000000 in
theorem frameOf_full {w : World} {base t : Nat} {T : TV} (h : TabAt w base t T) (id ix ct : Int) (A : Option Addr) (n c : Nat) (w0 : 0 ≤ id) (w1 : id < 4611686018427387904) (c1 : 1 ≤ ct) (c2 : ct ≤ 64) (hf : getF T.fs id = none) (h4 : 4 ≤ T.fs.length) (hx : (ids T).headD 0 ≤ id) (hbw : base ≤ w.heap.size) :
    Calls Try.prog 19 #[.pointer (some ⟨t, 0, none⟩), PV id ix ct A n c] w fun e w' => ∃ g, e = .returned (.pointer (some ⟨g, 0, none⟩)) ∧ w.heap.size ≤ g ∧ TabAt w' base t ⟨(ids T).headD 0 + 1, insF (newF id g ct) (T.fs.filter fun f => decide ((ids T).headD 0 + 1 ≤ f.id))⟩ ∧ Below base w w' ∧ Kept t w w' := by
  have HTN : Hid (w.heap.size ≠ t) := fun e => by have := h.cells.1; omega
  have HR := Lib.hid (RefAt.start h id ix ct A n c)
  have hx0 : 0 ≤ (ids T).headD 0 := by
    cases hh : T.fs with
    | nil => simp [ids, hh]
    | cons a r =>
      have e : (ids T).headD 0 = a.id := by simp [ids, hh]
      rw [e]; exact (h.idw a (by rw [hh]; simp)).1
  have HD := Lib.hid (drop_head h.few (by omega))
  have HGF := Lib.hid (getF_filter (p := fun f => decide ((ids T).headD 0 + 1 ≤ f.id)) hf)
  obtain ⟨ht, hfl, _, b, hbl, hmc, hm⟩ := HR.out.tab.cells
  obtain ⟨hbx, b0, b1, b2⟩ := HR.out.box
  have hlk := look_any hm id w0 (by omega) 1
  rw [hf] at hlk
  have hpb := heap_alloc_new w (.cells #[.int .u64 id, .int .i64 ix, .int .i64 ct, .slice A n c] 30)
  obtain ⟨W, hW⟩ : ∃ W, w.alloc (.cells #[.int .u64 id, .int .i64 ix, .int .i64 ct, .slice A n c] 30) = W := ⟨_, rfl⟩
  rw [hW] at hlk hmc HR b0 b2 hbx hpb
  change (Instr.lookup 45 (.map (some b)) (.int .u64 id) false).run Try.prog W.drew = .ok (.pointer none) W.drew at hlk
  have H4 := Lib.hid h4
  obtain ⟨x, hxe⟩ : ∃ x, x = (ids T).headD 0 := ⟨_, rfl⟩
  have HWf := Lib.hid (waits_full (HR.out.drews 1).tab H4.out)
  rw [← hxe] at HWf HD HGF hx hx0 ⊢
  have hwr : IntKind.u64.wrap (x + 1) = x + 1 := by rw [IntKind.wrap_u64]; omega
  have HP := Lib.hid hpb
  have hz := zeroF
  obtain ⟨ZA, hZA⟩ : ∃ ZA, (Value.int .i64 0 :: zeros64).toArray = ZA := ⟨_, rfl⟩
  obtain ⟨FC, hFC⟩ : ∃ FC, (Value.int .i64 ct :: zeros64).toArray = FC := ⟨_, rfl⟩
  have hne : (ZA = #[]) = False := by rw [← hZA]; simp
  have hset : ZA.setIfInBounds 0 (.int .i64 ct) = FC := by rw [← hZA, ← hFC]; simp
  have HFC := Lib.hid hFC
  rw [hZA] at hz
  clear h hf hm ht hfl hbl b1 h4 hZA hFC hpb hxe
  go_enter Try.func19, Try.ntmps19
  go_wp2
  try rw [hW]
  go_region
  all_goals go_wp2_with (first
    | (go_at_call 34; refine (isFull_full (HR.out.drews 1).tab H4.out).mono ?_; rintro e w' ⟨rfl, rfl⟩)
    | (go_at_call 12; refine HWf.out.mono ?_; rintro e w2 ⟨g2, c3, rfl, hg0, hb2⟩; have HR2 := Lib.hid ((HR.out.drews 1).keep hb2); have HP2 := Lib.hid ((hb2.block w.heap.size hbx).trans HP.out); clear hb2)
    | (go_at_call 23; refine (rise_any HR2.out.tab (x + 1) (by omega) (by omega) (Nat.le_trans hbw HR2.out.below.size)).mono ?_; rintro e w3 ⟨rfl, hT3, hb3, hk3⟩; have HP3 := Lib.hid (hk3 _ _ _ _ HP2.out HTN.out); have HT3 := Lib.hid hT3; have HB3 := Lib.hid ((HR2.out.below.mono hbw).trans hb3); have HK3 := Lib.hid ((Kept.below HR2.out.below).trans hk3); have d0 : w3.cell? ⟨w.heap.size, 0, none⟩ = some (.int .u64 id) := by { simp [World.cell?, HP3.out] }; have d2 : w3.cell? ⟨w.heap.size, 2, none⟩ = some (.int .i64 ct) := by { simp [World.cell?, HP3.out] }; clear hT3 hb3 hk3))
  obtain ⟨b', w', hc', hrun, hT', hB', hK'⟩ := open_frame HT3.out id ct w0 (by omega) c1 c2 HGF.out HD.out (Nat.le_trans hbw (Nat.le_of_lt (Nat.lt_of_lt_of_le (by omega : w.heap.size < w.heap.size + 1) (by have := (Array.getElem?_eq_some_iff.1 HP3.out).1; omega))))
  rw [HFC.out] at hrun hc'
  have hd0 : (w3.alloc (.cells FC 59)).cell? ⟨w.heap.size, 0, none⟩ = some (.int .u64 id) := (((Below.refl _ w3).alloc (Nat.le_refl _) _).cell (p := ⟨w.heap.size, 0, none⟩) (Array.getElem?_eq_some_iff.1 HP3.out).1).trans d0
  have HBW := Lib.hid (HB3.out.trans hB')
  have HKW := Lib.hid (HK3.out.trans hK')
  have HT := Lib.hid hT'
  clear hT' hB' hK'
  go_region
  all_goals go_wp2
  go_ret
  exact ⟨_, rfl, Nat.le_of_lt (Array.getElem?_eq_some_iff.1 HP3.out).1, HT.out, HBW.out, HKW.out⟩

end Go.Proofs.Ytikijkhblfgbpaa
