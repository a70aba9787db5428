/-
  Proved here: of the program's views: appendCell, PutCell, GetCell.
-/
import Derived.Test.YtjihcpnaebghnaaDoorIb
set_option linter.unusedSimpArgs false
set_option linter.unusedVariables false
namespace Go.Proofs.YtjihcpnaebghnaaDoor
open Go.RowKit
theorem own_block_lt {w : World} {base : Nat} {e : TypeId} {size : Nat} {v : Value} {n : Nat} {xs : List Value} (h : w.ownsRow base e size v n xs) : ∀ k, v.ownBlock = some k → k < w.heap.size := by
  intro k hk
  rcases h.2 with ⟨rfl, _⟩ | ⟨g, cap, cur, rfl, hg, hb, _⟩
  · simp [Value.ownBlock] at hk
  · have : g = k := by simpa [Value.ownBlock] using hk
    subst this
    exact lt_of_block hb
set_option maxRecDepth 100000 in
/-- Bytes put behind bytes of one's own; nothing else has changed. -/
theorem Own8.appg {w : World} {v u : Value} {xs ys : List Int} {W : World} (h : Own8 w v xs W) (hu : ∃ A c, u = .slice A ys.length c ∧ (A = none → c = 0) ∧ RI .u8 W A ys) (hn : xs.length + ys.length ≤ 100000) :
    ∃ A c w', (Builtin.append_ #[25, 25] 25 #[v, u]).run Tryd.prog W = .ok (.slice A (xs.length + ys.length) c) w' ∧ Own8 w (.slice A (xs.length + ys.length) c) (xs ++ ys) w' ∧ W.grownBy w' v.ownBlock := by
  obtain ⟨A0, c0, rfl, hA, hR⟩ := hu
  obtain ⟨v', w', r, o, g⟩ := app_u8 (ys := ys) rfl c0 hR hA h.own (by omega) h.below.size
  obtain ⟨A, c, rfl, _⟩ := own_slice o
  exact ⟨A, c, w', r, ⟨own_cast o (by simp) rfl, h.below.grown g h.below.size (ownBlock_le h.own)⟩, g⟩
theorem Own8.rit_grown {w W W' : World} {v : Value} {xs : List Int} {row : Option Nat} (h : Own8 w v xs W) (hg : W.grownBy W' row) (hr : ∀ k, row = some k → k < w.heap.size) : ∃ A c, v = .slice A xs.length c ∧ (A = none → c = 0) ∧ RI .u8 W' A xs := by
  obtain ⟨A, c, rfl, _, _, hz⟩ := own_slice h.own
  refine ⟨A, c, rfl, hz, fun hp => ?_⟩
  obtain ⟨g, rfl, hge, hlt, hc⟩ := own_cells h.own rfl hp
  have hbk := hg.block g hlt (by intro e; have := hr g e.symm; omega)
  exact ⟨g, 0, rfl, Nat.lt_of_lt_of_le hlt hg.size, fun i hi => by rw [Nat.zero_add, ← hc i hi]; exact World.cell?_of_block hbk⟩
theorem four_at {W : World} {g : Nat} {c0 c1 c2 c3 : Value} {t : TypeId} (h : W.heap[g]? = some (.cells #[c0, c1, c2, c3] t (0, 0))) : W.cell? ⟨g, 0, none⟩ = some c0 ∧ W.cell? ⟨g, 1, none⟩ = some c1 ∧ W.cell? ⟨g, 2, none⟩ = some c2 ∧ W.cell? ⟨g, 3, none⟩ = some c3 := by
  refine ⟨?_, ?_, ?_, ?_⟩ <;> (unfold World.cell?; simp only [h]; rfl)
theorem pV_st {c : Ce} (ho : CeOk c) : pV (stC c) = .agg #[.int .u8 c.f, .int .u32 c.g, .int .u32 c.b] := by
  unfold stC pV; dsimp only; rw [flagsF_ofF 8 c.f ho.f.1 (by have := ho.f.2; omega)]
set_option maxRecDepth 100000 in
set_option maxHeartbeats 4000000 in
theorem p_appendcell {w0 w : World} {v : Value} {xs : List Int} {c : Ce} (h : Own8 w0 v xs w) (hn : xs.length ≤ 50000) (ho : CeOk c) (hr : cellR c = true) (hT : Tab w0) : Calls Tryd.prog 82 #[v, cV c] w fun e w' => ∃ u, e = .returned u ∧ Own8 w0 u (xs ++ cellB c) w' := by
  have hr2 : isP c.p = true ∧ rightS (stC c) = true := by unfold cellR at hr; simpa using hr
  have hp := isP_range hr2.1
  have hwl := writeY_len ho.good hr2.2
  have hz := fun (W : World) hW => p_write (stC c) W ho.good hW hr2.2
  rw [pV_st ho] at hz
  have hcb : cellB c = writeY (stC c) ++ numB c.p := rfl
  obtain ⟨p, f, gg, bb⟩ := c
  obtain ⟨B1, hB1⟩ : ∃ B, writeY (stC ⟨p, f, gg, bb⟩) = B := ⟨_, rfl⟩
  obtain ⟨B2, hB2⟩ : ∃ B, numB p = B := ⟨_, rfl⟩
  have hl2 : B2.length ≤ 8 := by rw [← hB2, numB_length]; exact (szN_le p).2
  dsimp only at hp hz hcb
  rw [hB1, hB2] at hcb
  rw [hB1] at hwl
  simp only [hB1] at hz
  have u1 : IntKind.u64.wrap p = p := IntWalk.u64_in _ (by omega)
  have HP := Lib.hid (fun (W : World) hW => hB2 ▸ p_put p W hp.1 (by omega) hW)
  have HWR := Lib.hid hz
  have HCB := Lib.hid (fun (_ : Unit) => hcb)
  have HL := Lib.hid (And.intro hn (And.intro hwl.2 hl2))
  have HT := Lib.hid hT
  have HO := Lib.hid h
  have HB0 := (Below.refl w.heap.size w).alloc (Nat.le_refl _) (.cells #[.int .i32 p, .int .u8 f, .int .u32 gg, .int .u32 bb] 88)
  have HC0 := heap_alloc_new w (.cells #[.int .i32 p, .int .u8 f, .int .u32 gg, .int .u32 bb] 88)
  obtain ⟨vb, hvb⟩ : ∃ b, w.heap.size = b := ⟨_, rfl⟩
  obtain ⟨A0, n0, c0, hv0⟩ : ∃ A n c, v = .slice A n c := by obtain ⟨A, c, e, _⟩ := own_slice h.own; exact ⟨A, _, c, e⟩
  have HVV := Lib.hid hv0
  unfold cV
  dsimp only
  clear hr hr2 hp hz hwl hcb hB1 hB2 hl2 hn h hT ho
  subst hv0
  go_enter Tryd.func82, Tryd.ntmps82
  go_upto_region 1 with fail
  simp only [hvb] at HC0 ⊢
  generalize (w.alloc (.cells #[.int .i32 p, .int .u8 f, .int .u32 gg, .int .u32 bb] 88)) = U at HB0 HC0 ⊢
  have HU := Lib.hid (HO.out.to HB0)
  have HC := Lib.hid HC0
  clear HB0 HC0 hvb HO HVV
  obtain ⟨k0, k1, k2, k3⟩ := four_at HC.out
  go_wp2_with fail
  refine (HWR.out _ (HT.out.below HU.out.below HT.out.big)).mono ?_
  rintro e w1 ⟨v1, rfl, o1⟩
  have HO1 := Lib.hid o1
  have HC1 := Lib.hid ((o1.below.block _ (lt_of_block HC.out)).trans HC.out)
  have HU1 := Lib.hid (HU.out.to o1.below)
  clear o1 HU HC k0 k1 k2 k3 HWR
  obtain ⟨k0, k1, k2, k3⟩ := four_at HC1.out
  go_wp2_with fail
  refine (HP.out _ (HT.out.below HU1.out.below HT.out.big)).mono ?_
  rintro e w2 ⟨v2, rfl, o2⟩
  have h2 := HU1.out.to o2.below
  obtain ⟨A6, c6, w6, hrun6, o6, hg6⟩ := h2.appg (ys := B1) (u := v1) (HO1.out.to o2.below).rit (by have := HL.out; omega)
  obtain ⟨A8, c8, w8, hrun8, o8⟩ := o6.apps (ys := B2) (u := v2) (W2 := w6) (o2.rit_grown hg6 (fun k hk => own_block_lt HU1.out.own k hk)) (Below.refl _ _) (by have := HL.out; simp; omega)
  have HRUN6 := Lib.hid hrun6
  have HRUN8 := Lib.hid hrun8
  have HO8 := Lib.hid o8
  clear o2 h2 hrun6 hrun8 o6 o8 hg6 k0 k1 k2 k3 HU1 HO1 HC1 HP
  go_wp2_with (at_builtin; first | with_reducible refine wpList_app rfl (.tmp 22) (.tmp 23) _ rfl _ _ rfl rfl HRUN6.out ?_ | refine wpList_app rfl (.tmp 25) (.tmp 26) _ rfl _ _ rfl rfl HRUN8.out ?_ | refine wpList_app rfl (.tmp 22) (.tmp 23) _ rfl _ _ rfl rfl HRUN6.out ?_)
  go_ret
  refine ⟨.slice A8 ((xs ++ B1).length + B2.length) c8, by rw [List.length_append]; rfl, ?_⟩
  rw [HCB.out (), ← List.append_assoc]
  exact HO8.out
set_option maxHeartbeats 4000000 in
theorem p_putcell_no {w : World} {c : Ce} (ho : CeOk c) (hr : cellR c = false) : Calls Tryd.prog 53 #[cV c] w fun e w' => e = .returned (.tuple #[.slice none 0 0, .int .i64 3]) ∧ Below w.heap.size w w' := by
  have HIS := Lib.hid (fun W => hr ▸ p_iscell c ho W)
  obtain ⟨p, f, gg, bb⟩ := c
  have HB0 := Lib.hid ((Below.refl w.heap.size w).alloc (Nat.le_refl _) (.cells #[.int .i32 p, .int .u8 f, .int .u32 gg, .int .u32 bb] 88))
  unfold cV at HIS ⊢
  dsimp only at HIS ⊢
  clear hr ho
  go_enter Tryd.func53, Tryd.ntmps53
  go_wp2_with fail
  refine (HIS.out _).mono ?_
  rintro e w1 ⟨rfl, b1⟩
  have HB1 := Lib.hid (HB0.out.trans (b1.mono HB0.out.size))
  clear b1
  go_wp2
  go_ret2
  exact ⟨rfl, HB1.out⟩
set_option maxHeartbeats 4000000 in
theorem p_putcell {w : World} {c : Ce} (ho : CeOk c) (hr : cellR c = true) (hT : Tab w) : Calls Tryd.prog 53 #[cV c] w fun e w' => ∃ u, e = .returned (.tuple #[u, .int .i64 0]) ∧ Own8 w u (cellB c) w' := by
  have HIS := Lib.hid (fun W => hr ▸ p_iscell c ho W)
  have HAP := Lib.hid (fun (w1 : World) (h : Below w.heap.size w w1) => p_appendcell (w0 := w) (w := w1) (v := .slice none 0 0) (xs := []) (c := c) ((Own8.new w1).from h) (by simp) ho hr hT)
  simp only [List.nil_append] at HAP
  obtain ⟨p, f, gg, bb⟩ := c
  have HB0 := (Below.refl w.heap.size w).alloc (Nat.le_refl _) (.cells #[.int .i32 p, .int .u8 f, .int .u32 gg, .int .u32 bb] 88)
  have HC0 := heap_alloc_new w (.cells #[.int .i32 p, .int .u8 f, .int .u32 gg, .int .u32 bb] 88)
  obtain ⟨vb, hvb⟩ : ∃ b, w.heap.size = b := ⟨_, rfl⟩
  unfold cV at HIS HAP ⊢
  dsimp only at HIS HAP ⊢
  clear hr ho hT
  go_enter Tryd.func53, Tryd.ntmps53
  go_upto_region 1 with fail
  simp only [hvb] at HC0 ⊢
  generalize (w.alloc (.cells #[.int .i32 p, .int .u8 f, .int .u32 gg, .int .u32 bb] 88)) = U at HB0 HC0 ⊢
  have HB := Lib.hid HB0
  have HC := Lib.hid HC0
  clear HB0 HC0 hvb
  obtain ⟨k0, k1, k2, k3⟩ := four_at HC.out
  go_wp2_with fail
  refine (HIS.out _).mono ?_
  rintro e w1 ⟨rfl, b1⟩
  have HB1 := Lib.hid (HB.out.trans (b1.mono HB.out.size))
  have HC1 := Lib.hid ((b1.block _ (lt_of_block HC.out)).trans HC.out)
  clear b1 HB HC k0 k1 k2 k3
  obtain ⟨k0, k1, k2, k3⟩ := four_at HC1.out
  go_wp2_with fail
  refine (HAP.out _ HB1.out).mono ?_
  rintro e w2 ⟨u, rfl, o⟩
  have HO := Lib.hid o
  clear o
  go_wp2
  go_ret2
  exact ⟨_, rfl, HO.out⟩
theorem three_at {W : World} {g : Nat} {c0 c1 c2 : Value} {t : TypeId} (h : W.heap[g]? = some (.cells #[c0, c1, c2] t (0, 0))) : W.cell? ⟨g, 0, none⟩ = some c0 ∧ W.cell? ⟨g, 1, none⟩ = some c1 ∧ W.cell? ⟨g, 2, none⟩ = some c2 := by
  refine ⟨?_, ?_, ?_⟩ <;> (unfold World.cell?; simp only [h]; rfl)
def GetCP (r : Ce × Int × Int) (w : World) (e : Ending) (w' : World) : Prop := e = .returned (.tuple #[cV r.1, .int .i64 r.2.1, .int .i64 r.2.2]) ∧ Below w.heap.size w w'
theorem info_ce : (Tryd.prog.info? 88).map (·.size) = some 4 := by kernel_rfl
set_option maxHeartbeats 8000000 in
set_option maxRecDepth 100000 in
theorem p_getcell {w : World} {A : Option Addr} {bs : List Int} {n cap : Nat} (hR : RB w w.heap.size A bs) (hl : bs.length = n) (hn : n ≤ 100000) (hcap : n ≤ cap) (hm : cap ≤ maxLen) (hB : Bytes bs) (hT : Tab w) (p : Int) :
    Calls Tryd.prog 36 #[.slice A n cap, .int .i64 p] w (GetCP (getC bs p) w) := by
  obtain ⟨⟨s, m, z⟩, hs⟩ : ∃ r, readY bs p = r := ⟨_, rfl⟩
  obtain ⟨⟨q, m2, z2⟩, hq⟩ : ∃ r, getS bs m = r := ⟨_, rfl⟩
  have hgc : getC bs p = if z ≠ 0 then (zeC, 0, z) else if z2 ≠ 0 then (zeC, 0, z2) else if isP q = true then (⟨q, flagsF s.fs, s.fg, s.bg⟩, m2, 0) else (zeC, 0, 3) := by
    unfold getC; rw [hs]; dsimp only; rw [hq]
  obtain ⟨r, hr⟩ : ∃ r, getC bs p = r := ⟨_, rfl⟩
  rw [hr] at hgc ⊢
  have HRZ := Lib.hid (fun (h : z ≠ 0) => hgc.trans (if_pos h))
  have HRZ2 := Lib.hid (fun (h : z = 0) (h2 : z2 ≠ 0) => (hgc.trans (if_neg (by simpa using h))).trans (if_pos h2))
  have HRY := Lib.hid (fun (h : z = 0) (h2 : z2 = 0) (h3 : isP q = true) => ((hgc.trans (if_neg (by simpa using h))).trans (if_neg (by simpa using h2))).trans (if_pos h3))
  have HRN := Lib.hid (fun (h : z = 0) (h2 : z2 = 0) (h3 : ¬ isP q = true) => ((hgc.trans (if_neg (by simpa using h))).trans (if_neg (by simpa using h2))).trans (if_neg h3))
  have HRD := Lib.hid (fun (W : World) (hb : Below w.heap.size w W) => hs ▸ p_read ((hR.below hb).keep' hb.size) hl hn hcap hm hB (hT.below hb hT.big) p)
  have HGT := Lib.hid (fun (W : World) (hb : Below w.heap.size w W) => pget_in (W := W) hR hl hcap hm hB hT hb m hq)
  have HQ0 : z = 0 → z2 = 0 → 0 ≤ q := fun h1 h2 => by
    obtain ⟨k, hk⟩ : ∃ k : Nat, m = k := by
      unfold readY at hs
      by_cases c1 : p < 0 ∨ (bs.length : Int) < p
      · rw [if_pos c1] at hs; simp only [Prod.mk.injEq] at hs; omega
      · obtain ⟨k, rfl⟩ : ∃ k : Nat, p = k := ⟨p.toNat, by omega⟩
        subst h1
        obtain ⟨_, _, r3, _⟩ := read_inv hB (p := k) (s := s) (m := m) (by unfold readY; exact hs)
        exact ⟨k + (writeY s).length, by rw [r3]; omega⟩
    subst hk
    have := getS_ok hB (p := k) (by rw [hq]; exact h2)
    rw [hq] at this
    exact this.1
  obtain ⟨fs, sg, sb⟩ := s
  obtain ⟨sf, hsf⟩ : ∃ f, flagsF fs = f := ⟨_, rfl⟩
  unfold ReadP at HRD
  dsimp only [pV] at HRD ⊢
  rw [hsf] at HRD HRY
  have HB0 := (Below.refl w.heap.size w).alloc (Nat.le_refl _) (.cells #[.int .i32 0, .int .u8 0, .int .u32 0, .int .u32 0] 88)
  have HC0 := heap_alloc_new w (.cells #[.int .i32 0, .int .u8 0, .int .u32 0, .int .u32 0] 88)
  obtain ⟨vb, hvb⟩ : ∃ b, w.heap.size = b := ⟨_, rfl⟩
  have hvw : w.heap.size ≤ vb := by omega
  have HVW := Lib.hid hvw
  clear hr hgc hR hl hn hcap hm hB hT hs hq hsf hvw
  go_enter Tryd.func36, Tryd.ntmps36
  go_upto_region 1 with fail
  simp only [hvb] at HC0 ⊢
  generalize (w.alloc (.cells #[.int .i32 0, .int .u8 0, .int .u32 0, .int .u32 0] 88)) = U at HB0 HC0 ⊢
  have HB := Lib.hid HB0
  have HC := Lib.hid HC0
  clear HB0 HC0 hvb
  go_wp2_with fail
  refine (HRD.out _ HB.out).mono ?_
  rintro e w1 ⟨rfl, b1⟩
  have HB1 := Lib.hid (HB.out.trans ((b1.trans ((Below.refl w1.heap.size w1).alloc (Nat.le_refl _) (.cells #[.int .u8 sf, .int .u32 sg, .int .u32 sb] 86) |>.mono b1.size)).mono HB.out.size))
  have HC1 := Lib.hid ((((Below.refl w1.heap.size w1).alloc (Nat.le_refl _) (.cells #[.int .u8 sf, .int .u32 sg, .int .u32 sb] 86)).block vb (by have := lt_of_block HC.out; have := b1.size; omega)).trans ((b1.block _ (lt_of_block HC.out)).trans HC.out))
  have HS1 := Lib.hid (heap_alloc_new w1 (.cells #[.int .u8 sf, .int .u32 sg, .int .u32 sb] 86))
  obtain ⟨sb0, hsb0⟩ : ∃ b, w1.heap.size = b := ⟨_, rfl⟩
  clear b1 HRD HB HC
  by_cases hz : z = 0
  · subst hz
    have HQ1 := Lib.hid (HQ0 rfl)
    clear HQ0
    go_upto_region 2 with fail
    simp only [hsb0] at HS1 ⊢
    generalize (w1.alloc (.cells #[.int .u8 sf, .int .u32 sg, .int .u32 sb] 86)) = V at HB1 HC1 HS1 ⊢
    clear hsb0
    go_wp2_with fail
    refine (HGT.out _ HB1.out).mono ?_
    rintro e wx ⟨rfl, rfl⟩
    clear HGT
    by_cases hz2 : z2 = 0
    · subst hz2
      have hq0 := HQ1.out rfl
      clear HQ1
      by_cases hqb : q ≤ 2147483647
      · have d1 : decide (2147483647 < q) = false := by simpa using hqb
        have d2 : decide (q > 2147483647) = false := d1
        have u1 : IntKind.i32.wrap q = q := IntWalk.i32_in _ (by omega)
        obtain ⟨a, ha⟩ : ∃ a, isP q = a := ⟨_, rfl⟩
        have HIS := Lib.hid (fun W => ha ▸ p_is q W)
        have HAA := Lib.hid ha
        clear ha hqb hq0
        go_wp2_with fail
        refine (HIS.out _).mono ?_
        rintro e wx ⟨rfl, rfl⟩
        cases a with
        | false =>
          have HRR := Lib.hid (HRN.out (by first | trivial | rfl) (by first | trivial | rfl) (by rw [HAA.out]; decide))
          go_wp2_with (refine wpList_store_row rfl 88 (.tmp 4) (.tmp 43) rfl vb #[.int .i32 0, .int .u8 0, .int .u32 0, .int .u32 0] rfl rfl 88 _ HC1.out info_ce rfl (by simp [Value.oneCell']) ?_)
          exact bodyPost_ret (results_cell_two Tryd.results36 _ _ vb 88 #[.int .i32 0, .int .u8 0, .int .u32 0, .int .u32 0] (0, 0) _ (.int .i64 0) (.int .i64 3) rfl rfl rfl (setRow_heap _ _ _ #[.int .i32 0, .int .u8 0, .int .u32 0, .int .u32 0] _ _ HC1.out) Tryd.underlying88 rfl info_ce) rfl ⟨by rw [HRR.out]; rfl, below_setRow HB1.out HVW.out #[.int .i32 0, .int .u8 0, .int .u32 0, .int .u32 0]⟩
        | true =>
          have HRR := Lib.hid (HRY.out (by first | trivial | rfl) (by first | trivial | rfl) HAA.out)
          obtain ⟨s0, s1, s2⟩ : _ ∧ _ ∧ _ := three_at HS1.out
          go_wp2_with (refine wpList_store_row rfl 88 (.tmp 4) (.tmp 47) rfl vb #[.int .i32 q, .int .u8 sf, .int .u32 sg, .int .u32 sb] rfl rfl 88 _ HC1.out info_ce rfl (by simp [Value.oneCell']) ?_)
          exact bodyPost_ret (results_cell_two Tryd.results36 _ _ vb 88 #[.int .i32 q, .int .u8 sf, .int .u32 sg, .int .u32 sb] (0, 0) _ (.int .i64 m2) (.int .i64 0) rfl rfl rfl (setRow_heap _ _ _ #[.int .i32 q, .int .u8 sf, .int .u32 sg, .int .u32 sb] _ _ HC1.out) Tryd.underlying88 rfl info_ce) rfl ⟨by rw [HRR.out]; rfl, below_setRow HB1.out HVW.out #[.int .i32 q, .int .u8 sf, .int .u32 sg, .int .u32 sb]⟩
      · have d1 : decide (2147483647 < q) = true := by simp; omega
        have d2 : decide (q > 2147483647) = true := d1
        have HRR := Lib.hid (HRN.out (by first | trivial | rfl) (by first | trivial | rfl) (by intro h; have := isP_range h; omega))
        clear hqb hq0
        go_wp2_with (refine wpList_store_row rfl 88 (.tmp 4) (.tmp 43) rfl vb #[.int .i32 0, .int .u8 0, .int .u32 0, .int .u32 0] rfl rfl 88 _ HC1.out info_ce rfl (by simp [Value.oneCell']) ?_)
        exact bodyPost_ret (results_cell_two Tryd.results36 _ _ vb 88 #[.int .i32 0, .int .u8 0, .int .u32 0, .int .u32 0] (0, 0) _ (.int .i64 0) (.int .i64 3) rfl rfl rfl (setRow_heap _ _ _ #[.int .i32 0, .int .u8 0, .int .u32 0, .int .u32 0] _ _ HC1.out) Tryd.underlying88 rfl info_ce) rfl ⟨by rw [HRR.out]; rfl, below_setRow HB1.out HVW.out #[.int .i32 0, .int .u8 0, .int .u32 0, .int .u32 0]⟩
    · have HRR := Lib.hid (HRZ2.out (by first | trivial | rfl) hz2)
      have z : (z2 != 0) = true := by simpa using hz2
      clear hz2 HQ1
      go_wp2_with (refine wpList_store_row rfl 88 (.tmp 4) (.tmp 32) rfl vb #[.int .i32 0, .int .u8 0, .int .u32 0, .int .u32 0] rfl rfl 88 _ HC1.out info_ce rfl (by simp [Value.oneCell']) ?_)
      exact bodyPost_ret (results_cell_two Tryd.results36 _ _ vb 88 #[.int .i32 0, .int .u8 0, .int .u32 0, .int .u32 0] (0, 0) _ (.int .i64 0) (.int .i64 z2) rfl rfl rfl (setRow_heap _ _ _ #[.int .i32 0, .int .u8 0, .int .u32 0, .int .u32 0] _ _ HC1.out) Tryd.underlying88 rfl info_ce) rfl ⟨by rw [HRR.out]; rfl, below_setRow HB1.out HVW.out #[.int .i32 0, .int .u8 0, .int .u32 0, .int .u32 0]⟩
  · have HRR := Lib.hid (HRZ.out hz)
    have hzz : (z != 0) = true := by simpa using hz
    clear hz HQ0 HGT
    go_upto_region 2 with fail
    simp only [hsb0] at HS1 ⊢
    generalize (w1.alloc (.cells #[.int .u8 sf, .int .u32 sg, .int .u32 sb] 86)) = V at HB1 HC1 HS1 ⊢
    clear hsb0
    go_wp2_with (refine wpList_store_row rfl 88 (.tmp 4) (.tmp 20) rfl vb #[.int .i32 0, .int .u8 0, .int .u32 0, .int .u32 0] rfl rfl 88 _ HC1.out info_ce rfl (by simp [Value.oneCell']) ?_)
    exact bodyPost_ret (results_cell_two Tryd.results36 _ _ vb 88 #[.int .i32 0, .int .u8 0, .int .u32 0, .int .u32 0] (0, 0) _ (.int .i64 0) (.int .i64 z) rfl rfl rfl (setRow_heap _ _ _ #[.int .i32 0, .int .u8 0, .int .u32 0, .int .u32 0] _ _ HC1.out) Tryd.underlying88 rfl info_ce) rfl ⟨by rw [HRR.out]; rfl, below_setRow HB1.out HVW.out #[.int .i32 0, .int .u8 0, .int .u32 0, .int .u32 0]⟩
end Go.Proofs.YtjihcpnaebghnaaDoor
