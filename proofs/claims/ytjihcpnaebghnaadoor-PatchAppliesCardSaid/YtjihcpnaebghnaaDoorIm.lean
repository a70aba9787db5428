/-
  Proved here: of the document's views: IsCell, PutCell, GetCell.
-/
import Derived.Test.YtjihcpnaebghnaaDoorIj
set_option linter.unusedSimpArgs false
set_option linter.unusedVariables false
namespace Go.Proofs.YtjihcpnaebghnaaDoor
open Go.RowKit
theorem yV_st {p f gg bb : Int} {f0 f1 f2 f3 f4 f5 f6 f7 : Bool} (hf : ofF 8 f = [f0, f1, f2, f3, f4, f5, f6, f7]) : yV ⟨p, f, gg, bb⟩ = .agg #[.int .i32 p, .bool f0, .bool f1, .bool f2, .bool f3, .bool f4, .bool f5, .bool f6, .bool f7, .int .u32 gg, .int .u32 bb] ∧ styV (stC ⟨p, f, gg, bb⟩) = .agg #[.bool f0, .bool f1, .bool f2, .bool f3, .bool f4, .bool f5, .bool f6, .bool f7, .int .u32 gg, .int .u32 bb] := by
  refine ⟨?_, ?_⟩
  · unfold yV yC styL; dsimp only; rw [hf]; rfl
  · unfold styV stC styL; dsimp only; rw [hf]; rfl
theorem r_iscell (c : Ce) (ho : CeOk c) (w : World) : Calls Tryd.prog 59 #[yV c] w fun e w' => e = .returned (.bool (cellR c)) ∧ Below w.heap.size w w' := by
  have hz := fun W => ry_right (stC c) W ho.good
  obtain ⟨p, f, gg, bb⟩ := c
  obtain ⟨f0, f1, f2, f3, f4, f5, f6, f7, hf⟩ := eight (ofF_len 8 f)
  obtain ⟨e1, e2⟩ := yV_st (p := p) (gg := gg) (bb := bb) hf
  rw [e1]
  simp only [e2] at hz
  obtain ⟨a, ha⟩ : ∃ a, isP p = a := ⟨_, rfl⟩
  obtain ⟨q, hq⟩ : ∃ a, rightS (stC ⟨p, f, gg, bb⟩) = a := ⟨_, rfl⟩
  have e : cellR ⟨p, f, gg, bb⟩ = (a && q) := by unfold cellR; rw [hq]; dsimp only; rw [ha]
  simp only [hq] at hz
  have HZ := Lib.hid hz
  have HP := Lib.hid (fun W => ha ▸ ris_any p W)
  rw [e]
  have HB0 := (Below.refl w.heap.size w).alloc (Nat.le_refl _) (.cells #[.int .i32 p, .bool f0, .bool f1, .bool f2, .bool f3, .bool f4, .bool f5, .bool f6, .bool f7, .int .u32 gg, .int .u32 bb] 80)
  have HC0 := heap_alloc_new w (.cells #[.int .i32 p, .bool f0, .bool f1, .bool f2, .bool f3, .bool f4, .bool f5, .bool f6, .bool f7, .int .u32 gg, .int .u32 bb] 80)
  obtain ⟨vb, hvb⟩ : ∃ b, w.heap.size = b := ⟨_, rfl⟩
  clear e ha hq hz e1 e2 hf ho
  go_enter Tryd.func59, Tryd.ntmps59
  go_upto_region 1 with fail
  simp only [hvb] at HC0 ⊢
  generalize (w.alloc (.cells #[.int .i32 p, .bool f0, .bool f1, .bool f2, .bool f3, .bool f4, .bool f5, .bool f6, .bool f7, .int .u32 gg, .int .u32 bb] 80)) = U at HB0 HC0 ⊢
  have HB := Lib.hid HB0
  obtain ⟨k0, k1, k2, k3, k4, k5, k6, k7, k8, k9, k10⟩ := cells11 HC0
  clear HB0 HC0 hvb
  cases a
  · go_wp2_with fail
    refine (HP.out _).mono ?_
    rintro e wx ⟨rfl, rfl⟩
    go_wp2
    go_ret
    exact ⟨rfl, HB.out⟩
  · go_wp2_with fail
    refine (HP.out _).mono ?_
    rintro e wx ⟨rfl, rfl⟩
    go_wp2_with fail
    refine (HZ.out _).mono ?_
    rintro e w1 ⟨rfl, b1⟩
    have HB1 := Lib.hid (HB.out.trans (b1.mono HB.out.size))
    clear b1
    go_wp2
    go_ret
    exact ⟨by simp, HB1.out⟩
set_option maxRecDepth 100000 in
set_option maxHeartbeats 8000000 in
theorem r_putcell {w : World} {c : Ce} (ho : CeOk c) (hr : cellR c = true) : Calls Tryd.prog 65 #[yV c] w fun e w' => ∃ u, e = .returned u ∧ Own8 w u (cellB c) w' := by
  have hr2 : isP c.p = true ∧ rightS (stC c) = true := by unfold cellR at hr; simpa using hr
  have hp := isP_range hr2.1
  have hwl := writeY_len ho.good hr2.2
  have hz := fun (W : World) => ry_write (stC c) W ho.good
  have hcb : cellB c = writeY (stC c) ++ numB c.p := rfl
  obtain ⟨p, f, gg, bb⟩ := c
  obtain ⟨f0, f1, f2, f3, f4, f5, f6, f7, hf⟩ := eight (ofF_len 8 f)
  obtain ⟨e1, e2⟩ := yV_st (p := p) (gg := gg) (bb := bb) hf
  rw [e1]
  simp only [e2] at hz
  obtain ⟨B1, hB1⟩ : ∃ B, writeY (stC ⟨p, f, gg, bb⟩) = B := ⟨_, rfl⟩
  obtain ⟨B2, hB2⟩ : ∃ B, numB p = B := ⟨_, rfl⟩
  have hl2 : B2.length ≤ 8 := by rw [← hB2, numB_length]; exact (szN_le p).2
  dsimp only at hp hz hcb
  rw [hB1, hB2] at hcb
  rw [hB1] at hwl
  simp only [hB1] at hz
  have u1 : IntKind.u64.wrap p = p := IntWalk.u64_in _ (by omega)
  have HP := Lib.hid (fun (W : World) => hB2 ▸ rput8 p W hp.1 (by omega))
  have HWR := Lib.hid hz
  have HCB := Lib.hid (fun (_ : Unit) => hcb)
  have HL := Lib.hid (And.intro hwl.2 hl2)
  have HB0 := (Below.refl w.heap.size w).alloc (Nat.le_refl _) (.cells #[.int .i32 p, .bool f0, .bool f1, .bool f2, .bool f3, .bool f4, .bool f5, .bool f6, .bool f7, .int .u32 gg, .int .u32 bb] 80)
  have HC0 := heap_alloc_new w (.cells #[.int .i32 p, .bool f0, .bool f1, .bool f2, .bool f3, .bool f4, .bool f5, .bool f6, .bool f7, .int .u32 gg, .int .u32 bb] 80)
  obtain ⟨vb, hvb⟩ : ∃ b, w.heap.size = b := ⟨_, rfl⟩
  clear hr hr2 hp hz hwl hcb hB1 hB2 hl2 ho e1 e2 hf
  go_enter Tryd.func65, Tryd.ntmps65
  go_upto_region 1 with fail
  simp only [hvb] at HC0 ⊢
  generalize (w.alloc (.cells #[.int .i32 p, .bool f0, .bool f1, .bool f2, .bool f3, .bool f4, .bool f5, .bool f6, .bool f7, .int .u32 gg, .int .u32 bb] 80)) = U at HB0 HC0 ⊢
  refine wp_region_held_drew (S := fun W => Below U.drew.heap.size U.drew W) (by kernel_rfl) (Below.refl _ _) (fun hHeld => ?_)
  have HBW := Lib.hid HB0.drew
  have HC := Lib.hid (((Below.refl U.heap.size U).drew.block _ (lt_of_block HC0)).trans HC0)
  obtain ⟨D, hD⟩ : ∃ D, U.drew = D := ⟨_, rfl⟩
  simp only [hD] at hHeld HBW HC ⊢
  clear HB0 HC0 hvb hD
  have HBU := Lib.hid (Below.refl D.heap.size D)
  have HD := Lib.hid (Below.refl D.heap.size D)
  refine wpAnyH_take (i := 0) (v := ?_) (by simp; rfl) (by kernel_rfl) (by kernel_rfl) (by kernel_rfl) (by exact fun _ _ _ h => h) (Or.inl ⟨by rfl, fun wx hSx => ?_⟩) hHeld ?_
  rotate_left
  · clear hSx; go_simp; (try with_reducible rfl)
  simp only [Act.put, List.setIfInBounds_toArray, List.set_cons_zero, List.set_cons_succ]
  refine wpAnyH_take (i := 1) (v := ?_) (by simp; rfl) (by kernel_rfl) (by kernel_rfl) (by kernel_rfl) (by exact fun _ _ _ h => h) (Or.inl ⟨by rfl, fun wx hSx => ?_⟩) hHeld ?_
  rotate_left
  · obtain ⟨k0, k1, k2, k3, k4, k5, k6, k7, k8, k9, k10⟩ := cells11 ((hSx.block _ (lt_of_block HC.out)).trans HC.out); clear hSx; go_simp; (try with_reducible rfl)
  simp only [Act.put, List.setIfInBounds_toArray, List.set_cons_zero, List.set_cons_succ]
  refine wpAnyH_take (i := 3) (v := ?_) (by simp; rfl) (by kernel_rfl) (by kernel_rfl) (by kernel_rfl) (by exact fun _ _ _ h => h) (Or.inl ⟨by rfl, fun wx hSx => ?_⟩) hHeld ?_
  rotate_left
  · clear hSx; go_simp; (try with_reducible rfl)
  simp only [Act.put, List.setIfInBounds_toArray, List.set_cons_zero, List.set_cons_succ]
  refine wpAnyH_take (i := 4) (v := ?_) (by simp; rfl) (by kernel_rfl) (by kernel_rfl) (by kernel_rfl) (by exact fun _ _ _ h => h) (Or.inl ⟨by rfl, fun wx hSx => ?_⟩) hHeld ?_
  rotate_left
  · obtain ⟨k0, k1, k2, k3, k4, k5, k6, k7, k8, k9, k10⟩ := cells11 ((hSx.block _ (lt_of_block HC.out)).trans HC.out); clear hSx; go_simp; (try with_reducible rfl)
  simp only [Act.put, List.setIfInBounds_toArray, List.set_cons_zero, List.set_cons_succ]
  refine wpAnyH_take (i := 5) (v := ?_) (by simp; rfl) (by kernel_rfl) (by kernel_rfl) (by kernel_rfl) (by exact fun _ _ _ h => h) (Or.inl ⟨by rfl, fun wx hSx => ?_⟩) hHeld ?_
  rotate_left
  · clear hSx; go_simp; (try with_reducible rfl)
  simp only [Act.put, List.setIfInBounds_toArray, List.set_cons_zero, List.set_cons_succ]
  refine wpAnyH_ready (rs := [2]) (by kernel_rfl) (by simp) ?_
  refine AllReadyH.cons (by simp; rfl) (fun K0 hK0 => ?_) AllReadyH.nil
  go_simp
  refine (HWR.out _).mono ?_
  rintro e W1 ⟨v1, rfl, o1⟩
  obtain ⟨A1, n1, c1, hv1⟩ : ∃ A n c, v1 = .slice A n c := by obtain ⟨A, c, e, _⟩ := own_slice o1.own; exact ⟨A, _, c, e⟩
  subst hv1
  have HO1 := Lib.hid o1
  have HB2 := Lib.hid (HBU.out.trans (o1.below.mono HBU.out.size))
  clear HBU o1
  have HBU := HB2
  clear HB2
  refine hK0.out _ _ HBU.out (fun _ => ?_)
  clear hK0 K0 hHeld
  have hHeld := HBU.out
  refine wpAnyH_ready (rs := [6]) (by kernel_rfl) (by simp) ?_
  refine AllReadyH.cons (by simp; rfl) (fun K0 hK0 => ?_) AllReadyH.nil
  go_simp
  refine (HP.out _).mono ?_
  rintro e W2 ⟨v2, rfl, o2⟩
  obtain ⟨A2, n2, c2, hv2⟩ : ∃ A n c, v2 = .slice A n c := by obtain ⟨A, c, e, _⟩ := own_slice o2.own; exact ⟨A, _, c, e⟩
  subst hv2
  have HB2 := Lib.hid (HBU.out.trans (o2.below.mono HBU.out.size))
  have HS := Lib.hid ((HO1.out.to o2.below).from HD.out)
  obtain ⟨A6, c6, W6, hrun, o6⟩ := HS.out.apps (ys := B2) (u := .slice A2 n2 c2) (W2 := W2) o2.rit (Below.refl _ _) (by have := HL.out; omega)
  have HRUN := Lib.hid hrun
  have HO6 := Lib.hid o6
  clear HBU o2 HO1 hrun o6
  have HBU := HB2
  clear HB2
  refine hK0.out _ _ HBU.out (fun _ => ?_)
  clear hK0 K0 hHeld
  have hHeld := HBU.out
  refine wpAnyH_ready (rs := [7]) (by kernel_rfl) (by simp) ?_
  refine AllReadyH.cons (by simp; rfl) (fun K0 hK0 => ?_) AllReadyH.nil
  refine step_app rfl (.tmp 5) (.tmp 9) _ rfl _ _ rfl rfl HRUN.out ?_
  simp only [Act.put, List.setIfInBounds_toArray, List.set_cons_zero, List.set_cons_succ]
  refine hK0.out _ _ HO6.out.below (fun _ => ?_)
  clear hK0 K0 hHeld
  have hHeld := HO6.out.below
  refine wpAnyH_take (i := 8) (v := ?_) (by simp; rfl) (by kernel_rfl) (by kernel_rfl) (by kernel_rfl) (by exact fun _ _ _ h => h) (Or.inl ⟨by rfl, fun wx hSx => ?_⟩) hHeld ?_
  rotate_left
  · clear hSx; go_simp; (try with_reducible rfl)
  simp only [Act.put, List.setIfInBounds_toArray, List.set_cons_zero, List.set_cons_succ]
  refine wpAnyH_done (by kernel_rfl) ?_ _
  go_wp2
  go_ret
  refine ⟨.slice A6 (B1.length + B2.length) c6, rfl, ?_⟩
  rw [HCB.out ()]
  exact HO6.out.from HBW.out
def GetCY (r : Ce × Int × Int) (w : World) (e : Ending) (w' : World) : Prop := e = .returned (.tuple #[yV r.1, .int .i64 r.2.1, .int .i64 r.2.2]) ∧ Below w.heap.size w w'
theorem ten_cells {W : World} {g : Nat} {c0 c1 c2 c3 c4 c5 c6 c7 c8 c9 : Value} {t : TypeId} (h : W.heap[g]? = some (.cells #[c0, c1, c2, c3, c4, c5, c6, c7, c8, c9] t (0, 0))) : W.cell? ⟨g, 0, none⟩ = some c0 ∧ W.cell? ⟨g, 1, none⟩ = some c1 ∧ W.cell? ⟨g, 2, none⟩ = some c2 ∧ W.cell? ⟨g, 3, none⟩ = some c3 ∧ W.cell? ⟨g, 4, none⟩ = some c4 ∧ W.cell? ⟨g, 5, none⟩ = some c5 ∧ W.cell? ⟨g, 6, none⟩ = some c6 ∧ W.cell? ⟨g, 7, none⟩ = some c7 ∧ W.cell? ⟨g, 8, none⟩ = some c8 ∧ W.cell? ⟨g, 9, none⟩ = some c9 := by
  refine ⟨?_, ?_, ?_, ?_, ?_, ?_, ?_, ?_, ?_, ?_⟩ <;> (unfold World.cell?; simp only [h]; rfl)
theorem readY_len (bs : List Int) (p : Int) : (readY bs p).1.fs.length = 8 := by
  unfold readY
  repeat' split
  all_goals first | rfl | exact ofF_len 8 _
theorem yV_zero : yV zeC = .agg #[.int .i32 0, .bool false, .bool false, .bool false, .bool false, .bool false, .bool false, .bool false, .bool false, .int .u32 0, .int .u32 0] := by kernel_rfl
set_option maxHeartbeats 8000000 in
set_option maxRecDepth 100000 in
theorem r_getcell {w : World} {A : Option Addr} {bs : List Int} {n cap : Nat} (hR : RB w w.heap.size A bs) (hl : bs.length = n) (hn : n ≤ 100000) (hB : Bytes bs) (p : Int) :
    Calls Tryd.prog 33 #[.slice A n cap, .int .i64 p] w (GetCY (getC bs p) w) := by
  obtain ⟨⟨s, m, z⟩, hs⟩ : ∃ r, readY bs p = r := ⟨_, rfl⟩
  obtain ⟨⟨q, m2, z2⟩, hq⟩ : ∃ r, getS bs m = r := ⟨_, rfl⟩
  have hgc : getC bs p = if z ≠ 0 then (zeC, 0, z) else if z2 ≠ 0 then (zeC, 0, z2) else if isP q = true then (⟨q, flagsF s.fs, s.fg, s.bg⟩, m2, 0) else (zeC, 0, 3) := by
    unfold getC; rw [hs]; dsimp only; rw [hq]
  obtain ⟨r, hr⟩ : ∃ r, getC bs p = r := ⟨_, rfl⟩
  rw [hr] at hgc ⊢
  have hsl : s.fs.length = 8 := by
    have := readY_len bs p; rw [hs] at this; exact this
  obtain ⟨fs, sg, sb⟩ := s
  dsimp only at hsl hgc
  obtain ⟨f0, f1, f2, f3, f4, f5, f6, f7, hf⟩ := eight hsl
  have hyq : ∀ x : Int, yV ⟨x, flagsF fs, sg, sb⟩ = .agg (#[.int .i32 x, .bool f0, .bool f1, .bool f2, .bool f3, .bool f4, .bool f5, .bool f6, .bool f7, .int .u32 sg, .int .u32 sb] : Array Value) := fun x => by
    have := ofF_flagsF fs
    rw [hsl] at this
    unfold yV yC styL; dsimp only; rw [this, hf]; rfl
  have HRZ := Lib.hid (fun (h : z ≠ 0) => (congrArg (fun x => (.tuple #[yV x.1, .int .i64 x.2.1, .int .i64 x.2.2] : Value)) (hgc.trans (if_pos h))).trans (show _ = (.tuple #[.agg #[.int .i32 0, .bool false, .bool false, .bool false, .bool false, .bool false, .bool false, .bool false, .bool false, .int .u32 0, .int .u32 0], .int .i64 0, .int .i64 z] : Value) from by dsimp only; rw [yV_zero]))
  have HRZ2 := Lib.hid (fun (h : z = 0) (h2 : z2 ≠ 0) => (congrArg (fun x => (.tuple #[yV x.1, .int .i64 x.2.1, .int .i64 x.2.2] : Value)) ((hgc.trans (if_neg (by simpa using h))).trans (if_pos h2))).trans (show _ = (.tuple #[.agg #[.int .i32 0, .bool false, .bool false, .bool false, .bool false, .bool false, .bool false, .bool false, .bool false, .int .u32 0, .int .u32 0], .int .i64 0, .int .i64 z2] : Value) from by dsimp only; rw [yV_zero]))
  have HRY := Lib.hid (fun (h : z = 0) (h2 : z2 = 0) (h3 : isP q = true) => (congrArg (fun x => (.tuple #[yV x.1, .int .i64 x.2.1, .int .i64 x.2.2] : Value)) (((hgc.trans (if_neg (by simpa using h))).trans (if_neg (by simpa using h2))).trans (if_pos h3))).trans (show _ = (.tuple #[.agg #[.int .i32 q, .bool f0, .bool f1, .bool f2, .bool f3, .bool f4, .bool f5, .bool f6, .bool f7, .int .u32 sg, .int .u32 sb], .int .i64 m2, .int .i64 0] : Value) from by dsimp only; rw [hyq]))
  have HRN := Lib.hid (fun (h : z = 0) (h2 : z2 = 0) (h3 : ¬ isP q = true) => (congrArg (fun x => (.tuple #[yV x.1, .int .i64 x.2.1, .int .i64 x.2.2] : Value)) (((hgc.trans (if_neg (by simpa using h))).trans (if_neg (by simpa using h2))).trans (if_neg h3))).trans (show _ = (.tuple #[.agg #[.int .i32 0, .bool false, .bool false, .bool false, .bool false, .bool false, .bool false, .bool false, .bool false, .int .u32 0, .int .u32 0], .int .i64 0, .int .i64 3] : Value) from by dsimp only; rw [yV_zero]))
  have hsv : styV ⟨fs, sg, sb⟩ = .agg #[.bool f0, .bool f1, .bool f2, .bool f3, .bool f4, .bool f5, .bool f6, .bool f7, .int .u32 sg, .int .u32 sb] := by unfold styV styL; dsimp only; rw [hf]; rfl
  have HRD : Hid (∀ (W : World), Below w.heap.size w W → Calls Tryd.prog 62 #[.slice A n cap, .int .i64 p] W fun e w' => e = .returned (.tuple #[.agg #[.bool f0, .bool f1, .bool f2, .bool f3, .bool f4, .bool f5, .bool f6, .bool f7, .int .u32 sg, .int .u32 sb], .int .i64 m, .int .i64 z]) ∧ Below W.heap.size W w') := Lib.hid (fun W hb => by
    have hz := ry_read (cap := cap) ((hR.below hb).keep' hb.size) hl hn hB p
    rw [hs] at hz
    unfold ReadY at hz
    dsimp only at hz
    rw [hsv] at hz
    exact hz)
  have HGT := Lib.hid (fun (W : World) (hb : Below w.heap.size w W) => hq ▸ rget_in hR hl hn hB hb cap m)
  have HQ0 : z = 0 → z2 = 0 → 0 ≤ q := fun h1 h2 => by
    obtain ⟨k, hk⟩ : ∃ k : Nat, m = k := by
      unfold readY at hs
      by_cases c1 : p < 0 ∨ (bs.length : Int) < p
      · rw [if_pos c1] at hs; simp only [Prod.mk.injEq] at hs; omega
      · obtain ⟨k, rfl⟩ : ∃ k : Nat, p = k := ⟨p.toNat, by omega⟩
        subst h1
        obtain ⟨_, _, r3, _⟩ := read_inv hB (p := k) (s := ⟨fs, sg, sb⟩) (m := m) (by unfold readY; exact hs)
        exact ⟨k + (writeY ⟨fs, sg, sb⟩).length, by rw [r3]; omega⟩
    subst hk
    have := getS_ok hB (p := k) (by rw [hq]; exact h2)
    rw [hq] at this
    exact this.1
  have HB0 := (Below.refl w.heap.size w).alloc (Nat.le_refl _) (.cells #[.int .i32 0, .bool false, .bool false, .bool false, .bool false, .bool false, .bool false, .bool false, .bool false, .int .u32 0, .int .u32 0] 80)
  have HC0 := heap_alloc_new w (.cells #[.int .i32 0, .bool false, .bool false, .bool false, .bool false, .bool false, .bool false, .bool false, .bool false, .int .u32 0, .int .u32 0] 80)
  obtain ⟨vb, hvb⟩ : ∃ b, w.heap.size = b := ⟨_, rfl⟩
  have hvw : w.heap.size ≤ vb := by omega
  have HVW := Lib.hid hvw
  clear hr hgc hR hl hn hB hs hq hvw hsl hf hyq hsv
  go_enter Tryd.func33, Tryd.ntmps33
  go_upto_region 1 with fail
  simp only [hvb] at HC0 ⊢
  generalize (w.alloc (.cells #[.int .i32 0, .bool false, .bool false, .bool false, .bool false, .bool false, .bool false, .bool false, .bool false, .int .u32 0, .int .u32 0] 80)) = U at HB0 HC0 ⊢
  have HB := Lib.hid HB0
  have HC := Lib.hid HC0
  clear HB0 HC0 hvb
  go_wp2_with fail
  refine (HRD.out _ HB.out).mono ?_
  rintro e w1 ⟨rfl, b1⟩
  have HB1 := Lib.hid (HB.out.trans ((b1.trans ((Below.refl w1.heap.size w1).alloc (Nat.le_refl _) (.cells #[.bool f0, .bool f1, .bool f2, .bool f3, .bool f4, .bool f5, .bool f6, .bool f7, .int .u32 sg, .int .u32 sb] 78) |>.mono b1.size)).mono HB.out.size))
  have HC1 := Lib.hid ((((Below.refl w1.heap.size w1).alloc (Nat.le_refl _) (.cells #[.bool f0, .bool f1, .bool f2, .bool f3, .bool f4, .bool f5, .bool f6, .bool f7, .int .u32 sg, .int .u32 sb] 78)).block vb (by have := lt_of_block HC.out; have := b1.size; omega)).trans ((b1.block _ (lt_of_block HC.out)).trans HC.out))
  have HS1 := Lib.hid (heap_alloc_new w1 (.cells #[.bool f0, .bool f1, .bool f2, .bool f3, .bool f4, .bool f5, .bool f6, .bool f7, .int .u32 sg, .int .u32 sb] 78))
  obtain ⟨sb0, hsb0⟩ : ∃ b, w1.heap.size = b := ⟨_, rfl⟩
  clear b1 HRD HB HC
  by_cases hz : z = 0
  · subst hz
    have HQ1 := Lib.hid (HQ0 rfl)
    clear HQ0
    go_upto_region 2 with fail
    simp only [hsb0] at HS1 ⊢
    generalize (w1.alloc (.cells #[.bool f0, .bool f1, .bool f2, .bool f3, .bool f4, .bool f5, .bool f6, .bool f7, .int .u32 sg, .int .u32 sb] 78)) = V at HB1 HC1 HS1 ⊢
    clear hsb0
    go_wp2_with fail
    refine (HGT.out _ HB1.out).mono ?_
    rintro e wx ⟨rfl, rfl⟩
    clear HGT
    by_cases hz2 : z2 = 0
    · subst hz2
      have hq0 := HQ1.out rfl
      clear HQ1
      by_cases hqb : q ≤ 1114111
      · have d1 : decide (1114111 < q) = false := by simpa using hqb
        have d2 : decide (q > 1114111) = false := d1
        have u1 : IntKind.i32.wrap q = q := IntWalk.i32_in _ (by omega)
        obtain ⟨a, ha⟩ : ∃ a, isP q = a := ⟨_, rfl⟩
        have HIS := Lib.hid (fun W => ha ▸ ris_any q W)
        have HAA := Lib.hid ha
        clear ha hqb hq0
        go_wp2_with fail
        refine (HIS.out _).mono ?_
        rintro e wx ⟨rfl, rfl⟩
        cases a with
        | false =>
          have HRR := Lib.hid (HRN.out (by first | trivial | rfl) (by first | trivial | rfl) (by rw [HAA.out]; decide))
          go_wp2_with (refine wpList_store_row rfl 80 (.tmp 4) (.tmp 42) rfl vb #[.int .i32 0, .bool false, .bool false, .bool false, .bool false, .bool false, .bool false, .bool false, .bool false, .int .u32 0, .int .u32 0] rfl rfl 80 _ HC1.out info_yc rfl (by simp [Value.oneCell']) ?_)
          exact bodyPost_ret (results_cell_two Tryd.results33 _ _ vb 80 #[.int .i32 0, .bool false, .bool false, .bool false, .bool false, .bool false, .bool false, .bool false, .bool false, .int .u32 0, .int .u32 0] (0, 0) _ (.int .i64 0) (.int .i64 3) rfl rfl rfl (setRow_heap _ _ _ #[.int .i32 0, .bool false, .bool false, .bool false, .bool false, .bool false, .bool false, .bool false, .bool false, .int .u32 0, .int .u32 0] _ _ HC1.out) Tryd.underlying80 rfl info_yc) rfl ⟨by rw [HRR.out], below_setRow HB1.out HVW.out #[.int .i32 0, .bool false, .bool false, .bool false, .bool false, .bool false, .bool false, .bool false, .bool false, .int .u32 0, .int .u32 0]⟩
        | true =>
          have HRR := Lib.hid (HRY.out (by first | trivial | rfl) (by first | trivial | rfl) HAA.out)
          obtain ⟨s0, s1, s2, s3, s4, s5, s6, s7, s8, s9⟩ := ten_cells HS1.out
          go_wp2_with (refine wpList_store_row rfl 80 (.tmp 4) (.tmp 46) rfl vb #[.int .i32 q, .bool f0, .bool f1, .bool f2, .bool f3, .bool f4, .bool f5, .bool f6, .bool f7, .int .u32 sg, .int .u32 sb] rfl rfl 80 _ HC1.out info_yc rfl (by simp [Value.oneCell']) ?_)
          exact bodyPost_ret (results_cell_two Tryd.results33 _ _ vb 80 #[.int .i32 q, .bool f0, .bool f1, .bool f2, .bool f3, .bool f4, .bool f5, .bool f6, .bool f7, .int .u32 sg, .int .u32 sb] (0, 0) _ (.int .i64 m2) (.int .i64 0) rfl rfl rfl (setRow_heap _ _ _ #[.int .i32 q, .bool f0, .bool f1, .bool f2, .bool f3, .bool f4, .bool f5, .bool f6, .bool f7, .int .u32 sg, .int .u32 sb] _ _ HC1.out) Tryd.underlying80 rfl info_yc) rfl ⟨by rw [HRR.out], below_setRow HB1.out HVW.out #[.int .i32 q, .bool f0, .bool f1, .bool f2, .bool f3, .bool f4, .bool f5, .bool f6, .bool f7, .int .u32 sg, .int .u32 sb]⟩
      · have d1 : decide (1114111 < q) = true := by simp; omega
        have d2 : decide (q > 1114111) = true := d1
        have HRR := Lib.hid (HRN.out (by first | trivial | rfl) (by first | trivial | rfl) (by intro h; have := isP_range h; omega))
        clear hqb hq0
        go_wp2_with (refine wpList_store_row rfl 80 (.tmp 4) (.tmp 42) rfl vb #[.int .i32 0, .bool false, .bool false, .bool false, .bool false, .bool false, .bool false, .bool false, .bool false, .int .u32 0, .int .u32 0] rfl rfl 80 _ HC1.out info_yc rfl (by simp [Value.oneCell']) ?_)
        exact bodyPost_ret (results_cell_two Tryd.results33 _ _ vb 80 #[.int .i32 0, .bool false, .bool false, .bool false, .bool false, .bool false, .bool false, .bool false, .bool false, .int .u32 0, .int .u32 0] (0, 0) _ (.int .i64 0) (.int .i64 3) rfl rfl rfl (setRow_heap _ _ _ #[.int .i32 0, .bool false, .bool false, .bool false, .bool false, .bool false, .bool false, .bool false, .bool false, .int .u32 0, .int .u32 0] _ _ HC1.out) Tryd.underlying80 rfl info_yc) rfl ⟨by rw [HRR.out], below_setRow HB1.out HVW.out #[.int .i32 0, .bool false, .bool false, .bool false, .bool false, .bool false, .bool false, .bool false, .bool false, .int .u32 0, .int .u32 0]⟩
    · have HRR := Lib.hid (HRZ2.out (by first | trivial | rfl) hz2)
      have z : (z2 != 0) = true := by simpa using hz2
      clear hz2 HQ1
      go_wp2_with (refine wpList_store_row rfl 80 (.tmp 4) (.tmp 32) rfl vb #[.int .i32 0, .bool false, .bool false, .bool false, .bool false, .bool false, .bool false, .bool false, .bool false, .int .u32 0, .int .u32 0] rfl rfl 80 _ HC1.out info_yc rfl (by simp [Value.oneCell']) ?_)
      exact bodyPost_ret (results_cell_two Tryd.results33 _ _ vb 80 #[.int .i32 0, .bool false, .bool false, .bool false, .bool false, .bool false, .bool false, .bool false, .bool false, .int .u32 0, .int .u32 0] (0, 0) _ (.int .i64 0) (.int .i64 z2) rfl rfl rfl (setRow_heap _ _ _ #[.int .i32 0, .bool false, .bool false, .bool false, .bool false, .bool false, .bool false, .bool false, .bool false, .int .u32 0, .int .u32 0] _ _ HC1.out) Tryd.underlying80 rfl info_yc) rfl ⟨by rw [HRR.out], below_setRow HB1.out HVW.out #[.int .i32 0, .bool false, .bool false, .bool false, .bool false, .bool false, .bool false, .bool false, .bool false, .int .u32 0, .int .u32 0]⟩
  · have HRR := Lib.hid (HRZ.out hz)
    have hzz : (z != 0) = true := by simpa using hz
    clear hz HQ0 HGT
    go_upto_region 2 with fail
    simp only [hsb0] at HS1 ⊢
    generalize (w1.alloc (.cells #[.bool f0, .bool f1, .bool f2, .bool f3, .bool f4, .bool f5, .bool f6, .bool f7, .int .u32 sg, .int .u32 sb] 78)) = V at HB1 HC1 HS1 ⊢
    clear hsb0
    go_wp2_with (refine wpList_store_row rfl 80 (.tmp 4) (.tmp 21) rfl vb #[.int .i32 0, .bool false, .bool false, .bool false, .bool false, .bool false, .bool false, .bool false, .bool false, .int .u32 0, .int .u32 0] rfl rfl 80 _ HC1.out info_yc rfl (by simp [Value.oneCell']) ?_)
    exact bodyPost_ret (results_cell_two Tryd.results33 _ _ vb 80 #[.int .i32 0, .bool false, .bool false, .bool false, .bool false, .bool false, .bool false, .bool false, .bool false, .int .u32 0, .int .u32 0] (0, 0) _ (.int .i64 0) (.int .i64 z) rfl rfl rfl (setRow_heap _ _ _ #[.int .i32 0, .bool false, .bool false, .bool false, .bool false, .bool false, .bool false, .bool false, .bool false, .int .u32 0, .int .u32 0] _ _ HC1.out) Tryd.underlying80 rfl info_yc) rfl ⟨by rw [HRR.out], below_setRow HB1.out HVW.out #[.int .i32 0, .bool false, .bool false, .bool false, .bool false, .bool false, .bool false, .bool false, .bool false, .int .u32 0, .int .u32 0]⟩
end Go.Proofs.YtjihcpnaebghnaaDoor
