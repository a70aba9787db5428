/-
  Proved here: of the document's styles: Write.
-/
import Derived.Test.YtjihcpnaebghnaaDoorYg
import Derived.Test.YtjihcpnaebghnaaDoorWP
set_option linter.unusedSimpArgs false
set_option linter.unusedVariables false
namespace Go.Proofs.YtjihcpnaebghnaaDoor
open Go.RowKit
set_option maxRecDepth 100000 in
theorem Own8.apps {w : World} {v u : Value} {xs ys : List Int} {W W2 : World} (h : Own8 w v xs W) (hu : ∃ A c, u = .slice A ys.length c ∧ (A = none → c = 0) ∧ RI .u8 W2 A ys) (hb : Below W.heap.size W W2) (hn : xs.length + ys.length ≤ 100000) :
    ∃ A c w', (Builtin.append_ #[25, 25] 25 #[v, u]).run Tryd.prog W2 = .ok (.slice A (xs.length + ys.length) c) w' ∧ Own8 w (.slice A (xs.length + ys.length) c) (xs ++ ys) w' := by
  obtain ⟨A0, c0, rfl, hA, hR⟩ := hu
  have h1 := h.to hb
  obtain ⟨v', w', r, o, g⟩ := app_u8 (ys := ys) rfl c0 hR hA h1.own (by omega) h1.below.size
  obtain ⟨A, c, rfl, _⟩ := own_slice o
  exact ⟨A, c, w', r, own_cast o (by simp) rfl, h1.below.grown g h1.below.size (ownBlock_le h.own)⟩
set_option maxRecDepth 100000 in
theorem Own8.rit {w : World} {v : Value} {xs : List Int} {W : World} (h : Own8 w v xs W) : ∃ A c, v = .slice A xs.length c ∧ (A = none → c = 0) ∧ RI .u8 W A xs := by
  obtain ⟨A, c, rfl, _, _, hz⟩ := own_slice h.own
  refine ⟨A, c, rfl, hz, fun hp => ?_⟩
  obtain ⟨g, rfl, _, hlt, hc⟩ := own_cells h.own rfl hp
  exact ⟨g, 0, rfl, hlt, fun i hi => by rw [Nat.zero_add]; exact hc i hi⟩
set_option maxRecDepth 100000 in
theorem Own8.lit (w : World) (ys : List Int) (n : Nat) (hn : ys.length = n) (hm : n ≤ 1000) : Own8 w (.slice (some ⟨w.heap.size, 0, none⟩) n n) ys (w.alloc (.cells (NV .u8 ys).toArray 5)) := by
  subst hn
  refine ⟨?_, (Below.refl _ _).alloc (Nat.le_refl _) _⟩
  have h := World.ownsRow_lit (e := 5) (size := 1) (base := w.heap.size) w (NV .u8 ys).toArray ys.length (Nat.le_refl _) (by unfold maxLen; omega) (by simp)
  simpa using h
set_option maxRecDepth 100000 in
theorem Own8.from {w w0 : World} {v : Value} {xs : List Int} {W : World} (h : Own8 w v xs W) (hb : Below w0.heap.size w0 w) : Own8 w0 v xs W :=
  ⟨own_mono h.own hb.size, hb.trans (h.below.mono hb.size)⟩
set_option maxRecDepth 100000 in
theorem rput8 (v : Int) (w : World) (h0 : 0 ≤ v) (h1 : v < 4611686018427387904) : Calls Tryd.prog 43 #[.int .u64 v] w fun e w' => ∃ u, e = .returned u ∧ Own8 w u (numB v) w' := by
  refine (rput_fits v w h0 h1).mono ?_
  rintro e w' ⟨u, rfl, ho, hb⟩
  exact ⟨u, rfl, ho, hb⟩
/-- A style's bytes. -/
def writeY (s : Sty) : List Int := [flagsF s.fs] ++ numB s.fg ++ numB s.bg
set_option maxRecDepth 100000 in
set_option maxHeartbeats 1000000 in
theorem ry_write (s : Sty) (w : World) (hs : Good s) : Calls Tryd.prog 87 #[styV s] w fun e w' => ∃ v, e = .returned v ∧ Own8 w v (writeY s) w' := by
  have HFL := Lib.hid (fun W => ry_flags s W hs)
  have hl := hs.len
  have hfg := hs.fg
  have hbg := hs.bg
  obtain ⟨fs, fg, bg⟩ := s
  obtain ⟨f0, f1, f2, f3, f4, f5, f6, f7, rfl⟩ := eight hl
  have HROW : Hid ((w.alloc (.cells #[.bool f0, .bool f1, .bool f2, .bool f3, .bool f4, .bool f5, .bool f6, .bool f7, .int .u32 fg, .int .u32 bg] 78)).heap[w.heap.size]? = some (.cells #[.bool f0, .bool f1, .bool f2, .bool f3, .bool f4, .bool f5, .bool f6, .bool f7, .int .u32 fg, .int .u32 bg] 78 (0, 0))) := Lib.hid (heap_alloc_new w _)
  have HB0 : Hid (Below w.heap.size w (w.alloc (.cells #[.bool f0, .bool f1, .bool f2, .bool f3, .bool f4, .bool f5, .bool f6, .bool f7, .int .u32 fg, .int .u32 bg] 78))) := Lib.hid ((Below.refl _ _).alloc (Nat.le_refl _) _)
  have HLT : Hid (w.heap.size < (w.alloc (.cells #[.bool f0, .bool f1, .bool f2, .bool f3, .bool f4, .bool f5, .bool f6, .bool f7, .int .u32 fg, .int .u32 bg] 78)).heap.size) := Lib.hid (by simp)
  show Calls Tryd.prog 87 #[.agg #[.bool f0, .bool f1, .bool f2, .bool f3, .bool f4, .bool f5, .bool f6, .bool f7, .int .u32 fg, .int .u32 bg]] w _
  simp only [styV, styL, List.map_cons, List.map_nil, List.cons_append, List.nil_append] at HFL
  obtain ⟨fl, hfl⟩ : ∃ fl, flagsF [f0, f1, f2, f3, f4, f5, f6, f7] = fl := ⟨_, rfl⟩
  have HW : Hid (writeY ⟨[f0, f1, f2, f3, f4, f5, f6, f7], fg, bg⟩ = [fl] ++ numB fg ++ numB bg) := Lib.hid (by unfold writeY; rw [hfl])
  simp only [hfl] at HFL
  have HP1 := Lib.hid (fun W : World => rput8 fg W hfg.1 (by have := hfg.2; dsimp only at this; omega))
  have HP2 := Lib.hid (fun W : World => rput8 bg W hbg.1 (by have := hbg.2; dsimp only at this; omega))
  have hn1 := (szN_le fg).2
  have hn2 := (szN_le bg).2
  rw [← numB_length] at hn1 hn2
  dsimp only at hfg hbg
  obtain ⟨g0, g1⟩ := hfg
  obtain ⟨b0, b1⟩ := hbg
  have u1 : IntKind.u64.wrap fg = fg := IntWalk.u64_in _ (by omega)
  have u2 : IntKind.u64.wrap bg = bg := IntWalk.u64_in _ (by omega)
  clear hl hs hfl
  obtain ⟨B1, hB1⟩ : ∃ B1, numB fg = B1 := ⟨_, rfl⟩
  obtain ⟨B2, hB2⟩ : ∃ B2, numB bg = B2 := ⟨_, rfl⟩
  rw [hB1] at hn1
  rw [hB2] at hn2
  simp only [hB1] at HP1 HW
  simp only [hB2] at HP2 HW
  clear hB1 hB2
  go_enter Tryd.func87, Tryd.ntmps87
  go_wp2_with fail
  refine (HFL.out _).mono ?_
  generalize (w.alloc (.cells #[.bool f0, .bool f1, .bool f2, .bool f3, .bool f4, .bool f5, .bool f6, .bool f7, .int .u32 fg, .int .u32 bg] 78)) = U at HROW HB0 HLT ⊢
  rintro e w1 ⟨rfl, bb⟩
  have hrow : ∀ W : World, Below U.heap.size U W → W.cell? ⟨w.heap.size, 8, none⟩ = some (.int .u32 fg) ∧ W.cell? ⟨w.heap.size, 9, none⟩ = some (.int .u32 bg) := fun W hb => by
    have h1 := (hb.block w.heap.size HLT.out).trans HROW.out
    constructor
    · unfold World.cell?; simp only [h1]; rfl
    · unfold World.cell?; simp only [h1]; rfl
  have ho0 := (Own8.lit w1 [fl] 1 rfl (by omega)).from bb
  have c8 : (w1.alloc (.cells #[.int .u8 fl] 5)).cell? ⟨w.heap.size, 8, none⟩ = some (.int .u32 fg) := (hrow _ ho0.below).1
  have HO := Lib.hid ho0
  have HRW := Lib.hid hrow
  clear bb ho0 hrow
  go_wp2_with fail
  refine (HP1.out _).mono ?_
  rintro e w5 ⟨v5, rfl, o5⟩
  obtain ⟨A6, c6, w6, hrun6, o6⟩ := HO.out.apps o5.rit o5.below (by simp; omega)
  have c9 := (HRW.out w6 o6.below).2
  have HRUN6 := Lib.hid hrun6
  have HO6 := Lib.hid o6
  clear o5 hrun6 o6 HO c8
  go_wp2_with (at_builtin; refine wpList_app rfl (.tmp 7) (.tmp 11) _ rfl _ _ rfl rfl HRUN6.out ?_)
  refine (HP2.out _).mono ?_
  rintro e w7 ⟨v7, rfl, o7⟩
  obtain ⟨A8, c8, w8, hrun8, o8⟩ := HO6.out.apps o7.rit o7.below (by simp; omega)
  have HRUN8 := Lib.hid hrun8
  have HO8 := Lib.hid (o8.from HB0.out)
  clear o7 hrun8 o8 HO6 c9 HRUN6
  go_wp2_with (at_builtin; refine wpList_app rfl (.tmp 13) (.tmp 17) _ rfl _ _ rfl rfl HRUN8.out ?_)
  go_ret
  refine ⟨_, rfl, ?_⟩
  rw [HW.out]
  have h8 := HO8.out
  exact ⟨own_cast h8.own (by simp) rfl, h8.below⟩
end Go.Proofs.YtjihcpnaebghnaaDoor
