/-
  Proved here: of the program's styles: Write.
-/
import Derived.Test.YtjihcpnaebghnaaDoorZa
import Derived.Test.YtjihcpnaebghnaaDoorYh
import Derived.Test.YtjihcpnaebghnaaDoorQGet
set_option linter.unusedSimpArgs false
set_option linter.unusedVariables false
namespace Go.Proofs.YtjihcpnaebghnaaDoor
open Go.RowKit
set_option maxRecDepth 100000 in
theorem p_put (v : Int) (w : World) (h0 : 0 ≤ v) (h1 : v < 4294967296) (hT : Tab w) : Calls Tryd.prog 73 #[.int .u64 v] w fun e w' => ∃ u, e = .returned (.tuple #[u, .int .i64 0]) ∧ Own8 w u (numB v) w' :=
  (put_fits v w h0 (by omega) hT).mono fun e w' ⟨u, he, ho, hb⟩ => ⟨u, he, ho, hb⟩
set_option maxRecDepth 100000 in
theorem p_write_no (s : Sty) (w : World) (hs : Good s) (hr : rightS s = false) :
    Calls Tryd.prog 97 #[pV s] w fun e w' => e = .returned (.tuple #[.slice none 0 0, .int .i64 3]) ∧ Below w.heap.size w w' := by
  have HRT := Lib.hid (fun W : World => hr ▸ p_right s W hs)
  obtain ⟨fs, fg, bg⟩ := s
  obtain ⟨f, hf⟩ : ∃ f, flagsF fs = f := ⟨_, rfl⟩
  show Calls Tryd.prog 97 #[.agg #[.int .u8 (flagsF fs), .int .u32 fg, .int .u32 bg]] w _
  have HB0 := Lib.hid ((Below.refl w.heap.size w).alloc (Nat.le_refl _) (.cells #[.int .u8 (flagsF fs), .int .u32 fg, .int .u32 bg] 86))
  dsimp only [pV] at HRT
  rw [hf] at HB0 HRT ⊢
  clear hs hr hf
  go_enter Tryd.func97, Tryd.ntmps97
  go_wp2_with fail
  refine (HRT.out _).mono ?_
  rintro e w1 ⟨rfl, b1⟩
  have HB1 := Lib.hid b1
  clear b1
  go_wp2
  go_ret2
  exact ⟨rfl, HB0.out.trans (HB1.out.mono HB0.out.size)⟩
set_option maxRecDepth 100000 in
set_option maxHeartbeats 1000000 in
theorem p_write (s : Sty) (w : World) (hs : Good s) (hT : Tab w) (hr : rightS s = true) :
    Calls Tryd.prog 97 #[pV s] w fun e w' => ∃ v, e = .returned (.tuple #[v, .int .i64 0]) ∧ Own8 w v (writeY s) w' := by
  have HRT := Lib.hid (fun W : World => hr ▸ p_right s W hs)
  have hfg := hs.fg
  have hbg := hs.bg
  obtain ⟨fs, fg, bg⟩ := s
  dsimp only at hfg hbg
  obtain ⟨f, hf⟩ : ∃ f, flagsF fs = f := ⟨_, rfl⟩
  show Calls Tryd.prog 97 #[.agg #[.int .u8 (flagsF fs), .int .u32 fg, .int .u32 bg]] w _
  have HROW := Lib.hid (heap_alloc_new w (.cells #[.int .u8 (flagsF fs), .int .u32 fg, .int .u32 bg] 86))
  have HB0 := Lib.hid ((Below.refl w.heap.size w).alloc (Nat.le_refl _) (.cells #[.int .u8 (flagsF fs), .int .u32 fg, .int .u32 bg] 86))
  have HLT : Hid (w.heap.size < (w.alloc (.cells #[.int .u8 (flagsF fs), .int .u32 fg, .int .u32 bg] 86)).heap.size) := Lib.hid (by simp)
  have HW : Hid (Unit → writeY ⟨fs, fg, bg⟩ = [f] ++ numB fg ++ numB bg) := Lib.hid (fun _ => by unfold writeY; rw [hf])
  have HTB := Lib.hid hT
  have HTG := Lib.hid hT.big
  dsimp only [pV] at HRT
  rw [hf] at HROW HB0 HLT HRT ⊢
  have hn1 := (szN_le fg).2
  have hn2 := (szN_le bg).2
  rw [← numB_length] at hn1 hn2
  obtain ⟨g0, g1⟩ := hfg
  obtain ⟨b0, b1⟩ := hbg
  have u1 : IntKind.u64.wrap fg = fg := IntWalk.u64_in _ (by omega)
  have u2 : IntKind.u64.wrap bg = bg := IntWalk.u64_in _ (by omega)
  have HP1 := Lib.hid (fun (W : World) hW => p_put fg W g0 g1 hW)
  have HP2 := Lib.hid (fun (W : World) hW => p_put bg W b0 b1 hW)
  obtain ⟨B1, hB1⟩ : ∃ B1, numB fg = B1 := ⟨_, rfl⟩
  obtain ⟨B2, hB2⟩ : ∃ B2, numB bg = B2 := ⟨_, rfl⟩
  rw [hB1] at hn1
  rw [hB2] at hn2
  simp only [hB1] at HP1 HW
  simp only [hB2] at HP2 HW
  clear hs hr hf hT hB1 hB2
  go_enter Tryd.func97, Tryd.ntmps97
  go_wp2_with fail
  refine (HRT.out _).mono ?_
  generalize (w.alloc (.cells #[.int .u8 f, .int .u32 fg, .int .u32 bg] 86)) = U at HROW HB0 HLT ⊢
  rintro e w1 ⟨rfl, bb⟩
  have hrow : ∀ W : World, Below U.heap.size U W → W.heap[w.heap.size]? = some (.cells #[.int .u8 f, .int .u32 fg, .int .u32 bg] 86 (0, 0)) := fun W hb => (hb.block w.heap.size HLT.out).trans HROW.out
  have htab : ∀ W : World, Below U.heap.size U W → Tab W := fun W hb => HTB.out.below (HB0.out.trans (hb.mono HB0.out.size)) HTG.out
  have HRW := Lib.hid hrow
  have HTW := Lib.hid htab
  have c1 : w1.cell? ⟨w.heap.size, 1, none⟩ = some (.int .u32 fg) := by unfold World.cell?; simp only [hrow w1 bb]; rfl
  have HB1 := Lib.hid bb
  clear bb hrow htab
  go_wp2_with fail
  refine (HP1.out _ (HTW.out _ HB1.out)).mono ?_
  rintro e w2 ⟨v2, rfl, o2⟩
  have hb2 : Below U.heap.size U w2 := HB1.out.trans (o2.below.mono HB1.out.size)
  have c2 : w2.cell? ⟨w.heap.size, 2, none⟩ = some (.int .u32 bg) := by unfold World.cell?; simp only [HRW.out w2 hb2]; rfl
  have HB2 := Lib.hid hb2
  have HO2 := Lib.hid (o2.from HB1.out)
  clear hb2 o2 c1
  go_wp2_with fail
  refine (HP2.out _ (HTW.out _ HB2.out)).mono ?_
  rintro e w3 ⟨v3, rfl, o3⟩
  have hb3 : Below U.heap.size U w3 := HB2.out.trans (o3.below.mono HB2.out.size)
  have c0 : w3.cell? ⟨w.heap.size, 0, none⟩ = some (.int .u8 f) := by unfold World.cell?; simp only [HRW.out w3 hb3]; rfl
  have HB3 := Lib.hid hb3
  have o2' := HO2.out.to (o3.below)
  have ho0 := Own8.lit w3 [f] 1 rfl (by omega)
  have hbl : Below w3.heap.size w3 (w3.alloc (.cells (NV .u8 [f]).toArray 5)) := (Below.refl _ _).alloc (Nat.le_refl _) _
  obtain ⟨A6, c6, w6, hrun6, o6⟩ := ho0.apps (ys := B1) (u := v2) (W2 := w3.alloc (.cells (NV .u8 [f]).toArray 5)) (o2'.to hbl).rit (Below.refl _ _) (by simp; omega)
  have o3' := (o3.from HB2.out).to o6.below
  obtain ⟨A8, c8, w8, hrun8, o8⟩ := o6.apps (ys := B2) (u := v3) (W2 := w6) o3'.rit (Below.refl _ _) (by simp; omega)
  have HRUN6 := Lib.hid hrun6
  have HRUN8 := Lib.hid hrun8
  have HO8 := Lib.hid (o8.from (HB0.out.trans (hb3.mono HB0.out.size)))
  clear o2' ho0 hbl o6 o3' hrun6 hrun8 o8 o3 c2 hb3
  go_wp2_with (at_builtin; first | with_reducible refine wpList_app rfl (.tmp 29) (.tmp 30) _ rfl _ _ rfl rfl HRUN6.out ?_ | refine wpList_app rfl (.tmp 32) (.tmp 33) _ rfl _ _ rfl rfl HRUN8.out ?_ | refine wpList_app rfl (.tmp 29) (.tmp 30) _ rfl _ _ rfl rfl HRUN6.out ?_)
  go_ret2
  refine ⟨_, rfl, ?_⟩
  rw [HW.out ()]
  have h8 := HO8.out
  exact ⟨own_cast h8.own (by simp) rfl, h8.below⟩
end Go.Proofs.YtjihcpnaebghnaaDoor
