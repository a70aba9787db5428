/-
  Proved here: a grid's row is told; what is nil, or no call made, says so; layer 17's fixed calls.
-/
import Derived.Test.YtahmnipcdkcpiaaGg
set_option linter.unusedSimpArgs false
set_option linter.unusedVariables false
namespace Go.Proofs.Ytahmnipcdkcpiaa
open Go.RowKit
theorem NoneV.below {v : Value} {w w' : World} (h : NoneV v w) (hb : Below w.heap.size w w') : NoneV v w' := by
  rcases h with h | ⟨g, h1, h2⟩
  · exact .inl h
  · exact .inr ⟨g, h1, (hb.cell (p := ⟨g, 2, none⟩) (World.block_lt_of_cell? w _ h2)).trans h2⟩
theorem NoneV.nil (w : World) : NoneV (.pointer none) w := .inl rfl
section
variable {v : Value} {w : World}
theorem rows_none (h : NoneV v w)  : Calls Try.prog 24 #[v] w fun e w' => e = .returned (.int .i64 0) ∧ w = w' := by
  have HN := Lib.hid (none_yes h)
  clear h
  go_enter Try.func24, Try.ntmps24
  go_wp2_with fail
  refine HN.out.mono ?_
  rintro e wx ⟨rfl, rfl⟩
  go_wp2
  go_ret
  exact ⟨rfl, rfl⟩
theorem cols_none (h : NoneV v w)  : Calls Try.prog 25 #[v] w fun e w' => e = .returned (.int .i64 0) ∧ w = w' := by
  have HN := Lib.hid (none_yes h)
  clear h
  go_enter Try.func25, Try.ntmps25
  go_wp2_with fail
  refine HN.out.mono ?_
  rintro e wx ⟨rfl, rfl⟩
  go_wp2
  go_ret
  exact ⟨rfl, rfl⟩
theorem rowFault_none (h : NoneV v w) (r : Int) : Calls Try.prog 41 #[v, .int .i64 r] w fun e w' => e = .returned (.int .i64 6) ∧ w = w' := by
  have HN := Lib.hid (none_yes h)
  clear h
  go_enter Try.func41, Try.ntmps41
  go_wp2_with fail
  refine HN.out.mono ?_
  rintro e wx ⟨rfl, rfl⟩
  go_wp2
  go_ret
  exact ⟨rfl, rfl⟩
theorem cellFault_none (h : NoneV v w) (r c : Int) : Calls Try.prog 38 #[v, .int .i64 r, .int .i64 c] w fun e w' => e = .returned (.int .i64 6) ∧ w = w' := by
  have HN := Lib.hid (rowFault_none h r)
  clear h
  go_enter Try.func38, Try.ntmps38
  go_wp2_with fail
  refine HN.out.mono ?_
  rintro e wx ⟨rfl, rfl⟩
  go_wp2
  go_ret
  exact ⟨rfl, rfl⟩
theorem between_none (h : NoneV v w) (r c n : Int) : Calls Try.prog 43 #[v, .int .i64 r, .int .i64 c, .int .i64 n] w fun e w' => e = .returned (.tuple #[.slice none 0 0, .int .i64 6]) ∧ w = w' := by
  have HN := Lib.hid (rowFault_none h c)
  clear h
  go_enter Try.func43, Try.ntmps43
  go_wp2_with fail
  refine HN.out.mono ?_
  rintro e wx ⟨rfl, rfl⟩
  go_wp2
  go_ret2
  exact ⟨rfl, rfl⟩
theorem from_none (h : NoneV v w) (r c n : Int) : Calls Try.prog 47 #[v, .int .i64 r, .int .i64 c, .int .i64 n] w fun e w' => e = .returned (.tuple #[.slice none 0 0, .int .i64 6]) ∧ w = w' := by
  have HN := Lib.hid (cellFault_none h r c)
  clear h
  go_enter Try.func47, Try.ntmps47
  go_wp2_with fail
  refine HN.out.mono ?_
  rintro e wx ⟨rfl, rfl⟩
  go_wp2
  go_ret2
  exact ⟨rfl, rfl⟩
theorem line_none (h : NoneV v w) (r : Int) : Calls Try.prog 17 #[v, .int .i64 r] w fun e w' => e = .returned (.tuple #[.slice none 0 0, .int .i64 6]) ∧ w = w' := by
  have HN := Lib.hid (rowFault_none h r)
  clear h
  go_enter Try.func17, Try.ntmps17
  go_wp2_with fail
  refine HN.out.mono ?_
  rintro e wx ⟨rfl, rfl⟩
  go_wp2
  go_ret2
  exact ⟨rfl, rfl⟩
theorem copy_none (h : NoneV v w)  : Calls Try.prog 26 #[v] w fun e w' => e = .returned (.pointer none) ∧ w = w' := by
  have HN := Lib.hid (none_yes h)
  clear h
  go_enter Try.func26, Try.ntmps26
  go_wp2_with fail
  refine HN.out.mono ?_
  rintro e wx ⟨rfl, rfl⟩
  go_wp2
  go_ret
  exact ⟨rfl, rfl⟩
theorem same_none (h : NoneV v w) (u : Value) : Calls Try.prog 27 #[v, u] w fun e w' => e = .returned (.bool false) ∧ w = w' := by
  have HN := Lib.hid (none_yes h)
  clear h
  go_enter Try.func27, Try.ntmps27
  go_wp2_with fail
  refine HN.out.mono ?_
  rintro e wx ⟨rfl, rfl⟩
  go_wp2
  go_ret
  exact ⟨rfl, rfl⟩
theorem same_no {g b cap R C : Nat} {L : List Ce} (h : NoneV v w) (hg : Gr g b cap R C L w) : Calls Try.prog 27 #[.pointer (some ⟨g, 0, none⟩), v] w fun e w' => e = .returned (.bool false) ∧ w = w' := by
  have HN := Lib.hid (none_yes h)
  have HG := Lib.hid (none_no hg)
  clear h hg
  go_enter Try.func27, Try.ntmps27
  go_wp2_with fail
  refine HG.out.mono ?_
  rintro e wx ⟨rfl, rfl⟩
  go_wp2_with fail
  refine HN.out.mono ?_
  rintro e wx ⟨rfl, rfl⟩
  go_wp2
  go_ret
  exact ⟨rfl, rfl⟩
set_option maxRecDepth 100000 in
theorem at_none (h : NoneV v w) (r c : Int) : Calls Try.prog 11 #[v, .int .i64 r, .int .i64 c] w fun e w' => e = .returned (.tuple #[cV zeC, .int .i64 6]) ∧ Below w.heap.size w w' := by
  have HN := Lib.hid (cellFault_none (h.below ((Below.refl _ _).alloc (Nat.le_refl _) (.cells #[.int .i32 0, .int .u8 0, .int .u32 0, .int .u32 0] 39))) r c)
  clear h
  go_enter Try.func11, Try.ntmps11
  go_wp2_with fail
  refine HN.out.mono ?_
  rintro e wx ⟨rfl, rfl⟩
  go_wp2
  exact bodyPost_ret (results_cell_tmp Try.results11 _ _ w.heap.size 39 #[.int .i32 0, .int .u8 0, .int .u32 0, .int .u32 0] (0, 0) _ (.int .i64 6) rfl rfl (heap_alloc_new w _) Try.underlying39 rfl info_cell) rfl ⟨rfl, (Below.refl _ _).alloc (Nat.le_refl _) _⟩
theorem put_none (h : NoneV v w) (r d : Int) (c : Ce) : Calls Try.prog 18 #[v, .int .i64 r, .int .i64 d, cV c] w fun e w' => e = .returned (.int .i64 6) ∧ Below w.heap.size w w' := by
  obtain ⟨p, f, gg, bb⟩ := c
  have hb0 : Below w.heap.size w (w.alloc (.cells #[.int .i32 p, .int .u8 f, .int .u32 gg, .int .u32 bb] 39)) := (Below.refl _ _).alloc (Nat.le_refl _) _
  have HN := Lib.hid (cellFault_none (h.below hb0) r d)
  have HB0 := Lib.hid hb0
  unfold cV
  clear h hb0
  go_enter Try.func18, Try.ntmps18
  go_wp2_with fail
  refine HN.out.mono ?_
  rintro e wx ⟨rfl, rfl⟩
  go_wp2
  go_ret
  exact ⟨rfl, HB0.out⟩
theorem fill_none (h : NoneV v w) (r d n : Int) (c : Ce) : Calls Try.prog 19 #[v, .int .i64 r, .int .i64 d, .int .i64 n, cV c] w fun e w' => e = .returned (.int .i64 6) ∧ Below w.heap.size w w' := by
  obtain ⟨p, f, gg, bb⟩ := c
  have hb0 : Below w.heap.size w (w.alloc (.cells #[.int .i32 p, .int .u8 f, .int .u32 gg, .int .u32 bb] 39)) := (Below.refl _ _).alloc (Nat.le_refl _) _
  have HN := Lib.hid (rowFault_none (h.below hb0) r)
  have HB0 := Lib.hid hb0
  unfold cV
  clear h hb0
  go_enter Try.func19, Try.ntmps19
  go_wp2_with fail
  refine HN.out.mono ?_
  rintro e wx ⟨rfl, rfl⟩
  go_wp2
  go_ret
  exact ⟨rfl, HB0.out⟩
theorem up_none (h : NoneV v w) (r d n : Int) (c : Ce) : Calls Try.prog 20 #[v, .int .i64 r, .int .i64 d, .int .i64 n, cV c] w fun e w' => e = .returned (.int .i64 6) ∧ Below w.heap.size w w' := by
  obtain ⟨p, f, gg, bb⟩ := c
  have hb0 : Below w.heap.size w (w.alloc (.cells #[.int .i32 p, .int .u8 f, .int .u32 gg, .int .u32 bb] 39)) := (Below.refl _ _).alloc (Nat.le_refl _) _
  have HN := Lib.hid (between_none (h.below hb0) r d n)
  have HB0 := Lib.hid hb0
  unfold cV
  clear h hb0
  go_enter Try.func20, Try.ntmps20
  go_wp2_with fail
  refine HN.out.mono ?_
  rintro e wx ⟨rfl, rfl⟩
  go_wp2
  go_ret
  exact ⟨rfl, HB0.out⟩
theorem down_none (h : NoneV v w) (r d n : Int) (c : Ce) : Calls Try.prog 21 #[v, .int .i64 r, .int .i64 d, .int .i64 n, cV c] w fun e w' => e = .returned (.int .i64 6) ∧ Below w.heap.size w w' := by
  obtain ⟨p, f, gg, bb⟩ := c
  have hb0 : Below w.heap.size w (w.alloc (.cells #[.int .i32 p, .int .u8 f, .int .u32 gg, .int .u32 bb] 39)) := (Below.refl _ _).alloc (Nat.le_refl _) _
  have HN := Lib.hid (between_none (h.below hb0) r d n)
  have HB0 := Lib.hid hb0
  unfold cV
  clear h hb0
  go_enter Try.func21, Try.ntmps21
  go_wp2_with fail
  refine HN.out.mono ?_
  rintro e wx ⟨rfl, rfl⟩
  go_wp2
  go_ret
  exact ⟨rfl, HB0.out⟩
theorem ins_none (h : NoneV v w) (r d n : Int) (c : Ce) : Calls Try.prog 22 #[v, .int .i64 r, .int .i64 d, .int .i64 n, cV c] w fun e w' => e = .returned (.int .i64 6) ∧ Below w.heap.size w w' := by
  obtain ⟨p, f, gg, bb⟩ := c
  have hb0 : Below w.heap.size w (w.alloc (.cells #[.int .i32 p, .int .u8 f, .int .u32 gg, .int .u32 bb] 39)) := (Below.refl _ _).alloc (Nat.le_refl _) _
  have HN := Lib.hid (from_none (h.below hb0) r d n)
  have HB0 := Lib.hid hb0
  unfold cV
  clear h hb0
  go_enter Try.func22, Try.ntmps22
  go_wp2_with fail
  refine HN.out.mono ?_
  rintro e wx ⟨rfl, rfl⟩
  go_wp2
  go_ret
  exact ⟨rfl, HB0.out⟩
theorem resize_none (h : NoneV v w) (r d : Int) (c : Ce) : Calls Try.prog 23 #[v, .int .i64 r, .int .i64 d, cV c] w fun e w' => e = .returned (.int .i64 6) ∧ Below w.heap.size w w' := by
  obtain ⟨p, f, gg, bb⟩ := c
  have hb0 : Below w.heap.size w (w.alloc (.cells #[.int .i32 p, .int .u8 f, .int .u32 gg, .int .u32 bb] 39)) := (Below.refl _ _).alloc (Nat.le_refl _) _
  have HN := Lib.hid (none_yes (h.below hb0))
  have HB0 := Lib.hid hb0
  unfold cV
  clear h hb0
  go_enter Try.func23, Try.ntmps23
  go_wp2_with fail
  refine HN.out.mono ?_
  rintro e wx ⟨rfl, rfl⟩
  go_wp2
  go_ret
  exact ⟨rfl, HB0.out⟩
end
/-- A row is told. -/
theorem lay_whole {n : Nat} (z : Ce) {cs : List Ce} (h : cs.length = n) : lay (rep n z) 0 cs = cs := by
  unfold lay rep
  simp [h]
set_option maxRecDepth 100000 in
set_option maxHeartbeats 1000000 in
theorem line_no {g b cap R C : Nat} {L : List Ce} {w : World} (h : Gr g b cap R C L w) {row : Int} (hq : hasR R row = false) : Calls Try.prog 17 #[.pointer (some ⟨g, 0, none⟩), .int .i64 row] w fun e w' => e = .returned (.tuple #[.slice none 0 0, .int .i64 1]) ∧ w = w' := by
  have HF := Lib.hid (rowFault_gr h row)
  rw [hq, show flt false = 1 from rfl] at HF
  clear h hq
  go_enter Try.func17, Try.ntmps17
  go_wp2_with fail
  refine HF.out.mono ?_
  rintro e wx ⟨rfl, rfl⟩
  go_wp2
  go_ret2
  exact ⟨rfl, rfl⟩
set_option maxRecDepth 100000 in
set_option maxHeartbeats 1000000 in
theorem line_yes {g b cap R C : Nat} {L : List Ce} {w : World} (h : Gr g b cap R C L w) {i : Nat} (hi : i < R) : Calls Try.prog 17 #[.pointer (some ⟨g, 0, none⟩), .int .i64 i] w fun e w' => ∃ b2, e = .returned (.tuple #[.slice (some ⟨b2, 0, none⟩) C C, .int .i64 0]) ∧ w.heap.size ≤ b2 ∧ RowAt w' b2 C ((L.drop (i * C)).take C) ∧ Below w.heap.size w w' := by
  have HF := Lib.hid (rowFault_gr h i)
  rw [show hasR R (i : Int) = true by unfold hasR; simp; omega, show flt true = 0 from rfl] at HF
  obtain ⟨k0, k1, k2⟩ := h.cells
  have hp := h.pos
  obtain ⟨o, ho⟩ : ∃ o, i * C = o := ⟨_, rfl⟩
  have hrow := (rows_in (C := C) (t := i) (d := i) (Nat.le_refl _) hi)
  rw [show i + 1 - i = 1 by omega, Nat.one_mul, ho] at hrow
  obtain ⟨W1, hmk, hR1, hB1⟩ := run_make4 w C (by omega)
  have hl := sub_len (L := L) (s := o) (len := C) (by rw [h.len]; omega)
  have h1 := h.below hB1
  obtain ⟨W2, hcp, hR2, hg2⟩ := run_copy4 (W := W1.drew) (hR1.below (Below.refl _ _).drew) 3 (o := 0) (m := C) (dc := C) (k := C) (sc := cap - o) (a := ⟨b, o * 4, none⟩) (cs := (L.drop o).take C) (by rw [hl]; simp) (by rw [rep_len, hl]; omega) ((h1.row.below (Below.refl _ _).drew).sub)
  rw [lay_whole zeC hl] at hR2
  rw [Nat.zero_mul, hl, show goInt ((C : Nat) : Int) = .int .i64 (C : Int) from rfl] at hcp
  obtain ⟨b2, hb2⟩ : ∃ b, w.heap.size = b := ⟨_, rfl⟩
  have HBL := Lib.hid (fun (_ : Unit) => hb2)
  have HZ := Lib.hid (show RowAt W2 w.heap.size C ((L.drop o).take C) ∧ Below w.heap.size w W2 from ⟨hR2, (hB1.drew).grown hg2 hB1.size (fun k e => by injection e with e; omega)⟩)
  rw [hb2] at hcp hmk
  have HCP := Lib.hid hcp
  have HLN := Lib.hid (line_gr h1 hi ho)
  rw [ho]
  clear h hp ho hrow hR1 hB1 hl h1 hcp hR2 hg2 hb2 hi
  go_enter Try.func17, Try.ntmps17
  go_wp2_with fail
  refine HF.out.mono ?_
  rintro e wx ⟨rfl, rfl⟩
  go_wp2_with fail
  refine HLN.out.mono ?_
  rintro e wx ⟨rfl, rfl⟩
  go_wp2_with (refine wpList_copy rfl (.tmp 19) (.tmp 22) _ _ rfl _ _ rfl rfl HCP.out ?_)
  go_ret2
  exact ⟨b2, rfl, by have := HBL.out (); omega, by have h := HZ.out.1; rw [HBL.out ()] at h; exact h, HZ.out.2⟩
theorem alive_list : ceAt (upL 2 3 ((rep 6 blC).set 5 ⟨65, 0, 0, 0⟩) 0 1 1 blC) 2 = ⟨65, 0, 0, 0⟩ ∧ ceAt (upL 2 3 ((rep 6 blC).set 5 ⟨65, 0, 0, 0⟩) 0 1 1 blC) 5 = blC := by decide
theorem at_yes {g b cap R C : Nat} {L : List Ce} {w : World} (h : Gr g b cap R C L w) {i j k : Nat} (hi : i < R) (hj : j < C) (hk : i * C + j = k) {c : Ce} (hc : ceAt L k = c) : Calls Try.prog 11 #[.pointer (some ⟨g, 0, none⟩), .int .i64 i, .int .i64 j] w fun e w' => e = .returned (.tuple #[cV c, .int .i64 0]) ∧ Below w.heap.size w w' := by
  have a := at_gr h i j
  rw [show hasC R C (i : Int) (j : Int) = true by unfold hasC hasR; simp; omega, if_pos rfl, Int.toNat_natCast, Int.toNat_natCast, hk, hc] at a
  exact a
set_option maxRecDepth 100000 in
set_option maxHeartbeats 4000000 in
/-- Layer 17's fixed calls. -/
theorem alive_any (w : World) : Calls Try.prog 9 #[] w fun e w' => e = .returned (.bool true) ∧ Below w.heap.size w w' := by
  go_enter Try.func9, Try.ntmps9
  go_wp2_with fail
  refine (new_any 2 3 _).mono ?_
  rintro e w1 ⟨hn0, hy, hb1⟩
  obtain ⟨g, b, rfl, hg, hbb, hG⟩ := hy 2 3 rfl rfl rfl
  have HG := Lib.hid (show Gr g b 6 2 3 (rep 6 blC) w1 from hG)
  have HB1 := Lib.hid (And.intro hb1 (And.intro hg hbb))
  clear hn0 hy hb1 hg hbb hG
  go_wp2_with fail
  have hp := put_gr HG.out 1 2 ⟨65, 0, 0, 0⟩
  rw [show hasC 2 3 1 2 = true from rfl] at hp
  refine hp.mono ?_
  rintro e w2 ⟨rfl, hG2, hg2⟩
  have HG2 := Lib.hid (show Gr g b 6 2 3 ((rep 6 blC).set 5 ⟨65, 0, 0, 0⟩) w2 from hG2)
  have HB2 := Lib.hid (HB1.out.1.grown hg2 HB1.out.1.size (fun k e => by injection e with e; have := HB1.out.2.2; omega))
  clear hp hG2 hg2 HG
  rw [show flt true = 0 from rfl]
  go_wp2_with fail
  refine (blank_any _).mono ?_
  rintro e w3 ⟨rfl, hb3⟩
  have HG3 := Lib.hid (HG2.out.below hb3)
  have HB3 := Lib.hid (HB2.out.trans (hb3.mono HB2.out.size))
  clear hb3 HG2 HB2
  go_wp2_with fail
  have hu := up_yes HG3.out (t := 0) (d := 1) (n := 1) (by decide) (by decide) blC
  refine hu.mono ?_
  rintro e w4 ⟨rfl, hG4, hg4⟩
  have HB4 := Lib.hid (HB3.out.grown hg4 HB3.out.size (fun k e => by injection e with e; have := HB1.out.2.2; omega))
  obtain ⟨l2, l5⟩ := alive_list
  have HG4 := Lib.hid hG4
  have HL := Lib.hid (And.intro l2 l5)
  clear hu hG4 hg4 l2 l5 HG3 HB3
  generalize upL 2 3 ((rep 6 blC).set 5 ⟨65, 0, 0, 0⟩) 0 1 1 blC = L4 at HG4 HL
  have HA1 := Lib.hid (at_yes HG4.out (i := 0) (j := 2) (k := 2) (by decide) (by decide) rfl HL.out.1)
  go_wp2_with fail
  refine HA1.out.mono ?_
  rintro e w5 ⟨rfl, hb5⟩
  have HB5 := Lib.hid (HB4.out.trans (hb5.mono HB4.out.size))
  have HA2 := Lib.hid (fun o => at_yes (HG4.out.below (hb5.alloc hb5.size o)) (i := 1) (j := 2) (k := 5) (by decide) (by decide) rfl HL.out.2)
  clear hb5 HA1 HB4
  unfold cV
  dsimp only
  go_wp2_with fail
  refine (HA2.out _).mono ?_
  rintro e w6 ⟨rfl, hb6⟩
  have HB6 := Lib.hid hb6
  clear hb6 HA2
  unfold cV blC
  dsimp only
  go_wp2_with fail
  refine (new_any 0 3 _).mono ?_
  rintro e w7 ⟨hn0, _, hb7⟩
  obtain rfl := hn0 rfl
  have b67 := HB6.out.trans ((((Below.refl w6.heap.size w6).alloc (Nat.le_refl _) _).trans (hb7.mono (by simp))).mono HB6.out.size)
  have k5 := (b67.cell (p := ⟨w5.heap.size, 0, none⟩) (by simp)).trans (show (w5.alloc (.cells #[.int .i32 65, .int .u8 0, .int .u32 0, .int .u32 0] 39)).cell? ⟨w5.heap.size, 0, none⟩ = some (.int .i32 65) by simp)
  have k6 := (hb7.cell (p := ⟨w6.heap.size, 0, none⟩) (by simp)).trans (show (w6.alloc (.cells #[.int .i32 32, .int .u8 0, .int .u32 0, .int .u32 0] 39)).cell? ⟨w6.heap.size, 0, none⟩ = some (.int .i32 32) by simp)
  have HZ := Lib.hid (HB5.out.trans ((((Below.refl w5.heap.size w5).alloc (Nat.le_refl _) _).trans (b67.mono (by simp))).mono HB5.out.size))
  clear hn0 hb7 b67 HB6 HB5
  go_wp2
  go_ret
  exact ⟨rfl, HZ.out⟩
end Go.Proofs.Ytahmnipcdkcpiaa
