/-
  Proved here, where the table of constants is as the program lays it: the fixed calls of layer 4's 'alive' come out as they must (a derived key is reckoned by the kernel), and nothing that was there is changed.
-/
import Derived.Test.YtakfcdemoaogfaaDoorMRight
import Derived.Test.YtakfcdemoaogfaaDoorMDerive
namespace Go.Proofs.YtakfcdemoaogfaaDoor
open Go.RowKit
def TXT : List Nat := [116, 101, 120, 116]
theorem right16 : rightS [107] ((markS [107] TXT).take 16) TXT = true := by
  simp [rightS, length_markS, eqS]
theorem right7 : rightS [107] ((markS [107] TXT).take 7) TXT = false := by
  simp [rightS, length_markS]
theorem key_not : (keyS [115] [108] 1 == Z16) = false := by decide +kernel
theorem eqKey (xs ys : List Nat) (hx : xs.length = 16) (hy : ys.length = 16) (w : World) : (Op.equalIn 10000 50 (.agg (V8 xs).toArray) (.agg (V8 ys).toArray)).run Tryd.prog w = .ok (xs == ys) w := by
  obtain ⟨i, hi⟩ := infoB
  exact run_eqV8 w 50 5 16 i Tryd.underlying50 hi cells5 Tryd.underlying5 agg5 xs ys hx hy
theorem mark_kte (w : World) (N : Nat) (hN : w.heap.size = N) (hT : Tab w) : Calls Tryd.prog 18 #[.slice (some ⟨N, 0, none⟩) 1 1, .slice (some ⟨N + 1 + 1 + 1, 0, none⟩) 2 2]
    ((((w.alloc (.cells #[.int .u8 107] 5 (1, 2))).alloc (.cells #[.int .u8 116, .int .u8 101] 5 (2, 3))).alloc (.cells #[.int .u8 120, .int .u8 116] 5 (2, 3))).alloc (.cells #[.slice (some ⟨N + 1, 0, none⟩) 2 2, .slice (some ⟨N + 1 + 1, 0, none⟩) 2 2] 22))
    fun e w' => e = .returned (.agg (V8 (markS [107] TXT)).toArray) ∧ Below N w w' := by
  subst hN
  have hb : Below w.heap.size w ((((w.alloc (.cells #[.int .u8 107] 5 (1, 2))).alloc (.cells #[.int .u8 116, .int .u8 101] 5 (2, 3))).alloc (.cells #[.int .u8 120, .int .u8 116] 5 (2, 3))).alloc (.cells #[.slice (some ⟨w.heap.size + 1, 0, none⟩) 2 2, .slice (some ⟨w.heap.size + 1 + 1, 0, none⟩) 2 2] 22)) :=
    ((((Below.refl _ _).alloc (Nat.le_refl _) _).alloc (by simp) _).alloc (by simp <;> omega) _).alloc (by simp <;> omega) _
  refine (mark_any [107] [[116, 101], [120, 116]] _ _ 1 2 _ (R0.block (bs := [107]) ((old_block _ _ _ (by simp <;> omega)).trans ((old_block _ _ _ (by simp <;> omega)).trans ((old_block _ _ _ (by simp)).trans (heap_alloc_new _ _))))) (by simp) (by unfold maxLen; omega)
    (RS.two (A1 := some ⟨w.heap.size + 1, 0, none⟩) (A2 := some ⟨w.heap.size + 1 + 1, 0, none⟩) (b1 := [116, 101]) (b2 := [120, 116]) (c1 := 2) (c2 := 2) (new_block _ _ _ (by simp)) (R0.block ((old_block _ _ _ (by simp <;> omega)).trans ((old_block _ _ _ (by simp)).trans (new_block _ _ _ (by simp))))) (R0.block ((old_block _ _ _ (by simp)).trans (new_block _ _ _ (by simp)))) (by simp) (by simp) (by unfold maxLen; omega) (by unfold maxLen; omega))
    (by simp) (by unfold maxLen; omega) (hT.to hb) (by simp) (by simp)).mono ?_
  rintro e w' ⟨rfl, h⟩
  exact ⟨rfl, hb.trans (h.mono hb.size)⟩
/-- The two calls of Right: of the first n bytes of the mark, which lies in block m. -/
theorem right_text (w : World) (N m n : Nat) (X : List Nat) (hX : X = markS [107] TXT) (hN : w.heap.size = N) (hm : w.heap[m]? = some (.cells (V8 X).toArray 29 (0, 0))) (hn : n ≤ 32) (hT : Tab w) : Calls Tryd.prog 21 #[.slice (some ⟨N, 0, none⟩) 1 1, .slice (some ⟨m, 0, none⟩) n 32, .slice (some ⟨N + 1 + 1, 0, none⟩) 1 1]
    (((w.alloc (.cells #[.int .u8 107] 5 (1, 2))).alloc (.cells #[.int .u8 116, .int .u8 101, .int .u8 120, .int .u8 116] 5 (4, 5))).alloc (.cells #[.slice (some ⟨N + 1, 0, none⟩) 4 4] 22))
    fun e w' => e = .returned (.bool (rightS [107] ((markS [107] TXT).take n) TXT)) ∧ Below N w w' := by
  subst hN
  have hb : Below w.heap.size w (((w.alloc (.cells #[.int .u8 107] 5 (1, 2))).alloc (.cells #[.int .u8 116, .int .u8 101, .int .u8 120, .int .u8 116] 5 (4, 5))).alloc (.cells #[.slice (some ⟨w.heap.size + 1, 0, none⟩) 4 4] 22)) :=
    (((Below.refl _ _).alloc (Nat.le_refl _) _).alloc (by simp) _).alloc (by simp <;> omega) _
  have hl : (X.take n).length = n := by rw [List.length_take, hX, length_markS]; omega
  have := right_any [107] (X.take n) [TXT] (some ⟨w.heap.size, 0, none⟩) (some ⟨m, 0, none⟩) (some ⟨w.heap.size + 1 + 1, 0, none⟩) 1 32 1 _ (R0.block (bs := [107]) ((old_block _ _ _ (by simp <;> omega)).trans ((old_block _ _ _ (by simp)).trans (heap_alloc_new _ _)))) (by simp) (by unfold maxLen; omega)
    (R0.front ((R0.block hm).to hb) n) (take_lt (by rw [hX]; exact markS_lt _ _) n)
    (RS.one (A := some ⟨w.heap.size + 1, 0, none⟩) (bs := TXT) (c := 4) (new_block _ _ _ (by simp)) (R0.block (bs := TXT) ((old_block _ _ _ (by simp)).trans (new_block _ _ _ (by simp)))) (by simp [TXT]) (by unfold maxLen; omega))
    (by simp) (by unfold maxLen; omega) (hT.to hb) (by simp) (by simp [TXT])
  rw [hl, hX] at this
  refine this.mono ?_
  rintro e w' ⟨rfl, h⟩
  exact ⟨by simp, hb.trans (h.mono hb.size)⟩
theorem equal_12 (w : World) (N : Nat) (hN : w.heap.size = N) : Calls Tryd.prog 20 #[.slice (some ⟨N, 0, none⟩) 1 1, .slice (some ⟨N + 1, 0, none⟩) 1 1] ((w.alloc (.cells #[.int .u8 1] 5)).alloc (.cells #[.int .u8 2] 5)) fun e w' => e = .returned (.bool false) ∧ Below N w w' := by
  subst hN
  refine (equal_same [1] [2] 1 rfl rfl _ _ 1 1 _ (R0.block (bs := [1]) ((old_block _ _ _ (by simp)).trans (heap_alloc_new _ _))) (R0.block (bs := [2]) (new_block _ _ _ (by simp))) (by omega)).mono ?_
  rintro e w' ⟨rfl, rfl⟩
  exact ⟨rfl, ((Below.refl _ _).alloc (Nat.le_refl _) _).alloc (by simp) _⟩
theorem lab_l : labS ⟨#[108]⟩ = [108] := rfl
theorem right_yes (w : World) (N m : Nat) (X : List Nat) (hX : X = markS [107] TXT) (hN : w.heap.size = N) (hm : w.heap[m]? = some (.cells (V8 X).toArray 29 (0, 0))) (hT : Tab w) : Calls Tryd.prog 21 #[.slice (some ⟨N, 0, none⟩) 1 1, .slice (some ⟨m, 0, none⟩) 16 32, .slice (some ⟨N + 1 + 1, 0, none⟩) 1 1]
    (((w.alloc (.cells #[.int .u8 107] 5 (1, 2))).alloc (.cells #[.int .u8 116, .int .u8 101, .int .u8 120, .int .u8 116] 5 (4, 5))).alloc (.cells #[.slice (some ⟨N + 1, 0, none⟩) 4 4] 22))
    fun e w' => e = .returned (.bool true) ∧ Below N w w' := by
  have := right_text w N m 16 X hX hN hm (by omega) hT
  rw [right16] at this
  exact this
theorem right_no (w : World) (N m : Nat) (X : List Nat) (hX : X = markS [107] TXT) (hN : w.heap.size = N) (hm : w.heap[m]? = some (.cells (V8 X).toArray 29 (0, 0))) (hT : Tab w) : Calls Tryd.prog 21 #[.slice (some ⟨N, 0, none⟩) 1 1, .slice (some ⟨m, 0, none⟩) 7 32, .slice (some ⟨N + 1 + 1, 0, none⟩) 1 1]
    (((w.alloc (.cells #[.int .u8 107] 5 (1, 2))).alloc (.cells #[.int .u8 116, .int .u8 101, .int .u8 120, .int .u8 116] 5 (4, 5))).alloc (.cells #[.slice (some ⟨N + 1, 0, none⟩) 4 4] 22))
    fun e w' => e = .returned (.bool false) ∧ Below N w w' := by
  have := right_text w N m 7 X hX hN hm (by omega) hT
  rw [right7] at this
  exact this
theorem der_s (w : World) (N : Nat) (hN : w.heap.size = N) (hT : Tab w) : Calls Tryd.prog 23 #[.slice (some ⟨N, 0, none⟩) 1 1, .string ⟨#[108]⟩, .int .i64 1] (w.alloc (.cells #[.int .u8 115] 5 (1, 2))) fun e w' => e = .returned (.tuple #[.agg (V8 (keyS [115] [108] 1)).toArray, .int .i64 0]) ∧ Below N w w' := by
  subst hN
  have hb : Below w.heap.size w (w.alloc (.cells #[.int .u8 115] 5 (1, 2))) := (Below.refl _ _).alloc (Nat.le_refl _) _
  refine (derive_some [115] _ 1 ⟨#[108]⟩ 1 _ (R0.block (bs := [115]) (heap_alloc_new _ _)) (by simp) (by unfold maxLen; omega) (by simp) (by omega) (by decide) (hT.to hb) (by simp)).mono ?_
  rintro e w' ⟨rfl, h⟩
  exact ⟨rfl, hb.trans (h.mono hb.size)⟩
set_option maxRecDepth 100000 in
set_option maxHeartbeats 1000000 in
theorem alive4_any (w : World) (hT : Tab w) : Calls Tryd.prog 17 #[] w fun e w' => e = .returned (.bool true) ∧ Below w.heap.size w w' := by
  obtain ⟨X, hX⟩ : ∃ X, markS [107] TXT = X := ⟨_, rfl⟩
  have hXl : X.length = 32 := by rw [← hX]; exact length_markS _ _
  obtain ⟨Y, hY⟩ : ∃ Y, keyS [115] [108] 1 = Y := ⟨_, rfl⟩
  have hYl : Y.length = 16 := by rw [← hY]; exact length_keyS _ _ _
  have hYn : (Y == Z16) = false := by rw [← hY]; exact key_not
  have HM := Lib.hid (fun w N hN hT => mark_kte w N hN hT)
  have HR := Lib.hid (fun w N m h1 h2 h4 => right_yes w N m X hX.symm h1 h2 h4)
  have HQ := Lib.hid (fun w N m h1 h2 h4 => right_no w N m X hX.symm h1 h2 h4)
  have HD := Lib.hid (fun w N hN hT => der_s w N hN hT)
  rw [hY] at HD
  rw [hX] at HM
  have HSX := Lib.hid (show (Tryd.prog.info? 29).map (·.size) = some (V8 X).toArray.size by rw [List.size_toArray, length_V8, hXl]; exact info29)
  have HEX := Lib.hid (show (V8 Z32).toArray.size = (V8 X).toArray.size by simp [hXl, Z32])
  have HOX := Lib.hid (show (V8 X).toArray.all (·.oneCell') = true by simpa using one_V8 X)
  have HSY := Lib.hid (show (Tryd.prog.info? 50).map (·.size) = some (V8 Y).toArray.size by rw [List.size_toArray, length_V8, hYl]; exact info50)
  have HEY := Lib.hid (show (V8 Z16).toArray.size = (V8 Y).toArray.size by simp [hYl, Z16])
  have HOY := Lib.hid (show (V8 Y).toArray.all (·.oneCell') = true by simpa using one_V8 Y)
  have hqq := eqKey Y Z16 hYl rfl
  rw [hYn, ← ZM_eq] at hqq
  unfold ZM at hqq
  have HQQ := Lib.hid hqq
  have HT := Lib.hid hT
  clear hX hXl hY hYl hYn hT hqq
  go_enter Tryd.func17, Tryd.ntmps17
  have cv1 := fun (C : Array Value) (n c : Nat) => conv_at w w.heap.size rfl C n c
  have cv2 := fun (o : Obj) (C : Array Value) (n c : Nat) => conv_at (w.alloc o) (w.heap.size + 1) (by simp) C n c
  have cv3 := fun (o o2 : Obj) (C : Array Value) (n c : Nat) => conv_at ((w.alloc o).alloc o2) (w.heap.size + 1 + 1) (by simp) C n c
  go_wp2_with fail
  refine (HM.out w w.heap.size rfl HT.out).mono ?_
  rintro e w1 ⟨rfl, hb1⟩
  clear cv1 cv2 cv3
  have HB1 := Lib.hid hb1
  clear hb1
  go_upto_region 2 with (refine wpList_store_row rfl 29 _ _ rfl w1.heap.size (V8 X).toArray rfl rfl 29 (V8 Z32).toArray (heap_alloc_new _ _) HSX.out HEX.out HOX.out ?_)
  obtain ⟨U, hU, G1, G2⟩ : ∃ U : World, U = (w1.alloc (.cells ZL 29)).setRow w1.heap.size (V8 X).toArray ∧ U.heap[w1.heap.size]? = some (.cells (V8 X).toArray 29 (0, 0)) ∧ Below w.heap.size w U :=
    ⟨_, rfl, setRow_heap _ _ _ _ _ _ (heap_alloc_new _ _), below_setRow (HB1.out.alloc HB1.out.size _) HB1.out.size _⟩
  unfold ZL at hU
  rw [← hU]
  have hsz : w.heap.size ≤ w1.heap.size := HB1.out.size
  clear hU HB1 HEX HOX HSX
  generalize w1.heap.size = m at G1 hsz ⊢
  have HG1 := Lib.hid G1
  have HG2 := Lib.hid G2
  clear G1 G2
  have cv1 := fun (C : Array Value) (n c : Nat) => conv_at U U.heap.size rfl C n c
  go_wp2_with fail
  refine (HD.out U U.heap.size rfl (HT.out.to HG2.out)).mono ?_
  rintro e w2 ⟨rfl, hb2⟩
  clear cv1 HD
  have HB2 := Lib.hid hb2
  clear hb2
  go_upto_region 3 with (refine wpList_store_row rfl 50 _ _ rfl w2.heap.size (V8 Y).toArray rfl rfl 50 (V8 Z16).toArray (heap_alloc_new _ _) HSY.out HEY.out HOY.out ?_)
  obtain ⟨V, hV, G1, G2, G3⟩ : ∃ V : World, V = (w2.alloc (.cells ZM 50)).setRow w2.heap.size (V8 Y).toArray ∧ V.heap[m]? = some (.cells (V8 X).toArray 29 (0, 0)) ∧ V.heap[w2.heap.size]? = some (.cells (V8 Y).toArray 50 (0, 0)) ∧ Below w.heap.size w V := by
    have q1 := lt_of_blk HG1.out
    have q2 := HB2.out.size
    have q3 := HG2.out.size
    exact ⟨_, rfl, (setRow_other _ _ _ _ (by omega)).trans ((old_block _ _ _ (by omega)).trans ((HB2.out.block _ q1).trans HG1.out)), setRow_heap _ _ _ _ _ _ (heap_alloc_new _ _), below_setRow ((HG2.out.trans (HB2.out.mono q3)).alloc (by omega) _) (by omega) _⟩
  unfold ZM at hV
  rw [← hV]
  clear hV HB2 HEY HOY HG1 HG2
  generalize w2.heap.size = y at G2 ⊢
  have HG1 := Lib.hid G1
  have HG2 := Lib.hid G2
  have HG3 := Lib.hid G3
  clear G1 G2 G3
  go_wp2_with fail
  refine (derive_none none 0 ⟨#[108]⟩ 1 V).mono ?_
  rintro e w3 ⟨rfl, hb3⟩
  have HB3 := Lib.hid hb3
  clear hb3
  go_upto_region 4 with (refine wpList_store_row rfl 50 _ _ rfl w3.heap.size (V8 Z16).toArray rfl rfl 50 (V8 Z16).toArray (heap_alloc_new _ _) info50 rfl (by decide +kernel) ?_)
  obtain ⟨U4, hU, G1, G2, G3⟩ : ∃ U4 : World, U4 = (w3.alloc (.cells ZM 50)).setRow w3.heap.size (V8 Z16).toArray ∧ U4.heap[m]? = some (.cells (V8 X).toArray 29 (0, 0)) ∧ U4.heap[y]? = some (.cells (V8 Y).toArray 50 (0, 0)) ∧ Below w.heap.size w U4 := by
    have q1 := lt_of_blk HG1.out
    have q2 := lt_of_blk HG2.out
    have q3 := HB3.out.size
    have q4 := HG3.out.size
    exact ⟨_, rfl, (setRow_other _ _ _ _ (by omega)).trans ((old_block _ _ _ (by omega)).trans ((HB3.out.block _ q1).trans HG1.out)), (setRow_other _ _ _ _ (by omega)).trans ((old_block _ _ _ (by omega)).trans ((HB3.out.block _ q2).trans HG2.out)), below_setRow ((HG3.out.trans (HB3.out.mono q4)).alloc (by omega) _) (by omega) _⟩
  unfold ZM at hU
  rw [← hU]
  clear hU HB3 HG1 HG2 HG3
  have HG1 := Lib.hid G1
  have HG2 := Lib.hid G2
  have HG3 := Lib.hid G3
  clear G1 G2 G3
  have cv1 := fun (C : Array Value) (n c : Nat) => conv_at U4 U4.heap.size rfl C n c
  have cv2 := fun (o : Obj) (C : Array Value) (n c : Nat) => conv_at (U4.alloc o) (U4.heap.size + 1) (by simp) C n c
  have hs16 : ∀ W, (Instr.sliceAt 29 (.pointer (some ⟨m, 0, none⟩)) none (some (.int .i64 16)) none).run Tryd.prog W = .ok (.slice (some ⟨m, 0, none⟩) 16 32) W := slice_arr29_to m 16 (by omega)
  go_wp2_with fail
  refine (HR.out U4 U4.heap.size m rfl HG1.out (HT.out.to HG3.out)).mono ?_
  rintro e w5 ⟨rfl, hb5⟩
  have HH1 := Lib.hid (show w5.heap[m]? = some (.cells (V8 X).toArray 29 (0, 0)) from (hb5.block _ (lt_of_blk HG1.out)).trans HG1.out)
  have HH2 := Lib.hid (show w5.heap[y]? = some (.cells (V8 Y).toArray 50 (0, 0)) from (hb5.block _ (lt_of_blk HG2.out)).trans HG2.out)
  have HH3 := Lib.hid (show Below w.heap.size w w5 from HG3.out.trans (hb5.mono HG3.out.size))
  clear hb5 HG1 HG2 HG3 cv1 cv2 hs16 HR
  have cv1 := fun (C : Array Value) (n c : Nat) => conv_at w5 w5.heap.size rfl C n c
  have cv2 := fun (o : Obj) (C : Array Value) (n c : Nat) => conv_at (w5.alloc o) (w5.heap.size + 1) (by simp) C n c
  have hs7 : ∀ W, (Instr.sliceAt 29 (.pointer (some ⟨m, 0, none⟩)) none (some (.int .i64 7)) none).run Tryd.prog W = .ok (.slice (some ⟨m, 0, none⟩) 7 32) W := slice_arr29_to m 7 (by omega)
  go_wp2_with fail
  refine (HQ.out w5 w5.heap.size m rfl HH1.out (HT.out.to HH3.out)).mono ?_
  rintro e w6 ⟨rfl, hb6⟩
  have HJ2 := Lib.hid (show w6.heap[y]? = some (.cells (V8 Y).toArray 50 (0, 0)) from (hb6.block _ (lt_of_blk HH2.out)).trans HH2.out)
  have HJ3 := Lib.hid (show Below w.heap.size w w6 from HH3.out.trans (hb6.mono HH3.out.size))
  clear hb6 HH1 HH2 HH3 cv1 cv2 hs7 HQ
  have hqq := HQQ.out
  go_wp2_with (refine wpList_load_row_w rfl 50 _ rfl y rfl 50 (V8 Y).toArray (0, 0) _ HJ2.out Tryd.underlying50 rfl HSY.out ?_)
  refine (equal_12 w6 w6.heap.size rfl).mono ?_
  rintro e w7 ⟨rfl, hb7⟩
  have HL3 := Lib.hid (show Below w.heap.size w w7 from HJ3.out.trans (hb7.mono HJ3.out.size))
  clear hb7 HJ2 HJ3
  go_wp2
  go_ret
  exact ⟨rfl, HL3.out⟩
end Go.Proofs.YtakfcdemoaogfaaDoor
