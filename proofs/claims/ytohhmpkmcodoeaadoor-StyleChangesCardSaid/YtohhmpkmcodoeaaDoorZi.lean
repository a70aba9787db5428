/-
  Proved here: of the laws of style: alive, As.
-/
import Derived.Test.YtohhmpkmcodoeaaDoorZh
set_option linter.unusedSimpArgs false
set_option linter.unusedVariables false
namespace Go.Proofs.YtohhmpkmcodoeaaDoor
open Go.RowKit
abbrev S1 : Sty := ⟨[true, false, false, false, false, false, false, false], 16777217, 33620483⟩
theorem change1 : changeS zeroY [1, 31, 48, 2, 1, 2, 3] = S1 := by kernel_rfl
theorem good1 : Good S1 := ⟨rfl, by decide, by decide⟩
theorem write1 : (writeY S1).length = 9 := by kernel_rfl
theorem back1 : readY (writeY S1) 0 = (S1, 9, 0) := by
  have := read_write good1 (by decide)
  rw [write1] at this
  exact this
theorem good5 : Good ⟨zeroF, 5, 0⟩ := ⟨rfl, by decide, by decide⟩
theorem writeY_bytes {s : Sty} (h : Good s) : Bytes (writeY s) := bytes_of_mem fun x hx => by
  unfold writeY at hx
  rcases List.mem_append.1 hx with h1 | h1
  · rcases List.mem_append.1 h1 with h2 | h2
    · rw [List.mem_singleton.1 h2]
      exact h.num
    · exact numB_byte _ x h2
  · exact numB_byte _ x h1
theorem pcell {W : World} {g : Nat} {a b c : Value} {t : TypeId} (h : W.heap[g]? = some (.cells #[a, b, c] t (0, 0))) : W.cell? ⟨g, 0, none⟩ = some a ∧ W.cell? ⟨g, 1, none⟩ = some b ∧ W.cell? ⟨g, 2, none⟩ = some c := by
  refine ⟨?_, ?_, ?_⟩
  all_goals (unfold World.cell?; simp only [h]; rfl)
theorem bytes8 {w : World} {v : Value} {xs : List Int} {W : World} (h : Own8 w v xs W) : ∃ A c, v = .slice A xs.length c ∧ xs.length ≤ c ∧ c ≤ maxLen ∧ RB W W.heap.size A xs := by
  obtain ⟨A, c, rfl, h1, h2, _⟩ := own_slice h.own
  exact ⟨A, c, rfl, h1, h2, h.ri.1⟩
theorem pV_S1 : pV S1 = .agg #[.int .u8 1, .int .u32 16777217, .int .u32 33620483] := by kernel_rfl
theorem pV_zero : pV zeroY = .agg #[.int .u8 0, .int .u32 0, .int .u32 0] := by kernel_rfl
theorem pV_five : pV ⟨zeroF, 5, 0⟩ = .agg #[.int .u8 0, .int .u32 5, .int .u32 0] := by kernel_rfl
set_option maxRecDepth 100000 in
set_option maxHeartbeats 2000000 in
theorem alive_any (W : World) (h : Both W) : Calls Tryd.prog 8 #[] W fun e w' => e = .returned (.bool true) ∧ Below W.heap.size W w' := by
  have H := Lib.hid h
  have HC1 := Lib.hid (fun (U : World) (hU : Below W.heap.size W U) (A : Option Addr) (hR : RI .i64 U A [1, 31, 48, 2, 1, 2, 3]) => p_change zeroY (w := U) (A := A) (n := 7) (cp := 7) good_zero (h.below hU (Nat.le_refl _)).ft hR rfl (by omega) (by omega) (by unfold maxLen; omega))
  have HC2 := Lib.hid (fun (U : World) (hU : Below W.heap.size W U) => p_change S1 (w := U) (A := none) (n := 0) (cp := 0) (l := []) good1 (h.below hU (Nat.le_refl _)).ft (RI.nothing _ _ _) rfl (by omega) (by omega) (by unfold maxLen; omega))
  have HW1 := Lib.hid (fun (U : World) (hU : Below W.heap.size W U) => p_write S1 U good1 (h.below hU (Nat.le_refl _)).tab (by decide))
  have HW5 := Lib.hid (fun (U : World) => p_write_no ⟨zeroF, 5, 0⟩ U good5 (by decide))
  have HR1 := Lib.hid (fun (U : World) (hU : Below W.heap.size W U) (A : Option Addr) (c : Nat) (h1 : 9 ≤ c) (h2 : c ≤ maxLen) (hR : RB U U.heap.size A (writeY S1)) => p_read (w := U) (A := A) (n := 9) (cap := c) (bs := writeY S1) hR write1 (by omega) h1 h2 (writeY_bytes good1) (h.below hU (Nat.le_refl _)).tab 0)
  simp only [change1, back1, pV_S1, pV_zero, pV_five, show changeS S1 [] = zeroY from rfl, ReadP] at HC1 HC2 HW1 HW5 HR1
  have HL0 := Lib.hid ((OwnI.lit W [1, 31, 48, 2, 1, 2, 3] 7 rfl (by omega)))
  clear h
  go_enter Tryd.func8, Tryd.ntmps8
  go_wp2_with fail
  refine (HC1.out _ HL0.out.below _ (by obtain ⟨A, c, e, _, r⟩ := HL0.out.ri; injection e with e1; subst e1; exact r)).mono ?_
  rintro e w1 ⟨rfl, hb1⟩
  have b1 := HL0.out.below.trans (hb1.mono HL0.out.below.size)
  have HB1 := Lib.hid b1
  clear hb1 b1
  go_wp2_with fail
  refine (HW1.out _ (HB1.out.alloc HB1.out.size _)).mono ?_
  rintro e w2 ⟨v2, rfl, o2⟩
  obtain ⟨A2, c2, rfl, hc1, hc2, hr2⟩ := bytes8 o2
  rw [write1] at hc1 ⊢
  have hb2 : Below W.heap.size W w2 := (HB1.out.alloc HB1.out.size _).trans (o2.below.mono (by have := HB1.out.size; simp; omega))
  have hrow : w2.heap[w1.heap.size]? = some (.cells #[.int .u8 1, .int .u32 16777217, .int .u32 33620483] 24 (0, 0)) := (o2.below.block w1.heap.size (by simp)).trans (heap_alloc_new _ _)
  have HB2 := Lib.hid hb2
  have HROW := Lib.hid hrow
  have HR2 := Lib.hid hr2
  have HCC := Lib.hid (And.intro hc1 hc2)
  clear hb2 o2 hr2 hrow hc1 hc2
  go_wp2_with fail
  refine (HR1.out _ HB2.out _ _ HCC.out.1 HCC.out.2 HR2.out).mono ?_
  rintro e w3 ⟨rfl, hb3⟩
  have hrow3 := (hb3.block _ (lt_of_block HROW.out)).trans HROW.out
  have HB3 := Lib.hid (HB2.out.trans (hb3.mono HB2.out.size))
  have hlt3 : w1.heap.size < w3.heap.size := lt_of_block hrow3
  clear hb3
  go_wp2_with fail
  refine (HW5.out _).mono ?_
  rintro e w4 ⟨rfl, hb4⟩
  have hrow4 : w4.heap[w1.heap.size]? = some (.cells #[.int .u8 1, .int .u32 16777217, .int .u32 33620483] 24 (0, 0)) := (hb4.block w1.heap.size (by simp; omega)).trans ((heap_alloc_old _ _ hlt3).trans hrow3)
  have hrow5 : w4.heap[w3.heap.size]? = some (.cells #[.int .u8 1, .int .u32 16777217, .int .u32 33620483] 24 (0, 0)) := (hb4.block w3.heap.size (by simp)).trans (heap_alloc_new _ _)
  have HB4 := Lib.hid ((HB3.out.alloc HB3.out.size (.cells #[.int .u8 1, .int .u32 16777217, .int .u32 33620483] 24)).trans (hb4.mono (by have := HB3.out.size; simp; omega)))
  obtain ⟨p0, p1, p2⟩ := pcell hrow4
  obtain ⟨q0, q1, q2⟩ := pcell hrow5
  clear hb4 hrow3 hrow4 hrow5 hlt3
  go_wp2_with fail
  refine (HC2.out _ HB4.out).mono ?_
  rintro e w5 ⟨rfl, hb5⟩
  have HB5 := Lib.hid (HB4.out.trans (hb5.mono HB4.out.size))
  clear hb5 p0 p1 p2 q0 q1 q2
  go_wp2
  go_ret
  exact ⟨rfl, HB5.out⟩
end Go.Proofs.YtohhmpkmcodoeaaDoor
