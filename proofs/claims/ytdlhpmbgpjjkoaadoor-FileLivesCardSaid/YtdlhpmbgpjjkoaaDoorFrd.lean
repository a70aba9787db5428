/-
  Proved here: of a document's sender: Know, also alone.
-/
import Derived.Test.YtdlhpmbgpjjkoaaDoorFrc
set_option linter.unusedSimpArgs false
set_option linter.unusedVariables false
namespace Go.Proofs.YtdlhpmbgpjjkoaaDoor
open Go.RowKit
/-- What is known behind. -/
def nwS (alone : Bool) (b c : Nat) : Nat := if alone = true then c else b ||| c
theorem nwS_bit (alone : Bool) (b c i : Nat) : (nwS alone b c).testBit i = (c.testBit i || (b.testBit i && !alone)) := by
  unfold nwS
  cases alone
  · simp [Nat.testBit_or, Bool.or_comm]
  · simp
theorem nwS_right {alone : Bool} {N b c : Nat} (hb : rB N b = true) (hc : rB N c = true) : rB N (nwS alone b c) = true := by
  obtain ⟨h1, h2⟩ := rB_parts' hb
  obtain ⟨_, h3⟩ := rB_parts' hc
  unfold nwS
  split
  · exact hc
  · rw [rB_in h1]
    exact decide_eq_true (Nat.or_lt_two_pow h2 h3)
/-- The truths, the first i of them new. -/
def mixL (N b x i : Nat) : List Bool := (List.range N).map fun j => if j < i then x.testBit j else b.testBit j
theorem mixL_len (N b x i : Nat) : (mixL N b x i).length = N := by simp [mixL]
theorem mixL_zero (N b x : Nat) : mixL N b x 0 = bitsL N b := by simp [mixL, bitsL]
theorem mixL_all (N b x : Nat) : mixL N b x N = bitsL N x := by
  unfold mixL bitsL
  refine List.map_congr_left fun j hj => ?_
  rw [if_pos (by simpa using hj)]
theorem mixL_at {N b x i : Nat} (hi : i < N) : (mixL N b x i).getD i false = b.testBit i := by simp [mixL, List.getD, hi]
theorem mixL_set {N b x i : Nat} (hi : i < N) : (mixL N b x i).set i (x.testBit i) = mixL N b x (i + 1) := by
  refine List.ext_getElem (by simp [mixL]) fun j h1 h2 => ?_
  simp [mixL] at h1 h2
  rw [List.getElem_set]
  by_cases hj : i = j
  · subst hj
    simp [mixL]
  · rw [if_neg hj]
    simp only [mixL, List.getElem_map, List.getElem_range]
    by_cases h3 : j < i
    · rw [if_pos h3, if_pos (by omega)]
    · rw [if_neg h3, if_neg (by omega)]
theorem TV_set (l : List Bool) (i : Nat) (x : Bool) : (TV l).set i (.bool x) = TV (l.set i x) := by simp [TV]
/-- Of the blocks that there were, g and l alone may be other ones. -/
structure Only2 (g l : Nat) (w w' : World) : Prop where
  os : w'.os = w.os
  tape : w'.tape = w.tape
  output : w'.output = w.output
  size : w.heap.size ≤ w'.heap.size
  block : ∀ k, k < w.heap.size → k ≠ g → k ≠ l → w'.heap[k]? = w.heap[k]?
theorem Only2.of {g l : Nat} {w w' : World} (h : Below w.heap.size w w') : Only2 g l w w' := ⟨h.os, h.tape, h.output, h.size, fun k hk _ _ => h.block k hk⟩
theorem Only2.of1 {g l : Nat} {w w' : World} (h : Only g w w') : Only2 g l w w' := ⟨h.os, h.tape, h.output, h.size, fun k hk h1 _ => h.block k hk h1⟩
theorem Only2.below {g l : Nat} {a w w' : World} (h : Only2 g l w w') (hb : Below a.heap.size a w) (hg : a.heap.size ≤ g) (hl : a.heap.size ≤ l) : Below a.heap.size a w' :=
  ⟨h.os.trans hb.os, h.tape.trans hb.tape, h.output.trans hb.output, Nat.le_trans hb.size h.size, fun k hk => (h.block k (Nat.lt_of_lt_of_le hk hb.size) (by omega) (by omega)).trans (hb.block k hk)⟩
section
variable {w : World} {d g l : Nat} {bs : List Int} {N b p : Nat} {z : Bool}
theorem rknow_no (h : Rs w d g l bs N b p z) {A' : Option Addr} {m k : Nat} {rt alone : Bool} (hr : rt = false ∨ m ≠ N) : Calls Tryd.prog 16 #[.pointer (some ⟨g, 0, none⟩), .slice A' m k, .bool rt, .bool alone] w fun e w' => e = .returned (.int .i64 1) ∧ w = w' := by
  have c1 := h.c1
  cases rt
  · clear h hr
    go_enter Tryd.func16, Tryd.ntmps16
    go_wp2
    go_ret
    exact ⟨rfl, rfl⟩
  · have hne : m ≠ N := by
      rcases hr with hr | hr
      · cases hr
      · exact hr
    have q0 : ((m : Int) != (N : Int)) = true := by simp; omega
    have q1 : ((m : Int) == (N : Int)) = false := by simp; omega
    have q2 : ¬ (m : Int) = (N : Int) := by omega
    clear h hr
    go_enter Tryd.func16, Tryd.ntmps16
    go_wp2
    go_ret
    exact ⟨rfl, rfl⟩
theorem rknow_gone (h : Rs w d g l bs N b p true) {A' : Option Addr} {k : Nat} {alone : Bool} : Calls Tryd.prog 16 #[.pointer (some ⟨g, 0, none⟩), .slice A' N k, .bool true, .bool alone] w fun e w' => e = .returned (.int .i64 41) ∧ w = w' := by
  have c1 := h.c1
  have c3 := h.c3
  have q0 : ((N : Int) != (N : Int)) = false := by simp
  have q1 : ((N : Int) == (N : Int)) = true := by simp
  clear h
  go_enter Tryd.func16, Tryd.ntmps16
  go_wp2
  go_ret
  exact ⟨rfl, rfl⟩
/-- The truths' block, the first i of them new, all else as it was. -/
structure KnS (w : World) (l N b x i : Nat) (wr : World) : Prop where
  row : wr.heap[l]? = some (.cells (TV (mixL N b x i)).toArray 4 (0, 0))
  only : Only l w wr
theorem KnS.step {wr : World} {x i : Nat} (h : KnS w l N b x i wr) (hi : i < N) : KnS w l N b x (i + 1) (wr.setCell ⟨l, i, none⟩ (.bool (x.testBit i))).drew :=
  ⟨by
    show (wr.setCell ⟨l, i, none⟩ (.bool (x.testBit i))).heap[l]? = _
    rw [heap_setCell_same wr l i _ _ _ h.row, List.setIfInBounds_toArray, TV_set, mixL_set hi], (h.only.setCell i _).drew⟩
set_option maxHeartbeats 4000000 in
theorem rknow_yes (h : Rs w d g l bs N b p false) {c : Nat} (hrc : rB N c = true) {A' : Option Addr} {k : Nat} {alone : Bool} (hT : TI w A' (bitsL N c)) (hA : ∀ a, A' = some a → a.block ≠ l) : Calls Tryd.prog 16 #[.pointer (some ⟨g, 0, none⟩), .slice A' N k, .bool true, .bool alone] w fun e w' => e = .returned (.int .i64 0) ∧ Rs w' d g l bs N (nwS alone b c) (if alone = true then 0 else p) false ∧ Only2 g l w w' := by
  have c1 := h.c1
  have c3 := h.c3
  have hn := h.n64
  have q0 : ((N : Int) != (N : Int)) = false := by simp
  have q1 : ((N : Int) == (N : Int)) = true := by simp
  obtain ⟨x, hx⟩ : ∃ x, nwS alone b c = x := ⟨_, rfl⟩
  have HXB := Lib.hid (fun i => show x.testBit i = (c.testBit i || (b.testBit i && !alone)) from by rw [← hx]; exact nwS_bit alone b c i)
  have HXR := Lib.hid (show rB N x = true from by rw [← hx]; exact nwS_right h.right hrc)
  have HS := Lib.hid h
  have HT := Lib.hid hT
  have HA := Lib.hid hA
  have HK0 := Lib.hid (show KnS w l N b x 0 w from ⟨by rw [mixL_zero]; exact h.row, Only.refl _ _⟩)
  have HGL := Lib.hid h.ne
  rw [hx]
  clear h hrc hT hA hx
  go_enter Tryd.func16, Tryd.ntmps16
  go_wp2
  clear c1 c3
  go_loopw [9] (fun iv wr => ∃ i : Nat, iv = .int .i64 i ∧ i ≤ N ∧ Hid (KnS w l N b x i wr)) (fun iv _ => N - (intOf iv).toNat)
  case atStart => exact ⟨0, rfl, by omega, HK0⟩
  case round =>
    obtain ⟨i, rfl, hi, HK⟩ := hrel
    have HG := Lib.hid (show wr.heap[g]? = w.heap[g]? from HK.out.only.block g HS.out.lt (by have := HGL.out; omega))
    by_cases hin : i < N
    · have d1 : decide ((i : Int) < (N : Int)) = true := by simp; omega
      have d2 : decide (i < N) = true := by simp; omega
      have g1 : (0 : Int) ≤ (i : Int) := by omega
      have g2 : (i : Int) < (N : Int) := by omega
      have c1 : wr.cell? ⟨g, 1, none⟩ = some (.slice (some ⟨l, 0, none⟩) N N) := by
        rw [← HS.out.c1]
        exact World.cell?_of_block HG.out
      have cb : wr.cell? ⟨l, i, none⟩ = some (.bool (b.testBit i)) := by
        rw [cell_of_row wr l i _ _ _ HK.out.row, List.getElem?_toArray, TV_getElem (by rw [mixL_len]; exact hin), mixL_at hin]
      have fb : wr.frozen? ⟨l, i, none⟩ = false := frozen_of_row wr l i _ _ HK.out.row
      obtain ⟨bb, off, rfl, hbb, hcc⟩ := HT.out (by rw [bitsL_len]; omega)
      have cc : wr.cell? ⟨bb, off + i, none⟩ = some (.bool (c.testBit i)) := by
        rw [← bitsL_at (b := c) hin, ← hcc i (by rw [bitsL_len]; exact hin)]
        exact World.cell?_of_block (HK.out.only.block bb hbb (HA.out _ rfl))
      have HK2 := Lib.hid (HK.out.step hin)
      rw [HXB.out i] at HK2
      have w1 : IntKind.i64.wrap ((i : Int) + 1) = (i : Int) + 1 := IntWalk.i64_in _ (by omega)
      obtain ⟨xc, hxc⟩ : ∃ y, c.testBit i = y := ⟨_, rfl⟩
      obtain ⟨xb, hxb⟩ : ∃ y, b.testBit i = y := ⟨_, rfl⟩
      rw [hxc] at cc HK2
      rw [hxb] at cb HK2
      clear hxc hxb hcc
      cases xc
      · cases xb
        · rw [show (false || (false && !alone)) = false by simp] at HK2
          go_wp2
          go_big_region
          go_wp2
          go_roundw
          case rel => exact ⟨i + 1, by go_num, by omega, HK2⟩
          case measure => simp [intOf]; omega
        · cases alone
          · rw [show (false || (true && !false)) = true by simp] at HK2
            go_wp2
            go_big_region
            go_wp2
            go_roundw
            case rel => exact ⟨i + 1, by go_num, by omega, HK2⟩
            case measure => simp [intOf]; omega
          · rw [show (false || (true && !true)) = false by simp] at HK2
            go_wp2
            go_big_region
            go_wp2
            go_roundw
            case rel => exact ⟨i + 1, by go_num, by omega, HK2⟩
            case measure => simp [intOf]; omega
      · rw [Bool.true_or] at HK2
        go_wp2
        go_big_region
        go_wp2
        go_roundw
        case rel => exact ⟨i + 1, by go_num, by omega, HK2⟩
        case measure => simp [intOf]; omega
    · have d1 : decide ((i : Int) < (N : Int)) = false := by simp; omega
      have d2 : decide (i < N) = false := by simp; omega
      obtain rfl : i = N := by omega
      have HR := Lib.hid (show Rs wr d g l bs i x p false from by
        obtain ⟨A, c, hh, hr, h0, h3⟩ := HS.out.ex
        exact ⟨⟨A, c, HG.out.trans hh, hr.away (fun a ha hb => Nat.lt_of_lt_of_le (h0 a ha hb) HS.out.dl) HK.out.only, h0, h3⟩, by rw [← mixL_all]; exact HK.out.row, HS.out.dl, HS.out.ne, HXR.out, HS.out.num, HS.out.size, HS.out.at64⟩)
      have HO := Lib.hid (show Only2 g l w wr from ⟨HK.out.only.os, HK.out.only.tape, HK.out.only.output, HK.out.only.size, fun k hk h1 h2 => HK.out.only.block k hk h2⟩)
      cases alone
      · go_wp2
        go_ret
        exact ⟨rfl, HR.out, HO.out⟩
      · have c2 := HR.out.c2
        have f2 := HR.out.free 2
        have HR2 := Lib.hid (HR.out.s2 (p' := 0) (by omega))
        have HO2 := Lib.hid (show Only2 g l w (wr.setCell ⟨g, 2, none⟩ (.int .i64 ((0 : Nat) : Int))) from ⟨HO.out.os, HO.out.tape, HO.out.output, by simpa using HO.out.size, fun k hk h1 h2 => (heap_setCell_other wr ⟨g, 2, none⟩ k _ h1).trans (HO.out.block k hk h1 h2)⟩)
        go_wp2
        go_ret
        exact ⟨rfl, HR2.out, HO2.out⟩
end
end Go.Proofs.YtdlhpmbgpjjkoaaDoor
