/-
  Proved here: of the document's layer 25: Length and Chunks; a document's sender in memory; its New, Left, State and Cancel.
-/
import Derived.Test.YtdlhpmbgpjjkoaaDoorFii
set_option linter.unusedSimpArgs false
set_option linter.unusedVariables false
namespace Go.Proofs.YtdlhpmbgpjjkoaaDoor
open Go.RowKit
theorem rlength_in {n i : Nat} (hn : n ≤ 4096) (hi : i < (n + 63) / 64) (w : World) : Calls Tryd.prog 35 #[.int .i64 n, .int .i64 i] w fun e w' => e = .returned (.int .i64 (lenS n i)) ∧ w = w' := by
  obtain ⟨q, hq⟩ : ∃ q, n - 64 * i = q := ⟨_, rfl⟩
  obtain ⟨m, hm⟩ : ∃ m, 64 * i = m := ⟨_, rfl⟩
  have d0 : decide ((n : Int) < 0) = false := by simp
  have d1 : decide ((4096 : Int) < (n : Int)) = false := by simp; omega
  have d2 : decide ((i : Int) < 0) = false := by simp
  have d3 : decide ((64 : Int) < (i : Int)) = false := by simp; omega
  have w1 : IntKind.i64.wrap (64 * (i : Int)) = (m : Int) := by rw [IntWalk.i64_in _ (by omega)]; omega
  have w1' : IntKind.i64.wrap ((i : Int) * 64) = (m : Int) := by rw [IntWalk.i64_in _ (by omega)]; omega
  have d4 : decide ((n : Int) ≤ (m : Int)) = false := by simp; omega
  have d4' : decide (n ≤ m) = false := by simp; omega
  have w2 : IntKind.i64.wrap ((n : Int) - (m : Int)) = (q : Int) := by rw [IntWalk.i64_in _ (by omega)]; omega
  have g1 : ¬ (4096 : Int) < (n : Int) := by omega
  have g3 : ¬ (64 : Int) < (i : Int) := by omega
  have g4 : ¬ (n : Int) ≤ (m : Int) := by omega
  have HQ := Lib.hid (show lenS n i = min q 64 by unfold lenS; rw [hq])
  clear hn hi hq hm
  by_cases h64 : q < 64
  · have e1 : decide ((q : Int) < 64) = true := by simp; omega
    have e2 : (q : Int) < 64 := by omega
    have HQ := Lib.hid (show lenS n i = q by rw [HQ.out]; omega)
    go_enter Tryd.func35, Tryd.ntmps35
    go_wp2
    go_ret
    exact ⟨by rw [HQ.out]; rfl, rfl⟩
  · have e1 : decide ((q : Int) < 64) = false := by simp; omega
    have e2 : ¬ (q : Int) < 64 := by omega
    have HQ := Lib.hid (show lenS n i = 64 by rw [HQ.out]; omega)
    go_enter Tryd.func35, Tryd.ntmps35
    go_wp2
    go_ret
    exact ⟨by rw [HQ.out]; rfl, rfl⟩
theorem rlength_out {n i : Nat} (hn : n ≤ 4096) (hi : i = (n + 63) / 64) (w : World) : Calls Tryd.prog 35 #[.int .i64 n, .int .i64 i] w fun e w' => e = .returned (.int .i64 0) ∧ w = w' := by
  obtain ⟨m, hm⟩ : ∃ m, 64 * i = m := ⟨_, rfl⟩
  have d0 : decide ((n : Int) < 0) = false := by simp
  have d1 : decide ((4096 : Int) < (n : Int)) = false := by simp; omega
  have d2 : decide ((i : Int) < 0) = false := by simp
  have d3 : decide ((64 : Int) < (i : Int)) = false := by simp; omega
  have w1 : IntKind.i64.wrap (64 * (i : Int)) = (m : Int) := by rw [IntWalk.i64_in _ (by omega)]; omega
  have d4 : decide ((n : Int) ≤ (m : Int)) = true := by simp; omega
  have d4' : decide (n ≤ m) = true := by simp; omega
  have g1 : ¬ (4096 : Int) < (n : Int) := by omega
  have g3 : ¬ (64 : Int) < (i : Int) := by omega
  have g4 : (n : Int) ≤ (m : Int) := by omega
  clear hn hi hm
  go_enter Tryd.func35, Tryd.ntmps35
  go_wp2
  go_ret
  exact ⟨rfl, rfl⟩
theorem rchunks_any {n N : Nat} (hn : n ≤ 4096) (hN : N = (n + 63) / 64) (w : World) : Calls Tryd.prog 32 #[.int .i64 n] w fun e w' => e = .returned (.int .i64 N) ∧ w = w' := by
  have HL := Lib.hid (fun i (hi : i < N) W => rlength_in (n := n) (i := i) hn (by omega) W)
  have HZ := Lib.hid (fun W => rlength_out (n := n) (i := N) hn hN W)
  have HP := Lib.hid (fun i (hi : i < N) => (lenS_pos (n := n) (i := i) (by omega)).1)
  have hN64 : N ≤ 64 := by omega
  clear hn hN
  go_enter Tryd.func32, Tryd.ntmps32
  go_wp2
  go_loopw [3] (fun iv wr => ∃ i : Nat, iv = .int .i64 i ∧ i ≤ N ∧ w = wr) (fun iv _ => N - (intOf iv).toNat)
  case atStart => exact ⟨0, rfl, by omega, rfl⟩
  case round =>
    obtain ⟨i, rfl, hi, rfl⟩ := hrel
    by_cases hin : i < N
    · have hp := HP.out i hin
      have HI := Lib.hid (HL.out i hin w)
      obtain ⟨l, hl⟩ : ∃ l, lenS n i = l := ⟨_, rfl⟩
      rw [hl] at hp HI
      have e1 : decide ((0 : Int) < (l : Int)) = true := by simp; omega
      have e2 : decide (0 < l) = true := by simp; omega
      have w1 : IntKind.i64.wrap ((i : Int) + 1) = (i : Int) + 1 := IntWalk.i64_in _ (by omega)
      clear hl
      go_wp2_with (go_at_call 35; refine HI.out.mono ?_; rintro e wx ⟨rfl, rfl⟩)
      go_roundw
      case rel => exact ⟨i + 1, by go_num, by omega, trivial⟩
      case measure => simp [intOf]; omega
    · obtain rfl : i = N := by omega
      go_wp2_with (go_at_call 35; refine (HZ.out w).mono ?_; rintro e wx ⟨rfl, rfl⟩)
      go_ret
      exact ⟨rfl, rfl⟩
/-- A document's sender in block g, its truths in block l. -/
structure Rs (w : World) (d g l : Nat) (bs : List Int) (N b p : Nat) (z : Bool) : Prop where
  ex : ∃ A c, w.heap[g]? = some (.cells #[.slice A bs.length c, .slice (some ⟨l, 0, none⟩) N N, .int .i64 p, .bool z] 69 (0, 0)) ∧ RI .u8 w A bs ∧ (∀ a, A = some a → 0 < bs.length → a.block < d) ∧ bs.length ≤ c ∧ c ≤ maxLen ∧ (A = none → c = 0)
  row : w.heap[l]? = some (.cells (TV (bitsL N b)).toArray 4 (0, 0))
  dl : d ≤ l
  ne : l < g
  right : rB N b = true
  num : N = (bs.length + 63) / 64
  size : bs.length ≤ 4096
  at64 : p ≤ 64
section
variable {w : World} {d g l : Nat} {bs : List Int} {N b p : Nat} {z : Bool}
theorem Rs.lt (h : Rs w d g l bs N b p z) : g < w.heap.size := by
  obtain ⟨A, c, hh, _⟩ := h.ex
  exact lt_of_block hh
theorem Rs.below {w' : World} (h : Rs w d g l bs N b p z) (hb : Below w.heap.size w w') : Rs w' d g l bs N b p z := by
  obtain ⟨A, c, hh, hr, h3⟩ := h.ex
  exact ⟨⟨A, c, (hb.block g h.lt).trans hh, hr.below hb, h3⟩, (hb.block l (Nat.lt_trans h.ne h.lt)).trans h.row, h.dl, h.ne, h.right, h.num, h.size, h.at64⟩
theorem Rs.drew (h : Rs w d g l bs N b p z) : Rs w.drew d g l bs N b p z := by
  obtain ⟨A, c, hh, hr, h3⟩ := h.ex
  exact ⟨⟨A, c, hh, hr, h3⟩, h.row, h.dl, h.ne, h.right, h.num, h.size, h.at64⟩
theorem Rs.c0 (h : Rs w d g l bs N b p z) : ∃ A c, w.cell? ⟨g, 0, none⟩ = some (.slice A bs.length c) ∧ RI .u8 w A bs ∧ bs.length ≤ c ∧ c ≤ maxLen ∧ (A = none → c = 0) := by
  obtain ⟨A, c, hh, hr, _, h3⟩ := h.ex
  exact ⟨A, c, by simp [World.cell?, hh], hr, h3⟩
theorem Rs.c1 (h : Rs w d g l bs N b p z) : w.cell? ⟨g, 1, none⟩ = some (.slice (some ⟨l, 0, none⟩) N N) := by
  obtain ⟨A, c, hh, _⟩ := h.ex
  simp [World.cell?, hh]
theorem Rs.c2 (h : Rs w d g l bs N b p z) : w.cell? ⟨g, 2, none⟩ = some (.int .i64 p) := by
  obtain ⟨A, c, hh, _⟩ := h.ex
  simp [World.cell?, hh]
theorem Rs.c3 (h : Rs w d g l bs N b p z) : w.cell? ⟨g, 3, none⟩ = some (.bool z) := by
  obtain ⟨A, c, hh, _⟩ := h.ex
  simp [World.cell?, hh]
theorem Rs.free (h : Rs w d g l bs N b p z) (i : Nat) : w.frozen? ⟨g, i, none⟩ = false := by
  obtain ⟨A, c, hh, _⟩ := h.ex
  exact frozen_of_row w g i _ _ hh
theorem Rs.bit (h : Rs w d g l bs N b p z) {i : Nat} (hi : i < N) : w.cell? ⟨l, i, none⟩ = some (.bool (b.testBit i)) := by
  rw [cell_of_row w l i _ _ _ h.row, List.getElem?_toArray, TV_getElem (by rw [bitsL_len]; exact hi), bitsL_at hi]
theorem Rs.n64 (h : Rs w d g l bs N b p z) : N ≤ 64 := by have := h.num; have := h.size; omega
theorem RI.away {w' : World} {A : Option Addr} {k : Nat} (h : RI .u8 w A bs) (hA : ∀ a, A = some a → 0 < bs.length → a.block < k) (ho : Only k w w') : RI .u8 w' A bs := fun hp => by
  obtain ⟨b, off, e, hlt, hc⟩ := h hp
  have hb : b ≠ k := by have := hA _ e hp; simp at this; omega
  exact ⟨b, off, e, Nat.lt_of_lt_of_le hlt ho.size, fun i hi => (World.cell?_of_block (ho.block b hlt hb)).trans (hc i hi)⟩
theorem Rs.s2 (h : Rs w d g l bs N b p z) {p' : Nat} (hp : p' ≤ 64) : Rs (w.setCell ⟨g, 2, none⟩ (.int .i64 p')) d g l bs N b p' z := by
  obtain ⟨A, c, hh, hr, h0, h3⟩ := h.ex
  have ho := OnlyCell (g := g) w 2 (.int .i64 p')
  exact ⟨⟨A, c, by rw [heap_setCell_same w g 2 _ _ _ hh]; rfl, hr.away (fun a ha hb => Nat.lt_of_lt_of_le (h0 a ha hb) (Nat.le_trans h.dl (Nat.le_of_lt h.ne))) ho, h0, h3⟩, (ho.block l (Nat.lt_trans h.ne h.lt) (by have := h.ne; omega)).trans h.row, h.dl, h.ne, h.right, h.num, h.size, hp⟩
theorem Rs.s3 (h : Rs w d g l bs N b p z) (z' : Bool) : Rs (w.setCell ⟨g, 3, none⟩ (.bool z')) d g l bs N b p z' := by
  obtain ⟨A, c, hh, hr, h0, h3⟩ := h.ex
  have ho := OnlyCell (g := g) w 3 (.bool z')
  exact ⟨⟨A, c, by rw [heap_setCell_same w g 3 _ _ _ hh]; rfl, hr.away (fun a ha hb => Nat.lt_of_lt_of_le (h0 a ha hb) (Nat.le_trans h.dl (Nat.le_of_lt h.ne))) ho, h0, h3⟩, (ho.block l (Nat.lt_trans h.ne h.lt) (by have := h.ne; omega)).trans h.row, h.dl, h.ne, h.right, h.num, h.size, h.at64⟩
set_option maxHeartbeats 1000000 in
theorem rleft_sd (h : Rs w d g l bs N b p z) : Calls Tryd.prog 21 #[.pointer (some ⟨g, 0, none⟩)] w fun e w' => e = .returned (.int .i64 (lfS z N b : Nat)) ∧ w = w' := by
  have c1 := h.c1
  have c3 := h.c3
  have hn := h.n64
  have HB := Lib.hid (fun i (hi : i < N) => h.bit hi)
  have HLF := Lib.hid (fun (_ : Unit) => show lfS z N b = if z = true then 0 else N - cntB N b from rfl)
  clear h
  cases z
  · go_enter Tryd.func21, Tryd.ntmps21
    go_wp2
    go_loopw [3, 4] (fun mv iv wr => ∃ i m : Nat, mv = .int .i64 m ∧ iv = .int .i64 i ∧ i ≤ N ∧ m ≤ i ∧ Hid (i - cntB i b = m) ∧ w = wr) (fun _ iv _ => N - (intOf iv).toNat)
    case atStart => exact ⟨0, 0, rfl, rfl, by omega, by omega, Lib.hid rfl, rfl⟩
    case round =>
      obtain ⟨i, m, rfl, rfl, hi, hm, HM, rfl⟩ := hrel
      by_cases hin : i < N
      · have d1 : decide ((i : Int) < (N : Int)) = true := by simp; omega
        have d2 : decide (i < N) = true := by simp; omega
        have g1 : (0 : Int) ≤ (i : Int) := by omega
        have g2 : (i : Int) < (N : Int) := by omega
        have cb := HB.out i hin
        have w1 : IntKind.i64.wrap ((i : Int) + 1) = (i : Int) + 1 := IntWalk.i64_in _ (by omega)
        have w2 : IntKind.i64.wrap ((m : Int) + 1) = (m : Int) + 1 := IntWalk.i64_in _ (by omega)
        obtain ⟨x, hx⟩ : ∃ x, b.testBit i = x := ⟨_, rfl⟩
        have hle := cntB_le i b
        have HN := Lib.hid (fun (_ : Unit) => show (i + 1) - cntB (i + 1) b = m + (if x = true then 0 else 1) from by
          have := HM.out
          conv => lhs; unfold cntB
          rw [hx]
          split <;> omega)
        rw [hx] at cb
        clear hx hle
        cases x
        · go_wp2
          go_roundw
          case rel => exact ⟨i + 1, m + 1, by go_num, by go_num, by omega, by omega, Lib.hid (HN.out ()), trivial⟩
          case measure => simp [intOf]; omega
        · go_wp2
          go_roundw
          case rel => exact ⟨i + 1, m, rfl, by go_num, by omega, by omega, Lib.hid (HN.out ()), trivial⟩
          case measure => simp [intOf]; omega
      · have d1 : decide ((i : Int) < (N : Int)) = false := by simp; omega
        have d2 : decide (i < N) = false := by simp; omega
        have HF := Lib.hid (show lfS false N b = m from by
          rw [HLF.out (), if_neg (by decide), ← HM.out, show i = N by omega])
        clear HM HLF
        go_wp2
        rw [HF.out]
        go_ret
        exact ⟨rfl, rfl⟩
  · go_enter Tryd.func21, Tryd.ntmps21
    go_wp2
    go_loopw [3, 4] (fun mv iv wr => mv = .int .i64 0 ∧ iv = .int .i64 0 ∧ w = wr) (fun _ _ _ => 0)
    case atStart => exact ⟨rfl, rfl, rfl⟩
    case round =>
      obtain ⟨rfl, rfl, rfl⟩ := hrel
      clear HB
      by_cases hin : 0 < N
      · have d1 : decide ((0 : Int) < (N : Int)) = true := by simp; omega
        have d2 : decide (0 < N) = true := by simp; omega
        go_wp2
        go_ret
        exact ⟨by rw [HLF.out ()]; rfl, rfl⟩
      · have d1 : decide ((0 : Int) < (N : Int)) = false := by simp; omega
        have d2 : decide (0 < N) = false := by simp; omega
        go_wp2
        go_ret
        exact ⟨by rw [HLF.out ()]; rfl, rfl⟩
theorem rstate_sd (h : Rs w d g l bs N b p z) : Calls Tryd.prog 23 #[.pointer (some ⟨g, 0, none⟩)] w fun e w' => e = .returned (.int .i64 (stS z N b)) ∧ w = w' := by
  have c3 := h.c3
  have HL := Lib.hid (rleft_sd h)
  have HLN := Lib.hid (left_none h.right)
  clear h
  cases z
  · obtain ⟨m, hm⟩ : ∃ m, lfS false N b = m := ⟨_, rfl⟩
    rw [hm] at HL HLN
    clear hm
    by_cases h0 : m = 0
    · have HS := Lib.hid (show stS false N b = 2 from by unfold stS; rw [if_neg (by decide), if_pos (HLN.out.1 h0)])
      subst h0
      clear HLN
      go_enter Tryd.func23, Tryd.ntmps23
      go_wp2_with (go_at_call 21; refine HL.out.mono ?_; rintro e wx ⟨rfl, rfl⟩)
      rw [HS.out]
      go_ret
      exact ⟨rfl, rfl⟩
    · have HS := Lib.hid (show stS false N b = 0 from by unfold stS; rw [if_neg (by decide), if_neg (fun e => h0 (HLN.out.2 e))])
      have q0 : ((m : Int) == 0) = false := by simp; omega
      clear HLN
      go_enter Tryd.func23, Tryd.ntmps23
      go_wp2_with (go_at_call 21; refine HL.out.mono ?_; rintro e wx ⟨rfl, rfl⟩)
      rw [HS.out]
      go_ret
      exact ⟨rfl, rfl⟩
  · have HS := Lib.hid (show stS true N b = 1 from by unfold stS; rw [if_pos rfl])
    go_enter Tryd.func23, Tryd.ntmps23
    go_wp2
    rw [HS.out]
    go_ret
    exact ⟨rfl, rfl⟩
theorem rcancel_no (h : Rs w d g l bs N b p z) (hz : stS z N b ≠ 0) : Calls Tryd.prog 19 #[.pointer (some ⟨g, 0, none⟩)] w fun e w' => e = .returned (.int .i64 7) ∧ w = w' := by
  have HT := Lib.hid (rstate_sd h)
  obtain ⟨s, hs⟩ : ∃ s, stS z N b = s := ⟨_, rfl⟩
  rw [hs] at HT hz
  have e0 : (s != 0) = true := by simp [hz]
  have e1 : (s == 0) = false := by simp [hz]
  clear h hz hs
  go_enter Tryd.func19, Tryd.ntmps19
  go_wp2_with (go_at_call 23; refine HT.out.mono ?_; rintro e wx ⟨rfl, rfl⟩)
  go_ret
  exact ⟨rfl, rfl⟩
theorem rcancel_yes (h : Rs w d g l bs N b p z) (hz : stS z N b = 0) : Calls Tryd.prog 19 #[.pointer (some ⟨g, 0, none⟩)] w fun e w' => e = .returned (.int .i64 0) ∧ Rs w' d g l bs N b p true ∧ Only g w w' := by
  have HT := Lib.hid (rstate_sd h)
  rw [hz] at HT
  have c3 := h.c3
  have f3 := h.free 3
  have HS := Lib.hid (h.s3 true)
  have HO := Lib.hid (OnlyCell (g := g) w 3 (.bool true))
  clear h hz
  go_enter Tryd.func19, Tryd.ntmps19
  go_wp2_with (go_at_call 23; refine HT.out.mono ?_; rintro e wx ⟨rfl, rfl⟩)
  go_ret
  exact ⟨rfl, HS.out, HO.out⟩
end
end Go.Proofs.YtdlhpmbgpjjkoaaDoor
