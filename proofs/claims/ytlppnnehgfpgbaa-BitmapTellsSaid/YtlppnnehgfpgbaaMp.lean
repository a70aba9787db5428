/-
  Proved here: of the document's maps: Count; BitmapTells, of a first map that may not be.
-/
import Derived.Test.YtlppnnehgfpgbaaMo
import Derived.Test.YtlppnnehgfpgbaaMj
import Derived.Laws.OwnMore
set_option linter.unusedSimpArgs false
set_option linter.unusedVariables false
namespace Go.Proofs.Ytlppnnehgfpgbaa
open Go.RowKit
theorem rcount_any {k b : Nat} (hk : k ≤ 64) {A : Option Addr} {c : Nat} (w : World) (hT : TI w A (bitsL k b)) : Calls Try.prog 31 #[.slice A k c] w fun e w' => e = .returned (.int .i64 (cntB k b)) ∧ w = w' := by
  have HT := Lib.hid hT
  clear hT
  obtain ⟨X, hX⟩ : ∃ X, cntB k b = X := ⟨_, rfl⟩
  have HX := Lib.hid (fun (_ : Unit) => hX)
  rw [hX]
  clear hX
  go_enter Try.func31, Try.ntmps31
  go_wp2
  go_loopw [3, 4] (fun cv iv wr => ∃ j m : Nat, cv = .int .i64 m ∧ iv = .int .i64 j ∧ j ≤ k ∧ m ≤ j ∧ Hid (cntB j b = m) ∧ w = wr) (fun _ iv _ => k - (intOf iv).toNat)
  case atStart => exact ⟨0, 0, rfl, rfl, by omega, by omega, Lib.hid rfl, rfl⟩
  case round =>
    obtain ⟨j, m, rfl, rfl, hj, hm, HC, rfl⟩ := hrel
    by_cases hjk : j < k
    · have d1 : decide ((j : Int) < (k : Int)) = true := by simp; omega
      have d2 : decide (j < k) = true := by simp; omega
      have g1 : (0 : Int) ≤ (j : Int) := by omega
      have g2 : (j : Int) < (k : Int) := by omega
      have w1 : IntKind.i64.wrap ((j : Int) + 1) = (j : Int) + 1 := IntWalk.i64_in _ (by omega)
      have w2 : IntKind.i64.wrap ((m : Int) + 1) = (m : Int) + 1 := IntWalk.i64_in _ (by omega)
      obtain ⟨bl, off, hA, hbl, hc⟩ := HT.out (by rw [bitsL_len]; omega)
      have a0 := hc j (by rw [bitsL_len]; exact hjk)
      rw [bitsL_at hjk] at a0
      subst hA
      obtain ⟨x, hx⟩ : ∃ x, b.testBit j = x := ⟨_, rfl⟩
      have HN := Lib.hid (fun (_ : Unit) => show cntB (j + 1) b = m + (if x = true then 1 else 0) from by
        conv => lhs; unfold cntB
        rw [HC.out, hx])
      rw [hx] at a0
      clear hx hc
      cases x
      · go_wp2
        go_roundw
        case rel => exact ⟨j + 1, m, rfl, by go_num, by omega, by omega, Lib.hid (HN.out ()), by first | trivial | rfl⟩
        case measure => simp [intOf]; omega
      · go_wp2
        go_roundw
        case rel => exact ⟨j + 1, m + 1, by go_num, by go_num, by omega, by omega, Lib.hid (HN.out ()), by first | trivial | rfl⟩
        case measure => simp [intOf]; omega
    · have d1 : decide ((j : Int) < (k : Int)) = false := by simp; omega
      have d2 : decide (j < k) = false := by simp; omega
      obtain rfl : j = k := by omega
      obtain rfl : m = X := by rw [← HC.out]; exact HX.out ()
      go_wp2
      go_ret
      exact ⟨rfl, rfl⟩
theorem misL_mono : ∀ {m j b : Nat}, j ≤ m → ∃ t, misL m b = misL j b ++ t
  | 0, j, b, h => ⟨[], by rw [show j = 0 by omega]; simp⟩
  | m + 1, j, b, h => by
    rcases Nat.lt_or_ge j (m + 1) with h1 | h1
    · obtain ⟨t, ht⟩ := misL_mono (b := b) (show j ≤ m by omega)
      refine ⟨t ++ (if b.testBit m = true then [] else [(m : Int)]), ?_⟩
      conv => lhs; unfold misL
      rw [ht, List.append_assoc]
    · obtain rfl : j = m + 1 := by omega
      exact ⟨[], by simp⟩
theorem misL_at {k j b : Nat} (hj : j < k) (h : b.testBit j = false) : (misL j b).length < (misL k b).length ∧ (misL k b).getD (misL j b).length 0 = (j : Int) := by
  obtain ⟨t, ht⟩ := misL_mono (b := b) (show j + 1 ≤ k by omega)
  have h1 : misL (j + 1) b = misL j b ++ [(j : Int)] := by
    conv => lhs; unfold misL
    rw [h]; rfl
  rw [ht, h1]
  refine ⟨by simp, ?_⟩
  simp [List.getD]
theorem TI.store {w : World} {A : Option Addr} {ys : List Bool} (h : TI w A ys) {g t : Nat} {v : Value} (hne : ∀ b o, A = some ⟨b, o, none⟩ → b ≠ g) : TI (w.setCell ⟨g, t, none⟩ v) A ys := fun hp => by
  obtain ⟨b, off, e, hlt, hc⟩ := h hp
  have hb := hne b off e
  exact ⟨b, off, e, by simpa using hlt, fun i hi => (World.cell?_of_block (heap_setCell_other w ⟨g, t, none⟩ b v hb)).trans (hc i hi)⟩
theorem TV_set (l : List Bool) (i : Nat) (y : Bool) : (TV l).set i (.bool y) = TV (l.set i y) := by simp [TV, List.map_set]
theorem OwnB.store {U w : World} {g n c : Nat} {l : List Bool} (h : OwnB U (.slice (some ⟨g, 0, none⟩) n c) l w) (hn : l.length = n) (t : Nat) (y : Bool) (hg : U.heap.size ≤ g) : OwnB U (.slice (some ⟨g, 0, none⟩) n c) (l.set t y) (w.setCell ⟨g, t, none⟩ (.bool y)) := by
  subst hn
  refine ⟨?_, below_cell h.below hg t (.bool y)⟩
  have := (h.own.stored t (.bool y)).1
  rw [TV_set] at this
  simpa using this
def midL (k a c j : Nat) : List Bool := (List.range k).map fun i => if i < j then (a ||| c).testBit i else a.testBit i
theorem midL_len (k a c j : Nat) : (midL k a c j).length = k := by simp [midL]
theorem midL_zero (k a c : Nat) : midL k a c 0 = bitsL k a := by simp [midL, bitsL]
theorem midL_all (k a c : Nat) : midL k a c k = bitsL k (a ||| c) := by
  refine List.ext_getElem (by simp [midL, bitsL]) fun i h1 h2 => ?_
  have hi : i < k := by simpa [midL] using h1
  simp [midL, bitsL, hi]
theorem midL_at {k a c j : Nat} (h : j < k) : (midL k a c j).getD j false = a.testBit j := by simp [midL, List.getD, h]
theorem midL_set {k a c j : Nat} (h : j < k) : (midL k a c j).set j ((a ||| c).testBit j) = midL k a c (j + 1) := by
  refine List.ext_getElem (by simp [midL]) fun i h1 h2 => ?_
  have hi : i < k := by simpa [midL] using h2
  rw [List.getElem_set]
  by_cases e : j = i
  · subst e; simp [midL]
  · rw [if_neg e]
    simp only [midL, List.getElem_map, List.getElem_range]
    by_cases h3 : i < j
    · rw [if_pos h3, if_pos (by omega)]
    · rw [if_neg h3, if_neg (by omega)]
set_option maxRecDepth 100000 in
set_option maxHeartbeats 16000000 in
theorem tells_bad {n n2 : Int} {b b2 : Nat} (hb : b < 18446744073709551616) (hb2 : b2 < 18446744073709551616) (i : Int) (hr : rB n b = false) (w : World) : Calls Try.prog 6 #[mV n b, mV n2 b2, .int .i64 i] w fun e w' => e = .returned (.bool true) ∧ Below w.heap.size w w' := by
  have HO1 := Lib.hid (fun W => rof_any n hb W)
  have HO2 := Lib.hid (fun W => rof_any n2 hb2 W)
  have HRT := Lib.hid (fun W => right_any n hb W)
  have HW := Lib.hid (fun W => with_bad hb (i := i) hr W)
  have HOR := Lib.hid (fun W => or_bad1 (m := n2) hb hb2 hr W)
  have HCN := Lib.hid (fun W => mcount_any n hb W)
  have HMS := Lib.hid (fun W => missing_any n hb W)
  have HFL := Lib.hid (fun W => full_any n hb W)
  have HHS := Lib.hid (fun W => has_any n hb i W)
  rw [hr] at HO1 HRT
  rw [cntS_bad hr] at HCN
  rw [misS_bad hr] at HMS
  rw [fullB_bad hr] at HFL
  rw [hB_bad hr] at HHS
  unfold MPost at HW HOR
  unfold mV at HRT HW HOR HCN HMS HFL HHS ⊢
  have HM0 := Lib.hid ((MB.new w n b).alloc (.cells #[.int .i64 n2, .int .u64 b2] 56))
  have HN0 := Lib.hid (show MB ((w.alloc (.cells #[.int .i64 n, .int .u64 b] 56)).alloc (.cells #[.int .i64 n2, .int .u64 b2] 56)) (w.heap.size + 1) n2 b2 from by
    have := MB.new (w.alloc (.cells #[.int .i64 n, .int .u64 b] 56)) n2 b2
    rwa [show (w.alloc (.cells #[.int .i64 n, .int .u64 b] 56)).heap.size = w.heap.size + 1 by simp] at this)
  have HB0 := Lib.hid (Bal (Bal (Below.refl w.heap.size w) (.cells #[.int .i64 n, .int .u64 b] 56)) (.cells #[.int .i64 n2, .int .u64 b2] 56))
  clear hb hb2 hr
  go_enter Try.func6, Try.ntmps6
  go_upto_region 1 with fail
  obtain ⟨U, hU⟩ : ∃ U, (w.alloc (.cells #[.int .i64 n, .int .u64 b] 56)).alloc (.cells #[.int .i64 n2, .int .u64 b2] 56) = U := ⟨_, rfl⟩
  rw [hU] at HM0 HN0 HB0 ⊢
  clear hU
  have HM := HM0
  have HN := HN0
  have HB := HB0
  clear HM0 HN0 HB0
  have c0 := HM.out.c0
  have c1 := HM.out.c1
  have e0 := HN.out.c0
  have e1 := HN.out.c1
  go_wp2_with fail
  refine (HO1.out _).mono ?_
  rintro e wn ⟨v1, rfl, h1⟩
  have HM := Lib.hid (HM.out.below h1.below)
  have HN := Lib.hid (HN.out.below h1.below)
  have HB := Lib.hid (Bto HB.out h1.below)
  clear h1
  clear c0 c1 e0 e1
  have c0 := HM.out.c0
  have c1 := HM.out.c1
  have e0 := HN.out.c0
  have e1 := HN.out.c1
  go_wp2_with fail
  refine (HO2.out _).mono ?_
  rintro e wn ⟨v2, rfl, h2⟩
  have HM := Lib.hid (HM.out.below h2.below)
  have HN := Lib.hid (HN.out.below h2.below)
  have HB := Lib.hid (Bto HB.out h2.below)
  clear h2
  clear c0 c1 e0 e1
  have c0 := HM.out.c0
  have c1 := HM.out.c1
  have e0 := HN.out.c0
  have e1 := HN.out.c1
  go_wp2_with fail
  refine (HRT.out _).mono ?_
  rintro e wn ⟨rfl, h3⟩
  have HM := Lib.hid (HM.out.below h3)
  have HN := Lib.hid (HN.out.below h3)
  have HB := Lib.hid (Bto HB.out h3)
  clear h3
  clear c0 c1 e0 e1
  have c0 := HM.out.c0
  have c1 := HM.out.c1
  have e0 := HN.out.c0
  have e1 := HN.out.c1
  go_wp2_with fail
  refine (HW.out _).mono ?_
  rintro e wn ⟨rfl, hy⟩
  have hal := (Below.refl wn.heap.size wn).alloc (Nat.le_refl _) (.cells #[.int .i64 0, .int .u64 0] 56)
  have HM := Lib.hid ((HM.out.below hy).below hal)
  have HN := Lib.hid ((HN.out.below hy).below hal)
  have HB := Lib.hid (Bto (Bto HB.out hy) hal)
  have HX0 := Lib.hid (MB.new wn 0 0)
  clear hy hal c0 c1 e0 e1
  have c0 := HM.out.c0
  have c1 := HM.out.c1
  have e0 := HN.out.c0
  have e1 := HN.out.c1
  go_wp2_with fail
  refine (HOR.out _).mono ?_
  rintro e wn ⟨rfl, hy⟩
  have hal := (Below.refl wn.heap.size wn).alloc (Nat.le_refl _) (.cells #[.int .i64 0, .int .u64 0] 56)
  have HM := Lib.hid ((HM.out.below hy).below hal)
  have HN := Lib.hid ((HN.out.below hy).below hal)
  have HB := Lib.hid (Bto (Bto HB.out hy) hal)
  have HX0 := Lib.hid (MB.new wn 0 0)
  clear hy hal c0 c1 e0 e1
  have c0 := HM.out.c0
  have c1 := HM.out.c1
  have e0 := HN.out.c0
  have e1 := HN.out.c1
  go_wp2_with fail
  refine (alive_any _).mono ?_
  rintro e wn ⟨rfl, h4⟩
  have HM := Lib.hid (HM.out.below h4)
  have HN := Lib.hid (HN.out.below h4)
  have HB := Lib.hid (Bto HB.out h4)
  clear h4
  clear c0 c1 e0 e1
  have c0 := HM.out.c0
  have c1 := HM.out.c1
  have e0 := HN.out.c0
  have e1 := HN.out.c1
  go_wp2_with fail
  refine (HCN.out _).mono ?_
  rintro e wn ⟨rfl, h5⟩
  have HM := Lib.hid (HM.out.below h5)
  have HN := Lib.hid (HN.out.below h5)
  have HB := Lib.hid (Bto HB.out h5)
  clear h5
  clear c0 c1 e0 e1
  have c0 := HM.out.c0
  have c1 := HM.out.c1
  have e0 := HN.out.c0
  have e1 := HN.out.c1
  go_wp2_with fail
  refine (HMS.out _).mono ?_
  rintro e wn ⟨v6, rfl, h6⟩
  have HM := Lib.hid (HM.out.below h6.below)
  have HN := Lib.hid (HN.out.below h6.below)
  have HB := Lib.hid (Bto HB.out h6.below)
  obtain ⟨A6, c6, rfl, _⟩ := own_slice h6.own
  clear h6
  clear c0 c1 e0 e1
  have c0 := HM.out.c0
  have c1 := HM.out.c1
  have e0 := HN.out.c0
  have e1 := HN.out.c1
  go_wp2_with fail
  refine (HFL.out _).mono ?_
  rintro e wn ⟨rfl, h7⟩
  have HM := Lib.hid (HM.out.below h7)
  have HN := Lib.hid (HN.out.below h7)
  have HB := Lib.hid (Bto HB.out h7)
  clear h7
  clear c0 c1 e0 e1
  have c0 := HM.out.c0
  have c1 := HM.out.c1
  have e0 := HN.out.c0
  have e1 := HN.out.c1
  go_wp2_with fail
  refine (HHS.out _).mono ?_
  rintro e wn ⟨rfl, h8⟩
  have HB := Lib.hid (Bto HB.out h8)
  clear h8 c0 c1 e0 e1
  go_wp2
  go_ret
  exact ⟨rfl, HB.out⟩
end Go.Proofs.Ytlppnnehgfpgbaa
