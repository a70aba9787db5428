/-
  Proved here: BitmapFills.
-/
import Derived.Test.YtlppnnehgfpgbaaMj
set_option linter.unusedSimpArgs false
set_option linter.unusedVariables false
namespace Go.Proofs.Ytlppnnehgfpgbaa
open Go.RowKit
theorem u8_and63 {a : Nat} (h : a < 256) : bits .and .u8 (a : Int) 63 = ((a % 64 : Nat) : Int) := by
  unfold bits
  have hv : ∀ v : BitVec 8, IntKind.u8.wrap (v.toNat : Int) = (v.toNat : Int) := by
    intro v
    have := v.isLt
    simp [IntKind.wrap, IntKind.bits, IntKind.signed]
    omega
  refine (hv _).trans ?_
  have e : (BitVec.ofInt 8 (a : Int) &&& BitVec.ofInt 8 63).toNat = a % 64 := by
    rw [BitVec.toNat_and]
    have e1 : (BitVec.ofInt 8 (a : Int)).toNat = a := by simp; omega
    have e2 : (BitVec.ofInt 8 63).toNat = 2 ^ 6 - 1 := by decide
    rw [e1, e2, Nat.and_two_pow_sub_one_eq_mod]
  exact congrArg Int.ofNat e
theorem cntB_far {n b : Nat} (hb : b < 2 ^ n) : ∀ m, n ≤ m → cntB m b = cntB n b
  | 0, h => by rw [show n = 0 by omega]
  | m + 1, h => by
    rcases Nat.lt_or_ge n (m + 1) with h1 | h1
    · conv => lhs; unfold cntB
      rw [cntB_far hb m (by omega), bit_far hb (by omega)]
      rfl
    · rw [show m + 1 = n by omega]
theorem bitsL_set {b k : Nat} (hk : k < 64) : bitsL 64 (b ||| 2 ^ k) = (bitsL 64 b).set k true := by
  refine List.ext_getElem (by simp [bitsL]) fun i h1 h2 => ?_
  have hi : i < 64 := by simpa [bitsL] using h1
  simp only [bitsL, List.getElem_map, List.getElem_range, List.getElem_set, Nat.testBit_or, Nat.testBit_two_pow]
  by_cases h : k = i
  · simp [h]
  · simp [h]
/-- Sixty-four truths in a block of their own. -/
def CB (w : World) (g : Nat) (L : List Bool) : Prop := w.heap[g]? = some (.cells (TV L).toArray 76 (0, 0))
theorem CB.cell {w : World} {g : Nat} {L : List Bool} (h : CB w g L) {i : Nat} (hi : i < L.length) : w.cell? ⟨g, i, none⟩ = some (.bool (L.getD i false)) := by
  unfold CB at h; simp [World.cell?, h, List.getD, hi]
theorem CB.free {w : World} {g : Nat} {L : List Bool} (h : CB w g L) (i : Nat) : w.frozen? ⟨g, i, none⟩ = false := frozen_of_row w g i _ _ h
theorem CB.lt {w : World} {g : Nat} {L : List Bool} (h : CB w g L) : g < w.heap.size := lt_of_block h
theorem CB.below {w w' : World} {g : Nat} {L : List Bool} (h : CB w g L) (hb : Below w.heap.size w w') : CB w' g L := (hb.block g h.lt).trans h
theorem CB.set {w : World} {g : Nat} {L : List Bool} (h : CB w g L) (i : Nat) (x : Bool) : CB (w.setCell ⟨g, i, none⟩ (.bool x)) g (L.set i x) := by
  unfold CB at h ⊢; rw [heap_setCell_same w g i _ _ _ h]; simp [TV, List.map_set]
theorem CB.far {w : World} {g : Nat} {L : List Bool} (h : CB w g L) (k i : Nat) (v : Value) (hk : g ≠ k) : CB (w.setCell ⟨k, i, none⟩ v) g L := (heap_setCell_other w ⟨k, i, none⟩ g v hk).trans h
abbrev SK (U : World) (g : Nat) (n B : Int) (j : Nat) (x : Bool) (W : World) : Prop := W.cell? ⟨g, 0, none⟩ = some (.int .i64 n) ∧ W.cell? ⟨g, 1, none⟩ = some (.int .u64 B) ∧ W.cell? ⟨g + 1, j, none⟩ = some (.bool x) ∧ Hid (Below U.heap.size U W)
theorem SK.of {U : World} {g j : Nat} {n B : Int} {x : Bool} {W : World} (hm : Hid (MB U g n B)) (hc : Hid (g + 1 < U.heap.size ∧ U.cell? ⟨g + 1, j, none⟩ = some (.bool x))) (h : Hid (Below U.heap.size U W)) : SK U g n B j x W :=
  ⟨(hm.out.below h.out).c0, (hm.out.below h.out).c1, (h.out.cell (p := ⟨g + 1, j, none⟩) hc.out.1).trans hc.out.2, h⟩
theorem SK.last {U : World} {g j : Nat} {n B : Int} {x : Bool} {W : World} (h : SK U g n B j x W) : Below U.heap.size U W := h.2.2.2.out
theorem SK.to {U : World} {g j : Nat} {n B : Int} {x : Bool} {W W' : World} (hm : Hid (MB U g n B)) (hc : Hid (g + 1 < U.heap.size ∧ U.cell? ⟨g + 1, j, none⟩ = some (.bool x))) (hb : Below W.heap.size W W') (h : SK U g n B j x W) : SK U g n B j x W' := SK.of hm hc (Lib.hid (h.last.trans (hb.mono h.last.size)))
set_option maxRecDepth 100000 in
set_option maxHeartbeats 16000000 in
theorem fills_any {nb : Nat} (hnb : nb < 256) {zs : List Int} (hz8 : isB8 zs) {A : Option Addr} {N cap : Nat} (hl : zs.length = N) (hc : N ≤ cap) (hcm : cap ≤ maxLen) (w : World) (hR : RI .u8 w A zs) :
    Calls Try.prog 8 #[.int .u8 nb, .slice A N cap] w fun e w' => e = .returned (.bool true) ∧ Below w.heap.size w w' := by
  obtain ⟨n, hn⟩ : ∃ n, nb % 64 = n := ⟨_, rfl⟩
  have hn64 : n < 64 := by omega
  have HA := Lib.hid (u8_and63 hnb)
  rw [hn] at HA
  have w0 : IntKind.i64.wrap (n : Int) = (n : Int) := IntWalk.i64_in _ (by omega)
  have HNW := Lib.hid (show ∀ W : World, Calls Try.prog 37 #[.int .i64 n] W fun e w' => e = .returned (.tuple #[.agg #[.int .i64 n, .int .u64 0], .int .i64 0]) ∧ Below W.heap.size W w' from fun W => (new_yes (n := n) ⟨by omega, by omega⟩ W).mono fun _ _ h => h)
  have HRI := Lib.hid hR
  have HZ := Lib.hid hz8
  have HL := Lib.hid hl
  have wA := HA.out
  have hNm : N ≤ 9223372036854775807 := by unfold maxLen at hcm; omega
  clear hR hz8 hl hn
  go_enter Try.func8, Try.ntmps8
  go_wp2_with fail
  refine (HNW.out _).mono ?_
  rintro e w1 ⟨rfl, h1⟩
  have HB0 := Lib.hid (Bal (Bal h1 (.cells #[.int .i64 n, .int .u64 0] 56)) (.cells #[.bool false, .bool false, .bool false, .bool false, .bool false, .bool false, .bool false, .bool false, .bool false, .bool false, .bool false, .bool false, .bool false, .bool false, .bool false, .bool false, .bool false, .bool false, .bool false, .bool false, .bool false, .bool false, .bool false, .bool false, .bool false, .bool false, .bool false, .bool false, .bool false, .bool false, .bool false, .bool false, .bool false, .bool false, .bool false, .bool false, .bool false, .bool false, .bool false, .bool false, .bool false, .bool false, .bool false, .bool false, .bool false, .bool false, .bool false, .bool false, .bool false, .bool false, .bool false, .bool false, .bool false, .bool false, .bool false, .bool false, .bool false, .bool false, .bool false, .bool false, .bool false, .bool false, .bool false, .bool false] 76))
  have HM0 := Lib.hid ((MB.new w1 n 0).alloc (.cells #[.bool false, .bool false, .bool false, .bool false, .bool false, .bool false, .bool false, .bool false, .bool false, .bool false, .bool false, .bool false, .bool false, .bool false, .bool false, .bool false, .bool false, .bool false, .bool false, .bool false, .bool false, .bool false, .bool false, .bool false, .bool false, .bool false, .bool false, .bool false, .bool false, .bool false, .bool false, .bool false, .bool false, .bool false, .bool false, .bool false, .bool false, .bool false, .bool false, .bool false, .bool false, .bool false, .bool false, .bool false, .bool false, .bool false, .bool false, .bool false, .bool false, .bool false, .bool false, .bool false, .bool false, .bool false, .bool false, .bool false, .bool false, .bool false, .bool false, .bool false, .bool false, .bool false, .bool false, .bool false] 76))
  have HC0 := Lib.hid (show CB ((w1.alloc (.cells #[.int .i64 n, .int .u64 0] 56)).alloc (.cells #[.bool false, .bool false, .bool false, .bool false, .bool false, .bool false, .bool false, .bool false, .bool false, .bool false, .bool false, .bool false, .bool false, .bool false, .bool false, .bool false, .bool false, .bool false, .bool false, .bool false, .bool false, .bool false, .bool false, .bool false, .bool false, .bool false, .bool false, .bool false, .bool false, .bool false, .bool false, .bool false, .bool false, .bool false, .bool false, .bool false, .bool false, .bool false, .bool false, .bool false, .bool false, .bool false, .bool false, .bool false, .bool false, .bool false, .bool false, .bool false, .bool false, .bool false, .bool false, .bool false, .bool false, .bool false, .bool false, .bool false, .bool false, .bool false, .bool false, .bool false, .bool false, .bool false, .bool false, .bool false] 76)) (w1.heap.size + 1) (bitsL 64 0) from by
    have := heap_alloc_new (w1.alloc (.cells #[.int .i64 n, .int .u64 0] 56)) (.cells #[.bool false, .bool false, .bool false, .bool false, .bool false, .bool false, .bool false, .bool false, .bool false, .bool false, .bool false, .bool false, .bool false, .bool false, .bool false, .bool false, .bool false, .bool false, .bool false, .bool false, .bool false, .bool false, .bool false, .bool false, .bool false, .bool false, .bool false, .bool false, .bool false, .bool false, .bool false, .bool false, .bool false, .bool false, .bool false, .bool false, .bool false, .bool false, .bool false, .bool false, .bool false, .bool false, .bool false, .bool false, .bool false, .bool false, .bool false, .bool false, .bool false, .bool false, .bool false, .bool false, .bool false, .bool false, .bool false, .bool false, .bool false, .bool false, .bool false, .bool false, .bool false, .bool false, .bool false, .bool false] 76)
    rwa [show (w1.alloc (.cells #[.int .i64 n, .int .u64 0] 56)).heap.size = w1.heap.size + 1 by simp] at this)
  have hge : w.heap.size ≤ w1.heap.size := h1.size
  clear h1 wA
  go_upto_region 4 with fail
  go_upto_region 5 with fail
  obtain ⟨X, hX⟩ : ∃ X, (w1.alloc (.cells #[.int .i64 n, .int .u64 0] 56)).alloc (.cells #[.bool false, .bool false, .bool false, .bool false, .bool false, .bool false, .bool false, .bool false, .bool false, .bool false, .bool false, .bool false, .bool false, .bool false, .bool false, .bool false, .bool false, .bool false, .bool false, .bool false, .bool false, .bool false, .bool false, .bool false, .bool false, .bool false, .bool false, .bool false, .bool false, .bool false, .bool false, .bool false, .bool false, .bool false, .bool false, .bool false, .bool false, .bool false, .bool false, .bool false, .bool false, .bool false, .bool false, .bool false, .bool false, .bool false, .bool false, .bool false, .bool false, .bool false, .bool false, .bool false, .bool false, .bool false, .bool false, .bool false, .bool false, .bool false, .bool false, .bool false, .bool false, .bool false, .bool false, .bool false] 76) = X := ⟨_, rfl⟩
  obtain ⟨g, hg⟩ : ∃ g, w1.heap.size = g := ⟨_, rfl⟩
  rw [hX] at HB0 HM0 HC0 ⊢
  rw [hg] at HM0 HC0 hge ⊢
  clear hX hg HNW
  go_wp2
  go_loopw [8] (fun iv wr => ∃ i B : Nat, iv = .int .i64 i ∧ i ≤ N ∧ i ≤ 200 ∧ Hid (rB n B = true) ∧ Hid (MB wr g n B) ∧ Hid (CB wr (g + 1) (bitsL 64 B)) ∧ Hid (Below w.heap.size w wr)) (fun iv _ => 200 - (intOf iv).toNat)
  case atStart => exact ⟨0, 0, rfl, by omega, by omega, Lib.hid (rB_zero (by omega)), HM0, HC0, HB0⟩
  case round =>
    obtain ⟨i, B, rfl, hiN, hi2, HRB, HM, HC, HB⟩ := hrel
    clear HM0 HC0 HB0
    by_cases hin : i < N
    · have d1 : decide ((i : Int) < (N : Int)) = true := by simp; omega
      have d2 : decide (i < N) = true := by simp; omega
      by_cases hi200 : i < 200
      · have e1 : decide ((i : Int) < 200) = true := by simp; omega
        have e2 : decide (i < 200) = true := by simp; omega
        obtain ⟨bl, off, rfl, hbl, hcell⟩ := HRI.out (by rw [HL.out]; omega)
        obtain ⟨z, hz⟩ : ∃ z : Nat, zs.getD i 0 = z := ⟨(zs.getD i 0).toNat, by have := HZ.out i; omega⟩
        have hz256 : z < 256 := by have := HZ.out i; omega
        have a0 := (HB.out.cell (p := ⟨bl, off + i, none⟩) hbl).trans (hcell i (by rw [HL.out]; exact hin))
        rw [hz] at a0
        obtain ⟨k, hk⟩ : ∃ k, z % 64 = k := ⟨_, rfl⟩
        have hk64 : k < 64 := by omega
        have wz := u8_and63 hz256
        rw [hk] at wz
        have wk : IntKind.i64.wrap (k : Int) = (k : Int) := IntWalk.i64_in _ (by omega)
        have w1' : IntKind.i64.wrap ((i : Int) + 1) = (i : Int) + 1 := IntWalk.i64_in _ (by omega)
        have g1 : (0 : Int) ≤ (i : Int) := by omega
        have g2 : (i : Int) < (N : Int) := by omega
        have g3 : (0 : Int) ≤ (k : Int) := by omega
        have g4 : (k : Int) < 64 := by omega
        have m0 := HM.out.c0
        have m1 := HM.out.c1
        clear hcell hz hk
        by_cases hkn : k < n
        · have q1 : decide ((k : Int) < (n : Int)) = true := by simp; omega
          have q2 : decide (k < n) = true := by simp; omega
          have HW := Lib.hid (show ∀ W : World, Calls Try.prog 24 #[.agg #[.int .i64 n, .int .u64 B], .int .i64 k] W fun e w' => e = .returned (.tuple #[.agg #[.int .i64 n, .int .u64 (B ||| 2 ^ k : Nat)], .int .i64 0]) ∧ Below W.heap.size W w' from fun W => (with_in (rB_lt HRB.out) (k := k) rfl HRB.out (by omega) W).mono fun _ _ h => h)
          have HRB2 := Lib.hid (show rB n (B ||| 2 ^ k) = true from rB_or HRB.out (by
            rw [rB_in (by omega)]; exact decide_eq_true (Nat.pow_lt_pow_right (by omega) hkn)))
          have HS := Lib.hid (fun (_ : Unit) => bitsL_set (b := B) hk64)
          obtain ⟨B2, hB2⟩ : ∃ B2, B ||| 2 ^ k = B2 := ⟨_, rfl⟩
          rw [hB2] at HW HRB2 HS
          clear hB2
          go_wp2_with fail
          refine (HW.out _).mono ?_
          rintro e wx ⟨rfl, hx⟩
          have hal := (Below.refl wx.heap.size wx).alloc (Nat.le_refl _) (.cells #[.int .i64 n, .int .u64 B2] 56)
          have HB1 := Lib.hid (Bto (Bto HB.out hx) hal)
          have HM1 := Lib.hid ((HM.out.below hx).below hal)
          have HC1 := Lib.hid ((HC.out.below hx).below hal)
          have HN1 := Lib.hid (MB.new wx n B2)
          have hgx : g + 1 < wx.heap.size := (HC.out.below hx).lt
          clear hx hal m0 m1 a0
          go_upto_region 10 with fail
          obtain ⟨Y, hY⟩ : ∃ Y, wx.alloc (.cells #[.int .i64 n, .int .u64 B2] 56) = Y := ⟨_, rfl⟩
          rw [hY] at HB1 HM1 HC1 HN1 ⊢
          clear hY
          have m0 := HM1.out.c0
          have m1 := HM1.out.c1
          have f0 := HM1.out.free 0
          have f1 := HM1.out.free 1
          have fc := HC1.out.free k
          have cc := HC1.out.cell (i := k) (by rw [bitsL_len]; exact hk64)
          have n0 := HN1.out.c0
          have n1 := HN1.out.c1
          have hne1 : g + 1 ≠ wx.heap.size := by omega
          have hne2 : g ≠ wx.heap.size := by omega
          go_wp2
          have HC2 := Lib.hid (show CB (((Y.setCell ⟨g + 1, k, none⟩ (.bool true)).setCell ⟨g, 0, none⟩ (.int .i64 n)).setCell ⟨g, 1, none⟩ (.int .u64 B2)) (g + 1) (bitsL 64 B2) from by
            rw [HS.out ()]
            exact ((HC1.out.set k true).far g 0 _ (by omega)).far g 1 _ (by omega))
          have HM2 := Lib.hid ((HM1.out.far (g + 1) k (.bool true) (by omega)).put n B2)
          have HB2 := Lib.hid (below_put (below_cell HB1.out (show w.heap.size ≤ g + 1 by omega) k (.bool true)) hge n B2)
          go_roundw
          case rel => exact ⟨i + 1, B2, by go_num, by omega, by omega, HRB2, HM2, HC2, HB2⟩
          case measure => simp [intOf]; omega
        · have q1 : decide ((k : Int) < (n : Int)) = false := by simp; omega
          have q2 : decide (k < n) = false := by simp; omega
          have HW := Lib.hid (show ∀ W : World, Calls Try.prog 24 #[.agg #[.int .i64 n, .int .u64 B], .int .i64 k] W fun e w' => e = .returned (.tuple #[.agg #[.int .i64 0, .int .u64 0], .int .i64 1]) ∧ Below W.heap.size W w' from fun W => (with_out (rB_lt HRB.out) HRB.out (by omega) W).mono fun _ _ h => h)
          go_wp2_with fail
          refine (HW.out _).mono ?_
          rintro e wx ⟨rfl, hx⟩
          have hal := (Below.refl wx.heap.size wx).alloc (Nat.le_refl _) (.cells #[.int .i64 0, .int .u64 0] 56)
          have HB1 := Lib.hid (Bto (Bto HB.out hx) hal)
          have HM1 := Lib.hid ((HM.out.below hx).below hal)
          have HC1 := Lib.hid ((HC.out.below hx).below hal)
          clear hx hal m0 m1 a0
          go_upto_region 10 with fail
          obtain ⟨Y, hY⟩ : ∃ Y, wx.alloc (.cells #[.int .i64 0, .int .u64 0] 56) = Y := ⟨_, rfl⟩
          rw [hY] at HB1 HM1 HC1 ⊢
          clear hY
          have m0 := HM1.out.c0
          have m1 := HM1.out.c1
          go_wp2
          go_roundw
          case rel => exact ⟨i + 1, B, by go_num, by omega, by omega, HRB, HM1, HC1, HB1⟩
          case measure => simp [intOf]; omega
      · have e1 : decide ((i : Int) < 200) = false := by simp; omega
        have e2 : decide (i < 200) = false := by simp; omega
        go_wp2
        have HBW := HB
        have HX : Hid (∀ j : Nat, j < 64 → hB n B j = B.testBit j) := Lib.hid (fun j hj => by
          by_cases h : j < n
          · exact hB_in HRB.out h
          · rw [hB_out (by omega), bit_far (rB_parts HRB.out).2 (by omega)])
        have HH := Lib.hid (fun (j : Nat) (W : World) => has_any n (rB_lt HRB.out) j W)
        unfold mV at HH
        clear hiN hi2 hin d1 d2
        obtain ⟨R0, hR0⟩ : ∃ R0, wr = R0 := ⟨_, rfl⟩
        rw [hR0] at HM HC HBW ⊢
        clear HB hR0
        go_loopw [12, 13] (fun cv iv ws => ∃ j c : Nat, cv = .int .i64 c ∧ iv = .int .i64 j ∧ j ≤ 64 ∧ c ≤ j ∧ Hid (cntB j B = c) ∧ Hid (Below R0.heap.size R0 ws)) (fun _ iv _ => 64 - (intOf iv).toNat)
        case atStart => exact ⟨0, 0, rfl, rfl, by omega, by omega, Lib.hid rfl, Lib.hid (Below.refl _ _)⟩
        case round =>
          obtain ⟨j, c, rfl, rfl, hj, hcj, HCJ, HBS⟩ := hrel
          obtain ⟨R1, hR1⟩ : ∃ R1, wr = R1 := ⟨_, rfl⟩
          rw [hR1] at HBS ⊢
          clear hR1
          have HM1 := Lib.hid (HM.out.below HBS.out)
          have HC1 := Lib.hid (HC.out.below HBS.out)
          by_cases hj64 : j < 64
          · have d1 : decide ((j : Int) < 64) = true := by simp; omega
            have d2 : decide (j < 64) = true := by simp; omega
            have g1 : (0 : Int) ≤ (j : Int) := by omega
            have g2 : (j : Int) < 64 := by omega
            have w1 : IntKind.i64.wrap ((j : Int) + 1) = (j : Int) + 1 := IntWalk.i64_in _ (by omega)
            have w2 : IntKind.i64.wrap ((c : Int) + 1) = (c : Int) + 1 := IntWalk.i64_in _ (by omega)
            have HI := Lib.hid (HH.out j)
            rw [HX.out j hj64] at HI
            have hcc := HC1.out.cell (i := j) (by rw [bitsL_len]; exact hj64)
            rw [bitsL_at hj64] at hcc
            obtain ⟨x, hx⟩ : ∃ x, B.testBit j = x := ⟨_, rfl⟩
            have HNX := Lib.hid (fun (_ : Unit) => show cntB (j + 1) B = c + (if x = true then 1 else 0) from by
              conv => lhs; unfold cntB
              rw [HCJ.out, hx])
            rw [hx] at HI hcc
            clear hx
            have HCC := Lib.hid (And.intro HC1.out.lt hcc)
            have HMM := HM1
            have HUD := Lib.hid (belowN (Below.refl R1.heap.size R1) 1)
            clear hcc
            go_wp2
            cases x
            · go_region_held3 (SK R1 g n B j false)
                (first | exact SK.of HMM HCC HUD | assumption | exact SK.to HMM HCC (by assumption) (by assumption))
                (first | (go_at_call 30; refine (HI.out _).mono ?_; rintro e wy ⟨rfl, hby⟩))
              have hyy : Below R1.heap.size R1 wy := SK.last (x := false) (W := wy) (by assumption)
              have HBS2 := Lib.hid (Bto HBS.out hyy)
              have c9 := (hyy.cell (p := ⟨g + 1, j, none⟩) HCC.out.1).trans HCC.out.2
              clear hby hyy
              go_wp2
              go_roundw
              case rel => exact ⟨j + 1, c, rfl, by go_num, by omega, by omega, Lib.hid (HNX.out ()), HBS2⟩
              case measure => simp [intOf]; omega
            · go_region_held3 (SK R1 g n B j true)
                (first | exact SK.of HMM HCC HUD | assumption | exact SK.to HMM HCC (by assumption) (by assumption))
                (first | (go_at_call 30; refine (HI.out _).mono ?_; rintro e wy ⟨rfl, hby⟩))
              have hyy : Below R1.heap.size R1 wy := SK.last (x := true) (W := wy) (by assumption)
              have HBS2 := Lib.hid (Bto HBS.out hyy)
              have c9 := (hyy.cell (p := ⟨g + 1, j, none⟩) HCC.out.1).trans HCC.out.2
              clear hby hyy
              go_wp2
              go_roundw
              case rel => exact ⟨j + 1, c + 1, by go_num, by go_num, by omega, by omega, Lib.hid (HNX.out ()), HBS2⟩
              case measure => simp [intOf]; omega
          · have d1 : decide ((j : Int) < 64) = false := by simp; omega
            have d2 : decide (j < 64) = false := by simp; omega
            obtain rfl : j = 64 := by omega
            have HBZ := Lib.hid (Bto HBW.out HBS.out)
            have hsz := sizeB_le (show n ≤ 64 by omega)
            obtain ⟨l, hwl⟩ : ∃ l, wrB n B = l := ⟨_, rfl⟩
            have hll : l.length ≤ 9 := by rw [← hwl, wrB_len]; omega
            have HL8 := Lib.hid (show isB8 l from by
              rw [← hwl]
              intro t
              match t with
              | 0 => exact ⟨by show (0 : Int) ≤ (n : Int); omega, by show (n : Int) < 256; omega⟩
              | t + 1 => have := byR_b8 (sizeB n) B t; simpa [wrB, List.getD] using this)
            have HIM := Lib.hid (show isMap l n B from ⟨HRB.out, hwl.symm⟩)
            have HWR := Lib.hid (fun W => hwl ▸ write_in HRB.out W)
            have HOR := Lib.hid (show ∀ W : World, Calls Try.prog 25 #[.agg #[.int .i64 n, .int .u64 B], .agg #[.int .i64 n, .int .u64 B]] W fun e w' => e = .returned (.tuple #[.agg #[.int .i64 n, .int .u64 B], .int .i64 0]) ∧ Below W.heap.size W w' from fun W => (or_in (rB_lt HRB.out) (rB_lt HRB.out) HRB.out HRB.out W).mono fun _ _ h => by rw [Nat.or_self] at h; exact h)
            have hcB : cntB 64 B = cntB n B := cntB_far (rB_parts HRB.out).2 64 (by omega)
            have hcn : cntB n B = c := by rw [← hcB]; exact HCJ.out
            obtain ⟨mm, hmm⟩ : ∃ mm, (misL n B).length = mm := ⟨_, rfl⟩
            have hcm2 := misL_len n B
            rw [hcn, hmm] at hcm2
            have HCN := Lib.hid (show ∀ W : World, Calls Try.prog 27 #[.agg #[.int .i64 n, .int .u64 B]] W fun e w' => e = .returned (.int .i64 c) ∧ Below W.heap.size W w' from fun W => (mcount_any n (rB_lt HRB.out) W).mono fun _ _ h => by rw [cntS_in HRB.out, hcn] at h; exact h)
            have HMS := Lib.hid (show ∀ W : World, Calls Try.prog 28 #[.agg #[.int .i64 n, .int .u64 B]] W fun e w' => ∃ Am cm, e = .returned (.slice Am mm cm) ∧ Below W.heap.size W w' from fun W => (missing_any n (rB_lt HRB.out) W).mono fun _ _ ⟨v, h1, h2⟩ => by
              rw [misS_in HRB.out] at h2
              obtain ⟨Am, cm, rfl, _⟩ := own_slice h2.own
              rw [hmm] at h1
              exact ⟨Am, cm, h1, h2.below⟩)
            have HFL := Lib.hid (fun W => full_any n (rB_lt HRB.out) W)
            rw [full_cnt HRB.out, hcn] at HFL
            obtain ⟨xf, hxf⟩ : ∃ xf, decide (c = n) = xf := ⟨_, rfl⟩
            rw [hxf] at HFL
            have HXF := Lib.hid (show (((c : Int) == (n : Int)) : Bool) = xf from by
              rw [← hxf]
              by_cases h : c = n
              · subst h; simp
              · rw [decide_eq_false h]; simp; omega)
            have k1 : IntKind.i64.wrap ((c : Int) + (mm : Int)) = (n : Int) := by rw [IntWalk.i64_in _ (by omega)]; omega
            have k2 : ((n : Int) == (n : Int)) = true := by simp
            have k3 : ((c : Int) == (c : Int)) = true := by simp
            unfold mV at HWR HFL
            clear hsz hwl hcB hcn hmm hcm2 hxf HX HH HCJ HRB HM HC HC1 hj hcj
            have m0 := HM1.out.c0
            have m1 := HM1.out.c1
            go_wp2_with fail
            refine (HWR.out _).mono ?_
            rintro e w3 ⟨v3, rfl, h3⟩
            obtain ⟨A3, c3, rfl, k3', l3, r3⟩ := own8 h3
            obtain ⟨N3, hN3⟩ : ∃ N3, l.length = N3 := ⟨_, rfl⟩
            rw [hN3] at k3' hll
            have HBZ := Lib.hid (Bto HBZ.out h3.below)
            have HMm := Lib.hid (HM1.out.below h3.below)
            have HRD := Lib.hid (show Calls Try.prog 34 #[.slice A3 N3 c3] w3 fun e w' => e = .returned (.tuple #[.agg #[.int .i64 n, .int .u64 B], .int .i64 0]) ∧ Below w3.heap.size w3 w' from (read_any HL8.out hN3 (by omega) k3' l3 w3 r3).mono fun e w' ⟨hb, h⟩ => by
              rcases h with ⟨n', b', hm, rfl⟩ | ⟨hno, _⟩
              · obtain ⟨rfl, rfl⟩ := one_map hm HIM.out
                exact ⟨rfl, hb⟩
              · exact absurd HIM.out (hno _ _))
            rw [hN3]
            clear h3 r3 k3' l3 hN3 m0 m1 HM1 HWR
            go_wp2_with fail
            refine HRD.out.mono ?_
            rintro e w4 ⟨rfl, h4⟩
            have hal := (Below.refl w4.heap.size w4).alloc (Nat.le_refl _) (.cells #[.int .i64 n, .int .u64 B] 56)
            have HBZ := Lib.hid (Bto (Bto HBZ.out h4) hal)
            have HMm := Lib.hid ((HMm.out.below h4).below hal)
            have HMo := Lib.hid (MB.new w4 n B)
            clear h4 hal HRD
            go_upto_region 25 with fail
            obtain ⟨Z4, hZ4⟩ : ∃ X, w4.alloc (.cells #[.int .i64 n, .int .u64 B] 56) = X := ⟨_, rfl⟩
            rw [hZ4] at HBZ HMm HMo ⊢
            clear hZ4
            have m0 := HMm.out.c0
            have m1 := HMm.out.c1
            have o0 := HMo.out.c0
            have o1 := HMo.out.c1
            go_wp2_with fail
            refine (HOR.out _).mono ?_
            rintro e w5 ⟨rfl, h5⟩
            have hal := (Below.refl w5.heap.size w5).alloc (Nat.le_refl _) (.cells #[.int .i64 n, .int .u64 B] 56)
            have HBZ := Lib.hid (Bto (Bto HBZ.out h5) hal)
            have HMm := Lib.hid ((HMm.out.below h5).below hal)
            have HMo := Lib.hid ((HMo.out.below h5).below hal)
            have HMx := Lib.hid (MB.new w5 n B)
            clear h5 hal m0 m1 o0 o1
            go_upto_region 26 with fail
            obtain ⟨Z5, hZ5⟩ : ∃ X, w5.alloc (.cells #[.int .i64 n, .int .u64 B] 56) = X := ⟨_, rfl⟩
            rw [hZ5] at HBZ HMm HMo HMx ⊢
            clear hZ5
            cases xf
            all_goals (
              have k4 := HXF.out
              refine wp_region_held_drew (S := fun W => Below Z5.heap.size Z5 W) (by kernel_rfl) (belowN (Below.refl Z5.heap.size Z5) 1) (fun hHeld => ?_)
              refine wpAnyH_ready (rs := [0]) (by kernel_rfl) (by simp) ?_
              refine AllReadyH.cons (by simp; rfl) (fun K0 hK0 => ?_) AllReadyH.nil
              go_simp
              refine (alive_any _).mono ?_
              rintro e v1 ⟨rfl, hy⟩
              have HBv1 := Lib.hid (Below.trans hHeld (hy.mono hHeld.size))
              clear hy
              refine hK0.out _ _ HBv1.out (fun _ => ?_)
              clear hK0 K0 hHeld
              have hHeld := HBv1.out
              refine wpAnyH_take (i := 1) (v := ?_) (by simp; rfl) (by kernel_rfl) (by kernel_rfl) (by kernel_rfl) (by exact fun _ _ _ h => h) (Or.inl ⟨by rfl, fun wx hSx => ?_⟩) hHeld ?_
              rotate_left
              · clear hSx; go_simp; (try with_reducible rfl)
              simp only [Act.put, List.setIfInBounds_toArray, set16]; try simp only [List.set_cons_zero, List.set_cons_succ]
              refine wpAnyH_take (i := 2) (v := ?_) (by simp; rfl) (by kernel_rfl) (by kernel_rfl) (by kernel_rfl) (by exact fun _ _ _ h => h) (Or.inl ⟨by rfl, fun wx hSx => ?_⟩) hHeld ?_
              rotate_left
              · clear hSx; go_simp; (try with_reducible rfl)
              simp only [Act.put, List.setIfInBounds_toArray, set16]; try simp only [List.set_cons_zero, List.set_cons_succ]
              refine wpAnyH_take (i := 3) (v := ?_) (by simp; rfl) (by kernel_rfl) (by kernel_rfl) (by kernel_rfl) (by exact fun _ _ _ h => h) (Or.inl ⟨by rfl, fun wx hSx => ?_⟩) hHeld ?_
              rotate_left
              · clear hSx; go_simp; (try with_reducible rfl)
              simp only [Act.put, List.setIfInBounds_toArray, set16]; try simp only [List.set_cons_zero, List.set_cons_succ]
              refine wpAnyH_take (i := 4) (v := ?_) (by simp; rfl) (by kernel_rfl) (by kernel_rfl) (by kernel_rfl) (by exact fun _ _ _ h => h) (Or.inl ⟨by rfl, fun wx hSx => ?_⟩) hHeld ?_
              rotate_left
              · clear hSx; go_simp; (try with_reducible rfl)
              simp only [Act.put, List.setIfInBounds_toArray, set16]; try simp only [List.set_cons_zero, List.set_cons_succ]
              refine wpAnyH_take (i := 5) (v := ?_) (by simp; rfl) (by kernel_rfl) (by kernel_rfl) (by kernel_rfl) (by exact fun _ _ _ h => h) (Or.inl ⟨by rfl, fun wx hSx => ?_⟩) hHeld ?_
              rotate_left
              · clear hSx; go_simp; (try with_reducible rfl)
              simp only [Act.put, List.setIfInBounds_toArray, set16]; try simp only [List.set_cons_zero, List.set_cons_succ]
              refine wpAnyH_take (i := 6) (v := ?_) (by simp; rfl) (by kernel_rfl) (by kernel_rfl) (by kernel_rfl) (by exact fun _ _ _ h => h) (Or.inl ⟨by rfl, fun wx hSx => ?_⟩) hHeld ?_
              rotate_left
              · clear hSx; go_simp; (try with_reducible rfl)
              simp only [Act.put, List.setIfInBounds_toArray, set16]; try simp only [List.set_cons_zero, List.set_cons_succ]
              refine wpAnyH_take (i := 7) (v := ?_) (by simp; rfl) (by kernel_rfl) (by kernel_rfl) (by kernel_rfl) (by exact fun _ _ _ h => h) (Or.inl ⟨by rfl, fun wx hSx => ?_⟩) hHeld ?_
              rotate_left
              · clear hSx; go_simp; (try with_reducible rfl)
              simp only [Act.put, List.setIfInBounds_toArray, set16]; try simp only [List.set_cons_zero, List.set_cons_succ]
              refine wpAnyH_take (i := 8) (v := ?_) (by simp; rfl) (by kernel_rfl) (by kernel_rfl) (by kernel_rfl) (by exact fun _ _ _ h => h) (Or.inl ⟨by rfl, fun wx hSx => ?_⟩) hHeld ?_
              rotate_left
              · clear hSx; go_simp; (try with_reducible rfl)
              simp only [Act.put, List.setIfInBounds_toArray, set16]; try simp only [List.set_cons_zero, List.set_cons_succ]
              refine wpAnyH_take (i := 9) (v := ?_) (by simp; rfl) (by kernel_rfl) (by kernel_rfl) (by kernel_rfl) (by exact fun _ _ _ h => h) (Or.inl ⟨by rfl, fun wx hSx => ?_⟩) hHeld ?_
              rotate_left
              · clear hSx; go_simp; (try with_reducible rfl)
              simp only [Act.put, List.setIfInBounds_toArray, set16]; try simp only [List.set_cons_zero, List.set_cons_succ]
              refine wpAnyH_take (i := 10) (v := ?_) (by simp; rfl) (by kernel_rfl) (by kernel_rfl) (by kernel_rfl) (by exact fun _ _ _ h => h) (Or.inl ⟨by rfl, fun wx hSx => ?_⟩) hHeld ?_
              rotate_left
              · obtain ⟨e0, e1⟩ := And.intro (HMo.out.below hSx).c0 (HMo.out.below hSx).c1; clear hSx; go_simp; (try with_reducible rfl)
              simp only [Act.put, List.setIfInBounds_toArray, set16]; try simp only [List.set_cons_zero, List.set_cons_succ]
              refine wpAnyH_take (i := 11) (v := ?_) (by simp; rfl) (by kernel_rfl) (by kernel_rfl) (by kernel_rfl) (by exact fun _ _ _ h => h) (Or.inl ⟨by rfl, fun wx hSx => ?_⟩) hHeld ?_
              rotate_left
              · obtain ⟨e0, e1⟩ := And.intro (HMm.out.below hSx).c0 (HMm.out.below hSx).c1; clear hSx; go_simp; (try with_reducible rfl)
              simp only [Act.put, List.setIfInBounds_toArray, set16]; try simp only [List.set_cons_zero, List.set_cons_succ]
              refine wpAnyH_take (i := 12) (v := ?_) (by simp; rfl) (by kernel_rfl) (by kernel_rfl) (by kernel_rfl) (by exact fun _ _ _ h => h) (Or.inl ⟨by rfl, fun wx hSx => ?_⟩) hHeld ?_
              rotate_left
              · clear hSx; go_simp; (try with_reducible rfl)
              simp only [Act.put, List.setIfInBounds_toArray, set16]; try simp only [List.set_cons_zero, List.set_cons_succ]
              refine wpAnyH_take (i := 13) (v := ?_) (by simp; rfl) (by kernel_rfl) (by kernel_rfl) (by kernel_rfl) (by exact fun _ _ _ h => h) (Or.inl ⟨by rfl, fun wx hSx => ?_⟩) hHeld ?_
              rotate_left
              · clear hSx; go_simp; (try with_reducible rfl)
              simp only [Act.put, List.setIfInBounds_toArray, set16]; try simp only [List.set_cons_zero, List.set_cons_succ]
              refine wpAnyH_take (i := 14) (v := ?_) (by simp; rfl) (by kernel_rfl) (by kernel_rfl) (by kernel_rfl) (by exact fun _ _ _ h => h) (Or.inl ⟨by rfl, fun wx hSx => ?_⟩) hHeld ?_
              rotate_left
              · clear hSx; go_simp; (try with_reducible rfl)
              simp only [Act.put, List.setIfInBounds_toArray, set16]; try simp only [List.set_cons_zero, List.set_cons_succ]
              refine wpAnyH_take (i := 15) (v := ?_) (by simp; rfl) (by kernel_rfl) (by kernel_rfl) (by kernel_rfl) (by exact fun _ _ _ h => h) (Or.inl ⟨by rfl, fun wx hSx => ?_⟩) hHeld ?_
              rotate_left
              · clear hSx; go_simp; (try with_reducible rfl)
              simp only [Act.put, List.setIfInBounds_toArray, set16]; try simp only [List.set_cons_zero, List.set_cons_succ]
              refine wpAnyH_take (i := 16) (v := ?_) (by simp; rfl) (by kernel_rfl) (by kernel_rfl) (by kernel_rfl) (by exact fun _ _ _ h => h) (Or.inl ⟨by rfl, fun wx hSx => ?_⟩) hHeld ?_
              rotate_left
              · clear hSx; go_simp; (try with_reducible rfl)
              simp only [Act.put, List.setIfInBounds_toArray, set16]; try simp only [List.set_cons_zero, List.set_cons_succ]
              refine wpAnyH_take (i := 17) (v := ?_) (by simp; rfl) (by kernel_rfl) (by kernel_rfl) (by kernel_rfl) (by exact fun _ _ _ h => h) (Or.inl ⟨by rfl, fun wx hSx => ?_⟩) hHeld ?_
              rotate_left
              · clear hSx; go_simp; (try with_reducible rfl)
              simp only [Act.put, List.setIfInBounds_toArray, set16]; try simp only [List.set_cons_zero, List.set_cons_succ]
              refine wpAnyH_take (i := 18) (v := ?_) (by simp; rfl) (by kernel_rfl) (by kernel_rfl) (by kernel_rfl) (by exact fun _ _ _ h => h) (Or.inl ⟨by rfl, fun wx hSx => ?_⟩) hHeld ?_
              rotate_left
              · clear hSx; go_simp; (try with_reducible rfl)
              simp only [Act.put, List.setIfInBounds_toArray, set16]; try simp only [List.set_cons_zero, List.set_cons_succ]
              refine wpAnyH_take (i := 19) (v := ?_) (by simp; rfl) (by kernel_rfl) (by kernel_rfl) (by kernel_rfl) (by exact fun _ _ _ h => h) (Or.inl ⟨by rfl, fun wx hSx => ?_⟩) hHeld ?_
              rotate_left
              · obtain ⟨e0, e1⟩ := And.intro (HMx.out.below hSx).c0 (HMx.out.below hSx).c1; clear hSx; go_simp; (try with_reducible rfl)
              simp only [Act.put, List.setIfInBounds_toArray, set16]; try simp only [List.set_cons_zero, List.set_cons_succ]
              refine wpAnyH_take (i := 20) (v := ?_) (by simp; rfl) (by kernel_rfl) (by kernel_rfl) (by kernel_rfl) (by exact fun _ _ _ h => h) (Or.inl ⟨by rfl, fun wx hSx => ?_⟩) hHeld ?_
              rotate_left
              · obtain ⟨e0, e1⟩ := And.intro (HMm.out.below hSx).c0 (HMm.out.below hSx).c1; clear hSx; go_simp; (try with_reducible rfl)
              simp only [Act.put, List.setIfInBounds_toArray, set16]; try simp only [List.set_cons_zero, List.set_cons_succ]
              refine wpAnyH_take (i := 21) (v := ?_) (by simp; rfl) (by kernel_rfl) (by kernel_rfl) (by kernel_rfl) (by exact fun _ _ _ h => h) (Or.inl ⟨by rfl, fun wx hSx => ?_⟩) hHeld ?_
              rotate_left
              · clear hSx; go_simp; (try with_reducible rfl)
              simp only [Act.put, List.setIfInBounds_toArray, set16]; try simp only [List.set_cons_zero, List.set_cons_succ]
              refine wpAnyH_take (i := 22) (v := ?_) (by simp; rfl) (by kernel_rfl) (by kernel_rfl) (by kernel_rfl) (by exact fun _ _ _ h => h) (Or.inl ⟨by rfl, fun wx hSx => ?_⟩) hHeld ?_
              rotate_left
              · clear hSx; go_simp; (try with_reducible rfl)
              simp only [Act.put, List.setIfInBounds_toArray, set16]; try simp only [List.set_cons_zero, List.set_cons_succ]
              refine wpAnyH_take (i := 23) (v := ?_) (by simp; rfl) (by kernel_rfl) (by kernel_rfl) (by kernel_rfl) (by exact fun _ _ _ h => h) (Or.inl ⟨by rfl, fun wx hSx => ?_⟩) hHeld ?_
              rotate_left
              · clear hSx; go_simp; (try with_reducible rfl)
              simp only [Act.put, List.setIfInBounds_toArray, set16]; try simp only [List.set_cons_zero, List.set_cons_succ]
              refine wpAnyH_take (i := 24) (v := ?_) (by simp; rfl) (by kernel_rfl) (by kernel_rfl) (by kernel_rfl) (by exact fun _ _ _ h => h) (Or.inl ⟨by rfl, fun wx hSx => ?_⟩) hHeld ?_
              rotate_left
              · obtain ⟨e0, e1⟩ := And.intro (HMm.out.below hSx).c0 (HMm.out.below hSx).c1; clear hSx; go_simp; (try with_reducible rfl)
              simp only [Act.put, List.setIfInBounds_toArray, set16]; try simp only [List.set_cons_zero, List.set_cons_succ]
              refine wpAnyH_take (i := 26) (v := ?_) (by simp; rfl) (by kernel_rfl) (by kernel_rfl) (by kernel_rfl) (by exact fun _ _ _ h => h) (Or.inl ⟨by rfl, fun wx hSx => ?_⟩) hHeld ?_
              rotate_left
              · clear hSx; go_simp; (try with_reducible rfl)
              simp only [Act.put, List.setIfInBounds_toArray, set16]; try simp only [List.set_cons_zero, List.set_cons_succ]
              refine wpAnyH_ready (rs := [25]) (by kernel_rfl) (by simp) ?_
              refine AllReadyH.cons (by simp; rfl) (fun K0 hK0 => ?_) AllReadyH.nil
              go_simp
              refine (HCN.out _).mono ?_
              rintro e v2 ⟨rfl, hy⟩
              have HBv2 := Lib.hid (Below.trans hHeld (hy.mono hHeld.size))
              clear hy
              refine hK0.out _ _ HBv2.out (fun _ => ?_)
              clear hK0 K0 hHeld
              have hHeld := HBv2.out
              refine wpAnyH_take (i := 27) (v := ?_) (by simp; rfl) (by kernel_rfl) (by kernel_rfl) (by kernel_rfl) (by exact fun _ _ _ h => h) (Or.inl ⟨by rfl, fun wx hSx => ?_⟩) hHeld ?_
              rotate_left
              · clear hSx; go_simp; (try with_reducible rfl)
              simp only [Act.put, List.setIfInBounds_toArray, set16]; try simp only [List.set_cons_zero, List.set_cons_succ]
              refine wpAnyH_take (i := 28) (v := ?_) (by simp; rfl) (by kernel_rfl) (by kernel_rfl) (by kernel_rfl) (by exact fun _ _ _ h => h) (Or.inl ⟨by rfl, fun wx hSx => ?_⟩) hHeld ?_
              rotate_left
              · clear hSx; go_simp; (try with_reducible rfl)
              simp only [Act.put, List.setIfInBounds_toArray, set16]; try simp only [List.set_cons_zero, List.set_cons_succ]
              refine wpAnyH_take (i := 29) (v := ?_) (by simp; rfl) (by kernel_rfl) (by kernel_rfl) (by kernel_rfl) (by exact fun _ _ _ h => h) (Or.inl ⟨by rfl, fun wx hSx => ?_⟩) hHeld ?_
              rotate_left
              · clear hSx; go_simp; (try with_reducible rfl)
              simp only [Act.put, List.setIfInBounds_toArray, set16]; try simp only [List.set_cons_zero, List.set_cons_succ]
              refine wpAnyH_take (i := 30) (v := ?_) (by simp; rfl) (by kernel_rfl) (by kernel_rfl) (by kernel_rfl) (by exact fun _ _ _ h => h) (Or.inl ⟨by rfl, fun wx hSx => ?_⟩) hHeld ?_
              rotate_left
              · obtain ⟨e0, e1⟩ := And.intro (HMm.out.below hSx).c0 (HMm.out.below hSx).c1; clear hSx; go_simp; (try with_reducible rfl)
              simp only [Act.put, List.setIfInBounds_toArray, set16]; try simp only [List.set_cons_zero, List.set_cons_succ]
              refine wpAnyH_take (i := 32) (v := ?_) (by simp; rfl) (by kernel_rfl) (by kernel_rfl) (by kernel_rfl) (by exact fun _ _ _ h => h) (Or.inl ⟨by rfl, fun wx hSx => ?_⟩) hHeld ?_
              rotate_left
              · obtain ⟨e0, e1⟩ := And.intro (HMm.out.below hSx).c0 (HMm.out.below hSx).c1; clear hSx; go_simp; (try with_reducible rfl)
              simp only [Act.put, List.setIfInBounds_toArray, set16]; try simp only [List.set_cons_zero, List.set_cons_succ]
              refine wpAnyH_take (i := 36) (v := ?_) (by simp; rfl) (by kernel_rfl) (by kernel_rfl) (by kernel_rfl) (by exact fun _ _ _ h => h) (Or.inl ⟨by rfl, fun wx hSx => ?_⟩) hHeld ?_
              rotate_left
              · clear hSx; go_simp; (try with_reducible rfl)
              simp only [Act.put, List.setIfInBounds_toArray, set16]; try simp only [List.set_cons_zero, List.set_cons_succ]
              refine wpAnyH_take (i := 37) (v := ?_) (by simp; rfl) (by kernel_rfl) (by kernel_rfl) (by kernel_rfl) (by exact fun _ _ _ h => h) (Or.inl ⟨by rfl, fun wx hSx => ?_⟩) hHeld ?_
              rotate_left
              · have e0 := (HMm.out.below hSx).c0; clear hSx; go_simp; (try with_reducible rfl)
              simp only [Act.put, List.setIfInBounds_toArray, set16]; try simp only [List.set_cons_zero, List.set_cons_succ]
              refine wpAnyH_ready (rs := [31]) (by kernel_rfl) (by simp) ?_
              refine AllReadyH.cons (by simp; rfl) (fun K0 hK0 => ?_) AllReadyH.nil
              go_simp
              refine (HCN.out _).mono ?_
              rintro e v3 ⟨rfl, hy⟩
              have HBv3 := Lib.hid (Below.trans hHeld (hy.mono hHeld.size))
              clear hy
              refine hK0.out _ _ HBv3.out (fun _ => ?_)
              clear hK0 K0 hHeld
              have hHeld := HBv3.out
              refine wpAnyH_ready (rs := [33]) (by kernel_rfl) (by simp) ?_
              refine AllReadyH.cons (by simp; rfl) (fun K0 hK0 => ?_) AllReadyH.nil
              go_simp
              refine (HMS.out _).mono ?_
              rintro e v4 ⟨Am, cm, rfl, hy⟩
              have HBv4 := Lib.hid (Below.trans hHeld (hy.mono hHeld.size))
              clear hy
              refine hK0.out _ _ HBv4.out (fun _ => ?_)
              clear hK0 K0 hHeld
              have hHeld := HBv4.out
              refine wpAnyH_take (i := 34) (v := ?_) (by simp; rfl) (by kernel_rfl) (by kernel_rfl) (by kernel_rfl) (by exact fun _ _ _ h => h) (Or.inl ⟨by rfl, fun wx hSx => ?_⟩) hHeld ?_
              rotate_left
              · clear hSx; go_simp; (try with_reducible rfl)
              simp only [Act.put, List.setIfInBounds_toArray, set16]; try simp only [List.set_cons_zero, List.set_cons_succ]
              refine wpAnyH_take (i := 35) (v := ?_) (by simp; rfl) (by kernel_rfl) (by kernel_rfl) (by kernel_rfl) (by exact fun _ _ _ h => h) (Or.inl ⟨by rfl, fun wx hSx => ?_⟩) hHeld ?_
              rotate_left
              · clear hSx; go_simp; (try with_reducible rfl)
              simp only [Act.put, List.setIfInBounds_toArray, set16]; try simp only [List.set_cons_zero, List.set_cons_succ]
              refine wpAnyH_take (i := 38) (v := ?_) (by simp; rfl) (by kernel_rfl) (by kernel_rfl) (by kernel_rfl) (by exact fun _ _ _ h => h) (Or.inl ⟨by rfl, fun wx hSx => ?_⟩) hHeld ?_
              rotate_left
              · clear hSx; go_simp; (try with_reducible rfl)
              simp only [Act.put, List.setIfInBounds_toArray, set16]; try simp only [List.set_cons_zero, List.set_cons_succ]
              refine wpAnyH_take (i := 39) (v := ?_) (by simp; rfl) (by kernel_rfl) (by kernel_rfl) (by kernel_rfl) (by exact fun _ _ _ h => h) (Or.inl ⟨by rfl, fun wx hSx => ?_⟩) hHeld ?_
              rotate_left
              · clear hSx; go_simp; (try with_reducible rfl)
              simp only [Act.put, List.setIfInBounds_toArray, set16]; try simp only [List.set_cons_zero, List.set_cons_succ]
              refine wpAnyH_take (i := 40) (v := ?_) (by simp; rfl) (by kernel_rfl) (by kernel_rfl) (by kernel_rfl) (by exact fun _ _ _ h => h) (Or.inl ⟨by rfl, fun wx hSx => ?_⟩) hHeld ?_
              rotate_left
              · clear hSx; go_simp; (try with_reducible rfl)
              simp only [Act.put, List.setIfInBounds_toArray, set16]; try simp only [List.set_cons_zero, List.set_cons_succ]
              refine wpAnyH_take (i := 41) (v := ?_) (by simp; rfl) (by kernel_rfl) (by kernel_rfl) (by kernel_rfl) (by exact fun _ _ _ h => h) (Or.inl ⟨by rfl, fun wx hSx => ?_⟩) hHeld ?_
              rotate_left
              · obtain ⟨e0, e1⟩ := And.intro (HMm.out.below hSx).c0 (HMm.out.below hSx).c1; clear hSx; go_simp; (try with_reducible rfl)
              simp only [Act.put, List.setIfInBounds_toArray, set16]; try simp only [List.set_cons_zero, List.set_cons_succ]
              refine wpAnyH_take (i := 43) (v := ?_) (by simp; rfl) (by kernel_rfl) (by kernel_rfl) (by kernel_rfl) (by exact fun _ _ _ h => h) (Or.inl ⟨by rfl, fun wx hSx => ?_⟩) hHeld ?_
              rotate_left
              · clear hSx; go_simp; (try with_reducible rfl)
              simp only [Act.put, List.setIfInBounds_toArray, set16]; try simp only [List.set_cons_zero, List.set_cons_succ]
              refine wpAnyH_take (i := 44) (v := ?_) (by simp; rfl) (by kernel_rfl) (by kernel_rfl) (by kernel_rfl) (by exact fun _ _ _ h => h) (Or.inl ⟨by rfl, fun wx hSx => ?_⟩) hHeld ?_
              rotate_left
              · clear hSx; go_simp; (try with_reducible rfl)
              simp only [Act.put, List.setIfInBounds_toArray, set16]; try simp only [List.set_cons_zero, List.set_cons_succ]
              refine wpAnyH_take (i := 45) (v := ?_) (by simp; rfl) (by kernel_rfl) (by kernel_rfl) (by kernel_rfl) (by exact fun _ _ _ h => h) (Or.inl ⟨by rfl, fun wx hSx => ?_⟩) hHeld ?_
              rotate_left
              · have e0 := (HMm.out.below hSx).c0; clear hSx; go_simp; (try with_reducible rfl)
              simp only [Act.put, List.setIfInBounds_toArray, set16]; try simp only [List.set_cons_zero, List.set_cons_succ]
              refine wpAnyH_take (i := 46) (v := ?_) (by simp; rfl) (by kernel_rfl) (by kernel_rfl) (by kernel_rfl) (by exact fun _ _ _ h => h) (Or.inl ⟨by rfl, fun wx hSx => ?_⟩) hHeld ?_
              rotate_left
              · clear hSx; go_simp; (try with_reducible rfl)
              simp only [Act.put, List.setIfInBounds_toArray, set16]; try simp only [List.set_cons_zero, List.set_cons_succ]
              refine wpAnyH_ready (rs := [42]) (by kernel_rfl) (by simp) ?_
              refine AllReadyH.cons (by simp; rfl) (fun K0 hK0 => ?_) AllReadyH.nil
              go_simp
              refine (HFL.out _).mono ?_
              rintro e v5 ⟨rfl, hy⟩
              have HBv5 := Lib.hid (Below.trans hHeld (hy.mono hHeld.size))
              clear hy
              refine hK0.out _ _ HBv5.out (fun _ => ?_)
              clear hK0 K0 hHeld
              have hHeld := HBv5.out
              refine wpAnyH_take (i := 47) (v := ?_) (by simp; rfl) (by kernel_rfl) (by kernel_rfl) (by kernel_rfl) (by exact fun _ _ _ h => h) (Or.inl ⟨by rfl, fun wx hSx => ?_⟩) hHeld ?_
              rotate_left
              · clear hSx; go_simp; (try with_reducible rfl)
              simp only [Act.put, List.setIfInBounds_toArray, set16]; try simp only [List.set_cons_zero, List.set_cons_succ]
              refine wpAnyH_take (i := 48) (v := ?_) (by simp; rfl) (by kernel_rfl) (by kernel_rfl) (by kernel_rfl) (by exact fun _ _ _ h => h) (Or.inl ⟨by rfl, fun wx hSx => ?_⟩) hHeld ?_
              rotate_left
              · clear hSx; go_simp; (try with_reducible rfl)
              simp only [Act.put, List.setIfInBounds_toArray, set16]; try simp only [List.set_cons_zero, List.set_cons_succ]
              refine wpAnyH_take (i := 49) (v := ?_) (by simp; rfl) (by kernel_rfl) (by kernel_rfl) (by kernel_rfl) (by exact fun _ _ _ h => h) (Or.inl ⟨by rfl, fun wx hSx => ?_⟩) hHeld ?_
              rotate_left
              · clear hSx; go_simp; (try with_reducible rfl)
              simp only [Act.put, List.setIfInBounds_toArray, set16]; try simp only [List.set_cons_zero, List.set_cons_succ]
              refine wpAnyH_done (by kernel_rfl) ?_ _
              go_wp2
              go_ret
              exact ⟨rfl, Bto HBZ.out HBv5.out⟩)
    · have d1 : decide ((i : Int) < (N : Int)) = false := by simp; omega
      have d2 : decide (i < N) = false := by simp; omega
      go_wp2
      have HBW := HB
      have HX : Hid (∀ j : Nat, j < 64 → hB n B j = B.testBit j) := Lib.hid (fun j hj => by
        by_cases h : j < n
        · exact hB_in HRB.out h
        · rw [hB_out (by omega), bit_far (rB_parts HRB.out).2 (by omega)])
      have HH := Lib.hid (fun (j : Nat) (W : World) => has_any n (rB_lt HRB.out) j W)
      unfold mV at HH
      clear hiN hi2 hin d1 d2
      obtain ⟨R0, hR0⟩ : ∃ R0, wr = R0 := ⟨_, rfl⟩
      rw [hR0] at HM HC HBW ⊢
      clear HB hR0
      go_loopw [12, 13] (fun cv iv ws => ∃ j c : Nat, cv = .int .i64 c ∧ iv = .int .i64 j ∧ j ≤ 64 ∧ c ≤ j ∧ Hid (cntB j B = c) ∧ Hid (Below R0.heap.size R0 ws)) (fun _ iv _ => 64 - (intOf iv).toNat)
      case atStart => exact ⟨0, 0, rfl, rfl, by omega, by omega, Lib.hid rfl, Lib.hid (Below.refl _ _)⟩
      case round =>
        obtain ⟨j, c, rfl, rfl, hj, hcj, HCJ, HBS⟩ := hrel
        obtain ⟨R1, hR1⟩ : ∃ R1, wr = R1 := ⟨_, rfl⟩
        rw [hR1] at HBS ⊢
        clear hR1
        have HM1 := Lib.hid (HM.out.below HBS.out)
        have HC1 := Lib.hid (HC.out.below HBS.out)
        by_cases hj64 : j < 64
        · have d1 : decide ((j : Int) < 64) = true := by simp; omega
          have d2 : decide (j < 64) = true := by simp; omega
          have g1 : (0 : Int) ≤ (j : Int) := by omega
          have g2 : (j : Int) < 64 := by omega
          have w1 : IntKind.i64.wrap ((j : Int) + 1) = (j : Int) + 1 := IntWalk.i64_in _ (by omega)
          have w2 : IntKind.i64.wrap ((c : Int) + 1) = (c : Int) + 1 := IntWalk.i64_in _ (by omega)
          have HI := Lib.hid (HH.out j)
          rw [HX.out j hj64] at HI
          have hcc := HC1.out.cell (i := j) (by rw [bitsL_len]; exact hj64)
          rw [bitsL_at hj64] at hcc
          obtain ⟨x, hx⟩ : ∃ x, B.testBit j = x := ⟨_, rfl⟩
          have HNX := Lib.hid (fun (_ : Unit) => show cntB (j + 1) B = c + (if x = true then 1 else 0) from by
            conv => lhs; unfold cntB
            rw [HCJ.out, hx])
          rw [hx] at HI hcc
          clear hx
          have HCC := Lib.hid (And.intro HC1.out.lt hcc)
          have HMM := HM1
          have HUD := Lib.hid (belowN (Below.refl R1.heap.size R1) 1)
          clear hcc
          go_wp2
          cases x
          · go_region_held3 (SK R1 g n B j false)
              (first | exact SK.of HMM HCC HUD | assumption | exact SK.to HMM HCC (by assumption) (by assumption))
              (first | (go_at_call 30; refine (HI.out _).mono ?_; rintro e wy ⟨rfl, hby⟩))
            have hyy : Below R1.heap.size R1 wy := SK.last (x := false) (W := wy) (by assumption)
            have HBS2 := Lib.hid (Bto HBS.out hyy)
            have c9 := (hyy.cell (p := ⟨g + 1, j, none⟩) HCC.out.1).trans HCC.out.2
            clear hby hyy
            go_wp2
            go_roundw
            case rel => exact ⟨j + 1, c, rfl, by go_num, by omega, by omega, Lib.hid (HNX.out ()), HBS2⟩
            case measure => simp [intOf]; omega
          · go_region_held3 (SK R1 g n B j true)
              (first | exact SK.of HMM HCC HUD | assumption | exact SK.to HMM HCC (by assumption) (by assumption))
              (first | (go_at_call 30; refine (HI.out _).mono ?_; rintro e wy ⟨rfl, hby⟩))
            have hyy : Below R1.heap.size R1 wy := SK.last (x := true) (W := wy) (by assumption)
            have HBS2 := Lib.hid (Bto HBS.out hyy)
            have c9 := (hyy.cell (p := ⟨g + 1, j, none⟩) HCC.out.1).trans HCC.out.2
            clear hby hyy
            go_wp2
            go_roundw
            case rel => exact ⟨j + 1, c + 1, by go_num, by go_num, by omega, by omega, Lib.hid (HNX.out ()), HBS2⟩
            case measure => simp [intOf]; omega
        · have d1 : decide ((j : Int) < 64) = false := by simp; omega
          have d2 : decide (j < 64) = false := by simp; omega
          obtain rfl : j = 64 := by omega
          have HBZ := Lib.hid (Bto HBW.out HBS.out)
          have hsz := sizeB_le (show n ≤ 64 by omega)
          obtain ⟨l, hwl⟩ : ∃ l, wrB n B = l := ⟨_, rfl⟩
          have hll : l.length ≤ 9 := by rw [← hwl, wrB_len]; omega
          have HL8 := Lib.hid (show isB8 l from by
            rw [← hwl]
            intro t
            match t with
            | 0 => exact ⟨by show (0 : Int) ≤ (n : Int); omega, by show (n : Int) < 256; omega⟩
            | t + 1 => have := byR_b8 (sizeB n) B t; simpa [wrB, List.getD] using this)
          have HIM := Lib.hid (show isMap l n B from ⟨HRB.out, hwl.symm⟩)
          have HWR := Lib.hid (fun W => hwl ▸ write_in HRB.out W)
          have HOR := Lib.hid (show ∀ W : World, Calls Try.prog 25 #[.agg #[.int .i64 n, .int .u64 B], .agg #[.int .i64 n, .int .u64 B]] W fun e w' => e = .returned (.tuple #[.agg #[.int .i64 n, .int .u64 B], .int .i64 0]) ∧ Below W.heap.size W w' from fun W => (or_in (rB_lt HRB.out) (rB_lt HRB.out) HRB.out HRB.out W).mono fun _ _ h => by rw [Nat.or_self] at h; exact h)
          have hcB : cntB 64 B = cntB n B := cntB_far (rB_parts HRB.out).2 64 (by omega)
          have hcn : cntB n B = c := by rw [← hcB]; exact HCJ.out
          obtain ⟨mm, hmm⟩ : ∃ mm, (misL n B).length = mm := ⟨_, rfl⟩
          have hcm2 := misL_len n B
          rw [hcn, hmm] at hcm2
          have HCN := Lib.hid (show ∀ W : World, Calls Try.prog 27 #[.agg #[.int .i64 n, .int .u64 B]] W fun e w' => e = .returned (.int .i64 c) ∧ Below W.heap.size W w' from fun W => (mcount_any n (rB_lt HRB.out) W).mono fun _ _ h => by rw [cntS_in HRB.out, hcn] at h; exact h)
          have HMS := Lib.hid (show ∀ W : World, Calls Try.prog 28 #[.agg #[.int .i64 n, .int .u64 B]] W fun e w' => ∃ Am cm, e = .returned (.slice Am mm cm) ∧ Below W.heap.size W w' from fun W => (missing_any n (rB_lt HRB.out) W).mono fun _ _ ⟨v, h1, h2⟩ => by
            rw [misS_in HRB.out] at h2
            obtain ⟨Am, cm, rfl, _⟩ := own_slice h2.own
            rw [hmm] at h1
            exact ⟨Am, cm, h1, h2.below⟩)
          have HFL := Lib.hid (fun W => full_any n (rB_lt HRB.out) W)
          rw [full_cnt HRB.out, hcn] at HFL
          obtain ⟨xf, hxf⟩ : ∃ xf, decide (c = n) = xf := ⟨_, rfl⟩
          rw [hxf] at HFL
          have HXF := Lib.hid (show (((c : Int) == (n : Int)) : Bool) = xf from by
            rw [← hxf]
            by_cases h : c = n
            · subst h; simp
            · rw [decide_eq_false h]; simp; omega)
          have k1 : IntKind.i64.wrap ((c : Int) + (mm : Int)) = (n : Int) := by rw [IntWalk.i64_in _ (by omega)]; omega
          have k2 : ((n : Int) == (n : Int)) = true := by simp
          have k3 : ((c : Int) == (c : Int)) = true := by simp
          unfold mV at HWR HFL
          clear hsz hwl hcB hcn hmm hcm2 hxf HX HH HCJ HRB HM HC HC1 hj hcj
          have m0 := HM1.out.c0
          have m1 := HM1.out.c1
          go_wp2_with fail
          refine (HWR.out _).mono ?_
          rintro e w3 ⟨v3, rfl, h3⟩
          obtain ⟨A3, c3, rfl, k3', l3, r3⟩ := own8 h3
          obtain ⟨N3, hN3⟩ : ∃ N3, l.length = N3 := ⟨_, rfl⟩
          rw [hN3] at k3' hll
          have HBZ := Lib.hid (Bto HBZ.out h3.below)
          have HMm := Lib.hid (HM1.out.below h3.below)
          have HRD := Lib.hid (show Calls Try.prog 34 #[.slice A3 N3 c3] w3 fun e w' => e = .returned (.tuple #[.agg #[.int .i64 n, .int .u64 B], .int .i64 0]) ∧ Below w3.heap.size w3 w' from (read_any HL8.out hN3 (by omega) k3' l3 w3 r3).mono fun e w' ⟨hb, h⟩ => by
            rcases h with ⟨n', b', hm, rfl⟩ | ⟨hno, _⟩
            · obtain ⟨rfl, rfl⟩ := one_map hm HIM.out
              exact ⟨rfl, hb⟩
            · exact absurd HIM.out (hno _ _))
          rw [hN3]
          clear h3 r3 k3' l3 hN3 m0 m1 HM1 HWR
          go_wp2_with fail
          refine HRD.out.mono ?_
          rintro e w4 ⟨rfl, h4⟩
          have hal := (Below.refl w4.heap.size w4).alloc (Nat.le_refl _) (.cells #[.int .i64 n, .int .u64 B] 56)
          have HBZ := Lib.hid (Bto (Bto HBZ.out h4) hal)
          have HMm := Lib.hid ((HMm.out.below h4).below hal)
          have HMo := Lib.hid (MB.new w4 n B)
          clear h4 hal HRD
          go_upto_region 25 with fail
          obtain ⟨Z4, hZ4⟩ : ∃ X, w4.alloc (.cells #[.int .i64 n, .int .u64 B] 56) = X := ⟨_, rfl⟩
          rw [hZ4] at HBZ HMm HMo ⊢
          clear hZ4
          have m0 := HMm.out.c0
          have m1 := HMm.out.c1
          have o0 := HMo.out.c0
          have o1 := HMo.out.c1
          go_wp2_with fail
          refine (HOR.out _).mono ?_
          rintro e w5 ⟨rfl, h5⟩
          have hal := (Below.refl w5.heap.size w5).alloc (Nat.le_refl _) (.cells #[.int .i64 n, .int .u64 B] 56)
          have HBZ := Lib.hid (Bto (Bto HBZ.out h5) hal)
          have HMm := Lib.hid ((HMm.out.below h5).below hal)
          have HMo := Lib.hid ((HMo.out.below h5).below hal)
          have HMx := Lib.hid (MB.new w5 n B)
          clear h5 hal m0 m1 o0 o1
          go_upto_region 26 with fail
          obtain ⟨Z5, hZ5⟩ : ∃ X, w5.alloc (.cells #[.int .i64 n, .int .u64 B] 56) = X := ⟨_, rfl⟩
          rw [hZ5] at HBZ HMm HMo HMx ⊢
          clear hZ5
          cases xf
          all_goals (
            have k4 := HXF.out
            refine wp_region_held_drew (S := fun W => Below Z5.heap.size Z5 W) (by kernel_rfl) (belowN (Below.refl Z5.heap.size Z5) 1) (fun hHeld => ?_)
            refine wpAnyH_ready (rs := [0]) (by kernel_rfl) (by simp) ?_
            refine AllReadyH.cons (by simp; rfl) (fun K0 hK0 => ?_) AllReadyH.nil
            go_simp
            refine (alive_any _).mono ?_
            rintro e v1 ⟨rfl, hy⟩
            have HBv1 := Lib.hid (Below.trans hHeld (hy.mono hHeld.size))
            clear hy
            refine hK0.out _ _ HBv1.out (fun _ => ?_)
            clear hK0 K0 hHeld
            have hHeld := HBv1.out
            refine wpAnyH_take (i := 1) (v := ?_) (by simp; rfl) (by kernel_rfl) (by kernel_rfl) (by kernel_rfl) (by exact fun _ _ _ h => h) (Or.inl ⟨by rfl, fun wx hSx => ?_⟩) hHeld ?_
            rotate_left
            · clear hSx; go_simp; (try with_reducible rfl)
            simp only [Act.put, List.setIfInBounds_toArray, set16]; try simp only [List.set_cons_zero, List.set_cons_succ]
            refine wpAnyH_take (i := 2) (v := ?_) (by simp; rfl) (by kernel_rfl) (by kernel_rfl) (by kernel_rfl) (by exact fun _ _ _ h => h) (Or.inl ⟨by rfl, fun wx hSx => ?_⟩) hHeld ?_
            rotate_left
            · clear hSx; go_simp; (try with_reducible rfl)
            simp only [Act.put, List.setIfInBounds_toArray, set16]; try simp only [List.set_cons_zero, List.set_cons_succ]
            refine wpAnyH_take (i := 3) (v := ?_) (by simp; rfl) (by kernel_rfl) (by kernel_rfl) (by kernel_rfl) (by exact fun _ _ _ h => h) (Or.inl ⟨by rfl, fun wx hSx => ?_⟩) hHeld ?_
            rotate_left
            · clear hSx; go_simp; (try with_reducible rfl)
            simp only [Act.put, List.setIfInBounds_toArray, set16]; try simp only [List.set_cons_zero, List.set_cons_succ]
            refine wpAnyH_take (i := 4) (v := ?_) (by simp; rfl) (by kernel_rfl) (by kernel_rfl) (by kernel_rfl) (by exact fun _ _ _ h => h) (Or.inl ⟨by rfl, fun wx hSx => ?_⟩) hHeld ?_
            rotate_left
            · clear hSx; go_simp; (try with_reducible rfl)
            simp only [Act.put, List.setIfInBounds_toArray, set16]; try simp only [List.set_cons_zero, List.set_cons_succ]
            refine wpAnyH_take (i := 5) (v := ?_) (by simp; rfl) (by kernel_rfl) (by kernel_rfl) (by kernel_rfl) (by exact fun _ _ _ h => h) (Or.inl ⟨by rfl, fun wx hSx => ?_⟩) hHeld ?_
            rotate_left
            · clear hSx; go_simp; (try with_reducible rfl)
            simp only [Act.put, List.setIfInBounds_toArray, set16]; try simp only [List.set_cons_zero, List.set_cons_succ]
            refine wpAnyH_take (i := 6) (v := ?_) (by simp; rfl) (by kernel_rfl) (by kernel_rfl) (by kernel_rfl) (by exact fun _ _ _ h => h) (Or.inl ⟨by rfl, fun wx hSx => ?_⟩) hHeld ?_
            rotate_left
            · clear hSx; go_simp; (try with_reducible rfl)
            simp only [Act.put, List.setIfInBounds_toArray, set16]; try simp only [List.set_cons_zero, List.set_cons_succ]
            refine wpAnyH_take (i := 7) (v := ?_) (by simp; rfl) (by kernel_rfl) (by kernel_rfl) (by kernel_rfl) (by exact fun _ _ _ h => h) (Or.inl ⟨by rfl, fun wx hSx => ?_⟩) hHeld ?_
            rotate_left
            · clear hSx; go_simp; (try with_reducible rfl)
            simp only [Act.put, List.setIfInBounds_toArray, set16]; try simp only [List.set_cons_zero, List.set_cons_succ]
            refine wpAnyH_take (i := 8) (v := ?_) (by simp; rfl) (by kernel_rfl) (by kernel_rfl) (by kernel_rfl) (by exact fun _ _ _ h => h) (Or.inl ⟨by rfl, fun wx hSx => ?_⟩) hHeld ?_
            rotate_left
            · clear hSx; go_simp; (try with_reducible rfl)
            simp only [Act.put, List.setIfInBounds_toArray, set16]; try simp only [List.set_cons_zero, List.set_cons_succ]
            refine wpAnyH_take (i := 9) (v := ?_) (by simp; rfl) (by kernel_rfl) (by kernel_rfl) (by kernel_rfl) (by exact fun _ _ _ h => h) (Or.inl ⟨by rfl, fun wx hSx => ?_⟩) hHeld ?_
            rotate_left
            · clear hSx; go_simp; (try with_reducible rfl)
            simp only [Act.put, List.setIfInBounds_toArray, set16]; try simp only [List.set_cons_zero, List.set_cons_succ]
            refine wpAnyH_take (i := 10) (v := ?_) (by simp; rfl) (by kernel_rfl) (by kernel_rfl) (by kernel_rfl) (by exact fun _ _ _ h => h) (Or.inl ⟨by rfl, fun wx hSx => ?_⟩) hHeld ?_
            rotate_left
            · obtain ⟨e0, e1⟩ := And.intro (HMo.out.below hSx).c0 (HMo.out.below hSx).c1; clear hSx; go_simp; (try with_reducible rfl)
            simp only [Act.put, List.setIfInBounds_toArray, set16]; try simp only [List.set_cons_zero, List.set_cons_succ]
            refine wpAnyH_take (i := 11) (v := ?_) (by simp; rfl) (by kernel_rfl) (by kernel_rfl) (by kernel_rfl) (by exact fun _ _ _ h => h) (Or.inl ⟨by rfl, fun wx hSx => ?_⟩) hHeld ?_
            rotate_left
            · obtain ⟨e0, e1⟩ := And.intro (HMm.out.below hSx).c0 (HMm.out.below hSx).c1; clear hSx; go_simp; (try with_reducible rfl)
            simp only [Act.put, List.setIfInBounds_toArray, set16]; try simp only [List.set_cons_zero, List.set_cons_succ]
            refine wpAnyH_take (i := 12) (v := ?_) (by simp; rfl) (by kernel_rfl) (by kernel_rfl) (by kernel_rfl) (by exact fun _ _ _ h => h) (Or.inl ⟨by rfl, fun wx hSx => ?_⟩) hHeld ?_
            rotate_left
            · clear hSx; go_simp; (try with_reducible rfl)
            simp only [Act.put, List.setIfInBounds_toArray, set16]; try simp only [List.set_cons_zero, List.set_cons_succ]
            refine wpAnyH_take (i := 13) (v := ?_) (by simp; rfl) (by kernel_rfl) (by kernel_rfl) (by kernel_rfl) (by exact fun _ _ _ h => h) (Or.inl ⟨by rfl, fun wx hSx => ?_⟩) hHeld ?_
            rotate_left
            · clear hSx; go_simp; (try with_reducible rfl)
            simp only [Act.put, List.setIfInBounds_toArray, set16]; try simp only [List.set_cons_zero, List.set_cons_succ]
            refine wpAnyH_take (i := 14) (v := ?_) (by simp; rfl) (by kernel_rfl) (by kernel_rfl) (by kernel_rfl) (by exact fun _ _ _ h => h) (Or.inl ⟨by rfl, fun wx hSx => ?_⟩) hHeld ?_
            rotate_left
            · clear hSx; go_simp; (try with_reducible rfl)
            simp only [Act.put, List.setIfInBounds_toArray, set16]; try simp only [List.set_cons_zero, List.set_cons_succ]
            refine wpAnyH_take (i := 15) (v := ?_) (by simp; rfl) (by kernel_rfl) (by kernel_rfl) (by kernel_rfl) (by exact fun _ _ _ h => h) (Or.inl ⟨by rfl, fun wx hSx => ?_⟩) hHeld ?_
            rotate_left
            · clear hSx; go_simp; (try with_reducible rfl)
            simp only [Act.put, List.setIfInBounds_toArray, set16]; try simp only [List.set_cons_zero, List.set_cons_succ]
            refine wpAnyH_take (i := 16) (v := ?_) (by simp; rfl) (by kernel_rfl) (by kernel_rfl) (by kernel_rfl) (by exact fun _ _ _ h => h) (Or.inl ⟨by rfl, fun wx hSx => ?_⟩) hHeld ?_
            rotate_left
            · clear hSx; go_simp; (try with_reducible rfl)
            simp only [Act.put, List.setIfInBounds_toArray, set16]; try simp only [List.set_cons_zero, List.set_cons_succ]
            refine wpAnyH_take (i := 17) (v := ?_) (by simp; rfl) (by kernel_rfl) (by kernel_rfl) (by kernel_rfl) (by exact fun _ _ _ h => h) (Or.inl ⟨by rfl, fun wx hSx => ?_⟩) hHeld ?_
            rotate_left
            · clear hSx; go_simp; (try with_reducible rfl)
            simp only [Act.put, List.setIfInBounds_toArray, set16]; try simp only [List.set_cons_zero, List.set_cons_succ]
            refine wpAnyH_take (i := 18) (v := ?_) (by simp; rfl) (by kernel_rfl) (by kernel_rfl) (by kernel_rfl) (by exact fun _ _ _ h => h) (Or.inl ⟨by rfl, fun wx hSx => ?_⟩) hHeld ?_
            rotate_left
            · clear hSx; go_simp; (try with_reducible rfl)
            simp only [Act.put, List.setIfInBounds_toArray, set16]; try simp only [List.set_cons_zero, List.set_cons_succ]
            refine wpAnyH_take (i := 19) (v := ?_) (by simp; rfl) (by kernel_rfl) (by kernel_rfl) (by kernel_rfl) (by exact fun _ _ _ h => h) (Or.inl ⟨by rfl, fun wx hSx => ?_⟩) hHeld ?_
            rotate_left
            · obtain ⟨e0, e1⟩ := And.intro (HMx.out.below hSx).c0 (HMx.out.below hSx).c1; clear hSx; go_simp; (try with_reducible rfl)
            simp only [Act.put, List.setIfInBounds_toArray, set16]; try simp only [List.set_cons_zero, List.set_cons_succ]
            refine wpAnyH_take (i := 20) (v := ?_) (by simp; rfl) (by kernel_rfl) (by kernel_rfl) (by kernel_rfl) (by exact fun _ _ _ h => h) (Or.inl ⟨by rfl, fun wx hSx => ?_⟩) hHeld ?_
            rotate_left
            · obtain ⟨e0, e1⟩ := And.intro (HMm.out.below hSx).c0 (HMm.out.below hSx).c1; clear hSx; go_simp; (try with_reducible rfl)
            simp only [Act.put, List.setIfInBounds_toArray, set16]; try simp only [List.set_cons_zero, List.set_cons_succ]
            refine wpAnyH_take (i := 21) (v := ?_) (by simp; rfl) (by kernel_rfl) (by kernel_rfl) (by kernel_rfl) (by exact fun _ _ _ h => h) (Or.inl ⟨by rfl, fun wx hSx => ?_⟩) hHeld ?_
            rotate_left
            · clear hSx; go_simp; (try with_reducible rfl)
            simp only [Act.put, List.setIfInBounds_toArray, set16]; try simp only [List.set_cons_zero, List.set_cons_succ]
            refine wpAnyH_take (i := 22) (v := ?_) (by simp; rfl) (by kernel_rfl) (by kernel_rfl) (by kernel_rfl) (by exact fun _ _ _ h => h) (Or.inl ⟨by rfl, fun wx hSx => ?_⟩) hHeld ?_
            rotate_left
            · clear hSx; go_simp; (try with_reducible rfl)
            simp only [Act.put, List.setIfInBounds_toArray, set16]; try simp only [List.set_cons_zero, List.set_cons_succ]
            refine wpAnyH_take (i := 23) (v := ?_) (by simp; rfl) (by kernel_rfl) (by kernel_rfl) (by kernel_rfl) (by exact fun _ _ _ h => h) (Or.inl ⟨by rfl, fun wx hSx => ?_⟩) hHeld ?_
            rotate_left
            · clear hSx; go_simp; (try with_reducible rfl)
            simp only [Act.put, List.setIfInBounds_toArray, set16]; try simp only [List.set_cons_zero, List.set_cons_succ]
            refine wpAnyH_take (i := 24) (v := ?_) (by simp; rfl) (by kernel_rfl) (by kernel_rfl) (by kernel_rfl) (by exact fun _ _ _ h => h) (Or.inl ⟨by rfl, fun wx hSx => ?_⟩) hHeld ?_
            rotate_left
            · obtain ⟨e0, e1⟩ := And.intro (HMm.out.below hSx).c0 (HMm.out.below hSx).c1; clear hSx; go_simp; (try with_reducible rfl)
            simp only [Act.put, List.setIfInBounds_toArray, set16]; try simp only [List.set_cons_zero, List.set_cons_succ]
            refine wpAnyH_take (i := 26) (v := ?_) (by simp; rfl) (by kernel_rfl) (by kernel_rfl) (by kernel_rfl) (by exact fun _ _ _ h => h) (Or.inl ⟨by rfl, fun wx hSx => ?_⟩) hHeld ?_
            rotate_left
            · clear hSx; go_simp; (try with_reducible rfl)
            simp only [Act.put, List.setIfInBounds_toArray, set16]; try simp only [List.set_cons_zero, List.set_cons_succ]
            refine wpAnyH_ready (rs := [25]) (by kernel_rfl) (by simp) ?_
            refine AllReadyH.cons (by simp; rfl) (fun K0 hK0 => ?_) AllReadyH.nil
            go_simp
            refine (HCN.out _).mono ?_
            rintro e v2 ⟨rfl, hy⟩
            have HBv2 := Lib.hid (Below.trans hHeld (hy.mono hHeld.size))
            clear hy
            refine hK0.out _ _ HBv2.out (fun _ => ?_)
            clear hK0 K0 hHeld
            have hHeld := HBv2.out
            refine wpAnyH_take (i := 27) (v := ?_) (by simp; rfl) (by kernel_rfl) (by kernel_rfl) (by kernel_rfl) (by exact fun _ _ _ h => h) (Or.inl ⟨by rfl, fun wx hSx => ?_⟩) hHeld ?_
            rotate_left
            · clear hSx; go_simp; (try with_reducible rfl)
            simp only [Act.put, List.setIfInBounds_toArray, set16]; try simp only [List.set_cons_zero, List.set_cons_succ]
            refine wpAnyH_take (i := 28) (v := ?_) (by simp; rfl) (by kernel_rfl) (by kernel_rfl) (by kernel_rfl) (by exact fun _ _ _ h => h) (Or.inl ⟨by rfl, fun wx hSx => ?_⟩) hHeld ?_
            rotate_left
            · clear hSx; go_simp; (try with_reducible rfl)
            simp only [Act.put, List.setIfInBounds_toArray, set16]; try simp only [List.set_cons_zero, List.set_cons_succ]
            refine wpAnyH_take (i := 29) (v := ?_) (by simp; rfl) (by kernel_rfl) (by kernel_rfl) (by kernel_rfl) (by exact fun _ _ _ h => h) (Or.inl ⟨by rfl, fun wx hSx => ?_⟩) hHeld ?_
            rotate_left
            · clear hSx; go_simp; (try with_reducible rfl)
            simp only [Act.put, List.setIfInBounds_toArray, set16]; try simp only [List.set_cons_zero, List.set_cons_succ]
            refine wpAnyH_take (i := 30) (v := ?_) (by simp; rfl) (by kernel_rfl) (by kernel_rfl) (by kernel_rfl) (by exact fun _ _ _ h => h) (Or.inl ⟨by rfl, fun wx hSx => ?_⟩) hHeld ?_
            rotate_left
            · obtain ⟨e0, e1⟩ := And.intro (HMm.out.below hSx).c0 (HMm.out.below hSx).c1; clear hSx; go_simp; (try with_reducible rfl)
            simp only [Act.put, List.setIfInBounds_toArray, set16]; try simp only [List.set_cons_zero, List.set_cons_succ]
            refine wpAnyH_take (i := 32) (v := ?_) (by simp; rfl) (by kernel_rfl) (by kernel_rfl) (by kernel_rfl) (by exact fun _ _ _ h => h) (Or.inl ⟨by rfl, fun wx hSx => ?_⟩) hHeld ?_
            rotate_left
            · obtain ⟨e0, e1⟩ := And.intro (HMm.out.below hSx).c0 (HMm.out.below hSx).c1; clear hSx; go_simp; (try with_reducible rfl)
            simp only [Act.put, List.setIfInBounds_toArray, set16]; try simp only [List.set_cons_zero, List.set_cons_succ]
            refine wpAnyH_take (i := 36) (v := ?_) (by simp; rfl) (by kernel_rfl) (by kernel_rfl) (by kernel_rfl) (by exact fun _ _ _ h => h) (Or.inl ⟨by rfl, fun wx hSx => ?_⟩) hHeld ?_
            rotate_left
            · clear hSx; go_simp; (try with_reducible rfl)
            simp only [Act.put, List.setIfInBounds_toArray, set16]; try simp only [List.set_cons_zero, List.set_cons_succ]
            refine wpAnyH_take (i := 37) (v := ?_) (by simp; rfl) (by kernel_rfl) (by kernel_rfl) (by kernel_rfl) (by exact fun _ _ _ h => h) (Or.inl ⟨by rfl, fun wx hSx => ?_⟩) hHeld ?_
            rotate_left
            · have e0 := (HMm.out.below hSx).c0; clear hSx; go_simp; (try with_reducible rfl)
            simp only [Act.put, List.setIfInBounds_toArray, set16]; try simp only [List.set_cons_zero, List.set_cons_succ]
            refine wpAnyH_ready (rs := [31]) (by kernel_rfl) (by simp) ?_
            refine AllReadyH.cons (by simp; rfl) (fun K0 hK0 => ?_) AllReadyH.nil
            go_simp
            refine (HCN.out _).mono ?_
            rintro e v3 ⟨rfl, hy⟩
            have HBv3 := Lib.hid (Below.trans hHeld (hy.mono hHeld.size))
            clear hy
            refine hK0.out _ _ HBv3.out (fun _ => ?_)
            clear hK0 K0 hHeld
            have hHeld := HBv3.out
            refine wpAnyH_ready (rs := [33]) (by kernel_rfl) (by simp) ?_
            refine AllReadyH.cons (by simp; rfl) (fun K0 hK0 => ?_) AllReadyH.nil
            go_simp
            refine (HMS.out _).mono ?_
            rintro e v4 ⟨Am, cm, rfl, hy⟩
            have HBv4 := Lib.hid (Below.trans hHeld (hy.mono hHeld.size))
            clear hy
            refine hK0.out _ _ HBv4.out (fun _ => ?_)
            clear hK0 K0 hHeld
            have hHeld := HBv4.out
            refine wpAnyH_take (i := 34) (v := ?_) (by simp; rfl) (by kernel_rfl) (by kernel_rfl) (by kernel_rfl) (by exact fun _ _ _ h => h) (Or.inl ⟨by rfl, fun wx hSx => ?_⟩) hHeld ?_
            rotate_left
            · clear hSx; go_simp; (try with_reducible rfl)
            simp only [Act.put, List.setIfInBounds_toArray, set16]; try simp only [List.set_cons_zero, List.set_cons_succ]
            refine wpAnyH_take (i := 35) (v := ?_) (by simp; rfl) (by kernel_rfl) (by kernel_rfl) (by kernel_rfl) (by exact fun _ _ _ h => h) (Or.inl ⟨by rfl, fun wx hSx => ?_⟩) hHeld ?_
            rotate_left
            · clear hSx; go_simp; (try with_reducible rfl)
            simp only [Act.put, List.setIfInBounds_toArray, set16]; try simp only [List.set_cons_zero, List.set_cons_succ]
            refine wpAnyH_take (i := 38) (v := ?_) (by simp; rfl) (by kernel_rfl) (by kernel_rfl) (by kernel_rfl) (by exact fun _ _ _ h => h) (Or.inl ⟨by rfl, fun wx hSx => ?_⟩) hHeld ?_
            rotate_left
            · clear hSx; go_simp; (try with_reducible rfl)
            simp only [Act.put, List.setIfInBounds_toArray, set16]; try simp only [List.set_cons_zero, List.set_cons_succ]
            refine wpAnyH_take (i := 39) (v := ?_) (by simp; rfl) (by kernel_rfl) (by kernel_rfl) (by kernel_rfl) (by exact fun _ _ _ h => h) (Or.inl ⟨by rfl, fun wx hSx => ?_⟩) hHeld ?_
            rotate_left
            · clear hSx; go_simp; (try with_reducible rfl)
            simp only [Act.put, List.setIfInBounds_toArray, set16]; try simp only [List.set_cons_zero, List.set_cons_succ]
            refine wpAnyH_take (i := 40) (v := ?_) (by simp; rfl) (by kernel_rfl) (by kernel_rfl) (by kernel_rfl) (by exact fun _ _ _ h => h) (Or.inl ⟨by rfl, fun wx hSx => ?_⟩) hHeld ?_
            rotate_left
            · clear hSx; go_simp; (try with_reducible rfl)
            simp only [Act.put, List.setIfInBounds_toArray, set16]; try simp only [List.set_cons_zero, List.set_cons_succ]
            refine wpAnyH_take (i := 41) (v := ?_) (by simp; rfl) (by kernel_rfl) (by kernel_rfl) (by kernel_rfl) (by exact fun _ _ _ h => h) (Or.inl ⟨by rfl, fun wx hSx => ?_⟩) hHeld ?_
            rotate_left
            · obtain ⟨e0, e1⟩ := And.intro (HMm.out.below hSx).c0 (HMm.out.below hSx).c1; clear hSx; go_simp; (try with_reducible rfl)
            simp only [Act.put, List.setIfInBounds_toArray, set16]; try simp only [List.set_cons_zero, List.set_cons_succ]
            refine wpAnyH_take (i := 43) (v := ?_) (by simp; rfl) (by kernel_rfl) (by kernel_rfl) (by kernel_rfl) (by exact fun _ _ _ h => h) (Or.inl ⟨by rfl, fun wx hSx => ?_⟩) hHeld ?_
            rotate_left
            · clear hSx; go_simp; (try with_reducible rfl)
            simp only [Act.put, List.setIfInBounds_toArray, set16]; try simp only [List.set_cons_zero, List.set_cons_succ]
            refine wpAnyH_take (i := 44) (v := ?_) (by simp; rfl) (by kernel_rfl) (by kernel_rfl) (by kernel_rfl) (by exact fun _ _ _ h => h) (Or.inl ⟨by rfl, fun wx hSx => ?_⟩) hHeld ?_
            rotate_left
            · clear hSx; go_simp; (try with_reducible rfl)
            simp only [Act.put, List.setIfInBounds_toArray, set16]; try simp only [List.set_cons_zero, List.set_cons_succ]
            refine wpAnyH_take (i := 45) (v := ?_) (by simp; rfl) (by kernel_rfl) (by kernel_rfl) (by kernel_rfl) (by exact fun _ _ _ h => h) (Or.inl ⟨by rfl, fun wx hSx => ?_⟩) hHeld ?_
            rotate_left
            · have e0 := (HMm.out.below hSx).c0; clear hSx; go_simp; (try with_reducible rfl)
            simp only [Act.put, List.setIfInBounds_toArray, set16]; try simp only [List.set_cons_zero, List.set_cons_succ]
            refine wpAnyH_take (i := 46) (v := ?_) (by simp; rfl) (by kernel_rfl) (by kernel_rfl) (by kernel_rfl) (by exact fun _ _ _ h => h) (Or.inl ⟨by rfl, fun wx hSx => ?_⟩) hHeld ?_
            rotate_left
            · clear hSx; go_simp; (try with_reducible rfl)
            simp only [Act.put, List.setIfInBounds_toArray, set16]; try simp only [List.set_cons_zero, List.set_cons_succ]
            refine wpAnyH_ready (rs := [42]) (by kernel_rfl) (by simp) ?_
            refine AllReadyH.cons (by simp; rfl) (fun K0 hK0 => ?_) AllReadyH.nil
            go_simp
            refine (HFL.out _).mono ?_
            rintro e v5 ⟨rfl, hy⟩
            have HBv5 := Lib.hid (Below.trans hHeld (hy.mono hHeld.size))
            clear hy
            refine hK0.out _ _ HBv5.out (fun _ => ?_)
            clear hK0 K0 hHeld
            have hHeld := HBv5.out
            refine wpAnyH_take (i := 47) (v := ?_) (by simp; rfl) (by kernel_rfl) (by kernel_rfl) (by kernel_rfl) (by exact fun _ _ _ h => h) (Or.inl ⟨by rfl, fun wx hSx => ?_⟩) hHeld ?_
            rotate_left
            · clear hSx; go_simp; (try with_reducible rfl)
            simp only [Act.put, List.setIfInBounds_toArray, set16]; try simp only [List.set_cons_zero, List.set_cons_succ]
            refine wpAnyH_take (i := 48) (v := ?_) (by simp; rfl) (by kernel_rfl) (by kernel_rfl) (by kernel_rfl) (by exact fun _ _ _ h => h) (Or.inl ⟨by rfl, fun wx hSx => ?_⟩) hHeld ?_
            rotate_left
            · clear hSx; go_simp; (try with_reducible rfl)
            simp only [Act.put, List.setIfInBounds_toArray, set16]; try simp only [List.set_cons_zero, List.set_cons_succ]
            refine wpAnyH_take (i := 49) (v := ?_) (by simp; rfl) (by kernel_rfl) (by kernel_rfl) (by kernel_rfl) (by exact fun _ _ _ h => h) (Or.inl ⟨by rfl, fun wx hSx => ?_⟩) hHeld ?_
            rotate_left
            · clear hSx; go_simp; (try with_reducible rfl)
            simp only [Act.put, List.setIfInBounds_toArray, set16]; try simp only [List.set_cons_zero, List.set_cons_succ]
            refine wpAnyH_done (by kernel_rfl) ?_ _
            go_wp2
            go_ret
            exact ⟨rfl, Bto HBZ.out HBv5.out⟩)
end Go.Proofs.Ytlppnnehgfpgbaa
