/-
  Proved here: of the document's maps: Write, of the list of any map.
-/
import Derived.Test.YtlppnnehgfpgbaaMl
set_option linter.unusedSimpArgs false
set_option linter.unusedVariables false
namespace Go.Proofs.Ytlppnnehgfpgbaa
open Go.RowKit
/-- The lowest bits of the byte at hand. -/
def lowB (b i : Nat) : Nat := b / 2 ^ (8 * (i / 8)) % 2 ^ (i % 8)
theorem lowB_lt (b i : Nat) : lowB b i < 2 ^ (i % 8) := Nat.mod_lt _ (Nat.two_pow_pos _)
theorem lowB_next {b i : Nat} : lowB b i + (if b.testBit i = true then 2 ^ (i % 8) else 0) = b / 2 ^ (8 * (i / 8)) % 2 ^ (i % 8 + 1) := by
  have ht : b.testBit i = (b / 2 ^ (8 * (i / 8))).testBit (i % 8) := by
    rw [Nat.testBit_div_two_pow, show i % 8 + 8 * (i / 8) = i by omega]
  unfold lowB
  rw [ht]
  generalize b / 2 ^ (8 * (i / 8)) = c
  generalize i % 8 = r
  rw [Nat.pow_succ, Nat.mod_mul, Nat.testBit_eq_decide_div_mod_eq]
  rcases Nat.mod_two_eq_zero_or_one (c / 2 ^ r) with h | h <;> rw [h] <;> simp
theorem lowB_step {b i : Nat} (h : i % 8 ≠ 7) : b / 2 ^ (8 * (i / 8)) % 2 ^ (i % 8 + 1) = lowB b (i + 1) := by
  unfold lowB
  rw [show (i + 1) / 8 = i / 8 by omega, show (i + 1) % 8 = i % 8 + 1 by omega]
theorem lowB_zero {b i : Nat} (h : i % 8 = 0) : lowB b i = 0 := by unfold lowB; rw [h]; simp [Nat.mod_one]
/-- What stands behind a byte's end. -/
theorem byR_end {b i : Nat} (h : i % 8 = 7) : byR (i / 8) b ++ [((b / 2 ^ (8 * (i / 8)) % 2 ^ (i % 8 + 1) : Nat) : Int)] = byR ((i + 1) / 8) b := by
  rw [show (i + 1) / 8 = i / 8 + 1 by omega, h]
  rfl
theorem byR_last {n b i : Nat} (hb : b < 2 ^ n) (hi : i + 1 = n) : byR (i / 8) b ++ [((b / 2 ^ (8 * (i / 8)) % 2 ^ (i % 8 + 1) : Nat) : Int)] = byR (sizeB n) b := by
  rw [show sizeB n = i / 8 + 1 by unfold sizeB; omega]
  conv => rhs; unfold byR
  have hlt : b / 2 ^ (8 * (i / 8)) < 2 ^ (i % 8 + 1) := by
    rw [Nat.div_lt_iff_lt_mul (Nat.two_pow_pos _), ← Nat.pow_add, show i % 8 + 1 + 8 * (i / 8) = n by omega]
    exact hb
  have h2 : 2 ^ (i % 8 + 1) ≤ 256 := by
    rw [show (256 : Nat) = 2 ^ 8 from rfl]
    exact Nat.pow_le_pow_right (by omega) (by omega)
  rw [Nat.mod_eq_of_lt hlt, Nat.mod_eq_of_lt (by omega)]
/-- What the loop has: the bytes that are done, the byte at hand, the next bit's worth; or all. -/
structure RW (n b i : Nat) (out : List Int) (v p : Nat) : Prop where
  go : i < n → out = (n : Int) :: byR (i / 8) b ∧ v = lowB b i ∧ p = 2 ^ (i % 8)
  all : i = n → out = wrB n b
theorem RW.len {n b i : Nat} {out : List Int} {v p : Nat} (h : RW n b i out v p) (hn : n ≤ 64) (hi : i < n) : out.length ≤ 9 := by
  obtain ⟨h1, _, _⟩ := h.go hi
  rw [h1, List.length_cons, byR_len]
  omega
theorem RW.start {n b : Nat} : RW n b 0 [(n : Int)] 0 1 := ⟨fun _ => ⟨rfl, (lowB_zero (by omega)).symm, rfl⟩, fun h => by subst h; rfl⟩
theorem RW.bounds {n b i : Nat} {out : List Int} {v p : Nat} (h : RW n b i out v p) (hi : i < n) : v < p ∧ p ≤ 128 := by
  obtain ⟨_, h2, h3⟩ := h.go hi
  rw [h2, h3]
  refine ⟨lowB_lt b i, ?_⟩
  rw [show (128 : Nat) = 2 ^ 7 from rfl]
  exact Nat.pow_le_pow_right (by omega) (by omega)
def nextV (b i v p : Nat) : Nat := v + (if b.testBit i = true then p else 0)
theorem RW.next {n b i : Nat} {out : List Int} {v p : Nat} (h : RW n b i out v p) (hi : i < n) : nextV b i v p = b / 2 ^ (8 * (i / 8)) % 2 ^ (i % 8 + 1) := by
  obtain ⟨_, h2, h3⟩ := h.go hi
  unfold nextV
  rw [h2, h3]
  exact lowB_next
theorem RW.more {n b i : Nat} {out : List Int} {v p : Nat} (h : RW n b i out v p) (h7 : i % 8 ≠ 7) (hl : i + 1 < n) : RW n b (i + 1) out (nextV b i v p) (2 * p) := by
  have hv := h.next (by omega)
  obtain ⟨h1, h2, h3⟩ := h.go (by omega)
  refine ⟨fun _ => ⟨by rw [h1, show (i + 1) / 8 = i / 8 by omega], by rw [hv, lowB_step h7], ?_⟩, fun e => absurd e (by omega)⟩
  rw [h3, show (i + 1) % 8 = i % 8 + 1 by omega, Nat.pow_succ]
  omega
theorem RW.over {n b i : Nat} {out : List Int} {v p : Nat} (h : RW n b i out v p) (hb : b < 2 ^ n) (hi : i < n) (h7 : i % 8 = 7 ∨ i + 1 = n) : RW n b (i + 1) (out ++ [((nextV b i v p : Nat) : Int)]) 0 1 := by
  have hv := h.next hi
  obtain ⟨h1, h2, h3⟩ := h.go hi
  rw [hv, h1]
  refine ⟨fun h4 => ?_, fun e => ?_⟩
  · have h77 : i % 8 = 7 := by omega
    refine ⟨by rw [List.cons_append, byR_end h77], (lowB_zero (by omega)).symm, by rw [show (i + 1) % 8 = 0 by omega]⟩
  · rw [List.cons_append, byR_last hb e]
    rfl
set_option maxHeartbeats 1000000 in
theorem rwrite_any {n b : Nat} (hn : n ≤ 64) (hb : b < 2 ^ n) {A : Option Addr} {c : Nat} (w : World) (hT : TI w A (bitsL n b)) : Calls Try.prog 36 #[.slice A n c] w fun e w' => ∃ v, e = .returned v ∧ Own8 w v (wrB n b) w' := by
  have HT := Lib.hid hT
  have HBB := Lib.hid hb
  obtain ⟨X, hX⟩ : ∃ X, wrB n b = X := ⟨_, rfl⟩
  have HXE := Lib.hid (fun (_ : Unit) => hX)
  rw [hX]
  have u0 : IntKind.u8.wrap (n : Int) = (n : Int) := IntWalk.u8_in _ (by omega)
  have HO0 := Lib.hid (Own8.lit1 w n)
  clear hT hX hb
  go_enter Try.func36, Try.ntmps36
  go_wp2
  go_loopw [3, 4, 5, 6] (fun ov vv pv iv wr => ∃ (u : Value) (i v p : Nat) (out : List Int), u = ov ∧ vv = .int .u8 v ∧ pv = .int .u8 p ∧ iv = .int .i64 i ∧ i ≤ n ∧ Hid (RW n b i out v p) ∧ Hid (Own8 w u out wr)) (fun _ _ _ iv _ => n - (intOf iv).toNat)
  case atStart => exact ⟨_, 0, 0, 1, _, rfl, rfl, rfl, rfl, by omega, Lib.hid RW.start, HO0⟩
  case round =>
    obtain ⟨u, i, v, p, out, rfl, rfl, rfl, rfl, hi, HW, HO⟩ := hrel
    clear HO0
    by_cases hin : i < n
    · have d1 : decide ((i : Int) < (n : Int)) = true := by simp; omega
      have d2 : decide (i < n) = true := by simp; omega
      obtain ⟨bl, off, hA, hbl, hc⟩ := HT.out (by rw [bitsL_len]; omega)
      have a0 := (HO.out.below.cell (p := ⟨bl, off + i, none⟩) hbl).trans (hc i (by rw [bitsL_len]; exact hin))
      rw [bitsL_at hin] at a0
      subst hA
      obtain ⟨hvp, hp8⟩ := HW.out.bounds hin
      have hlen := HW.out.len hn hin
      have HNV := Lib.hid (fun (_ : Unit) => show nextV b i v p = v + (if b.testBit i = true then p else 0) from rfl)
      have HMO := Lib.hid (fun (h7 : i % 8 ≠ 7) (hl : i + 1 < n) => HW.out.more h7 hl)
      have HOV := Lib.hid (fun (h7 : i % 8 = 7 ∨ i + 1 = n) => HW.out.over HBB.out hin h7)
      obtain ⟨y, hy⟩ : ∃ y, nextV b i v p = y := ⟨_, rfl⟩
      rw [hy] at HNV HMO HOV
      obtain ⟨x, hx⟩ : ∃ x, b.testBit i = x := ⟨_, rfl⟩
      rw [hx] at a0 HNV
      have hy255 : y ≤ 255 := by have := HNV.out (); cases x <;> simp at this <;> omega
      have w1 : IntKind.i64.wrap ((i : Int) + 1) = (i : Int) + 1 := IntWalk.i64_in _ (by omega)
      have w2 : IntKind.i64.wrap ((n : Int) - 1) = ((n - 1 : Nat) : Int) := by rw [IntWalk.i64_in _ (by omega)]; omega
      have w3 : ((i : Int)).tmod 8 = ((i % 8 : Nat) : Int) := by rw [Int.tmod_eq_emod_of_nonneg (by omega)]; omega
      have w4 : IntKind.i64.wrap ((i % 8 : Nat) : Int) = ((i % 8 : Nat) : Int) := IntWalk.i64_in _ (by omega)
      have g1 : (0 : Int) ≤ (i : Int) := by omega
      have g2 : (i : Int) < (n : Int) := by omega
      have w5 : IntKind.u8.wrap ((v : Int) + (p : Int)) = ((v + p : Nat) : Int) := by rw [IntWalk.u8_in _ (by omega)]; omega
      obtain ⟨A2, n2, cc, w2', hrun, hO2⟩ := HO.out.app [(y : Int)] 1 rfl (by omega)
      have HRUN := Lib.hid hrun
      have HO2 := Lib.hid hO2
      obtain ⟨r, hr⟩ : ∃ r, i % 8 = r := ⟨_, rfl⟩
      obtain ⟨n1, hn1⟩ : ∃ r, n - 1 = r := ⟨_, rfl⟩
      rw [hr] at w3 w4
      rw [hn1] at w2
      rw [hr] at HMO HOV
      clear hy hx hrun hO2 hc
      have hy2 := HNV.out ()
      clear HNV
      have HP2 := Lib.hid (fun (h : r ≠ 7) => show p ≤ 64 from by
        rw [(HW.out.go hin).2.2, show (64 : Nat) = 2 ^ 6 from rfl]
        exact Nat.pow_le_pow_right (by omega) (by omega))
      cases x
      · obtain rfl : y = v := by simpa using hy2
        clear hy2
        by_cases h7 : r = 7
        · have k1 : ((r : Int) == 7) = true := by simp; omega
          have HRO := Lib.hid (HOV.out (.inl h7))
          clear HOV h7
          clear HMO
          go_wp2_with (first | (at_builtin; refine wpList_app rfl (.tmp 36) (.tmp 38) _ rfl _ _ rfl rfl HRUN.out ?_))
          go_roundw
          case rel => exact ⟨_, i + 1, 0, 1, _, rfl, rfl, rfl, by go_num, by omega, HRO, HO2⟩
          case measure => simp [intOf]; omega
        have k1 : ((r : Int) == 7) = false := by simp; omega
        by_cases hl : i = n1
        · have k2 : ((i : Int) == (n1 : Int)) = true := by simp; omega
          have HRO := Lib.hid (HOV.out (.inr (by omega)))
          clear HOV h7 hl
          clear HMO
          go_wp2_with (first | (at_builtin; refine wpList_app rfl (.tmp 36) (.tmp 38) _ rfl _ _ rfl rfl HRUN.out ?_))
          go_roundw
          case rel => exact ⟨_, i + 1, 0, 1, _, rfl, rfl, rfl, by go_num, by omega, HRO, HO2⟩
          case measure => simp [intOf]; omega
        have k2 : ((i : Int) == (n1 : Int)) = false := by simp; omega
        have HRO := Lib.hid (HMO.out h7 (by omega))
        have hp2 := HP2.out h7
        have w6 : IntKind.u8.wrap (2 * (p : Int)) = ((2 * p : Nat) : Int) := by rw [IntWalk.u8_in _ (by omega)]; omega
        obtain ⟨p2, hp2e⟩ : ∃ p2, 2 * p = p2 := ⟨_, rfl⟩
        rw [hp2e] at w6 HRO
        clear HOV HMO h7 hl hp2e
        go_wp2
        go_roundw
        case rel => exact ⟨_, i + 1, y, p2, _, rfl, rfl, rfl, by go_num, by omega, HRO, HO⟩
        case measure => simp [intOf]; omega
      · have hy3 : y = v + p := by simpa using hy2
        rw [← hy3] at w5
        clear hy2 hy3
        by_cases h7 : r = 7
        · have k1 : ((r : Int) == 7) = true := by simp; omega
          have HRO := Lib.hid (HOV.out (.inl h7))
          clear HOV h7
          clear HMO
          go_wp2_with (first | (at_builtin; refine wpList_app rfl (.tmp 36) (.tmp 38) _ rfl _ _ rfl rfl HRUN.out ?_))
          go_roundw
          case rel => exact ⟨_, i + 1, 0, 1, _, rfl, rfl, rfl, by go_num, by omega, HRO, HO2⟩
          case measure => simp [intOf]; omega
        have k1 : ((r : Int) == 7) = false := by simp; omega
        by_cases hl : i = n1
        · have k2 : ((i : Int) == (n1 : Int)) = true := by simp; omega
          have HRO := Lib.hid (HOV.out (.inr (by omega)))
          clear HOV h7 hl
          clear HMO
          go_wp2_with (first | (at_builtin; refine wpList_app rfl (.tmp 36) (.tmp 38) _ rfl _ _ rfl rfl HRUN.out ?_))
          go_roundw
          case rel => exact ⟨_, i + 1, 0, 1, _, rfl, rfl, rfl, by go_num, by omega, HRO, HO2⟩
          case measure => simp [intOf]; omega
        have k2 : ((i : Int) == (n1 : Int)) = false := by simp; omega
        have HRO := Lib.hid (HMO.out h7 (by omega))
        have hp2 := HP2.out h7
        have w6 : IntKind.u8.wrap (2 * (p : Int)) = ((2 * p : Nat) : Int) := by rw [IntWalk.u8_in _ (by omega)]; omega
        obtain ⟨p2, hp2e⟩ : ∃ p2, 2 * p = p2 := ⟨_, rfl⟩
        rw [hp2e] at w6 HRO
        clear HOV HMO h7 hl hp2e
        go_wp2
        go_roundw
        case rel => exact ⟨_, i + 1, y, p2, _, rfl, rfl, rfl, by go_num, by omega, HRO, HO⟩
        case measure => simp [intOf]; omega
    · have d1 : decide ((i : Int) < (n : Int)) = false := by simp; omega
      have d2 : decide (i < n) = false := by simp; omega
      obtain rfl : i = n := by omega
      have HF := Lib.hid (show Own8 w u X wr from by
        rw [← HXE.out (), ← HW.out.all rfl]
        exact HO.out)
      go_wp2
      go_ret
      exact ⟨_, rfl, HF.out⟩
end Go.Proofs.Ytlppnnehgfpgbaa
