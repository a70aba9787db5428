/-
  Proved here, for every list of bytes that a slice reads as, and every place: the document's own Size and Get (package longlineref01) answer what 'szOf' and 'getS' say, and leave the world as it was.
-/
import Derived.Test.YtohhmpkmcodoeaaDoorVM
namespace Go.Proofs.YtohhmpkmcodoeaaDoor
open Go.RowKit

theorem refSize_any (v : Int) (w : World) (h0 : 0 ≤ v) (_h1 : v < 18446744073709551616) : Calls Tryd.prog 38 #[.int .u64 v] w fun e w' => e = .returned (.int .i64 (szOf v)) ∧ w = w' := by
  by_cases c1 : v < 64
  · go_enter Tryd.func38, Tryd.ntmps38
    go_wp2
    go_ret
    exact ⟨ret_int (by rw [szOf, if_pos c1]), rfl⟩
  · by_cases c2 : v < 16384
    · go_enter Tryd.func38, Tryd.ntmps38
      go_wp2
      go_ret
      exact ⟨ret_int (by rw [szOf, if_neg (by omega), if_pos c2]), rfl⟩
    · by_cases c3 : v < 1073741824
      · go_enter Tryd.func38, Tryd.ntmps38
        go_wp2
        go_ret
        exact ⟨ret_int (by rw [szOf, if_neg (by omega), if_neg (by omega), if_pos c3]), rfl⟩
      · by_cases c4 : v < 4611686018427387904
        · go_enter Tryd.func38, Tryd.ntmps38
          go_wp2
          go_ret
          exact ⟨ret_int (by rw [szOf, if_neg (by omega), if_neg (by omega), if_neg (by omega), if_pos c4]), rfl⟩
        · go_enter Tryd.func38, Tryd.ntmps38
          go_wp2
          go_ret
          exact ⟨ret_int (by rw [szOf, if_neg (by omega), if_neg (by omega), if_neg (by omega), if_neg (by omega)]), rfl⟩

theorem acc_next {bs : List Int} {k i : Nat} {c : Int} (hi : 1 ≤ i) (hc : bs.getD (k + i) 0 = c) : 256 * acc bs k (i - 1) + c = acc bs k (i + 1 - 1) := by
  obtain ⟨i, rfl⟩ : ∃ j, i = j + 1 := ⟨i - 1, by omega⟩
  rw [Nat.add_sub_cancel, Nat.add_sub_cancel, acc, ← hc, show k + (i + 1) = k + 1 + i from by omega]
  omega
theorem acc_le1 {bs : List Int} (h : Bytes bs) (k : Nat) : szOf (acc bs k 0) ≤ 1 := by
  obtain ⟨a, b⟩ := acc_bd h k 0
  rw [szOf, if_pos (by omega)]; omega
theorem acc_le2 {bs : List Int} (h : Bytes bs) (k : Nat) : szOf (acc bs k 1) ≤ 2 := by
  obtain ⟨a, b⟩ := acc_bd h k 1
  unfold szOf
  repeat' split
  all_goals omega
theorem acc_le4 {bs : List Int} (h : Bytes bs) (k : Nat) : szOf (acc bs k 3) ≤ 4 := by
  obtain ⟨a, b⟩ := acc_bd h k 3
  unfold szOf
  repeat' split
  all_goals omega
theorem acc_le8 {bs : List Int} (_h : Bytes bs) (k : Nat) : szOf (acc bs k 7) ≤ 8 := by
  unfold szOf
  repeat' split
  all_goals omega

theorem rget_out (A : Option Addr) (len cap : Nat) (p : Int) (w : World) (h : p < 0 ∨ (len : Int) < p) : Calls Tryd.prog 32 #[.slice A len cap, .int .i64 p] w (GetPost (0, 0, 1) w) := by
  rcases h with h | h
  · go_enter Tryd.func32, Tryd.ntmps32
    go_wp2
    go_ret3
    exact ⟨rfl, rfl⟩
  · have h0 : decide (p < 0) = false := by simp; omega
    go_enter Tryd.func32, Tryd.ntmps32
    go_wp2
    go_ret3
    exact ⟨rfl, rfl⟩

theorem rget_end (A : Option Addr) (len cap : Nat) (w : World) : Calls Tryd.prog 32 #[.slice A len cap, .int .i64 len] w (GetPost (0, 0, 10) w) := by
  have d1 : decide ((len : Int) < 0) = false := by simp
  have d2 : decide (len < len) = false := by simp
  go_enter Tryd.func32, Tryd.ntmps32
  go_wp2
  all_goals go_ret3
  all_goals exact ⟨rfl, rfl⟩

set_option maxHeartbeats 1000000 in
theorem rget_short (b off len cap k : Nat) (x : Int) (w : World) (hk : k < len) (hm : len ≤ maxLen) (hx0 : 0 ≤ x) (hx1 : x < 256)
    (hx : w.cell? ⟨b, off + k, none⟩ = some (.int .u8 x)) (hn : len - k < need x) : Calls Tryd.prog 32 #[.slice (some ⟨b, off, none⟩) len cap, .int .i64 k] w (GetPost (0, 0, 10) w) := by
  unfold maxLen at hm
  have d1 : decide ((k : Int) < 0) = false := by simp
  have d2 : decide (len < k) = false := by simp; omega
  have d3 : ((k : Int) == (len : Int)) = false := beq_eq_false_iff_ne.2 (by omega)
  rcases need_cases x hx0 hx1 with ⟨hq, he⟩ | ⟨hq, he⟩ | ⟨hq, he⟩ | ⟨hq, he⟩
  all_goals rw [he] at hn
  all_goals clear he
  · exfalso; omega
  all_goals go_enter Tryd.func32, Tryd.ntmps32
  all_goals go_wp2
  · go_rounds 2
    go_ret3
    exact ⟨rfl, rfl⟩
  · go_rounds 3
    go_ret3
    exact ⟨rfl, rfl⟩
  · go_rounds 4
    go_ret3
    exact ⟨rfl, rfl⟩

set_option maxHeartbeats 2000000 in
theorem rget_main (bs : List Int) (b off cap k : Nat) (w : World) (hk : k < bs.length) (hm : bs.length ≤ maxLen) (hB : Bytes bs)
    (hc : ∀ i, i < bs.length → w.cell? ⟨b, off + i, none⟩ = some (.int .u8 (bs.getD i 0))) (hn : need (bs.getD k 0) ≤ bs.length - k) :
    Calls Tryd.prog 32 #[.slice (some ⟨b, off, none⟩) bs.length cap, .int .i64 k] w (LoopPost bs k (need (bs.getD k 0)) w) := by
  unfold maxLen at hm
  have d1 : decide ((k : Int) < 0) = false := by simp
  have d2 : decide (bs.length < k) = false := by simp; omega
  have d3 : ((k : Int) == (bs.length : Int)) = false := beq_eq_false_iff_ne.2 (by omega)
  have HC := Lib.hid hc
  have hx := hc k hk
  clear hc
  obtain ⟨len, hlen⟩ : ∃ l, bs.length = l := ⟨_, rfl⟩
  rw [hlen] at hk hn hm d2 d3 HC ⊢
  obtain ⟨x, hxe⟩ : ∃ x, bs.getD k 0 = x := ⟨_, rfl⟩
  have hb0 := hB k
  rw [hxe] at hx hn hb0 ⊢
  obtain ⟨hx0, hx1⟩ := hb0
  have HX := Lib.hid hxe
  have HL := Lib.hid hlen
  clear hxe hlen
  rcases need_cases x hx0 hx1 with ⟨hq, he⟩ | ⟨hq, he⟩ | ⟨hq, he⟩ | ⟨hq, he⟩
  all_goals rw [he] at hn ⊢
  all_goals clear he
  · have g1 : (1 : Int) ≤ (len : Int) - (k : Int) := by omega
    have d4 : decide ((len : Int) - (k : Int) < 1) = false := by simp; omega
    have hab := acc_fits hB k 0 (by omega)
    have hle := acc_le1 hB k
    go_enter Tryd.func32, Tryd.ntmps32
    go_wp2
    go_rounds 1
    all_goals (
      go_loop [9, 10] (fun v idx => ∃ i : Nat, 1 ≤ i ∧ i ≤ 1 ∧ idx = .int .i64 i ∧ v = .int .u64 (acc bs k (i - 1))) (fun _ idx => 8 - (intOf idx).toNat)
      case atStart => exact ⟨1, by omega, by omega, rfl, by rw [show (1 - 1 : Nat) = 0 from rfl, acc, HX.out]⟩
      case round =>
        obtain ⟨i, hi1, hi, rfl, rfl⟩ := hrel
        by_cases hlt : i < 1
        · exfalso; omega
        · obtain rfl : i = 1 := by omega
          obtain ⟨h0, h1⟩ := hab
          go_wp2_with fail
          refine (refSize_any _ _ h0 (by omega)).mono ?_
          rintro e w' ⟨rfl, rfl⟩
          by_cases hs : szOf (acc bs k 0) = (1 : Int)
          · have hs1 : decide (szOf (acc bs k 0) < (1 : Int)) = false := by simp; omega
            have HY := Lib.hid (lp_yes (w := w) (bs := bs) (k := k) (n := 1) hs)
            clear hs
            go_wp2
            go_ret3
            exact HY.out
          · have hs1 : decide (szOf (acc bs k 0) < (1 : Int)) = true := by simp; omega
            have HY := Lib.hid (lp_no (w := w) (bs := bs) (k := k) (n := 1) hs)
            clear hs
            go_wp2
            go_ret3
            exact HY.out)
  · have g1 : (2 : Int) ≤ (len : Int) - (k : Int) := by omega
    have d4 : decide ((len : Int) - (k : Int) < 2) = false := by simp; omega
    have hab := acc_fits hB k 1 (by omega)
    have hle := acc_le2 hB k
    go_enter Tryd.func32, Tryd.ntmps32
    go_wp2
    go_rounds 2
    all_goals (
      go_loop [9, 10] (fun v idx => ∃ i : Nat, 1 ≤ i ∧ i ≤ 2 ∧ idx = .int .i64 i ∧ v = .int .u64 (acc bs k (i - 1))) (fun _ idx => 8 - (intOf idx).toNat)
      case atStart => exact ⟨1, by omega, by omega, rfl, by rw [show (1 - 1 : Nat) = 0 from rfl, acc, HX.out]⟩
      case round =>
        obtain ⟨i, hi1, hi, rfl, rfl⟩ := hrel
        by_cases hlt : i < 2
        · obtain ⟨a0, a1⟩ := acc_small hB k (i - 1) (by omega)
          obtain ⟨e0, e1⟩ := hB (k + i)
          have hci := HC.out (k + i) (by omega)
          obtain ⟨c, hce⟩ : ∃ c, bs.getD (k + i) 0 = c := ⟨_, rfl⟩
          rw [hce] at hci e0 e1
          have HCE := Lib.hid hce
          clear hce
          go_wp2
          go_round
          case rel => exact ⟨i + 1, by omega, by omega, by go_num, congrArg (Value.int .u64) (acc_next hi1 HCE.out)⟩
          case measure => simp [intOf]; omega
        · obtain rfl : i = 2 := by omega
          obtain ⟨h0, h1⟩ := hab
          go_wp2_with fail
          refine (refSize_any _ _ h0 (by omega)).mono ?_
          rintro e w' ⟨rfl, rfl⟩
          by_cases hs : szOf (acc bs k 1) = (2 : Int)
          · have hs1 : decide (szOf (acc bs k 1) < (2 : Int)) = false := by simp; omega
            have HY := Lib.hid (lp_yes (w := w) (bs := bs) (k := k) (n := 2) hs)
            clear hs
            go_wp2
            go_ret3
            exact HY.out
          · have hs1 : decide (szOf (acc bs k 1) < (2 : Int)) = true := by simp; omega
            have HY := Lib.hid (lp_no (w := w) (bs := bs) (k := k) (n := 2) hs)
            clear hs
            go_wp2
            go_ret3
            exact HY.out)
  · have g1 : (4 : Int) ≤ (len : Int) - (k : Int) := by omega
    have d4 : decide ((len : Int) - (k : Int) < 4) = false := by simp; omega
    have hab := acc_fits hB k 3 (by omega)
    have hle := acc_le4 hB k
    go_enter Tryd.func32, Tryd.ntmps32
    go_wp2
    go_rounds 3
    all_goals (
      go_loop [9, 10] (fun v idx => ∃ i : Nat, 1 ≤ i ∧ i ≤ 4 ∧ idx = .int .i64 i ∧ v = .int .u64 (acc bs k (i - 1))) (fun _ idx => 8 - (intOf idx).toNat)
      case atStart => exact ⟨1, by omega, by omega, rfl, by rw [show (1 - 1 : Nat) = 0 from rfl, acc, HX.out]⟩
      case round =>
        obtain ⟨i, hi1, hi, rfl, rfl⟩ := hrel
        by_cases hlt : i < 4
        · obtain ⟨a0, a1⟩ := acc_small hB k (i - 1) (by omega)
          obtain ⟨e0, e1⟩ := hB (k + i)
          have hci := HC.out (k + i) (by omega)
          obtain ⟨c, hce⟩ : ∃ c, bs.getD (k + i) 0 = c := ⟨_, rfl⟩
          rw [hce] at hci e0 e1
          have HCE := Lib.hid hce
          clear hce
          go_wp2
          go_round
          case rel => exact ⟨i + 1, by omega, by omega, by go_num, congrArg (Value.int .u64) (acc_next hi1 HCE.out)⟩
          case measure => simp [intOf]; omega
        · obtain rfl : i = 4 := by omega
          obtain ⟨h0, h1⟩ := hab
          go_wp2_with fail
          refine (refSize_any _ _ h0 (by omega)).mono ?_
          rintro e w' ⟨rfl, rfl⟩
          by_cases hs : szOf (acc bs k 3) = (4 : Int)
          · have hs1 : decide (szOf (acc bs k 3) < (4 : Int)) = false := by simp; omega
            have HY := Lib.hid (lp_yes (w := w) (bs := bs) (k := k) (n := 4) hs)
            clear hs
            go_wp2
            go_ret3
            exact HY.out
          · have hs1 : decide (szOf (acc bs k 3) < (4 : Int)) = true := by simp; omega
            have HY := Lib.hid (lp_no (w := w) (bs := bs) (k := k) (n := 4) hs)
            clear hs
            go_wp2
            go_ret3
            exact HY.out)
  · have g1 : (8 : Int) ≤ (len : Int) - (k : Int) := by omega
    have d4 : decide ((len : Int) - (k : Int) < 8) = false := by simp; omega
    have hab := acc_fits hB k 7 (by omega)
    have hle := acc_le8 hB k
    go_enter Tryd.func32, Tryd.ntmps32
    go_wp2
    go_rounds 4
    all_goals (
      go_loop [9, 10] (fun v idx => ∃ i : Nat, 1 ≤ i ∧ i ≤ 8 ∧ idx = .int .i64 i ∧ v = .int .u64 (acc bs k (i - 1))) (fun _ idx => 8 - (intOf idx).toNat)
      case atStart => exact ⟨1, by omega, by omega, rfl, by rw [show (1 - 1 : Nat) = 0 from rfl, acc, HX.out]⟩
      case round =>
        obtain ⟨i, hi1, hi, rfl, rfl⟩ := hrel
        by_cases hlt : i < 8
        · obtain ⟨a0, a1⟩ := acc_small hB k (i - 1) (by omega)
          obtain ⟨e0, e1⟩ := hB (k + i)
          have hci := HC.out (k + i) (by omega)
          obtain ⟨c, hce⟩ : ∃ c, bs.getD (k + i) 0 = c := ⟨_, rfl⟩
          rw [hce] at hci e0 e1
          have HCE := Lib.hid hce
          clear hce
          go_wp2
          go_round
          case rel => exact ⟨i + 1, by omega, by omega, by go_num, congrArg (Value.int .u64) (acc_next hi1 HCE.out)⟩
          case measure => simp [intOf]; omega
        · obtain rfl : i = 8 := by omega
          obtain ⟨h0, h1⟩ := hab
          go_wp2_with fail
          refine (refSize_any _ _ h0 (by omega)).mono ?_
          rintro e w' ⟨rfl, rfl⟩
          by_cases hs : szOf (acc bs k 7) = (8 : Int)
          · have hs1 : decide (szOf (acc bs k 7) < (8 : Int)) = false := by simp; omega
            have HY := Lib.hid (lp_yes (w := w) (bs := bs) (k := k) (n := 8) hs)
            clear hs
            go_wp2
            go_ret3
            exact HY.out
          · have hs1 : decide (szOf (acc bs k 7) < (8 : Int)) = true := by simp; omega
            have HY := Lib.hid (lp_no (w := w) (bs := bs) (k := k) (n := 8) hs)
            clear hs
            go_wp2
            go_ret3
            exact HY.out)

theorem rget_any (bs : List Int) (A : Option Addr) (cap B : Nat) (p : Int) (w : World) (hR : RB w B A bs) (hm : bs.length ≤ maxLen) (hB : Bytes bs) :
    Calls Tryd.prog 32 #[.slice A bs.length cap, .int .i64 p] w (GetPost (getS bs p) w) := by
  unfold getS
  by_cases h1 : p < 0 ∨ (bs.length : Int) < p
  · rw [if_pos h1]; exact rget_out A _ cap p w h1
  · rw [if_neg h1]
    obtain ⟨k, rfl⟩ : ∃ k : Nat, p = (k : Int) := ⟨p.toNat, by omega⟩
    rw [Int.toNat_natCast]
    by_cases h2 : k = bs.length
    · subst h2
      rw [if_pos (.inr rfl)]
      exact rget_end A _ cap w
    · obtain ⟨b, off, rfl, _, hc⟩ := hR (by omega)
      by_cases h3 : bs.length - k < need (bs.getD k 0)
      · rw [if_pos (.inl h3)]
        exact rget_short b off _ cap k _ w (by omega) hm (hB k).1 (hB k).2 (hc k (by omega)) h3
      · rw [if_neg (by omega)]
        exact rget_main bs b off cap k w (by omega) hm hB hc (by omega)
end Go.Proofs.YtohhmpkmcodoeaaDoor
