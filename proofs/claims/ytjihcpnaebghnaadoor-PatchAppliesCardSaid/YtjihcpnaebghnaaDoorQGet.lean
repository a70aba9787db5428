/-
  Proved here, for every list of bytes that a slice reads as, and every place: Get answers what 'getS' says, and leaves the world as it was.
-/
import Derived.Test.YtjihcpnaebghnaaDoorQPut
namespace Go.Proofs.YtjihcpnaebghnaaDoor
open Go.RowKit

set_option maxRecDepth 100000 in
theorem get_out (A : Option Addr) (len cap : Nat) (p : Int) (w : World) (h : p < 0 ∨ (len : Int) < p) : Calls Tryd.prog 57 #[.slice A len cap, .int .i64 p] w (GetPost (0, 0, 1) w) := by
  rcases h with h | h
  · go_enter Tryd.func57, Tryd.ntmps57
    go_wp2
    go_ret3
    exact ⟨rfl, rfl⟩
  · have h0 : decide (p < 0) = false := by simp; omega
    go_enter Tryd.func57, Tryd.ntmps57
    go_wp2
    go_ret3
    exact ⟨rfl, rfl⟩

set_option maxRecDepth 100000 in
theorem get_end (A : Option Addr) (len cap : Nat) (w : World) (_hc : len ≤ cap) (_hm : cap ≤ maxLen) : Calls Tryd.prog 57 #[.slice A len cap, .int .i64 len] w (GetPost (0, 0, 10) w) := by
  unfold maxLen at _hm
  have d1 : decide ((len : Int) < 0) = false := by simp
  have d2 : decide (len < len) = false := by simp
  go_enter Tryd.func57, Tryd.ntmps57
  go_wp2
  all_goals go_ret3
  all_goals exact ⟨rfl, rfl⟩

set_option maxRecDepth 100000 in
set_option maxHeartbeats 1000000 in
theorem get_short (b off len cap k : Nat) (x : Int) (w : World) (hk : k < len) (hcap : len ≤ cap) (_hm : cap ≤ maxLen) (hx0 : 0 ≤ x) (hx1 : x < 256) (hT : Tab w)
    (hx : w.cell? ⟨b, off + k, none⟩ = some (.int .u8 x)) (hn : len - k < need x) : Calls Tryd.prog 57 #[.slice (some ⟨b, off, none⟩) len cap, .int .i64 k] w (GetPost (0, 0, 10) w) := by
  unfold maxLen at _hm
  obtain ⟨c0, c1, c2, c3, hbig⟩ := id hT
  have d1 : decide ((k : Int) < 0) = false := by simp
  have d2 : decide (len < k) = false := by simp; omega
  have d3 : (((len - k : Nat) : Int) == 0) = false := beq_eq_false_iff_ne.2 (by omega)
  rcases need_cases x hx0 hx1 with ⟨hq, he⟩ | ⟨hq, he⟩ | ⟨hq, he⟩ | ⟨hq, he⟩
  all_goals rw [he] at hn
  all_goals clear he
  · exfalso; omega
  all_goals go_enter Tryd.func57, Tryd.ntmps57
  all_goals go_wp2
  all_goals go_ret3
  all_goals exact ⟨rfl, rfl⟩

set_option maxRecDepth 100000 in
set_option maxHeartbeats 2000000 in
theorem get_main (bs : List Int) (b off cap k : Nat) (w : World) (hk : k < bs.length) (hcap : bs.length ≤ cap) (hm : cap ≤ maxLen) (hB : Bytes bs) (hT : Tab w)
    (hc : ∀ i, i < bs.length → w.cell? ⟨b, off + i, none⟩ = some (.int .u8 (bs.getD i 0))) (hn : need (bs.getD k 0) ≤ bs.length - k) :
    Calls Tryd.prog 57 #[.slice (some ⟨b, off, none⟩) bs.length cap, .int .i64 k] w (LoopPost bs k (need (bs.getD k 0)) w) := by
  unfold maxLen at hm
  obtain ⟨c0, c1, c2, c3, hbig⟩ := id hT
  have d1 : decide ((k : Int) < 0) = false := by simp
  have d2 : decide (bs.length < k) = false := by simp; omega
  have d3 : (((bs.length - k : Nat) : Int) == 0) = false := beq_eq_false_iff_ne.2 (by omega)
  have HC := Lib.hid hc
  have hx := hc k hk
  clear hc
  obtain ⟨len, hlen⟩ : ∃ l, bs.length = l := ⟨_, rfl⟩
  rw [hlen] at hk hcap hn d2 d3 HC ⊢
  obtain ⟨x, hxe⟩ : ∃ x, bs.getD k 0 = x := ⟨_, rfl⟩
  have hb0 := hB k
  rw [hxe] at hx hn hb0 ⊢
  obtain ⟨hx0, hx1⟩ := hb0
  have HX := Lib.hid hxe
  have HL := Lib.hid hlen
  clear hxe hlen
  rcases need_cases x hx0 hx1 with ⟨hq, he⟩ | ⟨hq, he⟩ | ⟨hq, he⟩ | ⟨hq, he⟩
  all_goals rw [he] at hn ⊢
  all_goals clear he
  · have d4 : decide (((len - k : Nat) : Int) < 1) = false := by simp; omega
    have hab := acc_fits hB k 0 (by omega)
    go_enter Tryd.func57, Tryd.ntmps57
    go_wp2
    all_goals (
      go_loop [9, 11, 45] (fun v _ idx => ∃ i : Nat, i ≤ 0 ∧ idx = .int .i64 i ∧ v = .int .u64 (acc bs k i)) (fun _ _ idx => 8 - (intOf idx).toNat)
      case atStart => exact ⟨0, by omega, rfl, by rw [acc, HX.out]⟩
      case round =>
        obtain ⟨i, hi, rfl, rfl⟩ := hrel
        by_cases hlt : i < 0
        · exfalso; omega
        · obtain rfl : i = 0 := by omega
          obtain ⟨h0, h1⟩ := hab
          go_wp2_with fail
          refine (size_any _ _ h0 (by omega) hT).mono ?_
          rintro e w' ⟨rfl, rfl⟩
          by_cases hs : szOf (acc bs k 0) = (1 : Int)
          · have hs1 : (szOf (acc bs k 0) != (1 : Int)) = false := by simpa using hs
            have HY := Lib.hid (lp_yes (w := w) (bs := bs) (k := k) (n := 1) hs)
            clear hs
            go_wp2
            go_ret3
            exact HY.out
          · have hs1 : (szOf (acc bs k 0) != (1 : Int)) = true := by simpa using hs
            have HY := Lib.hid (lp_no (w := w) (bs := bs) (k := k) (n := 1) hs)
            clear hs
            go_wp2
            go_ret3
            exact HY.out)
  · have d4 : decide (((len - k : Nat) : Int) < 2) = false := by simp; omega
    have hab := acc_fits hB k 1 (by omega)
    go_enter Tryd.func57, Tryd.ntmps57
    go_wp2
    all_goals (
      go_loop [9, 11, 45] (fun v _ idx => ∃ i : Nat, i ≤ 1 ∧ idx = .int .i64 i ∧ v = .int .u64 (acc bs k i)) (fun _ _ idx => 8 - (intOf idx).toNat)
      case atStart => exact ⟨0, by omega, rfl, by rw [acc, HX.out]⟩
      case round =>
        obtain ⟨i, hi, rfl, rfl⟩ := hrel
        by_cases hlt : i < 1
        · obtain ⟨a0, a1⟩ := acc_small hB k i (by omega)
          obtain ⟨e0, e1⟩ := hB (k + 1 + i)
          have hci := HC.out (k + 1 + i) (by omega)
          have ho := or_low a0 a1 e0 e1
          obtain ⟨c, hce⟩ : ∃ c, bs.getD (k + 1 + i) 0 = c := ⟨_, rfl⟩
          rw [hce] at hci ho e0 e1
          have HCE := Lib.hid hce
          clear hce
          rw [show off + (k + 1 + i) = off + k + 1 + i from by omega] at hci
          go_wp2
          go_round
          case rel => exact ⟨i + 1, by omega, by go_num, by rw [acc, HCE.out]⟩
          case measure => simp [intOf]; omega
        · obtain rfl : i = 1 := by omega
          obtain ⟨h0, h1⟩ := hab
          go_wp2_with fail
          refine (size_any _ _ h0 (by omega) hT).mono ?_
          rintro e w' ⟨rfl, rfl⟩
          by_cases hs : szOf (acc bs k 1) = (2 : Int)
          · have hs1 : (szOf (acc bs k 1) != (2 : Int)) = false := by simpa using hs
            have HY := Lib.hid (lp_yes (w := w) (bs := bs) (k := k) (n := 2) hs)
            clear hs
            go_wp2
            go_ret3
            exact HY.out
          · have hs1 : (szOf (acc bs k 1) != (2 : Int)) = true := by simpa using hs
            have HY := Lib.hid (lp_no (w := w) (bs := bs) (k := k) (n := 2) hs)
            clear hs
            go_wp2
            go_ret3
            exact HY.out)
  · have d4 : decide (((len - k : Nat) : Int) < 4) = false := by simp; omega
    have hab := acc_fits hB k 3 (by omega)
    go_enter Tryd.func57, Tryd.ntmps57
    go_wp2
    all_goals (
      go_loop [9, 11, 45] (fun v _ idx => ∃ i : Nat, i ≤ 3 ∧ idx = .int .i64 i ∧ v = .int .u64 (acc bs k i)) (fun _ _ idx => 8 - (intOf idx).toNat)
      case atStart => exact ⟨0, by omega, rfl, by rw [acc, HX.out]⟩
      case round =>
        obtain ⟨i, hi, rfl, rfl⟩ := hrel
        by_cases hlt : i < 3
        · obtain ⟨a0, a1⟩ := acc_small hB k i (by omega)
          obtain ⟨e0, e1⟩ := hB (k + 1 + i)
          have hci := HC.out (k + 1 + i) (by omega)
          have ho := or_low a0 a1 e0 e1
          obtain ⟨c, hce⟩ : ∃ c, bs.getD (k + 1 + i) 0 = c := ⟨_, rfl⟩
          rw [hce] at hci ho e0 e1
          have HCE := Lib.hid hce
          clear hce
          rw [show off + (k + 1 + i) = off + k + 1 + i from by omega] at hci
          go_wp2
          go_round
          case rel => exact ⟨i + 1, by omega, by go_num, by rw [acc, HCE.out]⟩
          case measure => simp [intOf]; omega
        · obtain rfl : i = 3 := by omega
          obtain ⟨h0, h1⟩ := hab
          go_wp2_with fail
          refine (size_any _ _ h0 (by omega) hT).mono ?_
          rintro e w' ⟨rfl, rfl⟩
          by_cases hs : szOf (acc bs k 3) = (4 : Int)
          · have hs1 : (szOf (acc bs k 3) != (4 : Int)) = false := by simpa using hs
            have HY := Lib.hid (lp_yes (w := w) (bs := bs) (k := k) (n := 4) hs)
            clear hs
            go_wp2
            go_ret3
            exact HY.out
          · have hs1 : (szOf (acc bs k 3) != (4 : Int)) = true := by simpa using hs
            have HY := Lib.hid (lp_no (w := w) (bs := bs) (k := k) (n := 4) hs)
            clear hs
            go_wp2
            go_ret3
            exact HY.out)
  · have d4 : decide (((len - k : Nat) : Int) < 8) = false := by simp; omega
    have hab := acc_fits hB k 7 (by omega)
    go_enter Tryd.func57, Tryd.ntmps57
    go_wp2
    all_goals (
      go_loop [9, 11, 45] (fun v _ idx => ∃ i : Nat, i ≤ 7 ∧ idx = .int .i64 i ∧ v = .int .u64 (acc bs k i)) (fun _ _ idx => 8 - (intOf idx).toNat)
      case atStart => exact ⟨0, by omega, rfl, by rw [acc, HX.out]⟩
      case round =>
        obtain ⟨i, hi, rfl, rfl⟩ := hrel
        by_cases hlt : i < 7
        · obtain ⟨a0, a1⟩ := acc_small hB k i (by omega)
          obtain ⟨e0, e1⟩ := hB (k + 1 + i)
          have hci := HC.out (k + 1 + i) (by omega)
          have ho := or_low a0 a1 e0 e1
          obtain ⟨c, hce⟩ : ∃ c, bs.getD (k + 1 + i) 0 = c := ⟨_, rfl⟩
          rw [hce] at hci ho e0 e1
          have HCE := Lib.hid hce
          clear hce
          rw [show off + (k + 1 + i) = off + k + 1 + i from by omega] at hci
          go_wp2
          go_round
          case rel => exact ⟨i + 1, by omega, by go_num, by rw [acc, HCE.out]⟩
          case measure => simp [intOf]; omega
        · obtain rfl : i = 7 := by omega
          obtain ⟨h0, h1⟩ := hab
          go_wp2_with fail
          refine (size_any _ _ h0 (by omega) hT).mono ?_
          rintro e w' ⟨rfl, rfl⟩
          by_cases hs : szOf (acc bs k 7) = (8 : Int)
          · have hs1 : (szOf (acc bs k 7) != (8 : Int)) = false := by simpa using hs
            have HY := Lib.hid (lp_yes (w := w) (bs := bs) (k := k) (n := 8) hs)
            clear hs
            go_wp2
            go_ret3
            exact HY.out
          · have hs1 : (szOf (acc bs k 7) != (8 : Int)) = true := by simpa using hs
            have HY := Lib.hid (lp_no (w := w) (bs := bs) (k := k) (n := 8) hs)
            clear hs
            go_wp2
            go_ret3
            exact HY.out)

set_option maxRecDepth 100000 in
theorem get_any (bs : List Int) (A : Option Addr) (cap B : Nat) (p : Int) (w : World) (hR : RB w B A bs) (hcap : bs.length ≤ cap) (hm : cap ≤ maxLen) (hB : Bytes bs) (hT : Tab w) :
    Calls Tryd.prog 57 #[.slice A bs.length cap, .int .i64 p] w (GetPost (getS bs p) w) := by
  unfold getS
  by_cases h1 : p < 0 ∨ (bs.length : Int) < p
  · rw [if_pos h1]; exact get_out A _ cap p w h1
  · rw [if_neg h1]
    obtain ⟨k, rfl⟩ : ∃ k : Nat, p = (k : Int) := ⟨p.toNat, by omega⟩
    rw [Int.toNat_natCast]
    by_cases h2 : k = bs.length
    · subst h2
      rw [if_pos (.inr rfl)]
      exact get_end A _ cap w hcap hm
    · obtain ⟨b, off, rfl, _, hc⟩ := hR (by omega)
      by_cases h3 : bs.length - k < need (bs.getD k 0)
      · rw [if_pos (.inl h3)]
        exact get_short b off _ cap k _ w (by omega) hcap hm (hB k).1 (hB k).2 hT (hc k (by omega)) h3
      · rw [if_neg (by omega)]
        exact get_main bs b off cap k w (by omega) hcap hm hB hT hc (by omega)
end Go.Proofs.YtjihcpnaebghnaaDoor
