/-
  Proved here, for every list of bytes that a slice reads as, and every place: the document's own Size and Get (package longlineref01) answer what 'szOf' and 'getS' say, and leave the world as it was.
-/
import Derived.Test.YtjihcpnaebghnaaDoorVM
import Derived.WalkSpells
import Derived.Laws.AppendOwnNone
namespace Go.Proofs.YtjihcpnaebghnaaDoor
open Go.RowKit

set_option maxRecDepth 100000 in
theorem refSize_any (v : Int) (w : World) (h0 : 0 ≤ v) (_h1 : v < 18446744073709551616) : Calls Tryd.prog 61 #[.int .u64 v] w fun e w' => e = .returned (.int .i64 (szOf v)) ∧ w = w' := by
  by_cases c1 : v < 64
  · go_enter Tryd.func61, Tryd.ntmps61
    go_wp2
    go_ret
    exact ⟨ret_int (by rw [szOf, if_pos c1]), rfl⟩
  · by_cases c2 : v < 16384
    · go_enter Tryd.func61, Tryd.ntmps61
      go_wp2
      go_ret
      exact ⟨ret_int (by rw [szOf, if_neg (by omega), if_pos c2]), rfl⟩
    · by_cases c3 : v < 1073741824
      · go_enter Tryd.func61, Tryd.ntmps61
        go_wp2
        go_ret
        exact ⟨ret_int (by rw [szOf, if_neg (by omega), if_neg (by omega), if_pos c3]), rfl⟩
      · by_cases c4 : v < 4611686018427387904
        · go_enter Tryd.func61, Tryd.ntmps61
          go_wp2
          go_ret
          exact ⟨ret_int (by rw [szOf, if_neg (by omega), if_neg (by omega), if_neg (by omega), if_pos c4]), rfl⟩
        · go_enter Tryd.func61, Tryd.ntmps61
          go_wp2
          go_ret
          exact ⟨ret_int (by rw [szOf, if_neg (by omega), if_neg (by omega), if_neg (by omega), if_neg (by omega)]), rfl⟩

set_option maxRecDepth 100000 in
theorem acc_next {bs : List Int} {k i : Nat} {c : Int} (hi : 1 ≤ i) (hc : bs.getD (k + i) 0 = c) : 256 * acc bs k (i - 1) + c = acc bs k (i + 1 - 1) := by
  obtain ⟨i, rfl⟩ : ∃ j, i = j + 1 := ⟨i - 1, by omega⟩
  rw [Nat.add_sub_cancel, Nat.add_sub_cancel, acc, ← hc, show k + (i + 1) = k + 1 + i from by omega]
  omega
set_option maxRecDepth 100000 in
theorem acc_le1 {bs : List Int} (h : Bytes bs) (k : Nat) : szOf (acc bs k 0) ≤ 1 := by
  obtain ⟨a, b⟩ := acc_bd h k 0
  rw [szOf, if_pos (by omega)]; omega
set_option maxRecDepth 100000 in
theorem acc_le2 {bs : List Int} (h : Bytes bs) (k : Nat) : szOf (acc bs k 1) ≤ 2 := by
  obtain ⟨a, b⟩ := acc_bd h k 1
  unfold szOf
  repeat' split
  all_goals omega
set_option maxRecDepth 100000 in
theorem acc_le4 {bs : List Int} (h : Bytes bs) (k : Nat) : szOf (acc bs k 3) ≤ 4 := by
  obtain ⟨a, b⟩ := acc_bd h k 3
  unfold szOf
  repeat' split
  all_goals omega
set_option maxRecDepth 100000 in
theorem acc_le8 {bs : List Int} (_h : Bytes bs) (k : Nat) : szOf (acc bs k 7) ≤ 8 := by
  unfold szOf
  repeat' split
  all_goals omega

set_option maxRecDepth 100000 in
theorem rget_out (A : Option Addr) (len cap : Nat) (p : Int) (w : World) (h : p < 0 ∨ (len : Int) < p) : Calls Tryd.prog 32 #[.slice A len cap, .int .i64 p] w (GetPost (0, 0, 1) w) := by
  rcases h with h | h
  · go_enter Tryd.func32, Tryd.ntmps32
    go_wp2
    go_ret3
    exact ⟨rfl, rfl⟩
  · have h0 : decide (p < 0) = false := by simp; omega
    go_enter Tryd.func32, Tryd.ntmps32
    go_wp2
    go_ret3
    exact ⟨rfl, rfl⟩

set_option maxRecDepth 100000 in
theorem rget_end (A : Option Addr) (len cap : Nat) (w : World) : Calls Tryd.prog 32 #[.slice A len cap, .int .i64 len] w (GetPost (0, 0, 10) w) := by
  have d1 : decide ((len : Int) < 0) = false := by simp
  have d2 : decide (len < len) = false := by simp
  go_enter Tryd.func32, Tryd.ntmps32
  go_wp2
  all_goals go_ret3
  all_goals exact ⟨rfl, rfl⟩

set_option maxRecDepth 100000 in
set_option maxHeartbeats 1000000 in
theorem rget_short (b off len cap k : Nat) (x : Int) (w : World) (hk : k < len) (hm : len ≤ maxLen) (hx0 : 0 ≤ x) (hx1 : x < 256)
    (hx : w.cell? ⟨b, off + k, none⟩ = some (.int .u8 x)) (hn : len - k < need x) : Calls Tryd.prog 32 #[.slice (some ⟨b, off, none⟩) len cap, .int .i64 k] w (GetPost (0, 0, 10) w) := by
  unfold maxLen at hm
  have d1 : decide ((k : Int) < 0) = false := by simp
  have d2 : decide (len < k) = false := by simp; omega
  have d3 : ((k : Int) == (len : Int)) = false := beq_eq_false_iff_ne.2 (by omega)
  rcases need_cases x hx0 hx1 with ⟨hq, he⟩ | ⟨hq, he⟩ | ⟨hq, he⟩ | ⟨hq, he⟩
  all_goals rw [he] at hn
  all_goals clear he
  · exfalso; omega
  all_goals go_enter Tryd.func32, Tryd.ntmps32
  all_goals go_wp2
  · go_rounds 2
    go_ret3
    exact ⟨rfl, rfl⟩
  · go_rounds 3
    go_ret3
    exact ⟨rfl, rfl⟩
  · go_rounds 4
    go_ret3
    exact ⟨rfl, rfl⟩

set_option maxRecDepth 100000 in
set_option maxHeartbeats 2000000 in
theorem rget_main (bs : List Int) (b off cap k : Nat) (w : World) (hk : k < bs.length) (hm : bs.length ≤ maxLen) (hB : Bytes bs)
    (hc : ∀ i, i < bs.length → w.cell? ⟨b, off + i, none⟩ = some (.int .u8 (bs.getD i 0))) (hn : need (bs.getD k 0) ≤ bs.length - k) :
    Calls Tryd.prog 32 #[.slice (some ⟨b, off, none⟩) bs.length cap, .int .i64 k] w (LoopPost bs k (need (bs.getD k 0)) w) := by
  unfold maxLen at hm
  have d1 : decide ((k : Int) < 0) = false := by simp
  have d2 : decide (bs.length < k) = false := by simp; omega
  have d3 : ((k : Int) == (bs.length : Int)) = false := beq_eq_false_iff_ne.2 (by omega)
  have HC := Lib.hid hc
  have hx := hc k hk
  clear hc
  obtain ⟨len, hlen⟩ : ∃ l, bs.length = l := ⟨_, rfl⟩
  rw [hlen] at hk hn hm d2 d3 HC ⊢
  obtain ⟨x, hxe⟩ : ∃ x, bs.getD k 0 = x := ⟨_, rfl⟩
  have hb0 := hB k
  rw [hxe] at hx hn hb0 ⊢
  obtain ⟨hx0, hx1⟩ := hb0
  have HX := Lib.hid hxe
  have HL := Lib.hid hlen
  clear hxe hlen
  rcases need_cases x hx0 hx1 with ⟨hq, he⟩ | ⟨hq, he⟩ | ⟨hq, he⟩ | ⟨hq, he⟩
  all_goals rw [he] at hn ⊢
  all_goals clear he
  · have g1 : (1 : Int) ≤ (len : Int) - (k : Int) := by omega
    have d4 : decide ((len : Int) - (k : Int) < 1) = false := by simp; omega
    have hab := acc_fits hB k 0 (by omega)
    have hle := acc_le1 hB k
    go_enter Tryd.func32, Tryd.ntmps32
    go_wp2
    go_rounds 1
    all_goals (
      go_loop [9, 10] (fun v idx => ∃ i : Nat, 1 ≤ i ∧ i ≤ 1 ∧ idx = .int .i64 i ∧ v = .int .u64 (acc bs k (i - 1))) (fun _ idx => 8 - (intOf idx).toNat)
      case atStart => exact ⟨1, by omega, by omega, rfl, by rw [show (1 - 1 : Nat) = 0 from rfl, acc, HX.out]⟩
      case round =>
        obtain ⟨i, hi1, hi, rfl, rfl⟩ := hrel
        by_cases hlt : i < 1
        · exfalso; omega
        · obtain rfl : i = 1 := by omega
          obtain ⟨h0, h1⟩ := hab
          go_wp2_with fail
          refine (refSize_any _ _ h0 (by omega)).mono ?_
          rintro e w' ⟨rfl, rfl⟩
          by_cases hs : szOf (acc bs k 0) = (1 : Int)
          · have hs1 : decide (szOf (acc bs k 0) < (1 : Int)) = false := by simp; omega
            have HY := Lib.hid (lp_yes (w := w) (bs := bs) (k := k) (n := 1) hs)
            clear hs
            go_wp2
            go_ret3
            exact HY.out
          · have hs1 : decide (szOf (acc bs k 0) < (1 : Int)) = true := by simp; omega
            have HY := Lib.hid (lp_no (w := w) (bs := bs) (k := k) (n := 1) hs)
            clear hs
            go_wp2
            go_ret3
            exact HY.out)
  · have g1 : (2 : Int) ≤ (len : Int) - (k : Int) := by omega
    have d4 : decide ((len : Int) - (k : Int) < 2) = false := by simp; omega
    have hab := acc_fits hB k 1 (by omega)
    have hle := acc_le2 hB k
    go_enter Tryd.func32, Tryd.ntmps32
    go_wp2
    go_rounds 2
    all_goals (
      go_loop [9, 10] (fun v idx => ∃ i : Nat, 1 ≤ i ∧ i ≤ 2 ∧ idx = .int .i64 i ∧ v = .int .u64 (acc bs k (i - 1))) (fun _ idx => 8 - (intOf idx).toNat)
      case atStart => exact ⟨1, by omega, by omega, rfl, by rw [show (1 - 1 : Nat) = 0 from rfl, acc, HX.out]⟩
      case round =>
        obtain ⟨i, hi1, hi, rfl, rfl⟩ := hrel
        by_cases hlt : i < 2
        · obtain ⟨a0, a1⟩ := acc_small hB k (i - 1) (by omega)
          obtain ⟨e0, e1⟩ := hB (k + i)
          have hci := HC.out (k + i) (by omega)
          obtain ⟨c, hce⟩ : ∃ c, bs.getD (k + i) 0 = c := ⟨_, rfl⟩
          rw [hce] at hci e0 e1
          have HCE := Lib.hid hce
          clear hce
          go_wp2
          go_round
          case rel => exact ⟨i + 1, by omega, by omega, by go_num, congrArg (Value.int .u64) (acc_next hi1 HCE.out)⟩
          case measure => simp [intOf]; omega
        · obtain rfl : i = 2 := by omega
          obtain ⟨h0, h1⟩ := hab
          go_wp2_with fail
          refine (refSize_any _ _ h0 (by omega)).mono ?_
          rintro e w' ⟨rfl, rfl⟩
          by_cases hs : szOf (acc bs k 1) = (2 : Int)
          · have hs1 : decide (szOf (acc bs k 1) < (2 : Int)) = false := by simp; omega
            have HY := Lib.hid (lp_yes (w := w) (bs := bs) (k := k) (n := 2) hs)
            clear hs
            go_wp2
            go_ret3
            exact HY.out
          · have hs1 : decide (szOf (acc bs k 1) < (2 : Int)) = true := by simp; omega
            have HY := Lib.hid (lp_no (w := w) (bs := bs) (k := k) (n := 2) hs)
            clear hs
            go_wp2
            go_ret3
            exact HY.out)
  · have g1 : (4 : Int) ≤ (len : Int) - (k : Int) := by omega
    have d4 : decide ((len : Int) - (k : Int) < 4) = false := by simp; omega
    have hab := acc_fits hB k 3 (by omega)
    have hle := acc_le4 hB k
    go_enter Tryd.func32, Tryd.ntmps32
    go_wp2
    go_rounds 3
    all_goals (
      go_loop [9, 10] (fun v idx => ∃ i : Nat, 1 ≤ i ∧ i ≤ 4 ∧ idx = .int .i64 i ∧ v = .int .u64 (acc bs k (i - 1))) (fun _ idx => 8 - (intOf idx).toNat)
      case atStart => exact ⟨1, by omega, by omega, rfl, by rw [show (1 - 1 : Nat) = 0 from rfl, acc, HX.out]⟩
      case round =>
        obtain ⟨i, hi1, hi, rfl, rfl⟩ := hrel
        by_cases hlt : i < 4
        · obtain ⟨a0, a1⟩ := acc_small hB k (i - 1) (by omega)
          obtain ⟨e0, e1⟩ := hB (k + i)
          have hci := HC.out (k + i) (by omega)
          obtain ⟨c, hce⟩ : ∃ c, bs.getD (k + i) 0 = c := ⟨_, rfl⟩
          rw [hce] at hci e0 e1
          have HCE := Lib.hid hce
          clear hce
          go_wp2
          go_round
          case rel => exact ⟨i + 1, by omega, by omega, by go_num, congrArg (Value.int .u64) (acc_next hi1 HCE.out)⟩
          case measure => simp [intOf]; omega
        · obtain rfl : i = 4 := by omega
          obtain ⟨h0, h1⟩ := hab
          go_wp2_with fail
          refine (refSize_any _ _ h0 (by omega)).mono ?_
          rintro e w' ⟨rfl, rfl⟩
          by_cases hs : szOf (acc bs k 3) = (4 : Int)
          · have hs1 : decide (szOf (acc bs k 3) < (4 : Int)) = false := by simp; omega
            have HY := Lib.hid (lp_yes (w := w) (bs := bs) (k := k) (n := 4) hs)
            clear hs
            go_wp2
            go_ret3
            exact HY.out
          · have hs1 : decide (szOf (acc bs k 3) < (4 : Int)) = true := by simp; omega
            have HY := Lib.hid (lp_no (w := w) (bs := bs) (k := k) (n := 4) hs)
            clear hs
            go_wp2
            go_ret3
            exact HY.out)
  · have g1 : (8 : Int) ≤ (len : Int) - (k : Int) := by omega
    have d4 : decide ((len : Int) - (k : Int) < 8) = false := by simp; omega
    have hab := acc_fits hB k 7 (by omega)
    have hle := acc_le8 hB k
    go_enter Tryd.func32, Tryd.ntmps32
    go_wp2
    go_rounds 4
    all_goals (
      go_loop [9, 10] (fun v idx => ∃ i : Nat, 1 ≤ i ∧ i ≤ 8 ∧ idx = .int .i64 i ∧ v = .int .u64 (acc bs k (i - 1))) (fun _ idx => 8 - (intOf idx).toNat)
      case atStart => exact ⟨1, by omega, by omega, rfl, by rw [show (1 - 1 : Nat) = 0 from rfl, acc, HX.out]⟩
      case round =>
        obtain ⟨i, hi1, hi, rfl, rfl⟩ := hrel
        by_cases hlt : i < 8
        · obtain ⟨a0, a1⟩ := acc_small hB k (i - 1) (by omega)
          obtain ⟨e0, e1⟩ := hB (k + i)
          have hci := HC.out (k + i) (by omega)
          obtain ⟨c, hce⟩ : ∃ c, bs.getD (k + i) 0 = c := ⟨_, rfl⟩
          rw [hce] at hci e0 e1
          have HCE := Lib.hid hce
          clear hce
          go_wp2
          go_round
          case rel => exact ⟨i + 1, by omega, by omega, by go_num, congrArg (Value.int .u64) (acc_next hi1 HCE.out)⟩
          case measure => simp [intOf]; omega
        · obtain rfl : i = 8 := by omega
          obtain ⟨h0, h1⟩ := hab
          go_wp2_with fail
          refine (refSize_any _ _ h0 (by omega)).mono ?_
          rintro e w' ⟨rfl, rfl⟩
          by_cases hs : szOf (acc bs k 7) = (8 : Int)
          · have hs1 : decide (szOf (acc bs k 7) < (8 : Int)) = false := by simp; omega
            have HY := Lib.hid (lp_yes (w := w) (bs := bs) (k := k) (n := 8) hs)
            clear hs
            go_wp2
            go_ret3
            exact HY.out
          · have hs1 : decide (szOf (acc bs k 7) < (8 : Int)) = true := by simp; omega
            have HY := Lib.hid (lp_no (w := w) (bs := bs) (k := k) (n := 8) hs)
            clear hs
            go_wp2
            go_ret3
            exact HY.out)

set_option maxRecDepth 100000 in
theorem rget_any (bs : List Int) (A : Option Addr) (cap B : Nat) (p : Int) (w : World) (hR : RB w B A bs) (hm : bs.length ≤ maxLen) (hB : Bytes bs) :
    Calls Tryd.prog 32 #[.slice A bs.length cap, .int .i64 p] w (GetPost (getS bs p) w) := by
  unfold getS
  by_cases h1 : p < 0 ∨ (bs.length : Int) < p
  · rw [if_pos h1]; exact rget_out A _ cap p w h1
  · rw [if_neg h1]
    obtain ⟨k, rfl⟩ : ∃ k : Nat, p = (k : Int) := ⟨p.toNat, by omega⟩
    rw [Int.toNat_natCast]
    by_cases h2 : k = bs.length
    · subst h2
      rw [if_pos (.inr rfl)]
      exact rget_end A _ cap w
    · obtain ⟨b, off, rfl, _, hc⟩ := hR (by omega)
      by_cases h3 : bs.length - k < need (bs.getD k 0)
      · rw [if_pos (.inl h3)]
        exact rget_short b off _ cap k _ w (by omega) hm (hB k).1 (hB k).2 (hc k (by omega)) h3
      · rw [if_neg (by omega)]
        exact rget_main bs b off cap k w (by omega) hm hB hc (by omega)
end Go.Proofs.YtjihcpnaebghnaaDoor

/-
  Proved here: the document's own Put (package longlineref01) answers, of a number below 2^62, its bytes ('numB') in memory of its own, and of any other nothing.
-/
namespace Go.Proofs.YtjihcpnaebghnaaDoor
open Go.RowKit

set_option maxRecDepth 100000 in
theorem rput_big (v : Int) (w : World) (h0 : 4611686018427387904 ≤ v) (h1 : v < 18446744073709551616) : Calls Tryd.prog 43 #[.int .u64 v] w fun e w' => e = .returned (.slice none 0 0) ∧ w = w' := by
  have hz : szOf v = 0 := by rw [szOf, if_neg (by omega), if_neg (by omega), if_neg (by omega), if_neg (by omega)]
  have HZ := Lib.hid (refSize_any v w (by omega) h1)
  rw [hz] at HZ
  clear hz
  go_enter Tryd.func43, Tryd.ntmps43
  go_wp2
  refine wp_loop_rounds 1 ?_
  rw [rounds_succ]
  go_wp2_with fail
  refine HZ.out.mono ?_
  rintro e w' ⟨rfl, rfl⟩
  go_wp2_with fail
  refine HZ.out.mono ?_
  rintro e w' ⟨rfl, rfl⟩
  go_wp2
  go_rounds 1
  go_ret
  exact ⟨rfl, rfl⟩

set_option maxRecDepth 100000 in
theorem digs_low (k : Nat) (v : Int) : v / 2 ^ (8 * k) % 256 :: digs k v = digs (k + 1) v := rfl
set_option maxRecDepth 100000 in
theorem div_step (v : Int) (k : Nat) : v / 2 ^ (8 * k) / 256 = v / 2 ^ (8 * (k + 1)) := by
  have h : (2 : Int) ^ (8 * k) ≥ 0 := Int.le_of_lt (Int.pow_pos (by omega))
  rw [Int.ediv_ediv_of_nonneg h, show 8 * (k + 1) = 8 * k + 8 from by omega, Int.pow_add]
  rfl
set_option maxRecDepth 100000 in
theorem div_le (v : Int) (k : Nat) (h : 0 ≤ v) : 0 ≤ v / 2 ^ (8 * k) ∧ v / 2 ^ (8 * k) ≤ v := by
  have hp : (0 : Int) < 2 ^ (8 * k) := Int.pow_pos (by omega)
  exact ⟨Int.ediv_nonneg h (Int.le_of_lt hp), Int.ediv_le_self _ h⟩

set_option maxRecDepth 100000 in
theorem numB0 {v : Int} (h1 : v < 64) (_h0 : 0 ≤ v) : B8 (numB v) = (B8 (digs 1 v)).set 0 (.int .u8 (v / 2 ^ (8 * 0) % 256)) := by
  have e : numB v = [v % 256] := by rw [numB, szN0 h1, topV, if_pos h1]; simp [digs]
  rw [e]
  simp [digs, B8]
set_option maxRecDepth 100000 in
theorem numB1 {v : Int} (h0 : 64 ≤ v) (h1 : v < 16384) : B8 (numB v) = (B8 (digs 2 v)).set 0 (.int .u8 (v / 2 ^ (8 * 1) % 256 + 64)) := by
  rw [numB, szN1 h0 h1, topV, if_neg (by omega), if_pos h1]
  simp [digs, B8]
  omega
set_option maxRecDepth 100000 in
theorem numB2 {v : Int} (h0 : 16384 ≤ v) (h1 : v < 1073741824) : B8 (numB v) = (B8 (digs 4 v)).set 0 (.int .u8 (v / 2 ^ (8 * 3) % 256 + 128)) := by
  rw [numB, szN2 h0 h1, topV, if_neg (by omega), if_neg (by omega), if_pos h1]
  simp [digs, B8]
  omega
set_option maxRecDepth 100000 in
theorem numB3 {v : Int} (h0 : 1073741824 ≤ v) (h1 : v < 4611686018427387904) : B8 (numB v) = (B8 (digs 8 v)).set 0 (.int .u8 (v / 2 ^ (8 * 7) % 256 + 192)) := by
  rw [numB, szN3 h0, topV, if_neg (by omega), if_neg (by omega), if_neg (by omega)]
  simp [digs, B8]
  omega
set_option maxRecDepth 100000 in
set_option maxHeartbeats 1000000 in
theorem rput_1 (v : Int) (w : World) (h0 : 0 ≤ v) (h1 : v < 64) : Calls Tryd.prog 43 #[.int .u64 v] w (OwnPost (numB v) w) := by
  obtain ⟨i0, hi, hz0, hz1, hz2⟩ := info_parts infoByte
  have hs : szOf v = 1 := by rw [szOf_szN (by omega), szN0 h1]; rfl
  have HZ := Lib.hid (fun W => refSize_any v W h0 (by omega))
  rw [hs] at HZ
  have HN := Lib.hid (numB0 h1 h0)
  have HL : Hid ((numB v).length = 1) := (numB_length v).trans (szN0 h1)
  clear hs
  go_enter Tryd.func43, Tryd.ntmps43
  go_wp2
  go_loopw [3, 4, 5] (fun b r i wr => ∃ k : Nat, k ≤ 1 ∧ i = .int .i64 k ∧ r = .int .u64 (v / 2 ^ (8 * k)) ∧ wr.ownsRow w.heap.size 5 1 b k (B8 (digs k v)) ∧ Below w.heap.size w wr ∧ (k = 0 → b = .slice none 0 0)) (fun _ _ i _ => 1 - (intOf i).toNat)
  case atStart => exact ⟨0, by omega, rfl, by simp, World.ownsRow_nil _ _ _ _, Below.refl _ _, fun _ => rfl⟩
  case round =>
    obtain ⟨k, hk, rfl, rfl, hown, hbel, hnil⟩ := hrel
    have hbs := hbel.size
    obtain ⟨q0, q1⟩ := div_le v k h0
    have HD := Lib.hid (div_step v k)
    by_cases hlt : k < 1
    · obtain ⟨r, hr⟩ : ∃ r, v / 2 ^ (8 * k) = r := ⟨_, rfl⟩
      rw [hr] at q0 q1 HD ⊢
      have HDG : Hid (r % 256 :: digs k v = digs (k + 1) v) := by rw [← hr]; rfl
      clear hr
      by_cases hk0 : k = 0
      · have hb0 := hnil hk0
        subst hb0
        subst hk0
        clear hnil
        go_wp2_with fail
        refine (HZ.out _).mono ?_
        rintro e w' ⟨rfl, rfl⟩
        go_wp2_with (at_builtin; refine wpList_append_own_none rfl _ _ 25 rfl w.heap.size 5 i0 1 Tryd.underlying25 hi _ 1 [.int .u8 (r % 256)] rfl (World.ownsRow_lit wr #[.int .u8 (r % 256)] 1 hbs (by unfold maxLen; omega) rfl) rfl ?_)
        go_wp2
        go_roundw
        case rel => exact ⟨1, by omega, rfl, congrArg (Value.int .u64) HD.out, by rw [show (1 : Nat) = 0 + 1 from rfl, ← HDG.out]; exact World.ownsRow_lit wr #[.int .u8 (r % 256)] 1 hbs (by unfold maxLen; omega) rfl, hbel.alloc hbs _, fun h => absurd h (by omega)⟩
        case measure => simp [intOf]
      · exfalso; omega
    · obtain rfl : k = 1 := by omega
      clear hnil
      obtain ⟨g, cp, rfl, hgb, hgl⟩ := hown.form (by omega)
      have hcell := hown.cellAt 0 (by omega)
      rw [show (B8 (digs 1 v))[0]? = some (.int .u8 (v / 2 ^ (8 * 0) % 256)) from rfl] at hcell
      have hfr := hown.frozenAt 0
      have hst := hown.stored 0 (.int .u8 (v / 2 ^ (8 * 0) % 256))
      rw [← HN.out] at hst
      have hbf : Below w.heap.size w (wr.setCell ⟨g, 0, none⟩ (.int .u8 (v / 2 ^ (8 * 0) % 256))) := hbel.setCell (p := ⟨g, 0, none⟩) hgb _
      have HF : Hid (OwnPost (numB v) w (.returned (.slice (some ⟨g, 0, none⟩) 1 cp)) (wr.setCell ⟨g, 0, none⟩ (.int .u8 (v / 2 ^ (8 * 0) % 256)))) := ⟨_, rfl, by rw [HL.out]; exact hst.1, hbf⟩
      clear hst hbf hown
      obtain ⟨d, hd⟩ : ∃ d, v / 2 ^ (8 * 0) % 256 = d := ⟨_, rfl⟩
      have hd1 : 0 ≤ d ∧ d < 256 := by omega
      obtain ⟨hd2, hd3⟩ := hd1
      rw [hd] at hcell HF
      clear hd
      go_wp2_with fail
      refine (HZ.out _).mono ?_
      rintro e w' ⟨rfl, rfl⟩
      go_wp2_with fail
      refine (HZ.out _).mono ?_
      rintro e w' ⟨rfl, rfl⟩
      go_wp2
      go_rounds 1
      go_ret
      exact HF.out

set_option maxRecDepth 100000 in
set_option maxHeartbeats 1000000 in
theorem rput_2 (v : Int) (w : World) (h0 : 0 ≤ v) (ha : 64 ≤ v) (h1 : v < 16384) : Calls Tryd.prog 43 #[.int .u64 v] w (OwnPost (numB v) w) := by
  obtain ⟨i0, hi, hz0, hz1, hz2⟩ := info_parts infoByte
  have hs : szOf v = 2 := by rw [szOf_szN (by omega), szN1 ha h1]; rfl
  have HZ := Lib.hid (fun W => refSize_any v W h0 (by omega))
  rw [hs] at HZ
  have HN := Lib.hid (numB1 ha h1)
  have HL : Hid ((numB v).length = 2) := (numB_length v).trans (szN1 ha h1)
  clear hs
  go_enter Tryd.func43, Tryd.ntmps43
  go_wp2
  go_loopw [3, 4, 5] (fun b r i wr => ∃ k : Nat, k ≤ 2 ∧ i = .int .i64 k ∧ r = .int .u64 (v / 2 ^ (8 * k)) ∧ wr.ownsRow w.heap.size 5 1 b k (B8 (digs k v)) ∧ Below w.heap.size w wr ∧ (k = 0 → b = .slice none 0 0)) (fun _ _ i _ => 2 - (intOf i).toNat)
  case atStart => exact ⟨0, by omega, rfl, by simp, World.ownsRow_nil _ _ _ _, Below.refl _ _, fun _ => rfl⟩
  case round =>
    obtain ⟨k, hk, rfl, rfl, hown, hbel, hnil⟩ := hrel
    have hbs := hbel.size
    obtain ⟨q0, q1⟩ := div_le v k h0
    have HD := Lib.hid (div_step v k)
    by_cases hlt : k < 2
    · obtain ⟨r, hr⟩ : ∃ r, v / 2 ^ (8 * k) = r := ⟨_, rfl⟩
      rw [hr] at q0 q1 HD ⊢
      have HDG : Hid (r % 256 :: digs k v = digs (k + 1) v) := by rw [← hr]; rfl
      clear hr
      by_cases hk0 : k = 0
      · have hb0 := hnil hk0
        subst hb0
        subst hk0
        clear hnil
        go_wp2_with fail
        refine (HZ.out _).mono ?_
        rintro e w' ⟨rfl, rfl⟩
        go_wp2_with (at_builtin; refine wpList_append_own_none rfl _ _ 25 rfl w.heap.size 5 i0 1 Tryd.underlying25 hi _ 1 [.int .u8 (r % 256)] rfl (World.ownsRow_lit wr #[.int .u8 (r % 256)] 1 hbs (by unfold maxLen; omega) rfl) rfl ?_)
        go_wp2
        go_roundw
        case rel => exact ⟨1, by omega, rfl, congrArg (Value.int .u64) HD.out, by rw [show (1 : Nat) = 0 + 1 from rfl, ← HDG.out]; exact World.ownsRow_lit wr #[.int .u8 (r % 256)] 1 hbs (by unfold maxLen; omega) rfl, hbel.alloc hbs _, fun h => absurd h (by omega)⟩
        case measure => simp [intOf]
      · clear hnil
        obtain ⟨g, cp, rfl, hgb, hgl⟩ := hown.form (by omega)
        go_wp2_with fail
        refine (HZ.out _).mono ?_
        rintro e w' ⟨rfl, rfl⟩
        go_wp2_with (at_builtin; refine wpList_append_own _ rfl _ _ 25 rfl w.heap.size 5 i0 (.int .u8 0) 1 1 Tryd.underlying25 hi hz0 hz1 hz2 rfl (by decide) _ 1 [.int .u8 (r % 256)] rfl (World.ownsRow_lit wr #[.int .u8 (r % 256)] 1 hbs (by unfold maxLen; omega) rfl) ⟨g, 0, none⟩ k cp (B8 (digs k v)) rfl (by simp [digs_length]) ?c1 (oneCell_B8 _) ?c3 ?c4 ?c5 ?_)
        case c1 => exact (hown.alloc _).cells rfl
        case c3 => unfold maxLen; omega
        case c4 => omega
        case c5 => simp; omega
        · intro v' w1 hown1 hgrow _
          have hb1 : Below w.heap.size w w1 := (hbel.alloc hbs _).grown hgrow (by simp; omega) (fun _ hx => lit_le hbs hx)
          have hown2 : w1.ownsRow w.heap.size 5 1 v' (k + 1) (B8 (digs (k + 1) v)) := by rw [← HDG.out, Nat.add_comm k 1]; simpa using hown1
          clear hown1 hgrow hown hbel
          go_wp2
          go_roundw
          case rel => exact ⟨k + 1, by omega, by go_num, congrArg (Value.int .u64) HD.out, hown2, hb1, fun h => absurd h (by omega)⟩
          case measure => simp [intOf]; omega
    · obtain rfl : k = 2 := by omega
      clear hnil
      obtain ⟨g, cp, rfl, hgb, hgl⟩ := hown.form (by omega)
      have hcell := hown.cellAt 0 (by omega)
      rw [show (B8 (digs 2 v))[0]? = some (.int .u8 (v / 2 ^ (8 * 1) % 256)) from rfl] at hcell
      have hfr := hown.frozenAt 0
      have hst := hown.stored 0 (.int .u8 (v / 2 ^ (8 * 1) % 256 + 64))
      rw [← HN.out] at hst
      have hbf : Below w.heap.size w (wr.setCell ⟨g, 0, none⟩ (.int .u8 (v / 2 ^ (8 * 1) % 256 + 64))) := hbel.setCell (p := ⟨g, 0, none⟩) hgb _
      have HF : Hid (OwnPost (numB v) w (.returned (.slice (some ⟨g, 0, none⟩) 2 cp)) (wr.setCell ⟨g, 0, none⟩ (.int .u8 (v / 2 ^ (8 * 1) % 256 + 64)))) := ⟨_, rfl, by rw [HL.out]; exact hst.1, hbf⟩
      clear hst hbf hown
      obtain ⟨d, hd⟩ : ∃ d, v / 2 ^ (8 * 1) % 256 = d := ⟨_, rfl⟩
      have hd1 : 0 ≤ d ∧ d + 64 < 256 := by omega
      obtain ⟨hd2, hd3⟩ := hd1
      rw [hd] at hcell HF
      clear hd
      go_wp2_with fail
      refine (HZ.out _).mono ?_
      rintro e w' ⟨rfl, rfl⟩
      go_wp2_with fail
      refine (HZ.out _).mono ?_
      rintro e w' ⟨rfl, rfl⟩
      go_wp2
      go_rounds 2
      go_ret
      exact HF.out

set_option maxRecDepth 100000 in
set_option maxHeartbeats 1000000 in
theorem rput_4 (v : Int) (w : World) (h0 : 0 ≤ v) (ha : 16384 ≤ v) (h1 : v < 1073741824) : Calls Tryd.prog 43 #[.int .u64 v] w (OwnPost (numB v) w) := by
  obtain ⟨i0, hi, hz0, hz1, hz2⟩ := info_parts infoByte
  have hs : szOf v = 4 := by rw [szOf_szN (by omega), szN2 ha h1]; rfl
  have HZ := Lib.hid (fun W => refSize_any v W h0 (by omega))
  rw [hs] at HZ
  have HN := Lib.hid (numB2 ha h1)
  have HL : Hid ((numB v).length = 4) := (numB_length v).trans (szN2 ha h1)
  clear hs
  go_enter Tryd.func43, Tryd.ntmps43
  go_wp2
  go_loopw [3, 4, 5] (fun b r i wr => ∃ k : Nat, k ≤ 4 ∧ i = .int .i64 k ∧ r = .int .u64 (v / 2 ^ (8 * k)) ∧ wr.ownsRow w.heap.size 5 1 b k (B8 (digs k v)) ∧ Below w.heap.size w wr ∧ (k = 0 → b = .slice none 0 0)) (fun _ _ i _ => 4 - (intOf i).toNat)
  case atStart => exact ⟨0, by omega, rfl, by simp, World.ownsRow_nil _ _ _ _, Below.refl _ _, fun _ => rfl⟩
  case round =>
    obtain ⟨k, hk, rfl, rfl, hown, hbel, hnil⟩ := hrel
    have hbs := hbel.size
    obtain ⟨q0, q1⟩ := div_le v k h0
    have HD := Lib.hid (div_step v k)
    by_cases hlt : k < 4
    · obtain ⟨r, hr⟩ : ∃ r, v / 2 ^ (8 * k) = r := ⟨_, rfl⟩
      rw [hr] at q0 q1 HD ⊢
      have HDG : Hid (r % 256 :: digs k v = digs (k + 1) v) := by rw [← hr]; rfl
      clear hr
      by_cases hk0 : k = 0
      · have hb0 := hnil hk0
        subst hb0
        subst hk0
        clear hnil
        go_wp2_with fail
        refine (HZ.out _).mono ?_
        rintro e w' ⟨rfl, rfl⟩
        go_wp2_with (at_builtin; refine wpList_append_own_none rfl _ _ 25 rfl w.heap.size 5 i0 1 Tryd.underlying25 hi _ 1 [.int .u8 (r % 256)] rfl (World.ownsRow_lit wr #[.int .u8 (r % 256)] 1 hbs (by unfold maxLen; omega) rfl) rfl ?_)
        go_wp2
        go_roundw
        case rel => exact ⟨1, by omega, rfl, congrArg (Value.int .u64) HD.out, by rw [show (1 : Nat) = 0 + 1 from rfl, ← HDG.out]; exact World.ownsRow_lit wr #[.int .u8 (r % 256)] 1 hbs (by unfold maxLen; omega) rfl, hbel.alloc hbs _, fun h => absurd h (by omega)⟩
        case measure => simp [intOf]
      · clear hnil
        obtain ⟨g, cp, rfl, hgb, hgl⟩ := hown.form (by omega)
        go_wp2_with fail
        refine (HZ.out _).mono ?_
        rintro e w' ⟨rfl, rfl⟩
        go_wp2_with (at_builtin; refine wpList_append_own _ rfl _ _ 25 rfl w.heap.size 5 i0 (.int .u8 0) 1 1 Tryd.underlying25 hi hz0 hz1 hz2 rfl (by decide) _ 1 [.int .u8 (r % 256)] rfl (World.ownsRow_lit wr #[.int .u8 (r % 256)] 1 hbs (by unfold maxLen; omega) rfl) ⟨g, 0, none⟩ k cp (B8 (digs k v)) rfl (by simp [digs_length]) ?c1 (oneCell_B8 _) ?c3 ?c4 ?c5 ?_)
        case c1 => exact (hown.alloc _).cells rfl
        case c3 => unfold maxLen; omega
        case c4 => omega
        case c5 => simp; omega
        · intro v' w1 hown1 hgrow _
          have hb1 : Below w.heap.size w w1 := (hbel.alloc hbs _).grown hgrow (by simp; omega) (fun _ hx => lit_le hbs hx)
          have hown2 : w1.ownsRow w.heap.size 5 1 v' (k + 1) (B8 (digs (k + 1) v)) := by rw [← HDG.out, Nat.add_comm k 1]; simpa using hown1
          clear hown1 hgrow hown hbel
          go_wp2
          go_roundw
          case rel => exact ⟨k + 1, by omega, by go_num, congrArg (Value.int .u64) HD.out, hown2, hb1, fun h => absurd h (by omega)⟩
          case measure => simp [intOf]; omega
    · obtain rfl : k = 4 := by omega
      clear hnil
      obtain ⟨g, cp, rfl, hgb, hgl⟩ := hown.form (by omega)
      have hcell := hown.cellAt 0 (by omega)
      rw [show (B8 (digs 4 v))[0]? = some (.int .u8 (v / 2 ^ (8 * 3) % 256)) from rfl] at hcell
      have hfr := hown.frozenAt 0
      have hst := hown.stored 0 (.int .u8 (v / 2 ^ (8 * 3) % 256 + 128))
      rw [← HN.out] at hst
      have hbf : Below w.heap.size w (wr.setCell ⟨g, 0, none⟩ (.int .u8 (v / 2 ^ (8 * 3) % 256 + 128))) := hbel.setCell (p := ⟨g, 0, none⟩) hgb _
      have HF : Hid (OwnPost (numB v) w (.returned (.slice (some ⟨g, 0, none⟩) 4 cp)) (wr.setCell ⟨g, 0, none⟩ (.int .u8 (v / 2 ^ (8 * 3) % 256 + 128)))) := ⟨_, rfl, by rw [HL.out]; exact hst.1, hbf⟩
      clear hst hbf hown
      obtain ⟨d, hd⟩ : ∃ d, v / 2 ^ (8 * 3) % 256 = d := ⟨_, rfl⟩
      have hd1 : 0 ≤ d ∧ d + 128 < 256 := by omega
      obtain ⟨hd2, hd3⟩ := hd1
      rw [hd] at hcell HF
      clear hd
      go_wp2_with fail
      refine (HZ.out _).mono ?_
      rintro e w' ⟨rfl, rfl⟩
      go_wp2_with fail
      refine (HZ.out _).mono ?_
      rintro e w' ⟨rfl, rfl⟩
      go_wp2
      go_rounds 3
      go_ret
      exact HF.out

set_option maxRecDepth 100000 in
set_option maxHeartbeats 1000000 in
theorem rput_8 (v : Int) (w : World) (h0 : 0 ≤ v) (ha : 1073741824 ≤ v) (h1 : v < 4611686018427387904) : Calls Tryd.prog 43 #[.int .u64 v] w (OwnPost (numB v) w) := by
  obtain ⟨i0, hi, hz0, hz1, hz2⟩ := info_parts infoByte
  have hs : szOf v = 8 := by rw [szOf_szN (by omega), szN3 ha]; rfl
  have HZ := Lib.hid (fun W => refSize_any v W h0 (by omega))
  rw [hs] at HZ
  have HN := Lib.hid (numB3 ha h1)
  have HL : Hid ((numB v).length = 8) := (numB_length v).trans (szN3 ha)
  clear hs
  go_enter Tryd.func43, Tryd.ntmps43
  go_wp2
  go_loopw [3, 4, 5] (fun b r i wr => ∃ k : Nat, k ≤ 8 ∧ i = .int .i64 k ∧ r = .int .u64 (v / 2 ^ (8 * k)) ∧ wr.ownsRow w.heap.size 5 1 b k (B8 (digs k v)) ∧ Below w.heap.size w wr ∧ (k = 0 → b = .slice none 0 0)) (fun _ _ i _ => 8 - (intOf i).toNat)
  case atStart => exact ⟨0, by omega, rfl, by simp, World.ownsRow_nil _ _ _ _, Below.refl _ _, fun _ => rfl⟩
  case round =>
    obtain ⟨k, hk, rfl, rfl, hown, hbel, hnil⟩ := hrel
    have hbs := hbel.size
    obtain ⟨q0, q1⟩ := div_le v k h0
    have HD := Lib.hid (div_step v k)
    by_cases hlt : k < 8
    · obtain ⟨r, hr⟩ : ∃ r, v / 2 ^ (8 * k) = r := ⟨_, rfl⟩
      rw [hr] at q0 q1 HD ⊢
      have HDG : Hid (r % 256 :: digs k v = digs (k + 1) v) := by rw [← hr]; rfl
      clear hr
      by_cases hk0 : k = 0
      · have hb0 := hnil hk0
        subst hb0
        subst hk0
        clear hnil
        go_wp2_with fail
        refine (HZ.out _).mono ?_
        rintro e w' ⟨rfl, rfl⟩
        go_wp2_with (at_builtin; refine wpList_append_own_none rfl _ _ 25 rfl w.heap.size 5 i0 1 Tryd.underlying25 hi _ 1 [.int .u8 (r % 256)] rfl (World.ownsRow_lit wr #[.int .u8 (r % 256)] 1 hbs (by unfold maxLen; omega) rfl) rfl ?_)
        go_wp2
        go_roundw
        case rel => exact ⟨1, by omega, rfl, congrArg (Value.int .u64) HD.out, by rw [show (1 : Nat) = 0 + 1 from rfl, ← HDG.out]; exact World.ownsRow_lit wr #[.int .u8 (r % 256)] 1 hbs (by unfold maxLen; omega) rfl, hbel.alloc hbs _, fun h => absurd h (by omega)⟩
        case measure => simp [intOf]
      · clear hnil
        obtain ⟨g, cp, rfl, hgb, hgl⟩ := hown.form (by omega)
        go_wp2_with fail
        refine (HZ.out _).mono ?_
        rintro e w' ⟨rfl, rfl⟩
        go_wp2_with (at_builtin; refine wpList_append_own _ rfl _ _ 25 rfl w.heap.size 5 i0 (.int .u8 0) 1 1 Tryd.underlying25 hi hz0 hz1 hz2 rfl (by decide) _ 1 [.int .u8 (r % 256)] rfl (World.ownsRow_lit wr #[.int .u8 (r % 256)] 1 hbs (by unfold maxLen; omega) rfl) ⟨g, 0, none⟩ k cp (B8 (digs k v)) rfl (by simp [digs_length]) ?c1 (oneCell_B8 _) ?c3 ?c4 ?c5 ?_)
        case c1 => exact (hown.alloc _).cells rfl
        case c3 => unfold maxLen; omega
        case c4 => omega
        case c5 => simp; omega
        · intro v' w1 hown1 hgrow _
          have hb1 : Below w.heap.size w w1 := (hbel.alloc hbs _).grown hgrow (by simp; omega) (fun _ hx => lit_le hbs hx)
          have hown2 : w1.ownsRow w.heap.size 5 1 v' (k + 1) (B8 (digs (k + 1) v)) := by rw [← HDG.out, Nat.add_comm k 1]; simpa using hown1
          clear hown1 hgrow hown hbel
          go_wp2
          go_roundw
          case rel => exact ⟨k + 1, by omega, by go_num, congrArg (Value.int .u64) HD.out, hown2, hb1, fun h => absurd h (by omega)⟩
          case measure => simp [intOf]; omega
    · obtain rfl : k = 8 := by omega
      clear hnil
      obtain ⟨g, cp, rfl, hgb, hgl⟩ := hown.form (by omega)
      have hcell := hown.cellAt 0 (by omega)
      rw [show (B8 (digs 8 v))[0]? = some (.int .u8 (v / 2 ^ (8 * 7) % 256)) from rfl] at hcell
      have hfr := hown.frozenAt 0
      have hst := hown.stored 0 (.int .u8 (v / 2 ^ (8 * 7) % 256 + 192))
      rw [← HN.out] at hst
      have hbf : Below w.heap.size w (wr.setCell ⟨g, 0, none⟩ (.int .u8 (v / 2 ^ (8 * 7) % 256 + 192))) := hbel.setCell (p := ⟨g, 0, none⟩) hgb _
      have HF : Hid (OwnPost (numB v) w (.returned (.slice (some ⟨g, 0, none⟩) 8 cp)) (wr.setCell ⟨g, 0, none⟩ (.int .u8 (v / 2 ^ (8 * 7) % 256 + 192)))) := ⟨_, rfl, by rw [HL.out]; exact hst.1, hbf⟩
      clear hst hbf hown
      obtain ⟨d, hd⟩ : ∃ d, v / 2 ^ (8 * 7) % 256 = d := ⟨_, rfl⟩
      have hd1 : 0 ≤ d ∧ d + 192 < 256 := by omega
      obtain ⟨hd2, hd3⟩ := hd1
      rw [hd] at hcell HF
      clear hd
      go_wp2_with fail
      refine (HZ.out _).mono ?_
      rintro e w' ⟨rfl, rfl⟩
      go_wp2_with fail
      refine (HZ.out _).mono ?_
      rintro e w' ⟨rfl, rfl⟩
      go_wp2
      go_rounds 4
      go_ret
      exact HF.out

set_option maxRecDepth 100000 in
theorem rput_fits (v : Int) (w : World) (h0 : 0 ≤ v) (h1 : v < 4611686018427387904) : Calls Tryd.prog 43 #[.int .u64 v] w (OwnPost (numB v) w) := by
  by_cases c1 : v < 64
  · exact rput_1 v w h0 c1
  · by_cases c2 : v < 16384
    · exact rput_2 v w h0 (by omega) c2
    · by_cases c3 : v < 1073741824
      · exact rput_4 v w h0 (by omega) c3
      · exact rput_8 v w h0 (by omega) h1
end Go.Proofs.YtjihcpnaebghnaaDoor
