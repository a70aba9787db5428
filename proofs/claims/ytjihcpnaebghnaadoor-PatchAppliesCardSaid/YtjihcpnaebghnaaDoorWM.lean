/-
  Proved here, of lists of numbers alone: a number's bytes are read as that number, and bytes that are read as a number are that number's bytes; so it is with numbers one behind the other, and with fields.
-/
import Derived.Test.YtjihcpnaebghnaaDoorVM
namespace Go.Proofs.YtjihcpnaebghnaaDoor

theorem digs1 (V : Int) : digs 1 V = [V % 256] := by simp [digs]
theorem digs2 (V : Int) : digs 2 V = [V / 256 % 256, V % 256] := by simp [digs]
theorem digs4 (V : Int) : digs 4 V = [V / 16777216 % 256, V / 65536 % 256, V / 256 % 256, V % 256] := by simp [digs]
theorem digs8 (V : Int) : digs 8 V = [V / 72057594037927936 % 256, V / 281474976710656 % 256, V / 1099511627776 % 256, V / 4294967296 % 256, V / 16777216 % 256, V / 65536 % 256, V / 256 % 256, V % 256] := by simp [digs]
theorem numB_1 {v : Int} (c1 : v < 64) : numB v = digs 1 v := by rw [numB, szN0 c1, show topV v = v from if_pos c1]
theorem numB_2 {v : Int} (c0 : 64 ≤ v) (c1 : v < 16384) : numB v = digs 2 (v + 16384) := by rw [numB, szN1 c0 c1, show topV v = (v + 16384) from by rw [topV, if_neg (by omega), if_pos c1]]
theorem numB_4 {v : Int} (c0 : 16384 ≤ v) (c1 : v < 1073741824) : numB v = digs 4 (v + 2147483648) := by rw [numB, szN2 c0 c1, show topV v = (v + 2147483648) from by rw [topV, if_neg (by omega), if_neg (by omega), if_pos c1]]
theorem numB_8 {v : Int} (c0 : 1073741824 ≤ v) (c1 : v < 4611686018427387904) : numB v = digs 8 (v + 13835058055282163712) := by rw [numB, szN3 c0, show topV v = (v + 13835058055282163712) from by rw [topV, if_neg (by omega), if_neg (by omega), if_neg (by omega)]]
theorem fwd_1 {v : Int} (_h0 : 0 ≤ v) (c1 : v < 64) (bs : List Int) (k : Nat) (hx : ∀ i, i < 1 → bs.getD (k + i) 0 = (numB v).getD i 0) : need (bs.getD k 0) = 1 ∧ acc bs k 0 = v := by
  rw [numB_1 c1, digs1] at hx
  have x0 : bs.getD k 0 = v % 256 := hx 0 (by omega)
  clear hx
  constructor
  · rw [x0, need, if_pos (by omega)]
  · simp only [acc, x0]
    omega
theorem fwd_2 {v : Int} (_h0 : 0 ≤ v) (c0 : 64 ≤ v) (c1 : v < 16384) (bs : List Int) (k : Nat) (hx : ∀ i, i < 2 → bs.getD (k + i) 0 = (numB v).getD i 0) : need (bs.getD k 0) = 2 ∧ acc bs k 1 = v := by
  rw [numB_2 c0 c1, digs2] at hx
  have x0 : bs.getD k 0 = (v + 16384) / 256 % 256 := hx 0 (by omega)
  have x1 : bs.getD (k + 1 + 0) 0 = (v + 16384) % 256 := by rw [show k + 1 + 0 = k + 1 from by omega]; exact hx 1 (by omega)
  clear hx
  constructor
  · rw [x0, need, if_neg (by omega), if_pos (by omega)]
  · simp only [acc, x0, x1]
    omega
theorem fwd_4 {v : Int} (_h0 : 0 ≤ v) (c0 : 16384 ≤ v) (c1 : v < 1073741824) (bs : List Int) (k : Nat) (hx : ∀ i, i < 4 → bs.getD (k + i) 0 = (numB v).getD i 0) : need (bs.getD k 0) = 4 ∧ acc bs k 3 = v := by
  rw [numB_4 c0 c1, digs4] at hx
  have x0 : bs.getD k 0 = (v + 2147483648) / 16777216 % 256 := hx 0 (by omega)
  have x1 : bs.getD (k + 1 + 0) 0 = (v + 2147483648) / 65536 % 256 := by rw [show k + 1 + 0 = k + 1 from by omega]; exact hx 1 (by omega)
  have x2 : bs.getD (k + 1 + 1) 0 = (v + 2147483648) / 256 % 256 := by rw [show k + 1 + 1 = k + 2 from by omega]; exact hx 2 (by omega)
  have x3 : bs.getD (k + 1 + 2) 0 = (v + 2147483648) % 256 := by rw [show k + 1 + 2 = k + 3 from by omega]; exact hx 3 (by omega)
  clear hx
  constructor
  · rw [x0, need, if_neg (by omega), if_neg (by omega), if_pos (by omega)]
  · simp only [acc, x0, x1, x2, x3]
    omega
theorem fwd_8 {v : Int} (_h0 : 0 ≤ v) (c0 : 1073741824 ≤ v) (c1 : v < 4611686018427387904) (bs : List Int) (k : Nat) (hx : ∀ i, i < 8 → bs.getD (k + i) 0 = (numB v).getD i 0) : need (bs.getD k 0) = 8 ∧ acc bs k 7 = v := by
  rw [numB_8 c0 c1, digs8] at hx
  have x0 : bs.getD k 0 = (v + 13835058055282163712) / 72057594037927936 % 256 := hx 0 (by omega)
  have x1 : bs.getD (k + 1 + 0) 0 = (v + 13835058055282163712) / 281474976710656 % 256 := by rw [show k + 1 + 0 = k + 1 from by omega]; exact hx 1 (by omega)
  have x2 : bs.getD (k + 1 + 1) 0 = (v + 13835058055282163712) / 1099511627776 % 256 := by rw [show k + 1 + 1 = k + 2 from by omega]; exact hx 2 (by omega)
  have x3 : bs.getD (k + 1 + 2) 0 = (v + 13835058055282163712) / 4294967296 % 256 := by rw [show k + 1 + 2 = k + 3 from by omega]; exact hx 3 (by omega)
  have x4 : bs.getD (k + 1 + 3) 0 = (v + 13835058055282163712) / 16777216 % 256 := by rw [show k + 1 + 3 = k + 4 from by omega]; exact hx 4 (by omega)
  have x5 : bs.getD (k + 1 + 4) 0 = (v + 13835058055282163712) / 65536 % 256 := by rw [show k + 1 + 4 = k + 5 from by omega]; exact hx 5 (by omega)
  have x6 : bs.getD (k + 1 + 5) 0 = (v + 13835058055282163712) / 256 % 256 := by rw [show k + 1 + 5 = k + 6 from by omega]; exact hx 6 (by omega)
  have x7 : bs.getD (k + 1 + 6) 0 = (v + 13835058055282163712) % 256 := by rw [show k + 1 + 6 = k + 7 from by omega]; exact hx 7 (by omega)
  clear hx
  constructor
  · rw [x0, need, if_neg (by omega), if_neg (by omega), if_neg (by omega)]
  · simp only [acc, x0, x1, x2, x3, x4, x5, x6, x7]
    omega
theorem bwd_1 {v x0 : Int} (a0 : 0 ≤ x0) (b0 : x0 < 256) (hn : x0 < 64) (hv : v = (x0 % 64))  : numB v = [x0] := by
  rw [numB_1 (by omega), digs1]
  simp only [List.cons.injEq, and_true]
  omega
theorem bwd_2 {v x0 x1 : Int} (a0 : 0 ≤ x0) (b0 : x0 < 256) (a1 : 0 ≤ x1) (b1 : x1 < 256) (hn : 64 ≤ x0) (hn1 : x0 < 128) (hv : v = ((x0 % 64) * 256 + x1)) (c0 : 64 ≤ v) (c1 : v < 16384) : numB v = [x0, x1] := by
  rw [numB_2 c0 c1, digs2]
  simp only [List.cons.injEq, and_true]
  refine ⟨?_, ?_⟩ <;> omega
theorem bwd_4 {v x0 x1 x2 x3 : Int} (a0 : 0 ≤ x0) (b0 : x0 < 256) (a1 : 0 ≤ x1) (b1 : x1 < 256) (a2 : 0 ≤ x2) (b2 : x2 < 256) (a3 : 0 ≤ x3) (b3 : x3 < 256) (hn : 128 ≤ x0) (hn1 : x0 < 192) (hv : v = ((((x0 % 64) * 256 + x1) * 256 + x2) * 256 + x3)) (c0 : 16384 ≤ v) (c1 : v < 1073741824) : numB v = [x0, x1, x2, x3] := by
  rw [numB_4 c0 c1, digs4]
  simp only [List.cons.injEq, and_true]
  refine ⟨?_, ?_, ?_, ?_⟩ <;> omega
theorem bwd_8 {v x0 x1 x2 x3 x4 x5 x6 x7 : Int} (a0 : 0 ≤ x0) (b0 : x0 < 256) (a1 : 0 ≤ x1) (b1 : x1 < 256) (a2 : 0 ≤ x2) (b2 : x2 < 256) (a3 : 0 ≤ x3) (b3 : x3 < 256) (a4 : 0 ≤ x4) (b4 : x4 < 256) (a5 : 0 ≤ x5) (b5 : x5 < 256) (a6 : 0 ≤ x6) (b6 : x6 < 256) (a7 : 0 ≤ x7) (b7 : x7 < 256) (hn : 192 ≤ x0) (hv : v = ((((((((x0 % 64) * 256 + x1) * 256 + x2) * 256 + x3) * 256 + x4) * 256 + x5) * 256 + x6) * 256 + x7)) (c0 : 1073741824 ≤ v) (c1 : v < 4611686018427387904) : numB v = [x0, x1, x2, x3, x4, x5, x6, x7] := by
  rw [numB_8 c0 c1, digs8]
  simp only [List.cons.injEq, and_true]
  refine ⟨?_, ?_, ?_, ?_, ?_, ?_, ?_, ?_⟩ <;> omega

theorem fwd {v : Int} (h0 : 0 ≤ v) (h1 : v < 4611686018427387904) (bs : List Int) (k : Nat) (hx : ∀ i, i < szN v → bs.getD (k + i) 0 = (numB v).getD i 0) : need (bs.getD k 0) = szN v ∧ acc bs k (szN v - 1) = v := by
  by_cases c1 : v < 64
  · rw [szN0 c1] at hx ⊢; exact fwd_1 h0 c1 bs k hx
  · by_cases c2 : v < 16384
    · rw [szN1 (by omega) c2] at hx ⊢; exact fwd_2 h0 (by omega) c2 bs k hx
    · by_cases c3 : v < 1073741824
      · rw [szN2 (by omega) c3] at hx ⊢; exact fwd_4 h0 (by omega) c3 bs k hx
      · rw [szN3 (v := v) (by omega)] at hx ⊢; exact fwd_8 h0 (by omega) h1 bs k hx

theorem getD_mid {a b c : List Int} {i : Nat} (hi : i < b.length) : (a ++ (b ++ c)).getD (a.length + i) 0 = b.getD i 0 := by
  simp [List.getD, List.getElem?_append_right, hi, List.getElem?_append_left]

/-- A number's bytes are read as that number. -/
theorem getS_num (a c : List Int) {v : Int} (h0 : 0 ≤ v) (h1 : v < 4611686018427387904) : getS (a ++ (numB v ++ c)) (a.length : Int) = (v, (a.length : Int) + (szN v : Int), 0) := by
  obtain ⟨hn, ha⟩ := fwd h0 h1 (a ++ (numB v ++ c)) a.length (fun i hi => getD_mid (by rw [numB_length]; exact hi))
  have hs := szN_le v
  have hl : (a ++ (numB v ++ c)).length = a.length + (szN v + c.length) := by simp [numB_length]
  unfold getS
  rw [Int.toNat_natCast, hn, ha, hl, if_neg (by omega), if_neg (by omega), if_pos (szOf_szN h1)]

theorem cut_eq {bs : List Int} {p n : Nat} (h : p + n ≤ bs.length) : cut bs p n = (List.range n).map fun i => bs.getD (p + i) 0 := by
  apply List.ext_getElem
  · rw [cut_length h]; simp
  · intro i h1 h2
    rw [cut_length h] at h1
    have := cut_getD (bs := bs) (f := p) (n := n) h1
    simp only [List.getElem_map, List.getElem_range]
    rw [← this]
    simp [List.getD, cut_length h, h1]

theorem szOf_val {v : Int} {n : Nat} (h : szOf v = (n : Int)) (h1 : v < 4611686018427387904) : szN v = n := by
  have := szOf_szN h1
  omega
theorem sz_2 {v : Int} (h : szOf v = 2) : 64 ≤ v ∧ v < 16384 := by
  unfold szOf at h
  repeat' split at h
  all_goals omega
theorem sz_4 {v : Int} (h : szOf v = 4) : 16384 ≤ v ∧ v < 1073741824 := by
  unfold szOf at h
  repeat' split at h
  all_goals omega
theorem sz_8 {v : Int} (h : szOf v = 8) : 1073741824 ≤ v ∧ v < 4611686018427387904 := by
  unfold szOf at h
  repeat' split at h
  all_goals omega
theorem need_1 {x : Int} (h : need x = 1) : x < 64 := by
  unfold need at h
  repeat' split at h
  all_goals omega
theorem need_2 {x : Int} (h : need x = 2) : 64 ≤ x ∧ x < 128 := by
  unfold need at h
  repeat' split at h
  all_goals omega
theorem need_4 {x : Int} (h : need x = 4) : 128 ≤ x ∧ x < 192 := by
  unfold need at h
  repeat' split at h
  all_goals omega
theorem need_8 {x : Int} (h : need x = 8) : 192 ≤ x := by
  unfold need at h
  repeat' split at h
  all_goals omega

/-- Bytes that are read as a number are that number's. -/
theorem getS_inv {bs : List Int} (hB : Bytes bs) {p : Nat} (h : (getS bs (p : Int)).2.2 = 0) :
    (getS bs (p : Int)).2.1 = (p : Int) + (szN (getS bs (p : Int)).1 : Int) ∧ p + szN (getS bs (p : Int)).1 ≤ bs.length ∧ cut bs p (szN (getS bs (p : Int)).1) = numB (getS bs (p : Int)).1 := by
  unfold getS at h ⊢
  rw [Int.toNat_natCast] at h ⊢
  by_cases h1 : (p : Int) < 0 ∨ (bs.length : Int) < (p : Int)
  · rw [if_pos h1] at h; simp at h
  · rw [if_neg h1] at h ⊢
    by_cases h2 : bs.length - p < need (bs.getD p 0) ∨ p = bs.length
    · rw [if_pos h2] at h; simp at h
    · rw [if_neg h2] at h ⊢
      by_cases h3 : szOf (acc bs p (need (bs.getD p 0) - 1)) = (need (bs.getD p 0) : Int)
      · rw [if_pos h3]
        have hn8 : 1 ≤ need (bs.getD p 0) ∧ need (bs.getD p 0) ≤ 8 := by
          have := need_cases (bs.getD p 0) (hB p).1 (hB p).2
          omega
        obtain ⟨a0, a1⟩ := acc_fits hB p (need (bs.getD p 0) - 1) (by omega)
        have hsz := szOf_val h3 a1
        show (p : Int) + (need (bs.getD p 0) : Int) = (p : Int) + (szN (acc bs p (need (bs.getD p 0) - 1)) : Int) ∧ p + szN (acc bs p (need (bs.getD p 0) - 1)) ≤ bs.length ∧ cut bs p (szN (acc bs p (need (bs.getD p 0) - 1))) = numB (acc bs p (need (bs.getD p 0) - 1))
        rw [hsz]
        refine ⟨rfl, by omega, ?_⟩
        rw [cut_eq (by omega)]
        have hk : ∀ i, 0 ≤ bs.getD (p + 1 + i) 0 ∧ bs.getD (p + 1 + i) 0 < 256 := fun i => hB _
        obtain ⟨x0, x0'⟩ := hB p
        have hcase := need_cases (bs.getD p 0) x0 x0'
        rcases hcase with ⟨_, hn⟩ | ⟨_, hn⟩ | ⟨_, hn⟩ | ⟨_, hn⟩
        · rw [hn] at h3 ⊢
          exact (bwd_1 x0 x0' (need_1 hn) rfl).symm
        · rw [hn] at h3 ⊢
          obtain ⟨q1, q2⟩ := need_2 hn
          obtain ⟨r1, r2⟩ := sz_2 h3
          exact (bwd_2 x0 x0' (hk 0).1 (hk 0).2 q1 q2 rfl r1 r2).symm
        · rw [hn] at h3 ⊢
          obtain ⟨q1, q2⟩ := need_4 hn
          obtain ⟨r1, r2⟩ := sz_4 h3
          exact (bwd_4 x0 x0' (hk 0).1 (hk 0).2 (hk 1).1 (hk 1).2 (hk 2).1 (hk 2).2 q1 q2 rfl r1 r2).symm
        · rw [hn] at h3 ⊢
          obtain ⟨r1, r2⟩ := sz_8 h3
          exact (bwd_8 x0 x0' (hk 0).1 (hk 0).2 (hk 1).1 (hk 1).2 (hk 2).1 (hk 2).2 (hk 3).1 (hk 3).2 (hk 4).1 (hk 4).2 (hk 5).1 (hk 5).2 (hk 6).1 (hk 6).2 (need_8 hn) rfl r1 r2).symm
      · rw [if_neg h3] at h; simp at h
end Go.Proofs.YtjihcpnaebghnaaDoor
