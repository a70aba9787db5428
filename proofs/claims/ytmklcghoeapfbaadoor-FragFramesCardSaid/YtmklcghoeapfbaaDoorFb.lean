/-
  Proved here: FragBack walked: it returns true, whatever comes in, and nothing that was there is changed.
-/
import Derived.Test.YtmklcghoeapfbaaDoorFz
import Derived.Test.YtmklcghoeapfbaaDoorFw
import Derived.Test.YtmklcghoeapfbaaDoorFc
import Derived.Test.YtmklcghoeapfbaaDoorVMath
namespace Go.Proofs.YtmklcghoeapfbaaDoor
open Go.RowKit

theorem conv_n {w : World} {B : Nat} {A : Option Addr} {bs : List Int} {n : Nat} (c : Nat) (h : RB w B A bs) (hn : bs.length = n) : (convert 23 9 (.slice A n c)).run Tryd.prog w = .ok (.string (strOfNums bs)) w := by
  subst hn
  exact conv_any c h
theorem wrB_get {p : Prt} (h : p.ok = true) : getS (wrB p) 0 = (p.id, (szN p.id : Int), 0) := by
  obtain ⟨h1, h2⟩ := ok_id h
  have e : wrB p = [] ++ (numB p.id ++ ([p.ix, p.ct] ++ p.d)) := by simp [wrB]
  have := getS_num [] ([p.ix, p.ct] ++ p.d) (v := p.id) (by omega) (by omega)
  rw [← e] at this
  simpa using this
theorem wrB_length (p : Prt) : (wrB p).length = szN p.id + 2 + p.d.length := by simp [wrB, numB_length]; omega
theorem read_wr {p : Prt} (h : p.ok = true) : readS (wrB p) = (p, 0) := by
  have hl := wrB_length p
  have e0 := getD_mid (a := numB p.id) (b := [p.ix, p.ct]) (c := p.d) (i := 0) (by simp)
  have e1 := getD_mid (a := numB p.id) (b := [p.ix, p.ct]) (c := p.d) (i := 1) (by simp)
  rw [← List.append_assoc, numB_length] at e0 e1
  have hp : partAt (wrB p) p.id (szN p.id) = p := by
    obtain ⟨id, ix, ct, d⟩ := p
    simp only [partAt, wrB] at *
    rw [Nat.add_zero] at e0
    rw [e0, e1]
    have hd : List.drop (szN id + 2) (numB id ++ [ix, ct] ++ d) = d := by
      have : szN id + 2 = (numB id ++ [ix, ct]).length := by simp [numB_length]
      rw [this, List.drop_left]
    rw [hd]
    rfl
  unfold readS
  rw [wrB_get h, if_pos rfl, if_neg (by rw [hl]; show ¬ ((szN p.id + 2 + p.d.length : Nat) : Int) - (szN p.id : Int) < 2; omega)]
  show (if (partAt (wrB p) p.id (szN p.id : Int).toNat).ok = true then _ else _) = _
  rw [Int.toNat_natCast, hp, if_pos h]
theorem readS_bad {b : List Int} (h : (readS b).2 ≠ 0) : (readS b).1 = pNil := by
  unfold readS at h ⊢
  split
  · split
    · rfl
    · split
      · rename_i h1 h2 h3
        rw [if_pos h1, if_neg h2, if_pos h3] at h
        exact absurd rfl h
      · rfl
  · rfl
theorem readS_ok {b : List Int} (h : (readS b).2 = 0) : (readS b).1.ok = true ∧ (getS b 0).2.2 = 0 ∧ ¬ (b.length : Int) - (getS b 0).2.1 < 2 ∧ (readS b).1 = partAt b (getS b 0).1 (getS b 0).2.1.toNat := by
  unfold readS at h ⊢
  split
  · rename_i h1
    rw [if_pos h1] at h
    split
    · rename_i h2
      rw [if_pos h2] at h
      exact absurd h (by decide)
    · rename_i h2
      rw [if_neg h2] at h
      split
      · rename_i h3
        exact ⟨h3, h1, h2, rfl⟩
      · rename_i h3
        rw [if_neg h3] at h
        exact absurd h (by decide)
  · rename_i h1
    rw [if_neg h1] at h
    exact absurd h h1
theorem wr_read {b : List Int} (hB : Bytes b) (h : (readS b).2 = 0) : wrS (readS b).1 = (b, 0) := by
  obtain ⟨h1, h2, h3, h4⟩ := readS_ok h
  rw [wrS, if_pos h1]
  have hg : getS b ((0 : Nat) : Int) = getS b 0 := rfl
  obtain ⟨g1, g2, g3⟩ := getS_inv hB (p := 0) (by rw [hg]; exact h2)
  rw [hg] at g1 g2 g3
  have hat : (getS b 0).2.1 = (szN (getS b 0).1 : Int) := by rw [g1]; simp
  rw [hat] at h3 h4
  rw [Int.toNat_natCast] at h4
  rw [h4]
  congr 1
  obtain ⟨s, hs⟩ : ∃ s, szN (getS b 0).1 = s := ⟨_, rfl⟩
  rw [hs] at h3 h4 g2 g3 ⊢
  simp only [wrB, partAt]
  rw [← g3]
  have e1 : cut b 0 s = b.take s := by simp [cut]
  have e2 : [b.getD s 0, b.getD (s + 1) 0] = cut b s 2 := by
    rw [cut_eq (by omega)]
    simp [List.range_succ]
  rw [e1, e2, cut_take, List.take_append_drop]
theorem readS_rng (b : List Int) : (0 ≤ (readS b).1.id ∧ (readS b).1.id < 18446744073709551616) ∧ (-9223372036854775808 ≤ (readS b).1.ct ∧ (readS b).1.ct < 9223372036854775808) ∧ (-9223372036854775808 ≤ (readS b).1.ix ∧ (readS b).1.ix < 9223372036854775808) := by
  by_cases h : (readS b).2 = 0
  · obtain ⟨h1, _⟩ := readS_ok h
    have := ok_id h1
    have := ok_ct h1
    omega
  · rw [readS_bad h]
    simp [pNil]
theorem wrB_bytes {p : Prt} (h : p.ok = true) (hB : Bytes p.d) : Bytes (wrB p) := by
  have := ok_ct h
  refine bytes_append (bytes_append (bytes_of_mem (numB_byte _)) (bytes_of_mem (fun x hx => ?_))) hB
  simp at hx
  rcases hx with rfl | rfl <;> omega

set_option maxRecDepth 100000 in
set_option maxHeartbeats 1000000 in
theorem back_guard (id : Int) (A B : Option Addr) (l cap lb cb : Nat) (w : World) (hT : Tab w) (h : 24000 < l ∨ 600 < lb ∨ id < 1 ∨ 4611686018427387903 < id) (_h0 : 0 ≤ id) :
    Calls Tryd.prog 5 #[.int .u64 id, .slice A l cap, .slice B lb cb] w (Tru w) := by
  by_cases h1 : 24000 < l
  · have d1 : decide ((24000 : Int) < (l : Int)) = true := by simp; omega
    go_enter Tryd.func5, Tryd.ntmps5
    go_wp2_with fail
    refine (alive_any _ hT).mono ?_
    rintro e w1 ⟨rfl, hb1⟩
    go_wp2
    go_ret
    exact ⟨rfl, hb1⟩
  · have d1 : decide ((24000 : Int) < (l : Int)) = false := by simp; omega
    by_cases h4 : 600 < lb
    · have d2 : decide ((600 : Int) < (lb : Int)) = true := by simp; omega
      go_enter Tryd.func5, Tryd.ntmps5
      go_wp2_with fail
      refine (alive_any _ hT).mono ?_
      rintro e w1 ⟨rfl, hb1⟩
      go_wp2
      go_ret
      exact ⟨rfl, hb1⟩
    · have d2 : decide ((600 : Int) < (lb : Int)) = false := by simp; omega
      by_cases h2 : id < 1
      · go_enter Tryd.func5, Tryd.ntmps5
        go_wp2_with fail
        refine (alive_any _ hT).mono ?_
        rintro e w1 ⟨rfl, hb1⟩
        go_wp2
        go_ret
        exact ⟨rfl, hb1⟩
      · have h3 : 4611686018427387903 < id := by omega
        go_enter Tryd.func5, Tryd.ntmps5
        go_wp2_with fail
        refine (alive_any _ hT).mono ?_
        rintro e w1 ⟨rfl, hb1⟩
        go_wp2
        go_ret
        exact ⟨rfl, hb1⟩
end Go.Proofs.YtmklcghoeapfbaaDoor
