/-
  Proved here: isID, Right and Count (frag) answer what 'rgt' and 'cntS' say; so does the document's own Right.
-/
import Derived.Test.YtikijkhblfgbpaaFm
namespace Go.Proofs.Ytikijkhblfgbpaa
open Go.RowKit

def isid (v : Int) : Bool := decide (1 ≤ v ∧ v ≤ 4611686018427387903)
theorem isid_yes {v : Int} (h : 1 ≤ v ∧ v ≤ 4611686018427387903) : isid v = true := decide_eq_true h
theorem isid_no {v : Int} (h : ¬ (1 ≤ v ∧ v ≤ 4611686018427387903)) : isid v = false := decide_eq_false h
theorem isID_any (v : Int) (w : World) (_h0 : 0 ≤ v) (_h1 : v < 18446744073709551616) : Calls Try.prog 31 #[.int .u64 v] w fun e w' => e = .returned (.bool (isid v)) ∧ w = w' := by
  by_cases h2 : 1 ≤ v
  · by_cases h3 : v ≤ 4611686018427387903
    · have HI := Lib.hid (isid_yes ⟨h2, h3⟩)
      go_enter Try.func31, Try.ntmps31
      go_wp2
      go_ret
      exact ⟨by rw [HI.out]; rfl, rfl⟩
    · have HI := Lib.hid (isid_no (v := v) (fun h => h3 h.2))
      go_enter Try.func31, Try.ntmps31
      go_wp2
      go_ret
      exact ⟨by rw [HI.out]; rfl, rfl⟩
  · have HI := Lib.hid (isid_no (v := v) (fun h => h2 h.1))
    go_enter Try.func31, Try.ntmps31
    go_wp2
    go_ret
    exact ⟨by rw [HI.out]; rfl, rfl⟩

/-- A part's value. -/
abbrev PV (id ix ct : Int) (A : Option Addr) (n c : Nat) : Value := .agg #[.int .u64 id, .int .i64 ix, .int .i64 ct, .slice A n c]

def RightPost (id ix ct : Int) (n : Nat) (w : World) (e : Ending) (w' : World) : Prop := e = .returned (.bool (rgt id ix ct n)) ∧ Below w.heap.size w w'
theorem rp_yes {id ix ct : Int} {n : Nat} {w w' : World} (h : rgtP id ix ct n) (hb : Below w.heap.size w w') : RightPost id ix ct n w (.returned (.bool true)) w' := ⟨by rw [rgt_mk h], hb⟩
theorem rp_no {id ix ct : Int} {n : Nat} {w w' : World} (h : ¬ rgtP id ix ct n) (hb : Below w.heap.size w w') : RightPost id ix ct n w (.returned (.bool false)) w' := ⟨by rw [rgt_mk0 h], hb⟩

set_option maxHeartbeats 1000000 in
theorem right_any (id ix ct : Int) (A : Option Addr) (n c : Nat) (w : World) (h0 : 0 ≤ id) (h1 : id < 18446744073709551616) (c0 : -9223372036854775808 ≤ ct) (c1 : ct < 9223372036854775808) (_hn : n ≤ maxLen) :
    Calls Try.prog 33 #[PV id ix ct A n c] w (RightPost id ix ct n w) := by
  unfold maxLen at _hn
  by_cases k1 : 1 ≤ id ∧ id ≤ 4611686018427387903
  · have HI := Lib.hid (isID_any id · h0 h1)
    rw [isid_yes k1] at HI
    by_cases k2 : ct < 1
    · have HP := Lib.hid (fun w' => rp_no (n := n) (w := w) (w' := w') (fun h : rgtP id ix ct n => by have := h.2.2.1; omega))
      go_enter Try.func33, Try.ntmps33
      go_wp2_with fail
      refine (HI.out _).mono ?_
      rintro e w' ⟨rfl, rfl⟩
      go_wp2
      go_ret
      exact HP.out _ ((Below.refl _ _).alloc (Nat.le_refl _) _)
    · by_cases k3 : 64 < ct
      · have HP := Lib.hid (fun w' => rp_no (n := n) (w := w) (w' := w') (fun h : rgtP id ix ct n => by have := h.2.2.2.1; omega))
        go_enter Try.func33, Try.ntmps33
        go_wp2_with fail
        refine (HI.out _).mono ?_
        rintro e w' ⟨rfl, rfl⟩
        go_wp2
        go_ret
        exact HP.out _ ((Below.refl _ _).alloc (Nat.le_refl _) _)
      · by_cases k4 : ix < 0
        · have HP := Lib.hid (fun w' => rp_no (n := n) (w := w) (w' := w') (fun h : rgtP id ix ct n => by have := h.2.2.2.2.1; omega))
          go_enter Try.func33, Try.ntmps33
          go_wp2_with fail
          refine (HI.out _).mono ?_
          rintro e w' ⟨rfl, rfl⟩
          go_wp2
          go_ret
          exact HP.out _ ((Below.refl _ _).alloc (Nat.le_refl _) _)
        · by_cases k5 : ct ≤ ix
          · have HP := Lib.hid (fun w' => rp_no (n := n) (w := w) (w' := w') (fun h : rgtP id ix ct n => by have := h.2.2.2.2.2.1; omega))
            go_enter Try.func33, Try.ntmps33
            go_wp2_with fail
            refine (HI.out _).mono ?_
            rintro e w' ⟨rfl, rfl⟩
            go_wp2
            go_ret
            exact HP.out _ ((Below.refl _ _).alloc (Nat.le_refl _) _)
          · have HY := Lib.hid (fun w' (h : n = 480 ∨ (n < 480 ∧ ix = ct - 1 ∧ (1 ≤ n ∨ ct = 1))) => rp_yes (w := w) (w' := w') (show rgtP id ix ct n from ⟨k1.1, k1.2, by omega, by omega, by omega, by omega, h⟩))
            have HN := Lib.hid (fun w' (h : ¬ (n = 480 ∨ (n < 480 ∧ ix = ct - 1 ∧ (1 ≤ n ∨ ct = 1)))) => rp_no (w := w) (w' := w') (fun h' : rgtP id ix ct n => h h'.2.2.2.2.2.2))
            have hb : Below w.heap.size w (w.alloc (.cells #[.int .u64 id, .int .i64 ix, .int .i64 ct, .slice A n c] 30)) := (Below.refl _ _).alloc (Nat.le_refl _) _
            have HB := Lib.hid hb
            clear hb
            by_cases k6 : ix < ct - 1
            · by_cases k7 : n = 480
              · have k8 : ((n : Int) == 480) = true := by simp; omega
                have HQ := Lib.hid (HY.out _ (.inl k7) HB.out)
                clear k7
                go_enter Try.func33, Try.ntmps33
                go_wp2_with fail
                refine (HI.out _).mono ?_
                rintro e w' ⟨rfl, rfl⟩
                go_wp2
                go_ret
                exact HQ.out
              · have k8 : ((n : Int) == 480) = false := by simp; omega
                have HQ := Lib.hid (HN.out _ (by omega) HB.out)
                clear k7
                go_enter Try.func33, Try.ntmps33
                go_wp2_with fail
                refine (HI.out _).mono ?_
                rintro e w' ⟨rfl, rfl⟩
                go_wp2
                go_ret
                exact HQ.out
            · by_cases k7 : ct = 1
              · subst k7
                by_cases k9 : n ≤ 480
                · have k8 : decide ((n : Int) ≤ 480) = true := by simp; omega
                  have HQ := Lib.hid (HY.out _ (by omega) HB.out)
                  go_enter Try.func33, Try.ntmps33
                  go_wp2_with fail
                  refine (HI.out _).mono ?_
                  rintro e w' ⟨rfl, rfl⟩
                  go_wp2
                  go_ret
                  exact HQ.out
                · have k8 : decide ((n : Int) ≤ 480) = false := by simp; omega
                  have HQ := Lib.hid (HN.out _ (by omega) HB.out)
                  go_enter Try.func33, Try.ntmps33
                  go_wp2_with fail
                  refine (HI.out _).mono ?_
                  rintro e w' ⟨rfl, rfl⟩
                  go_wp2
                  go_ret
                  exact HQ.out
              · have k10 : (ct == 1) = false := by simp; omega
                by_cases k9 : 1 ≤ n
                · have k11 : decide (1 ≤ (n : Int)) = true := by simp; omega
                  by_cases k12 : n ≤ 480
                  · have k8 : decide ((n : Int) ≤ 480) = true := by simp; omega
                    have HQ := Lib.hid (HY.out _ (by omega) HB.out)
                    clear k7
                    go_enter Try.func33, Try.ntmps33
                    go_wp2_with fail
                    refine (HI.out _).mono ?_
                    rintro e w' ⟨rfl, rfl⟩
                    go_wp2
                    go_ret
                    exact HQ.out
                  · have k8 : decide ((n : Int) ≤ 480) = false := by simp; omega
                    have HQ := Lib.hid (HN.out _ (by omega) HB.out)
                    clear k7
                    go_enter Try.func33, Try.ntmps33
                    go_wp2_with fail
                    refine (HI.out _).mono ?_
                    rintro e w' ⟨rfl, rfl⟩
                    go_wp2
                    go_ret
                    exact HQ.out
                · have k11 : decide (1 ≤ (n : Int)) = false := by simp; omega
                  have HQ := Lib.hid (HN.out _ (by omega) HB.out)
                  clear k7
                  go_enter Try.func33, Try.ntmps33
                  go_wp2_with fail
                  refine (HI.out _).mono ?_
                  rintro e w' ⟨rfl, rfl⟩
                  go_wp2
                  go_ret
                  exact HQ.out
  · have HI := Lib.hid (isID_any id · h0 h1)
    rw [isid_no k1] at HI
    have HP := Lib.hid (fun w' => rp_no (n := n) (w := w) (w' := w') (fun h : rgtP id ix ct n => k1 ⟨h.1, h.2.1⟩))
    clear k1
    go_enter Try.func33, Try.ntmps33
    go_wp2_with fail
    refine (HI.out _).mono ?_
    rintro e w' ⟨rfl, rfl⟩
    go_wp2
    go_ret
    exact HP.out _ ((Below.refl _ _).alloc (Nat.le_refl _) _)

def cntI (n : Int) : Int := if n < 0 ∨ 24000 < n then 0 else cntS n.toNat
theorem cntI_out {n : Int} (h : n < 0 ∨ 24000 < n) : cntI n = 0 := if_pos h
theorem cntI_in {n : Nat} (h : n ≤ 24000) : cntI n = cntS n := by rw [cntI, if_neg (by omega), Int.toNat_natCast]
set_option maxHeartbeats 400000 in
theorem count_any (n : Int) (w : World) : Calls Try.prog 32 #[.int .i64 n] w fun e w' => e = .returned (.int .i64 (cntI n)) ∧ w = w' := by
  by_cases k1 : n < 0
  · go_enter Try.func32, Try.ntmps32
    go_wp2
    go_ret
    exact ⟨ret_int (cntI_out (.inl k1)).symm, rfl⟩
  · by_cases k2 : 24000 < n
    · go_enter Try.func32, Try.ntmps32
      go_wp2
      go_ret
      exact ⟨ret_int (cntI_out (.inr k2)).symm, rfl⟩
    · by_cases k3 : n = 0
      · subst k3
        go_enter Try.func32, Try.ntmps32
        go_wp2
        go_ret
        exact ⟨ret_int (by decide), rfl⟩
      · have k4 : (n == 0) = false := by simp; omega
        go_enter Try.func32, Try.ntmps32
        go_wp2
        go_ret
        exact ⟨ret_int (by rw [cntI, if_neg (by omega)]; unfold cntS; rw [if_neg (by omega)]; omega), rfl⟩
end Go.Proofs.Ytikijkhblfgbpaa
