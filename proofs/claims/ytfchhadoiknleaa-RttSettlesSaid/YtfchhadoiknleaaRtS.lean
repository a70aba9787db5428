/-
  Proved here: RttSettles walked: it returns true, whatever the two numbers, and nothing that was there is changed.
-/
import Derived.Test.YtfchhadoiknleaaRtA
namespace Go.Proofs.Ytfchhadoiknleaa
open Go.RowKit
/-- Four times the spread behind k + 1 measures of n. -/
def sp (n : Int) : Nat → Int
  | 0 => 2 * n
  | k + 1 => sp n k - sp n k / 4
theorem sp_0 {n : Int} (h : 0 ≤ n) : ∀ k, 0 ≤ sp n k
  | 0 => by unfold sp; omega
  | k + 1 => by have := sp_0 h k; unfold sp; omega
theorem sp_le {n : Int} (h : 0 ≤ n) (k : Nat) : sp n (k + 1) ≤ sp n k := by have := sp_0 h k; rw [sp]; omega
theorem sp40 : ∀ n : Nat, n < 60 → 2 ≤ n → 1 ≤ sp n 40 ∧ sp n 40 ≤ 3 := by decide +kernel
/-- The wait then. -/
def wt (n : Int) (k : Nat) : Int := waitS true (8 * n) (sp n k) 0
theorem wt_eq {n : Int} (k : Nat) : wt n k = max 2 (min (n + max 1 (sp n k)) 64) := by
  have : (8 * n) / 8 = n := by omega
  simp [wt, waitS, w0, this]
theorem wt_le {n : Int} (h : 0 ≤ n) (k : Nat) : wt n (k + 1) ≤ wt n k := by have := sp_le h k; rw [wt_eq, wt_eq]; omega
theorem wt_64 {n : Int} (k : Nat) : wt n k ≤ 64 := by rw [wt_eq]; omega
theorem wt40 (n : Int) (h1 : 1 < n) (h2 : n < 60) : n + 1 ≤ wt n 40 ∧ wt n 40 ≤ n + 3 := by
  obtain ⟨m, rfl⟩ : ∃ m : Nat, n = m := ⟨n.toNat, by omega⟩
  have := sp40 m (by omega) (by omega)
  rw [wt_eq]
  omega
/-- The wait told last. -/
def lt (n : Int) : Nat → Int
  | 0 => 64
  | k + 1 => wt n k
theorem lt_le {n : Int} (h : 0 ≤ n) : ∀ k, wt n k ≤ lt n k
  | 0 => wt_64 0
  | k + 1 => wt_le h k
/-- Behind k measures. -/
def RS (w : World) (n : Int) (k : Nat) (W : World) : Prop := match k with
  | 0 => Mw w w.heap.size false 0 0 0 W
  | k + 1 => Mw w w.heap.size true (8 * n) (sp n k) 0 W
theorem measure_rs (w : World) (n : Int) (k : Nat) (W : World) (h : RS w n k W) (n0 : 0 ≤ n) (n1 : n < 256) :
    Calls Try.prog 9 #[.pointer (some ⟨w.heap.size, 0, none⟩), .int .i64 n] W fun e w' => e = .returned (.int .i64 0) ∧ Hid (Mw w w.heap.size true (8 * n) (sp n k) 0 w') := by
  cases k with
  | zero => exact measure_mw w _ _ _ _ _ n _ _ W h n0 (by omega) rfl rfl
  | succ k =>
    refine measure_mw w _ _ _ _ _ n _ _ W h n0 (by omega) ?_ ?_
    · simp only [mA, if_true]; omega
    · have e : n - 8 * n / 8 = 0 := by omega
      simp only [mS, if_true, e, sp, absI]; simp
set_option maxHeartbeats 2000000 in
theorem settles_any (n t : Int) (w : World) (n0 : 0 ≤ n) (n1 : n < 256) (t0 : 0 ≤ t) (t1 : t < 256) :
    Calls Try.prog 5 #[.int .u8 n, .int .u8 t] w fun e w' => e = .returned (.bool true) ∧ Below w.heap.size w w' := by
  go_enter Try.func5, Try.ntmps5
  go_wp2_with fail
  refine (new_mw w).mono ?_
  rintro e w1 ⟨rfl, h1⟩
  have H0 := Lib.hid (show RS w n 0 w1 from h1.out)
  clear h1
  go_wp2
  go_loopw [6, 7] (fun l i wr => ∃ k : Nat, (k : Int) ≤ t % 64 + 1 ∧ i = .int .i64 k ∧ l = .int .i64 (lt n k) ∧ Hid (RS w n k wr)) (fun _ i _ => 256 - (intOf i).toNat)
  case atStart => exact ⟨0, by omega, rfl, rfl, H0⟩
  case round =>
    obtain ⟨k, hk, rfl, rfl, HK⟩ := hrel
    by_cases hlt : (k : Int) ≤ t % 64
    · obtain ⟨M, hM⟩ : ∃ M, lt n k = M := ⟨_, rfl⟩
      obtain ⟨L, hL⟩ : ∃ L, wt n k = L := ⟨_, rfl⟩
      have hLM : L ≤ M := by rw [← hM, ← hL]; exact lt_le n0 k
      have HN := Lib.hid (show lt n (k + 1) = L from hL)
      have H40 := Lib.hid (show k = 40 → 1 < n → n < 60 → n + 1 ≤ L ∧ L ≤ n + 3 from fun h1 h2 h3 => by subst h1; rw [← hL]; exact wt40 n h2 h3)
      have HL := Lib.hid (show waitS true (8 * n) (sp n k) 0 = L from hL)
      rw [hM]
      clear hM hL
      go_wp2_with fail
      refine (measure_rs w n k wr HK.out n0 n1).mono ?_
      rintro e w2 ⟨rfl, h2⟩
      go_wp2_with fail
      refine (mean_mw w _ _ _ _ _ n _ h2.out (by omega)).mono ?_
      rintro e w' ⟨rfl, rfl⟩
      go_wp2_with fail
      refine (wait_mw w _ _ _ _ _ L _ h2.out HL.out).mono ?_
      rintro e w3 ⟨rfl, h3⟩
      go_wp2_with fail
      refine (wait_mw w _ _ _ _ _ L _ h3.out HL.out).mono ?_
      rintro e w4 ⟨rfl, h4⟩
      have H4 := Lib.hid (show RS w n (k + 1) w4 from h4.out)
      clear h4 h3 h2 HK H0 hLM
      by_cases h40 : k = 40
      · have ht : ((k : Int) == 40) = true := by rw [h40]; rfl
        by_cases hn1 : 1 < n
        · by_cases hn2 : n < 60
          · obtain ⟨q1, q2⟩ := H40.out h40 hn1 hn2
            clear H40 h40
            go_wp2
            go_roundw
            case rel => exact ⟨k + 1, by omega, by go_num, by rw [HN.out], H4⟩
            case measure => simp [intOf]; omega
          · have q : 60 ≤ n := by omega
            clear H40 h40 hn2
            go_wp2
            go_roundw
            case rel => exact ⟨k + 1, by omega, by go_num, by rw [HN.out], H4⟩
            case measure => simp [intOf]; omega
        · have q : n ≤ 1 := by omega
          clear H40 h40 hn1
          go_wp2
          go_roundw
          case rel => exact ⟨k + 1, by omega, by go_num, by rw [HN.out], H4⟩
          case measure => simp [intOf]; omega
      · have ht : ((k : Int) == 40) = false := by simp; omega
        clear H40 h40
        go_wp2
        go_roundw
        case rel => exact ⟨k + 1, by omega, by go_num, by rw [HN.out], H4⟩
        case measure => simp [intOf]; omega
    · have hge : t % 64 < (k : Int) := by omega
      clear hlt
      have hb : Below w.heap.size w wr := by
        cases k with
        | zero => exact HK.out.below
        | succ k => exact HK.out.below
      have HB := Lib.hid hb
      clear hb HK
      go_wp2_with fail
      refine (alive_any _).mono ?_
      rintro e w2 ⟨rfl, h2⟩
      have H2 := Lib.hid h2
      clear h2
      go_wp2
      go_ret
      exact ⟨rfl, HB.out.trans (H2.out.mono HB.out.size)⟩
end Go.Proofs.Ytfchhadoiknleaa
