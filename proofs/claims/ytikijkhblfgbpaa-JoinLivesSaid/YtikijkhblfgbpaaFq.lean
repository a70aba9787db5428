/-
  Proved here: As hands a part's values on; the document's own Right answers as 'rgt' says.
-/
import Derived.Test.YtikijkhblfgbpaaFs
namespace Go.Proofs.Ytikijkhblfgbpaa
open Go.RowKit

theorem as_any (id ix ct : Int) (A : Option Addr) (n c : Nat) (w : World) : Calls Try.prog 11 #[PV id ix ct A n c] w fun e w' => e = .returned (PV id ix ct A n c) ∧ Below w.heap.size w w' := by
  have hb : Below w.heap.size w ((w.alloc (.cells #[.int .u64 id, .int .i64 ix, .int .i64 ct, .slice A n c] 30)).alloc (.cells #[.int .u64 id, .int .i64 ix, .int .i64 ct, .slice A n c] 36)) := ((Below.refl _ _).alloc (Nat.le_refl _) _).alloc (by simp) _
  have HB := Lib.hid hb
  clear hb
  go_enter Try.func11, Try.ntmps11
  go_wp2
  exact bodyPost_ret (v := PV id ix ct A n c) (by simp [results, Try.results11, go_sem]) rfl ⟨rfl, HB.out⟩

set_option maxHeartbeats 1000000 in
theorem rright_any (id ix ct : Int) (A : Option Addr) (n c : Nat) (w : World) (h0 : 0 ≤ id) (_h1 : id < 18446744073709551616) (_c0 : -9223372036854775808 ≤ ct) (_c1 : ct < 9223372036854775808) (_hn : n ≤ maxLen) :
    Calls Try.prog 24 #[PV id ix ct A n c] w (RightPost id ix ct n w) := by
  unfold maxLen at _hn
  have hb : Below w.heap.size w (w.alloc (.cells #[.int .u64 id, .int .i64 ix, .int .i64 ct, .slice A n c] 36)) := (Below.refl _ _).alloc (Nat.le_refl _) _
  have HB := Lib.hid hb
  clear hb
  have HN := Lib.hid (fun (h : ¬ rgtP id ix ct n) => rp_no (w := w) h HB.out)
  have HY := Lib.hid (fun (h : rgtP id ix ct n) => rp_yes (w := w) h HB.out)
  by_cases k0 : id = 0
  · have HP := Lib.hid (HN.out (fun h => by have := h.1; omega))
    subst k0
    go_enter Try.func24, Try.ntmps24
    go_wp2
    go_ret
    exact HP.out
  · have e0 : (id == 0) = false := by simp; omega
    by_cases k1 : 4611686018427387903 < id
    · have HP := Lib.hid (HN.out (fun h => by have := h.2.1; omega))
      clear k0
      go_enter Try.func24, Try.ntmps24
      go_wp2
      go_ret
      exact HP.out
    · by_cases k2 : ct < 1
      · have HP := Lib.hid (HN.out (fun h => by have := h.2.2.1; omega))
        clear k0
        go_enter Try.func24, Try.ntmps24
        go_wp2
        go_ret
        exact HP.out
      · by_cases k3 : 64 < ct
        · have HP := Lib.hid (HN.out (fun h => by have := h.2.2.2.1; omega))
          clear k0
          go_enter Try.func24, Try.ntmps24
          go_wp2
          go_ret
          exact HP.out
        · by_cases k4 : ix < 0
          · have HP := Lib.hid (HN.out (fun h => by have := h.2.2.2.2.1; omega))
            clear k0
            go_enter Try.func24, Try.ntmps24
            go_wp2
            go_ret
            exact HP.out
          · by_cases k5 : ct ≤ ix
            · have HP := Lib.hid (HN.out (fun h => by have := h.2.2.2.2.2.1; omega))
              clear k0
              go_enter Try.func24, Try.ntmps24
              go_wp2
              go_ret
              exact HP.out
            · by_cases k6 : n = 480
              · have HP := Lib.hid (HY.out ⟨by omega, by omega, by omega, by omega, by omega, by omega, .inl k6⟩)
                have e6 : ((n : Int) == 480) = true := by simp; omega
                clear k0 k6
                go_enter Try.func24, Try.ntmps24
                go_wp2
                go_ret
                exact HP.out
              · have e6 : ((n : Int) == 480) = false := by simp; omega
                by_cases k7 : n < 480
                · have e7 : decide ((n : Int) < 480) = true := by simp; omega
                  by_cases k8 : ix = ct - 1
                  · have e8 : (ix == ct - 1) = true := by simp; omega
                    by_cases k9 : 0 < n
                    · have e9 : decide ((0 : Int) < (n : Int)) = true := by simp; omega
                      have HP := Lib.hid (HY.out ⟨by omega, by omega, by omega, by omega, by omega, by omega, .inr ⟨k7, k8, .inl k9⟩⟩)
                      clear k0 k6 k8
                      go_enter Try.func24, Try.ntmps24
                      go_wp2
                      go_ret
                      exact HP.out
                    · have e9 : decide ((0 : Int) < (n : Int)) = false := by simp; omega
                      by_cases k10 : ct = 1
                      · have HP := Lib.hid (HY.out ⟨by omega, by omega, by omega, by omega, by omega, by omega, .inr ⟨k7, k8, .inr k10⟩⟩)
                        have e10 : (ct == 1) = true := by simp; omega
                        clear k0 k6 k8 k10
                        go_enter Try.func24, Try.ntmps24
                        go_wp2
                        go_ret
                        exact HP.out
                      · have HP := Lib.hid (HN.out (fun h => by have := h.2.2.2.2.2.2; omega))
                        have e10 : (ct == 1) = false := by simp; omega
                        clear k0 k6 k8 k10
                        go_enter Try.func24, Try.ntmps24
                        go_wp2
                        go_ret
                        exact HP.out
                  · have e8 : (ix == ct - 1) = false := by simp; omega
                    have HP := Lib.hid (HN.out (fun h => by have := h.2.2.2.2.2.2; omega))
                    clear k0 k6 k8
                    go_enter Try.func24, Try.ntmps24
                    go_wp2
                    go_ret
                    exact HP.out
                · have e7 : decide ((n : Int) < 480) = false := by simp; omega
                  have HP := Lib.hid (HN.out (fun h => by have := h.2.2.2.2.2.2; omega))
                  clear k0 k6
                  go_enter Try.func24, Try.ntmps24
                  go_wp2
                  go_ret
                  exact HP.out
end Go.Proofs.Ytikijkhblfgbpaa
