/-
  Proved here: of a document's sender: Bytes, Next, Know and New.
-/
import Derived.Test.YtdlhpmbgpjjkoaaDoorFra
set_option linter.unusedSimpArgs false
set_option linter.unusedVariables false
namespace Go.Proofs.YtdlhpmbgpjjkoaaDoor
open Go.RowKit
theorem run_sub2 {A : Option Addr} {n c lo hi : Nat} {lo' hi' : Int} (e1 : lo' = (lo : Int)) (e2 : hi' = (hi : Int)) (h1 : lo < hi) (h2 : hi ≤ n) (hc : n ≤ c) (hz : A = none → c = 0) :
    ∃ A2 : Addr, (∀ W bs, RI .u8 W A bs → bs.length = n → RI .u8 W (some A2) ((bs.drop lo).take (hi - lo))) ∧ ∀ W : World, (Instr.slice 23 (.slice A n c) (some (.int .i64 lo')) (some (.int .i64 hi')) none).run Tryd.prog W = .ok (.slice (some A2) (hi - lo) (c - lo)) W := by
  subst e1 e2
  have g1 : (lo : Int) ≤ (hi : Int) := by omega
  have g2 : (hi : Int) ≤ (c : Int) := by omega
  rcases A with _ | ad
  · have := hz rfl
    omega
  · refine ⟨ad.add lo, fun W bs h hl hp => ?_, fun W => ?_⟩
    · obtain ⟨b', off', e, hb, hcl⟩ := h (by simp at hp; omega)
      injection e with e
      subst e
      have ha : (⟨b', off', none⟩ : Addr).add lo = ⟨b', off' + lo, none⟩ := by unfold Addr.add; split <;> simp_all
      rw [ha]
      refine ⟨b', off' + lo, rfl, hb, fun i hi2 => ?_⟩
      simp at hi2
      rw [Nat.add_assoc, hcl (lo + i) (by omega)]
      simp [List.getD, show i < hi - lo by omega]
    · obtain ⟨i0, hi0, _, hz1, _⟩ := info_parts info_u8
      simp [Instr.slice, run_underlying Tryd.underlying23, Instr.sliceBounds, run_sliceBound, g1, g2, hi0, hz1]
      try exact fun e => absurd e (by omega)
section
variable {w : World} {d g l : Nat} {bs : List Int} {N b p : Nat} {z : Bool}
theorem rbytes_sd (h : Rs w d g l bs N b p z) {i : Nat} (hi : i < N) : Calls Tryd.prog 11 #[.pointer (some ⟨g, 0, none⟩), .int .i64 i] w fun e w' => ∃ A c, e = .returned (.slice (some A) (lenS bs.length i) c) ∧ RI .u8 w (some A) (cutL bs i) ∧ ∃ m, w' = w.drewN m := by
  obtain ⟨A, c, c0, hr, h1, h2, h3⟩ := h.c0
  have hN := h.num
  have hsz := h.size
  have hi' : i < (bs.length + 63) / 64 := by omega
  obtain ⟨p1, p2, p3⟩ := lenS_pos hi'
  have HL := Lib.hid (fun W => rlength_in hsz hi' W)
  obtain ⟨A2, hr2, hrun⟩ := run_sub2 (A := A) (c := c) (n := bs.length) (lo := 64 * i) (hi := 64 * i + lenS bs.length i) (lo' := ((64 * i : Nat) : Int)) (hi' := ((64 * i + lenS bs.length i : Nat) : Int)) rfl rfl (by omega) p3 h1 h3
  have HR := Lib.hid (show RI .u8 w (some A2) (cutL bs i) from by
    have := hr2 w bs hr rfl
    rwa [show 64 * i + lenS bs.length i - 64 * i = lenS bs.length i by omega] at this)
  rw [show 64 * i + lenS bs.length i - 64 * i = lenS bs.length i by omega] at hrun
  obtain ⟨q, hq⟩ : ∃ q, lenS bs.length i = q := ⟨_, rfl⟩
  rw [hq] at hrun HL p1 p2 p3 ⊢
  obtain ⟨m, hm⟩ : ∃ m, 64 * i = m := ⟨_, rfl⟩
  rw [hm] at hrun p3
  obtain ⟨t, ht⟩ : ∃ t, m + q = t := ⟨_, rfl⟩
  rw [ht] at hrun
  obtain ⟨n, hn⟩ : ∃ n, bs.length = n := ⟨_, rfl⟩
  rw [hn] at c0 hrun HL h1 hsz
  obtain ⟨cc, hcc⟩ : ∃ cc, c - m = cc := ⟨_, rfl⟩
  rw [hcc] at hrun
  have w1 : IntKind.i64.wrap (64 * (i : Int)) = (m : Int) := by rw [IntWalk.i64_in _ (by omega)]; omega
  have w2 : IntKind.i64.wrap ((m : Int) + (q : Int)) = (t : Int) := by rw [IntWalk.i64_in _ (by omega)]; omega
  clear h hr hr2 hN hi hi' p1 p2 p3 h1 h2 h3 hq hm ht hn hsz hcc
  go_enter Tryd.func11, Tryd.ntmps11
  go_wp2
  go_quiet ((go_at_call 35; exact quietL (HL.out _)))
  go_wp2
  go_ret
  exact ⟨A2, _, rfl, HR.out, _, rfl⟩
end
end Go.Proofs.YtdlhpmbgpjjkoaaDoor
