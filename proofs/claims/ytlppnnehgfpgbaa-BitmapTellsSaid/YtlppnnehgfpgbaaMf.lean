/-
  Proved here: what size and Write answer.
-/
import Derived.Test.YtlppnnehgfpgbaaMe
set_option linter.unusedSimpArgs false
set_option linter.unusedVariables false
namespace Go.Proofs.Ytlppnnehgfpgbaa
open Go.RowKit
theorem size_any {k : Nat} (hk : k ≤ 1000) (w : World) : Calls Try.prog 45 #[.int .i64 k] w fun e w' => e = .returned (.int .i64 (sizeB k)) ∧ w = w' := by
  have w1 : IntKind.i64.wrap ((k : Int) + 8) = (k : Int) + 8 := IntWalk.i64_in _ (by omega)
  have w2 : IntKind.i64.wrap ((k : Int) + 8 - 1) = (k : Int) + 7 := by rw [IntWalk.i64_in _ (by omega)]; omega
  have w3 : ((k : Int) + 7).tdiv 8 = ((sizeB k : Nat) : Int) := by unfold sizeB; rw [Int.tdiv_eq_ediv_of_nonneg (by omega)]; omega
  have w4 : IntKind.i64.wrap ((sizeB k : Nat) : Int) = ((sizeB k : Nat) : Int) := IntWalk.i64_in _ (by unfold sizeB; omega)
  go_enter Try.func45, Try.ntmps45
  go_wp2
  go_ret
  exact ⟨rfl, rfl⟩
theorem Own8.lit1 (w : World) (x : Int) : Own8 w (.slice (some ⟨w.heap.size, 0, none⟩) 1 1) [x] (w.alloc (.cells #[.int .u8 x] 5)) := by
  refine ⟨?_, (Below.refl _ _).alloc (Nat.le_refl _) _⟩
  have h := World.ownsRow_lit (e := 5) (size := 1) (base := w.heap.size) w #[.int .u8 x] 1 (Nat.le_refl _) (by unfold maxLen; omega) (by simp)
  simpa using h
theorem Own8.back {w U W : World} {v : Value} {xs : List Int} (h : Own8 U v xs W) (hb : Below w.heap.size w U) : Own8 w v xs W := ⟨own_mono h.own hb.size, hb.trans (h.below.mono hb.size)⟩
/-- What is answered: bytes and a number. -/
def WPost (xs : List Int) (E : Int) (w : World) (e : Ending) (w' : World) : Prop := ∃ v, e = .returned (.tuple #[v, .int .i64 E]) ∧ Own8 w v xs w'
theorem write_bad {n : Int} {b : Nat} (hr : rB n b = false) (hb : b < 18446744073709551616) (w : World) : Calls Try.prog 33 #[mV n b] w (WPost [] 3 w) := by
  have HU := Lib.hid (MB.new w n b)
  have HB := Lib.hid ((Below.refl _ w).alloc (Nat.le_refl _) (.cells #[.int .i64 n, .int .u64 b] 56))
  have HR := Lib.hid (fun W => right_any n hb W)
  rw [hr] at HR
  unfold mV at HR ⊢
  clear hb hr
  go_enter Try.func33, Try.ntmps33
  go_upto_region 1 with fail
  obtain ⟨U, hU⟩ : ∃ U, w.alloc (.cells #[.int .i64 n, .int .u64 b] 56) = U := ⟨_, rfl⟩
  rw [hU] at HU HB ⊢
  clear hU
  have c0 := HU.out.c0
  have c1 := HU.out.c1
  go_wp2_with fail
  refine (HR.out _).mono ?_
  rintro e wx ⟨rfl, hx⟩
  have HX := Lib.hid (HB.out.trans (hx.mono HB.out.size))
  clear hx c0 c1 HU
  go_wp2
  go_returns
  exact ⟨_, rfl, World.ownsRow_nil _ _ _ _, HX.out⟩
theorem write_in {k b : Nat} (hr : rB k b = true) (w : World) : Calls Try.prog 33 #[mV k b] w (WPost (wrB k b) 0 w) := by
  have hk : k ≤ 64 := by obtain ⟨m, hm, h2, _⟩ := rB_yes hr; omega
  have HU := Lib.hid (MB.new w k b)
  have HB := Lib.hid ((Below.refl _ w).alloc (Nat.le_refl _) (.cells #[.int .i64 k, .int .u64 b] 56))
  have HR := Lib.hid (fun W => right_any k (rB_lt hr) W)
  have HS := Lib.hid (fun W => size_any (k := k) (by omega) W)
  obtain ⟨q, hq⟩ : ∃ q, sizeB k = q := ⟨_, rfl⟩
  have hq8 : q ≤ 8 := by rw [← hq]; unfold sizeB; omega
  obtain ⟨X, hX⟩ : ∃ X, wrB k b = X := ⟨_, rfl⟩
  have HXE := Lib.hid (fun (_ : Unit) => show (k : Int) :: byR q b = X from by rw [← hX, ← hq]; rfl)
  rw [hX]
  rw [hq] at HS
  rw [hr] at HR
  unfold mV at HR ⊢
  have u0 : IntKind.u8.wrap (k : Int) = (k : Int) := IntWalk.u8_in _ (by omega)
  clear hr hX hq
  go_enter Try.func33, Try.ntmps33
  go_upto_region 1 with fail
  obtain ⟨U, hU⟩ : ∃ U, w.alloc (.cells #[.int .i64 k, .int .u64 b] 56) = U := ⟨_, rfl⟩
  rw [hU] at HU HB ⊢
  clear hU
  have c0 := HU.out.c0
  have c1 := HU.out.c1
  go_wp2_with fail
  refine (HR.out _).mono ?_
  rintro e wx ⟨rfl, hx⟩
  have HO0 := Lib.hid ((Own8.lit1 wx k).back hx)
  have c0 := (HU.out.below hx).c0
  have c1 := (HU.out.below hx).c1
  have c2 := ((HU.out.below hx).alloc (.cells #[.int .u8 k] 5)).c0
  have hne : w.heap.size ≠ wx.heap.size := Nat.ne_of_lt (HU.out.below hx).lt
  clear hx
  go_wp2_with ((go_at_call 45; refine (HS.out _).mono ?_; rintro e wy ⟨rfl, rfl⟩))
  go_loopw [4, 16] (fun ov iv wr => ∃ (v : Value) (i : Nat), v = ov ∧ iv = .int .i64 i ∧ i ≤ q ∧ Hid (Own8 U v ((k : Int) :: byR i b) wr)) (fun _ iv _ => q - (intOf iv).toNat)
  case atStart => exact ⟨_, 0, rfl, rfl, by omega, HO0⟩
  case round =>
    obtain ⟨v, i, rfl, rfl, hi, HO⟩ := hrel
    clear c0 c1
    by_cases hin : i < q
    · have d1 : decide ((i : Int) < (q : Int)) = true := by simp; omega
      have d2 : decide (i < q) = true := by simp; omega
      have c0 := (HU.out.below HO.out.below).c0
      have c1 := (HU.out.below HO.out.below).c1
      have w1 : IntKind.i64.wrap ((i : Int) + 1) = (i : Int) + 1 := IntWalk.i64_in _ (by omega)
      obtain ⟨r, hr⟩ : ∃ r, 8 * i = r := ⟨_, rfl⟩
      have w2 : IntKind.i64.wrap (8 * (i : Int)) = (r : Int) := by rw [IntWalk.i64_in _ (by omega)]; omega
      have hr64 : r < 64 := by omega
      have g0 : (0 : Int) ≤ (r : Int) := by omega
      obtain ⟨y, hy⟩ : ∃ y, b / 2 ^ r % 256 = y := ⟨_, rfl⟩
      have w3 : IntKind.u8.wrap ((b : Int) / 2 ^ r) = (y : Int) := by
        rw [show ((b : Int) / 2 ^ r) = ((b / 2 ^ r : Nat) : Int) by simp, ← hy]
        simp [IntKind.wrap, IntKind.bits, IntKind.signed]
      have HN := Lib.hid (fun (_ : Unit) => show byR (i + 1) b = byR i b ++ [(y : Int)] from by
        conv => lhs; unfold byR
        rw [hr, hy])
      have hbl := byR_len i b
      obtain ⟨L, hL⟩ : ∃ L, byR i b = L := ⟨_, rfl⟩
      rw [hL] at HN HO hbl
      obtain ⟨A2, n2, cc, w2', hrun, hO2⟩ := HO.out.app [(y : Int)] 1 rfl (by simp [hbl]; omega)
      have HRUN := Lib.hid hrun
      have HO2 := Lib.hid (show Own8 U _ ((k : Int) :: byR (i + 1) b) w2' from by rw [HN.out ()]; exact hO2)
      clear hr hy hbl hL hrun hO2 HN
      go_wp2_with (first | (at_builtin; refine wpList_app rfl (.tmp 19) (.tmp 26) _ rfl _ _ rfl rfl HRUN.out ?_))
      go_roundw
      case rel => exact ⟨_, i + 1, rfl, by go_num, by omega, HO2⟩
      case measure => simp [intOf]; omega
    · have d1 : decide ((i : Int) < (q : Int)) = false := by simp; omega
      have d2 : decide (i < q) = false := by simp; omega
      have HF := Lib.hid (show Own8 w v X wr from by
        have := HO.out.back HB.out
        rwa [show i = q by omega, HXE.out ()] at this)
      clear HO
      go_wp2
      go_returns
      exact ⟨_, rfl, HF.out⟩
end Go.Proofs.Ytlppnnehgfpgbaa
