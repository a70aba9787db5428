/-
  Proved here: what Read answers: THE map that bytes are, or that they are none.
-/
import Derived.Test.YtlppnnehgfpgbaaMg
set_option linter.unusedSimpArgs false
set_option linter.unusedVariables false
namespace Go.Proofs.Ytlppnnehgfpgbaa
open Go.RowKit
theorem slice_from8 (b off : Nat) {n cap k : Nat} {k' : Int} (hk' : k' = (k : Int)) (hk : k ≤ n) (hc : n ≤ cap) :
    ∃ A2 : Addr, (∀ W bs, RI .u8 W (some ⟨b, off, none⟩) bs → bs.length = n → RI .u8 W (some A2) (bs.drop k)) ∧ ∀ W : World, (Instr.slice 28 (.slice (some ⟨b, off, none⟩) n cap) (some (.int .i64 k')) none none).run Try.prog W = .ok (.slice (some A2) (n - k) (cap - k)) W := by
  subst hk'
  have h1 : (k : Int) ≤ (n : Int) := by omega
  refine ⟨if cap = k then ⟨b, off, none⟩ else (⟨b, off, none⟩ : Addr).add k, fun W bs h hl hp => ?_, fun W => ?_⟩
  · obtain ⟨b', off', e, hb, hcl⟩ := h (by simp at hp; omega)
    injection e with e
    injection e with e1 e2
    subst e1; subst e2
    have ha : (⟨b, off, none⟩ : Addr).add k = ⟨b, off + k, none⟩ := by unfold Addr.add; split <;> simp_all
    rw [if_neg (by simp at hp; omega), ha]
    refine ⟨b, off + k, rfl, hb, fun i hi => ?_⟩
    rw [Nat.add_assoc, hcl (k + i) (by simp at hi; omega)]
    simp [List.getD]
  · simp [Instr.slice, run_underlying Try.underlying28, Instr.sliceBounds, run_sliceBound, h1]
    try (split <;> rfl)
/-- What Read answers: the map that bytes are, or that they are none. -/
def RPost (bs : List Int) (w : World) (e : Ending) (w' : World) : Prop :=
  Below w.heap.size w w' ∧ ((∃ n b : Nat, isMap bs n b ∧ e = .returned (.tuple #[mV n b, .int .i64 0])) ∨ ((∀ n b, ¬ isMap bs n b) ∧ e = .returned (.tuple #[mV 0 0, .int .i64 3])))
theorem read_empty (A : Option Addr) (cap : Nat) (w : World) : Calls Try.prog 34 #[.slice A 0 cap] w (RPost [] w) := by
  have HB := Lib.hid ((Below.refl _ w).alloc (Nat.le_refl _) (.cells #[.int .i64 0, .int .u64 0] 56))
  have HP := Lib.hid (fun w' (h : Below w.heap.size w w') => show RPost [] w (.returned (.tuple #[.agg #[.int .i64 0, .int .u64 0], .int .i64 3])) w' from ⟨h, .inr ⟨no_empty, rfl⟩⟩)
  obtain ⟨R, hR⟩ : ∃ R, RPost [] w = R := ⟨_, rfl⟩
  rw [hR] at HP ⊢
  clear hR
  go_enter Try.func34, Try.ntmps34
  go_wp2
  exact bodyPost_ret (rc_tmp Try.results34 _ _ w.heap.size 56 _ (0, 0) _ (.int .i64 3) rfl rfl (MB.new w 0 0) Try.underlying56 rfl info_map) rfl (HP.out _ HB.out)
theorem read_some {bs : List Int} (hb : isB8 bs) {A : Option Addr} {N cap : Nat} (hl : bs.length = N) (hN : N ≤ 100000) (hp : 0 < N) (hc : N ≤ cap) (hcm : cap ≤ maxLen) (w : World) (hR : RI .u8 w A bs) : Calls Try.prog 34 #[.slice A N cap] w (RPost bs w) := by
  have HB := Lib.hid ((Below.refl _ w).alloc (Nat.le_refl _) (.cells #[.int .i64 0, .int .u64 0] 56))
  have HZ := Lib.hid (MB.new w 0 0)
  obtain ⟨b, off, rfl, hbl, hcell⟩ := hR (by omega)
  obtain ⟨x, hx⟩ : ∃ x : Nat, bs.getD 0 0 = x := ⟨(bs.getD 0 0).toNat, by have := hb 0; omega⟩
  have hx256 : x < 256 := by have := hb 0; omega
  have c0 := hcell 0 (by omega)
  rw [hx, Nat.add_zero] at c0
  have HRI := Lib.hid hR
  have HBS := Lib.hid hb
  have HL := Lib.hid hl
  have HX := Lib.hid (fun (_ : Unit) => hx)
  clear hcell hR hb hx
  have HS := Lib.hid (fun W => size_any (k := x) (by omega) W)
  obtain ⟨q, hq⟩ : ∃ q, sizeB x = q := ⟨_, rfl⟩
  have hq32 : q ≤ 32 := by rw [← hq]; unfold sizeB; omega
  rw [hq] at HS
  have HQ := Lib.hid hq
  have e0 : ((N : Int) == 0) = false := by simp; omega
  have w0 : IntKind.i64.wrap ((N : Int) - 1) = ((N - 1 : Nat) : Int) := by unfold maxLen at hcm; rw [IntWalk.i64_in _ (by omega)]; omega
  have w1 : IntKind.i64.wrap (x : Int) = (x : Int) := IntWalk.i64_in _ (by omega)
  have g0 : (0 : Int) < (N : Int) := by omega
  obtain ⟨m, hm⟩ : ∃ m, N - 1 = m := ⟨_, rfl⟩
  rw [hm] at w0
  have HP3 := Lib.hid (fun (hno : ∀ n b, ¬ isMap bs n b) w' (h : Below w.heap.size w w') => show RPost bs w (.returned (.tuple #[.agg #[.int .i64 0, .int .u64 0], .int .i64 3])) w' from ⟨h, .inr ⟨hno, rfl⟩⟩)
  have HP0 := Lib.hid (fun (n b : Nat) (hy : isMap bs n b) w' (h : Below w.heap.size w w') => show RPost bs w (.returned (.tuple #[.agg #[.int .i64 n, .int .u64 b], .int .i64 0])) w' from ⟨h, .inl ⟨n, b, hy, rfl⟩⟩)
  obtain ⟨R, hR⟩ : ∃ R, RPost bs w = R := ⟨_, rfl⟩
  rw [hR] at HP3 HP0 ⊢
  clear hR hq
  by_cases hmq : m = q
  · have e1 : ((m : Int) != (q : Int)) = false := by simp; omega
    subst hmq
    obtain ⟨A2, hsl, hrun⟩ := slice_from8 b off (n := N) (cap := cap) (k := 1) (k' := 1) rfl (by omega) hc
    rw [hm] at hrun
    have HSL := Lib.hid hsl
    have hdl : (bs.drop 1).length = m := by simp [HL.out]; omega
    have HDL := Lib.hid (fun (_ : Unit) => hdl)
    have HDB := Lib.hid (show isB8 (bs.drop 1) from fun i => by have := HBS.out (i + 1); simpa [List.getD, Nat.add_comm] using this)
    obtain ⟨l, hld⟩ : ∃ l, bs.drop 1 = l := ⟨_, rfl⟩
    rw [hld] at HDL HDB
    have hd' : ((m : Nat) : Int) ≤ 32 := by omega
    have hmm : m ≤ 9223372036854775807 := by omega
    have HM0 := Lib.hid (show MB ((w.alloc (.cells #[.int .i64 0, .int .u64 0] 56)).alloc (.cells #[.int .i64 x, .int .u64 0] 56)) (w.heap.size + 1) x 0 from by
      have := MB.new (w.alloc (.cells #[.int .i64 0, .int .u64 0] 56)) x 0
      rwa [show (w.alloc (.cells #[.int .i64 0, .int .u64 0] 56)).heap.size = w.heap.size + 1 by simp] at this)
    have HZ0 := Lib.hid (HZ.out.alloc (.cells #[.int .i64 x, .int .u64 0] 56))
    have HB0 := Lib.hid (HB.out.alloc (by simp) (.cells #[.int .i64 x, .int .u64 0] 56))
    have g1 : (1 : Int) ≤ (N : Int) := by omega
    have hld' := Lib.hid (fun (_ : Unit) => hld)
    clear hdl hsl hld
    go_enter Try.func34, Try.ntmps34
    go_wp2_with ((go_at_call 45; refine (HS.out _).mono ?_; rintro e wy ⟨rfl, rfl⟩))
    go_loopw [30] (fun iv wr => ∃ i : Nat, iv = .int .i64 i ∧ i ≤ m ∧ Hid (MB wr (w.heap.size + 1) x (acR i l)) ∧ Hid (MB wr w.heap.size 0 0) ∧ Hid (Below w.heap.size w wr)) (fun iv _ => m - (intOf iv).toNat)
    case atStart => exact ⟨0, rfl, by omega, HM0, HZ0, HB0⟩
    case round =>
      obtain ⟨i, rfl, hi, HM, HZ, HB⟩ := hrel
      clear c0
      by_cases hin : i < m
      · have d1 : decide ((i : Int) < (m : Int)) = true := by simp; omega
        have d2 : decide (i < m) = true := by simp; omega
        obtain ⟨b2, o2, hA2, hb2, hc2⟩ := HSL.out w bs HRI.out HL.out (by rw [hld'.out (), HDL.out ()]; omega)
        injection hA2 with hA2
        subst hA2
        have hcc := hc2 i (by rw [hld'.out (), HDL.out ()]; omega)
        rw [hld'.out ()] at hcc
        obtain ⟨c, hcv⟩ : ∃ c : Nat, l.getD i 0 = c := ⟨(l.getD i 0).toNat, by have := HDB.out i; omega⟩
        have hc256 : c < 256 := by have := HDB.out i; omega
        rw [hcv] at hcc
        have a0 := (HB.out.cell (p := ⟨b2, o2 + i, none⟩) hb2).trans hcc
        have m1 := HM.out.c1
        have f1 := HM.out.free 1
        obtain ⟨r, hr⟩ : ∃ r, 8 * i = r := ⟨_, rfl⟩
        have w1 : IntKind.i64.wrap ((i : Int) + 1) = (i : Int) + 1 := IntWalk.i64_in _ (by omega)
        have w2 : IntKind.i64.wrap (8 * (i : Int)) = (r : Int) := by rw [IntWalk.i64_in _ (by omega)]; omega
        have w3 : IntKind.u64.wrap (c : Int) = (c : Int) := by rw [wrap64, Nat.mod_eq_of_lt (by omega)]
        have g2 : (0 : Int) ≤ (r : Int) := by omega
        have g3 : (0 : Int) ≤ (i : Int) := by omega
        have g4 : (i : Int) < (m : Int) := by omega
        obtain ⟨a, ha⟩ : ∃ a, acR i l = a := ⟨_, rfl⟩
        obtain ⟨z, hz⟩ : ∃ z, c * 2 ^ r % 2 ^ 64 = z := ⟨_, rfl⟩
        have w4 : IntKind.u64.wrap ((c : Int) * 2 ^ min r 64) = (z : Int) := by rw [shl_byte, hz]
        have HOR := Lib.hid (show bits .or .u64 (a : Int) (z : Int) = ((acR (i + 1) l : Nat) : Int) from by
          rw [u64_or' (by rw [← ha]; exact acR_lt _ _) (by rw [← hz]; exact Nat.mod_lt _ (by omega))]
          conv => rhs; unfold acR
          rw [ha, hcv, hr, show ((c : Nat) : Int).toNat = c from rfl, hz])
        rw [ha] at HM m1
        clear hcc hc2 hcv hr ha hz
        go_wp2
        go_region
        rw [HOR.out]
        have HM2 := Lib.hid ((HM.out.s1 ((acR (i + 1) l : Nat) : Int)).drew)
        have HZ2 := Lib.hid ((HZ.out.far (w.heap.size + 1) 1 (.int .u64 ((acR (i + 1) l : Nat) : Int)) (by omega)).drew)
        have HB2 := Lib.hid (belowN (below_cell HB.out (Nat.le_succ _) 1 (.int .u64 ((acR (i + 1) l : Nat) : Int))) 1)
        clear m1 f1 a0
        go_wp2
        go_roundw
        case rel => exact ⟨i + 1, by go_num, by omega, HM2, HZ2, HB2⟩
        case measure => simp [intOf]; omega
      · have d1 : decide ((i : Int) < (m : Int)) = false := by simp; omega
        have d2 : decide (i < m) = false := by simp; omega
        obtain rfl : i = m := by omega
        obtain ⟨a, ha⟩ : ∃ a, acR i l = a := ⟨_, rfl⟩
        have ha64 : a < 18446744073709551616 := by rw [← ha]; exact acR_lt _ _
        have HRT := Lib.hid (fun W => right_any x ha64 W)
        have HY := Lib.hid (fun (h : rB x a = true) => show isMap bs x a from by
          have := yes_right HBS.out (HX.out ()) (by rw [HL.out, HQ.out]; omega) (by rw [HQ.out, hld'.out (), ha]; exact h)
          rwa [HQ.out, hld'.out (), ha] at this)
        have HNO := Lib.hid (fun (h : rB x a = false) => no_right (HX.out ()) (by rw [HQ.out, hld'.out (), ha]; exact h))
        rw [ha] at HM
        have m0 := HM.out.c0
        have m1 := HM.out.c1
        clear ha ha64
        obtain ⟨rr, hrr⟩ : ∃ rr, rB x a = rr := ⟨_, rfl⟩
        rw [hrr] at HRT HY HNO
        clear hrr
        unfold mV at HRT
        cases rr
        · have HF := Lib.hid (HP3.out (HNO.out rfl))
          go_wp2_with fail
          refine (HRT.out _).mono ?_
          rintro e wz ⟨rfl, hz⟩
          have HZ2 := Lib.hid (HZ.out.below hz)
          have HB2 := Lib.hid (HB.out.trans (hz.mono HB.out.size))
          have z0 := HZ2.out.c0
          have z1 := HZ2.out.c1
          have f0 := HZ2.out.free 0
          have f1 := HZ2.out.free 1
          clear hz m0 m1
          go_wp2
          exact bodyPost_ret (rc_tmp Try.results34 _ _ w.heap.size 56 _ (0, 0) _ (.int .i64 3) rfl rfl (HZ2.out.put 0 0) Try.underlying56 rfl info_map) rfl (HF.out _ (below_put HB2.out (Nat.le_refl _) _ _))
        · have HF := Lib.hid (HP0.out x a (HY.out rfl))
          go_wp2_with fail
          refine (HRT.out _).mono ?_
          rintro e wz ⟨rfl, hz⟩
          have HM2 := Lib.hid (HM.out.below hz)
          have HZ2 := Lib.hid (HZ.out.below hz)
          have HB2 := Lib.hid (HB.out.trans (hz.mono HB.out.size))
          have m0 := HM2.out.c0
          have m1 := HM2.out.c1
          have z0 := HZ2.out.c0
          have z1 := HZ2.out.c1
          have f0 := HZ2.out.free 0
          have f1 := HZ2.out.free 1
          clear hz
          go_wp2
          exact bodyPost_ret (rc_tmp Try.results34 _ _ w.heap.size 56 _ (0, 0) _ (.int .i64 0) rfl rfl (HZ2.out.put x a) Try.underlying56 rfl info_map) rfl (HF.out _ (below_put HB2.out (Nat.le_refl _) _ _))
  · have e1 : ((m : Int) != (q : Int)) = true := by simp; omega
    have HF := Lib.hid (HP3.out (no_len (HX.out ()) (by rw [HL.out, HQ.out]; omega)))
    clear HP0 HP3 HX HL HQ HBS HRI
    go_enter Try.func34, Try.ntmps34
    go_wp2_with ((go_at_call 45; refine (HS.out _).mono ?_; rintro e wy ⟨rfl, rfl⟩))
    exact bodyPost_ret (rc_tmp Try.results34 _ _ w.heap.size 56 _ (0, 0) _ (.int .i64 3) rfl rfl HZ.out Try.underlying56 rfl info_map) rfl (HF.out _ HB.out)
/-- Read, of any bytes. -/
theorem read_any {bs : List Int} (hb : isB8 bs) {A : Option Addr} {N cap : Nat} (hl : bs.length = N) (hN : N ≤ 100000) (hc : N ≤ cap) (hcm : cap ≤ maxLen) (w : World) (hR : RI .u8 w A bs) : Calls Try.prog 34 #[.slice A N cap] w (RPost bs w) := by
  rcases Nat.eq_zero_or_pos N with h | h
  · subst h
    obtain rfl : bs = [] := List.eq_nil_of_length_eq_zero hl
    exact read_empty A cap w
  · exact read_some hb hl hN h hc hcm w hR
end Go.Proofs.Ytlppnnehgfpgbaa
