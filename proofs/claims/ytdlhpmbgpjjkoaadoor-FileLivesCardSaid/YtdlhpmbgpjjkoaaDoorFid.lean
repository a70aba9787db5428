/-
  Proved here: of a sender that New made: next, cut, Peek and Next.
-/
import Derived.Test.YtdlhpmbgpjjkoaaDoorFic
import Derived.WalkMore
import Derived.Deep.DeepCutAuto
set_option linter.unusedSimpArgs false
set_option linter.unusedVariables false
namespace Go.Proofs.YtdlhpmbgpjjkoaaDoor
open Go.RowKit
theorem aggI : ∀ w, (isAgg 3).run Tryd.prog w = .ok false w := fun _ => by kernel_rfl
theorem sizeI : ∀ w, (sizeOf 3).run Tryd.prog w = .ok 1 w := fun _ => by kernel_rfl
/-- The next chunk. -/
def IsNext (N b p j : Nat) : Prop := j < N ∧ b.testBit j = false ∧ ((p ≤ j ∧ ∀ k, p ≤ k → k < j → b.testBit k = true) ∨ ((∀ k, p ≤ k → k < N → b.testBit k = true) ∧ ∀ k, k < j → b.testBit k = true))
theorem IsNext.one {N b p i j : Nat} (h : IsNext N b p i) (k : IsNext N b p j) : i = j := by
  obtain ⟨h1, h2, h3⟩ := h
  obtain ⟨k1, k2, k3⟩ := k
  rcases Nat.lt_trichotomy i j with hl | hl | hl
  · rcases k3 with ⟨k4, k5⟩ | ⟨k4, k5⟩
    · rcases h3 with ⟨h4, h5⟩ | ⟨h4, h5⟩
      · have := k5 i h4 hl; simp_all
      · have := h4 j k4 k1; simp_all
    · have := k5 i hl; simp_all
  · exact hl
  · rcases h3 with ⟨h4, h5⟩ | ⟨h4, h5⟩
    · rcases k3 with ⟨k4, k5⟩ | ⟨k4, k5⟩
      · have := h5 j k4 hl; simp_all
      · have := k4 i h4 h1; simp_all
    · have := h5 j hl; simp_all
theorem all_whole {N b : Nat} (hr : rB N b = true) (h : ∀ k, k < N → b.testBit k = true) : b = 2 ^ N - 1 := by
  obtain ⟨m, hm, _, hb⟩ := rB_yes hr
  obtain rfl : N = m := by omega
  refine Nat.eq_of_testBit_eq fun i => ?_
  rw [testBit_whole]
  rcases Nat.lt_or_ge i N with hi | hi
  · rw [h i hi, decide_eq_true hi]
  · rw [bit_far hb hi, decide_eq_false (by omega)]
section
variable {w : World} {g : Nat} {id : Nat} {nm : ByteArray} {sum : List Nat} {bs : List Int} {N b p : Nat} {z : Bool}
theorem next_stop (h : Sd w g id nm sum bs N b p z) (hz : stS z N b ≠ 0) : Calls Tryd.prog 33 #[.pointer (some ⟨g, 0, none⟩)] w fun e w' => e = .returned (.tuple #[.int .i64 0, .bool false]) ∧ Below w.heap.size w w' := by
  have HN := Lib.hid (none_sd h)
  have HT := Lib.hid (state_sd h)
  obtain ⟨s, hs⟩ : ∃ s, stS z N b = s := ⟨_, rfl⟩
  rw [hs] at HT hz
  have e0 : (s != 0) = true := by simp [hz]
  have e1 : (s == 0) = false := by simp [hz]
  clear h hz hs
  go_enter Tryd.func33, Tryd.ntmps33
  go_upto_region 1 with fail
  go_step3
  go_wp2_with (go_at_call 38; refine HN.out.mono ?_; rintro e wx ⟨rfl, rfl⟩)
  refine HT.out.mono ?_
  rintro e wx ⟨rfl, hx⟩
  have HX := Lib.hid hx
  clear hx
  go_wp2
  rw [Exit.noGoto_ret]
  go_ret2
  exact ⟨rfl, HX.out⟩
set_option maxHeartbeats 1000000 in
theorem next_go (h : Sd w g id nm sum bs N b p false) (hf : b ≠ 2 ^ N - 1) : Calls Tryd.prog 33 #[.pointer (some ⟨g, 0, none⟩)] w fun e w' => ∃ j : Nat, e = .returned (.tuple #[.int .i64 j, .bool true]) ∧ IsNext N b p j ∧ Below w.heap.size w w' := by
  have HN := Lib.hid (none_sd h)
  have HT := Lib.hid (state_here h)
  rw [if_neg hf] at HT
  have HH := Lib.hid (fun (i : Nat) (hi : i < N) W => hB_in h.right hi ▸ has_any N (rB_lt h.right) i W)
  unfold mV at HH
  have HF := Lib.hid (fun hk => hf (all_whole h.right hk))
  have HS := Lib.hid h
  have hn := h.n64
  have hp := h.at64
  clear h hf
  go_enter Tryd.func33, Tryd.ntmps33
  go_upto_region 1 with fail
  go_step3
  go_wp2_with (go_at_call 38; refine HN.out.mono ?_; rintro e wx ⟨rfl, rfl⟩)
  refine HT.out.mono ?_
  rintro e wx ⟨rfl, hx⟩
  have HX := Lib.hid hx
  clear hx
  go_wp2
  go_step3
  have c38 := (HS.out.below HX.out).c38
  go_wp2
  go_loopw [4, 20] (fun fv kv wr => ∃ k : Nat, fv = .int .i64 0 ∧ kv = .int .i64 k ∧ k ≤ 2 ∧ Hid (Below w.heap.size w wr) ∧ Hid (1 ≤ k → ∀ j, p ≤ j → j < N → b.testBit j = true) ∧ Hid (2 ≤ k → ∀ j, j < N → b.testBit j = true)) (fun _ kv _ => 2 - (intOf kv).toNat)
  case atStart => exact ⟨0, rfl, rfl, by omega, HX, Lib.hid (fun h => absurd h (by omega)), Lib.hid (fun h => absurd h (by omega))⟩
  case round =>
    obtain ⟨k, rfl, rfl, hk, HB, H1, H2⟩ := hrel
    clear c38
    by_cases h0 : k = 0
    · subst h0
      rw [show ((0 : Nat) : Int) = (0 : Int) from rfl]
      have HIS := Lib.hid (show ∀ i, p ≤ i → i < N → b.testBit i = false → (∀ j, p ≤ j → j < i → b.testBit j = true) → IsNext N b p i from fun i h1 h2 h3 h4 => ⟨h2, h3, .inl ⟨h1, h4⟩⟩)
      have ix : ∀ W, (Instr.index 79 (.agg #[.int .i64 p, .int .i64 0]) (.int .i64 0)).run Tryd.prog W = .ok (.int .i64 p) W := fun W => ix_agg W 79 3 2 #[.int .i64 p, .int .i64 0] 0 _ Tryd.underlying79 aggI sizeI (by decide) rfl
      go_wp2
      go_loopw [4, 7] (fun fv iv wr2 => ∃ i : Nat, fv = .int .i64 0 ∧ iv = .int .i64 i ∧ p ≤ i ∧ i ≤ 64 ∧ Hid (Below w.heap.size w wr2) ∧ Hid (∀ j, p ≤ j → j < i → b.testBit j = true)) (fun _ iv _ => 64 - (intOf iv).toNat)
      case atStart => exact ⟨p, rfl, rfl, by omega, by omega, HB, Lib.hid (fun j h1 h2 => absurd h1 (by omega))⟩
      case round =>
        obtain ⟨i, rfl, rfl, hqi, hi, HB2, HA⟩ := hrel
        by_cases hin : i < N
        · have d1 : decide ((i : Int) < (N : Int)) = true := by simp; omega
          have d2 : decide (i < N) = true := by simp; omega
          have c36 := (HS.out.below HB2.out).c36
          have c37 := (HS.out.below HB2.out).c37
          have w1 : IntKind.i64.wrap ((i : Int) + 1) = (i : Int) + 1 := IntWalk.i64_in _ (by omega)
          obtain ⟨x, hx⟩ : ∃ x, b.testBit i = x := ⟨_, rfl⟩
          have HI := Lib.hid (hx ▸ HH.out i hin)
          have HE := Lib.hid (fun (_ : Unit) => hx)
          clear hx
          cases x
          · have HJ := Lib.hid (HIS.out i hqi hin (HE.out ()) HA.out)
            go_wp2_with fail
            refine (HI.out _).mono ?_
            rintro e wy ⟨rfl, hy⟩
            have HB3 := Lib.hid (HB2.out.trans (hy.mono HB2.out.size))
            clear hy c36 c37
            go_wp2
            rw [Exit.noGoto_ret]
            go_ret2
            exact ⟨i, rfl, HJ.out, HB3.out⟩
          · have HA3 := Lib.hid (show ∀ j, p ≤ j → j < i + 1 → b.testBit j = true from fun j h1 h2 => by
              rcases Nat.lt_or_ge j i with h3 | h3
              · exact HA.out j h1 h3
              · rw [show j = i by omega]; exact HE.out ())
            go_wp2_with fail
            refine (HI.out _).mono ?_
            rintro e wy ⟨rfl, hy⟩
            have HB3 := Lib.hid (HB2.out.trans (hy.mono HB2.out.size))
            clear hy c36 c37
            go_wp2
            go_roundw
            case rel => exact ⟨i + 1, rfl, by go_num, by omega, by omega, HB3, HA3⟩
            case measure => simp [intOf]; omega
        · have d1 : decide ((i : Int) < (N : Int)) = false := by simp; omega
          have d2 : decide (i < N) = false := by simp; omega
          have c36 := (HS.out.below HB2.out).c36
          have HA4 := Lib.hid (show ∀ j, p ≤ j → j < N → b.testBit j = true from fun j h1 h2 => HA.out j h1 (by omega))
          go_wp2
          go_roundw
          case rel => exact ⟨1, rfl, rfl, by omega, HB2, Lib.hid (fun _ j h1 h2 => HA4.out j h1 h2), Lib.hid (fun h => absurd h (by omega))⟩
          case measure => simp [intOf]
    · by_cases h1 : k = 1
      · subst h1
        rw [show ((1 : Nat) : Int) = (1 : Int) from rfl]
        have HIS := Lib.hid (show ∀ i, 0 ≤ i → i < N → b.testBit i = false → (∀ j, 0 ≤ j → j < i → b.testBit j = true) → IsNext N b p i from fun i _ h2 h3 h4 => ⟨h2, h3, .inr ⟨H1.out (by omega), fun k hk => h4 k (by omega) hk⟩⟩)
        have ix : ∀ W, (Instr.index 79 (.agg #[.int .i64 p, .int .i64 0]) (.int .i64 1)).run Tryd.prog W = .ok (.int .i64 0) W := fun W => ix_agg W 79 3 2 #[.int .i64 p, .int .i64 0] 1 _ Tryd.underlying79 aggI sizeI (by decide) rfl
        go_wp2
        go_loopw [4, 7] (fun fv iv wr2 => ∃ i : Nat, fv = .int .i64 0 ∧ iv = .int .i64 i ∧ 0 ≤ i ∧ i ≤ 64 ∧ Hid (Below w.heap.size w wr2) ∧ Hid (∀ j, 0 ≤ j → j < i → b.testBit j = true)) (fun _ iv _ => 64 - (intOf iv).toNat)
        case atStart => exact ⟨0, rfl, rfl, by omega, by omega, HB, Lib.hid (fun j h1 h2 => absurd h1 (by omega))⟩
        case round =>
          obtain ⟨i, rfl, rfl, hqi, hi, HB2, HA⟩ := hrel
          by_cases hin : i < N
          · have d1 : decide ((i : Int) < (N : Int)) = true := by simp; omega
            have d2 : decide (i < N) = true := by simp; omega
            have c36 := (HS.out.below HB2.out).c36
            have c37 := (HS.out.below HB2.out).c37
            have w1 : IntKind.i64.wrap ((i : Int) + 1) = (i : Int) + 1 := IntWalk.i64_in _ (by omega)
            obtain ⟨x, hx⟩ : ∃ x, b.testBit i = x := ⟨_, rfl⟩
            have HI := Lib.hid (hx ▸ HH.out i hin)
            have HE := Lib.hid (fun (_ : Unit) => hx)
            clear hx
            cases x
            · have HJ := Lib.hid (HIS.out i hqi hin (HE.out ()) HA.out)
              go_wp2_with fail
              refine (HI.out _).mono ?_
              rintro e wy ⟨rfl, hy⟩
              have HB3 := Lib.hid (HB2.out.trans (hy.mono HB2.out.size))
              clear hy c36 c37
              go_wp2
              rw [Exit.noGoto_ret]
              go_ret2
              exact ⟨i, rfl, HJ.out, HB3.out⟩
            · have HA3 := Lib.hid (show ∀ j, 0 ≤ j → j < i + 1 → b.testBit j = true from fun j h1 h2 => by
                rcases Nat.lt_or_ge j i with h3 | h3
                · exact HA.out j h1 h3
                · rw [show j = i by omega]; exact HE.out ())
              go_wp2_with fail
              refine (HI.out _).mono ?_
              rintro e wy ⟨rfl, hy⟩
              have HB3 := Lib.hid (HB2.out.trans (hy.mono HB2.out.size))
              clear hy c36 c37
              go_wp2
              go_roundw
              case rel => exact ⟨i + 1, rfl, by go_num, by omega, by omega, HB3, HA3⟩
              case measure => simp [intOf]; omega
          · have d1 : decide ((i : Int) < (N : Int)) = false := by simp; omega
            have d2 : decide (i < N) = false := by simp; omega
            have c36 := (HS.out.below HB2.out).c36
            have HA4 := Lib.hid (show ∀ j, 0 ≤ j → j < N → b.testBit j = true from fun j h1 h2 => HA.out j h1 (by omega))
            go_wp2
            go_roundw
            case rel => exact ⟨2, rfl, rfl, by omega, HB2, Lib.hid (fun _ j h1 h2 => HA4.out j (by omega) h2), Lib.hid (fun _ j h2 => HA4.out j (by omega) h2)⟩
            case measure => simp [intOf]
      · obtain rfl : k = 2 := by omega
        exact absurd (H2.out (by omega)) (fun h => HF.out h)
/-- A piece of a list. -/
def cutL (bs : List Int) (i : Nat) : List Int := (bs.drop (64 * i)).take (lenS bs.length i)
theorem cutL_len {i : Nat} (hi : i < (bs.length + 63) / 64) : (cutL bs i).length = lenS bs.length i := by
  unfold cutL lenS
  simp only [List.length_take, List.length_drop]
  omega
theorem lenS_pos {n i : Nat} (hi : i < (n + 63) / 64) : 1 ≤ lenS n i ∧ lenS n i ≤ 64 ∧ 64 * i + lenS n i ≤ n := by
  unfold lenS
  omega
theorem run_cut3 {A : Option Addr} {n c lo hi : Nat} {lo' hi' : Int} (e1 : lo' = (lo : Int)) (e2 : hi' = (hi : Int)) (h1 : lo < hi) (h2 : hi ≤ n) (hc : n ≤ c) (hz : A = none → c = 0) :
    ∃ A2 : Addr, (∀ W bs, RI .u8 W A bs → bs.length = n → RI .u8 W (some A2) ((bs.drop lo).take (hi - lo))) ∧ ∀ W : World, (Instr.slice 23 (.slice A n c) (some (.int .i64 lo')) (some (.int .i64 hi')) (some (.int .i64 hi'))).run Tryd.prog W = .ok (.slice (some A2) (hi - lo) (hi - lo)) W := by
  subst e1 e2
  have g1 : (lo : Int) ≤ (hi : Int) := by omega
  have g2 : (hi : Int) ≤ (c : Int) := by omega
  rcases A with _ | ad
  · have := hz rfl
    omega
  · refine ⟨ad.add lo, fun W bs h hl hp => ?_, fun W => ?_⟩
    · obtain ⟨b', off', e, hb, hcl⟩ := h (by simp at hp; omega)
      injection e with e
      subst e
      have ha : (⟨b', off', none⟩ : Addr).add lo = ⟨b', off' + lo, none⟩ := by unfold Addr.add; split <;> simp_all
      rw [ha]
      refine ⟨b', off' + lo, rfl, hb, fun i hi2 => ?_⟩
      simp at hi2
      rw [Nat.add_assoc, hcl (lo + i) (by omega)]
      simp [List.getD, show i < hi - lo by omega]
    · obtain ⟨i0, hi0, _, hz1, _⟩ := info_parts info_u8
      simp [Instr.slice, run_underlying Tryd.underlying23, Instr.sliceBounds, run_sliceBound, g1, g2, hi0, hz1]
      exact fun e => absurd e (by omega)
theorem cut_sd (h : Sd w g id nm sum bs N b p z) {i : Nat} (hi : i < N) : Calls Tryd.prog 34 #[.pointer (some ⟨g, 0, none⟩), .int .i64 i] w fun e w' => ∃ A, e = .returned (.slice (some A) (lenS bs.length i) (lenS bs.length i)) ∧ RI .u8 w (some A) (cutL bs i) ∧ w = w' := by
  obtain ⟨A, c, c35, hr, h1, h2, h3⟩ := h.c35
  have c2 := h.c2
  have hN := h.num
  have hsz := h.size
  have hi' : i < (bs.length + 63) / 64 := by omega
  obtain ⟨p1, p2, p3⟩ := lenS_pos hi'
  have HL := Lib.hid (fun W => length_yes hsz hi' W)
  obtain ⟨A2, hr2, hrun⟩ := run_cut3 (A := A) (c := c) (n := bs.length) (lo := 64 * i) (hi := 64 * i + lenS bs.length i) (lo' := (i : Int) * 64) (hi' := ((64 * i + lenS bs.length i : Nat) : Int)) (by omega) rfl (by omega) p3 h1 h3
  have HR := Lib.hid (show RI .u8 w (some A2) (cutL bs i) from by
    have := hr2 w bs hr rfl
    rwa [show 64 * i + lenS bs.length i - 64 * i = lenS bs.length i by omega] at this)
  rw [show 64 * i + lenS bs.length i - 64 * i = lenS bs.length i by omega] at hrun
  obtain ⟨l, hl⟩ : ∃ l, lenS bs.length i = l := ⟨_, rfl⟩
  rw [hl] at hrun HL p1 p2 p3 ⊢
  obtain ⟨t, ht⟩ : ∃ t, 64 * i + l = t := ⟨_, rfl⟩
  rw [ht] at hrun
  obtain ⟨n, hn⟩ : ∃ n, bs.length = n := ⟨_, rfl⟩
  rw [hn] at c2 c35 hrun HL h1 hsz
  have w1 : IntKind.i64.wrap ((i : Int) * 64) = (i : Int) * 64 := IntWalk.i64_in _ (by omega)
  have w2 : IntKind.i64.wrap ((i : Int) * 64 + (l : Int)) = (t : Int) := by rw [IntWalk.i64_in _ (by omega)]; omega
  clear h hr hr2 hN hi hi' p1 p2 p3 h1 h2 h3 hl ht hn hsz
  go_enter Tryd.func34, Tryd.ntmps34
  go_wp2_with (go_at_call 48; refine (HL.out _).mono ?_; rintro e wx ⟨rfl, rfl⟩)
  go_ret
  exact ⟨A2, rfl, HR.out, rfl⟩
theorem peek_stop (h : Sd w g id nm sum bs N b p z) (hz : stS z N b ≠ 0) : Calls Tryd.prog 9 #[.pointer (some ⟨g, 0, none⟩)] w fun e w' => e = .returned (.tuple #[.int .i64 0, .bool false]) ∧ Below w.heap.size w w' := by
  have HN := Lib.hid (next_stop h hz)
  clear h hz
  go_enter Tryd.func9, Tryd.ntmps9
  go_wp2_with fail
  refine HN.out.mono ?_
  rintro e wx ⟨rfl, hx⟩
  have HX := Lib.hid hx
  clear hx
  go_wp2
  go_returns
  exact ⟨rfl, HX.out⟩
theorem peek_go (h : Sd w g id nm sum bs N b p false) (hf : b ≠ 2 ^ N - 1) : Calls Tryd.prog 9 #[.pointer (some ⟨g, 0, none⟩)] w fun e w' => ∃ j : Nat, e = .returned (.tuple #[.int .i64 (lenS bs.length j), .bool true]) ∧ IsNext N b p j ∧ Below w.heap.size w w' := by
  have HN := Lib.hid (next_go h hf)
  have HS := Lib.hid h
  clear h hf
  go_enter Tryd.func9, Tryd.ntmps9
  go_wp2_with fail
  refine HN.out.mono ?_
  rintro e wx ⟨j, rfl, hj, hx⟩
  have HX := Lib.hid hx
  have HJ := Lib.hid hj
  have HC := Lib.hid (cut_sd (HS.out.below hx) hj.1)
  clear hx hj
  go_wp2_with fail
  refine HC.out.mono ?_
  rintro e wy ⟨A, rfl, _, rfl⟩
  go_wp2
  go_returns
  exact ⟨j, rfl, HJ.out, HX.out⟩
theorem pnext_stop (h : Sd w g id nm sum bs N b p z) (hz : stS z N b ≠ 0) : Calls Tryd.prog 14 #[.pointer (some ⟨g, 0, none⟩)] w fun e w' => e = .returned (.tuple #[.int .i64 0, .slice none 0 0, .bool false]) ∧ Below w.heap.size w w' := by
  have HN := Lib.hid (next_stop h hz)
  clear h hz
  go_enter Tryd.func14, Tryd.ntmps14
  go_wp2_with fail
  refine HN.out.mono ?_
  rintro e wx ⟨rfl, hx⟩
  have HX := Lib.hid hx
  clear hx
  go_wp2
  go_returns
  exact ⟨rfl, HX.out⟩
theorem pnext_go (h : Sd w g id nm sum bs N b p false) (hf : b ≠ 2 ^ N - 1) : Calls Tryd.prog 14 #[.pointer (some ⟨g, 0, none⟩)] w fun e w' => ∃ (j : Nat) (v : Value), e = .returned (.tuple #[.int .i64 j, v, .bool true]) ∧ IsNext N b p j ∧ w'.ownsRow w.heap.size 5 1 v (lenS bs.length j) (NV .u8 (cutL bs j)) ∧ Sd w' g id nm sum bs N b (j + 1) false ∧ Only g w w' := by
  have HN := Lib.hid (next_go h hf)
  have HS := Lib.hid h
  have hn64 := h.n64
  have hnum := h.num
  clear h hf
  go_enter Tryd.func14, Tryd.ntmps14
  go_wp2_with fail
  refine HN.out.mono ?_
  rintro e wx ⟨j, rfl, hj, hx⟩
  have HX := Lib.hid hx
  have HJ := Lib.hid hj
  have hj1 := hj.1
  have hlen := cutL_len (bs := bs) (i := j) (by omega)
  have hlp := lenS_pos (n := bs.length) (i := j) (by omega)
  have HSX := HS.out.below hx
  have w1 : IntKind.i64.wrap ((j : Int) + 1) = ((j + 1 : Nat) : Int) := by rw [IntWalk.i64_in _ (by omega)]; omega
  obtain ⟨j1, hj1e⟩ : ∃ j1, j + 1 = j1 := ⟨_, rfl⟩
  rw [hj1e] at w1
  have c38 := HSX.c38
  have f38 := HSX.free 38
  have HSY := Lib.hid (HSX.s38 (p' := j1) (by omega))
  have HC := Lib.hid (cut_sd HSY.out hj1)
  have HO := Lib.hid ((Only.of hx).trans (OnlyCell (g := g) wx 38 (.int .i64 j1)))
  clear hx hj HSX
  go_wp2_with fail
  obtain ⟨Y, hY⟩ : ∃ Y, wx.setCell ⟨g, 38, none⟩ (.int .i64 j1) = Y := ⟨_, rfl⟩
  rw [hY] at HSY HC HO ⊢
  clear hY c38 f38
  refine HC.out.mono ?_
  rintro e wy ⟨A, rfl, hr, rfl⟩
  have HK := Lib.hid (clone_any (n := lenS bs.length j) (cap := lenS bs.length j) hlen _ hr (by omega) (fun e => by cases e))
  have HZ := Lib.hid (show w.heap.size ≤ Y.heap.size from HO.out.size)
  clear hr
  go_wp2_with fail
  refine HK.out.mono ?_
  rintro e wz ⟨v, rfl, hv⟩
  have HV := Lib.hid hv
  clear hv
  go_wp2
  go_returns
  exact ⟨j, v, rfl, HJ.out, own_cast (own_mono HV.out.own HZ.out) hlen rfl, by rw [hj1e]; exact HSY.out.below HV.out.below, HO.out.trans (Only.of HV.out.below)⟩
end
end Go.Proofs.YtdlhpmbgpjjkoaaDoor
