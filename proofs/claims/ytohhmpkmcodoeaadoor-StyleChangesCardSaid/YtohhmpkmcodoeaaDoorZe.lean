/-
  Proved here: of the program's styles: appendColour, Params.
-/
import Derived.Test.YtohhmpkmcodoeaaDoorZd
set_option linter.unusedSimpArgs false
set_option linter.unusedVariables false
namespace Go.Proofs.YtohhmpkmcodoeaaDoor
open Go.RowKit
theorem and255 (v : Int) (h0 : 0 ≤ v) (h1 : v < 4294967296) : bits .and .u32 v 255 = v % 256 := by
  rw [u32_and v 255 h0 h1 (by omega) (by omega)]
  have : (255 : Int).toNat = 2 ^ 8 - 1 := by decide
  rw [this, Nat.and_two_pow_sub_one_eq_mod]
  omega
theorem own_len {w : World} {A : Option Addr} {n c : Nat} {xs : List Int} {W : World} (h : OwnI w (.slice A n c) xs W) : OwnI w (.slice A n c) xs W := h
set_option maxHeartbeats 1000000 in
theorem p_append {w : World} {v : Value} {xs : List Int} {W : World} (h : OwnI w v xs W) (hx : xs.length ≤ 1000) (a c : Int) (h0 : 0 ≤ c) (h1 : c < 4294967296) (hc : colB c = true) :
    Calls Tryd.prog 20 #[v, .int .i64 a, .int .u32 c] W fun e w' => ∃ u, e = .returned u ∧ OwnI w u (xs ++ tellS a c) w' := by
  rw [colB_def c h0] at hc
  by_cases a0 : c = 0
  · subst a0
    have e : tellS a 0 = [] := by unfold tellS; rw [if_neg (by decide), if_neg (by decide)]
    rw [e, List.append_nil]
    have HO := Lib.hid h
    clear e hc h
    go_enter Tryd.func20, Tryd.ntmps20
    go_wp2
    go_ret
    exact ⟨_, rfl, HO.out⟩
  have z0 : (c == 0) = false := by simpa using a0
  obtain ⟨A0, c0, rfl, _⟩ := own_slice h.own
  by_cases a1 : c < 33554432
  · have d1 : decide (c < 33554432) = true := by simpa using a1
    have hb : 16777216 ≤ c ∧ c ≤ 16777471 := by
      rw [z0] at hc
      simp at hc
      omega
    have e : tellS a c = [a, 5, c - 16777216] := by unfold tellS; rw [if_pos (by omega), show c % 256 = c - 16777216 by omega]
    rw [e]
    obtain ⟨x, hx'⟩ : ∃ x, c - 16777216 = x := ⟨_, rfl⟩
    obtain ⟨b0, b1⟩ := hb
    have o5 := OwnI.lit W [a, 5, x] 3 rfl (by omega)
    obtain ⟨A6, c6, w6, hrun6, o6⟩ := h.apps o5.ri o5.below (by simp; omega)
    have HRUN := Lib.hid hrun6
    have HO := Lib.hid o6
    rw [hx']
    have x0 : 0 ≤ x := by omega
    have x1 : x < 256 := by omega
    clear e hc h hrun6 o6 o5 hx
    go_enter Tryd.func20, Tryd.ntmps20
    go_wp2_with (at_builtin; refine wpList_app rfl (.tmp 14) (.tmp 19) _ rfl _ _ rfl rfl HRUN.out ?_)
    go_ret
    exact ⟨_, rfl, own_len HO.out⟩
  · have d1 : decide (c < 33554432) = false := by simpa using a1
    have hb : 33554432 ≤ c ∧ c ≤ 50331647 := by
      rw [z0] at hc
      simp at hc
      omega
    have e : tellS a c = [a, 2, c / 65536 % 256, c / 256 % 256, c % 256] := by unfold tellS; rw [if_neg (by omega), if_pos (by omega)]
    rw [e]
    obtain ⟨x, hx'⟩ : ∃ x, c / 65536 % 256 = x := ⟨_, rfl⟩
    obtain ⟨y, hy'⟩ : ∃ x, c / 256 % 256 = x := ⟨_, rfl⟩
    obtain ⟨z, hz'⟩ : ∃ x, c % 256 = x := ⟨_, rfl⟩
    obtain ⟨b0, b1⟩ := hb
    have o5 := OwnI.lit W [a, 2, x, y, z] 5 rfl (by omega)
    obtain ⟨A6, c6, w6, hrun6, o6⟩ := h.apps o5.ri o5.below (by simp; omega)
    have HRUN := Lib.hid hrun6
    have HO := Lib.hid o6
    have n1 := and255 (c / 65536) (by omega) (by omega)
    have n2 := and255 (c / 256) (by omega) (by omega)
    have n3 := and255 c h0 h1
    rw [hx'] at n1
    rw [hy'] at n2
    rw [hz'] at n3
    rw [hx', hy', hz']
    have x0 : 0 ≤ x := by omega
    have x1 : x < 256 := by omega
    have y0 : 0 ≤ y := by omega
    have y1 : y < 256 := by omega
    have u0 : 0 ≤ z := by omega
    have u1 : z < 256 := by omega
    clear e hc h hrun6 o6 o5 hx
    go_enter Tryd.func20, Tryd.ntmps20
    go_wp2_with (at_builtin; refine wpList_app rfl (.tmp 21) (.tmp 34) _ rfl _ _ rfl rfl HRUN.out ?_)
    go_ret
    exact ⟨_, rfl, own_len HO.out⟩
/-- The table's numbers. -/
theorem ixT : ∀ (i : Nat) (hi : i < 10) (w : World), (Instr.index 51 (.agg #[.int .u8 0, .int .u8 1, .int .u8 2, .int .u8 4, .int .u8 8, .int .u8 16, .int .u8 0, .int .u8 32, .int .u8 64, .int .u8 128]) (.int .i64 ((i : Nat) : Int))).run Tryd.prog w = .ok (.int .u8 (flT (i : Int))) w
  | 0, _, _ => by kernel_rfl
  | 1, _, _ => by kernel_rfl
  | 2, _, _ => by kernel_rfl
  | 3, _, _ => by kernel_rfl
  | 4, _, _ => by kernel_rfl
  | 5, _, _ => by kernel_rfl
  | 6, _, _ => by kernel_rfl
  | 7, _, _ => by kernel_rfl
  | 8, _, _ => by kernel_rfl
  | 9, _, _ => by kernel_rfl
/-- Does a number's flag stand? -/
def hasF (fs : List Bool) (n : Int) : Bool := decide (0 ≤ placeS n) && fs.getD (placeS n).toNat false
theorem flag_and (fs : List Bool) (h : fs.length = 8) (i : Nat) (hi : i < 10) : (bits .and .u8 (flagsF fs) (flT (i : Int)) != 0) = hasF fs (i : Int) := by
  obtain ⟨a, b, c, d, e, f, g, j, rfl⟩ := eight h
  have H : ∀ p : Fin 10, ∀ a b c d e f g i : Bool, (bits .and .u8 (flagsF [a, b, c, d, e, f, g, i]) (flT ((p.1 : Nat) : Int)) != 0) = hasF [a, b, c, d, e, f, g, i] ((p.1 : Nat) : Int) := by decide +kernel
  exact H ⟨i, hi⟩ a b c d e f g j
/-- The numbers of the flags below a place. -/
def preF (fs : List Bool) (i : Nat) : List Int := 0 :: flagNs fs (i - 1)
theorem preF_len (fs : List Bool) (i : Nat) (hi : i ≤ 10) : (preF fs i).length ≤ 10 := by
  have := flagNs_len fs (i - 1)
  simp only [preF, List.length_cons]
  omega
theorem preF_succ (fs : List Bool) (i : Nat) : preF fs (i + 1) = preF fs i ++ (if hasF fs (i : Int) = true then [(i : Int)] else []) := by
  cases i with
  | zero =>
    have : hasF fs ((0 : Nat) : Int) = false := by unfold hasF; rw [show placeS ((0 : Nat) : Int) = -1 from by decide]; rfl
    rw [this]
    simp [preF]
  | succ i =>
    unfold preF hasF
    rw [show i + 1 + 1 - 1 = i + 1 by omega, show i + 1 - 1 = i by omega, flagNs_succ]
    simp
set_option maxRecDepth 100000 in
set_option maxHeartbeats 2000000 in
theorem p_params (s : Sty) (w : World) (hs : Good s) (hT : FT w) :
    Calls Tryd.prog 9 #[pV s] w fun e w' => ∃ v, e = .returned v ∧ OwnI w v (paramsS s) w' := by
  have hl := hs.len
  obtain ⟨rt, hrt⟩ : ∃ rt, rightS s = rt := ⟨_, rfl⟩
  have HRT := Lib.hid (fun W : World => hrt ▸ p_right s W hs)
  have hps : paramsS s = if rt = true then preF s.fs 10 ++ tellS 38 s.fg ++ tellS 48 s.bg else [] := by unfold paramsS; rw [hrt]; rfl
  rw [hps]
  have hcol : rt = true → colB s.fg = true ∧ colB s.bg = true := fun h => by
    rw [h] at hrt
    unfold rightS at hrt
    simpa using hrt
  have hfg := hs.fg
  have hbg := hs.bg
  obtain ⟨fs, fg, bg⟩ := s
  dsimp only at hfg hbg hcol hl
  have HFA := Lib.hid (fun (i : Nat) (hi : i < 10) => flag_and fs hl i hi)
  have HNUM := Lib.hid hs.num
  have HT := Lib.hid hT
  have HG := Lib.hid hT.big
  obtain ⟨f, hf⟩ : ∃ f, flagsF fs = f := ⟨_, rfl⟩
  show Calls Tryd.prog 9 #[.agg #[.int .u8 (flagsF fs), .int .u32 fg, .int .u32 bg]] w _
  have HROW := Lib.hid (heap_alloc_new w (.cells #[.int .u8 (flagsF fs), .int .u32 fg, .int .u32 bg] 24))
  have HB0 := Lib.hid ((Below.refl w.heap.size w).alloc (Nat.le_refl _) (.cells #[.int .u8 (flagsF fs), .int .u32 fg, .int .u32 bg] 24))
  have HLT : Hid (w.heap.size < (w.alloc (.cells #[.int .u8 (flagsF fs), .int .u32 fg, .int .u32 bg] 24)).heap.size) := Lib.hid (by simp)
  dsimp only [pV] at HRT HNUM
  rw [hf] at HROW HB0 HLT HRT HFA HNUM ⊢
  clear hl hs hrt hps hf hT
  go_enter Tryd.func9, Tryd.ntmps9
  go_wp2_with fail
  refine (HRT.out _).mono ?_
  generalize (w.alloc (.cells #[.int .u8 f, .int .u32 fg, .int .u32 bg] 24)) = U at HROW HB0 HLT ⊢
  rintro e w1 ⟨rfl, b1⟩
  have HB1 := Lib.hid b1
  clear b1
  cases rt
  · go_wp2
    go_ret
    exact ⟨_, rfl, by simp only [Bool.false_eq_true, if_false]; exact ⟨World.ownsRow_nil _ _ _ _, HB0.out.trans (HB1.out.mono HB0.out.size)⟩⟩
  · obtain ⟨hc1, hc2⟩ := hcol rfl
    clear hcol
    have HO0 : Hid (OwnI U (.slice (some ⟨w1.heap.size, 0, none⟩) 1 1) (preF fs 0) (w1.alloc (.cells #[.int .i64 0] 3))) := Lib.hid ((OwnI.lit w1 [0] 1 rfl (by omega)).from HB1.out)
    have hft : ∀ y : Nat, y < 10 → (w1.alloc (.cells #[.int .i64 0] 3)).cell? ⟨0, y, none⟩ = some (.int .u8 (flT (y : Int))) := fun y hy =>
      ((HB0.out.trans (HO0.out.below.mono HB0.out.size)).cell (p := ⟨0, y, none⟩) HG.out).trans (HT.out.cell y hy)
    have t0 : (w1.alloc (.cells #[.int .i64 0] 3)).cell? ⟨0, 0, none⟩ = some (.int .u8 0) := hft 0 (by omega)
    have t1 : (w1.alloc (.cells #[.int .i64 0] 3)).cell? ⟨0, 1, none⟩ = some (.int .u8 1) := hft 1 (by omega)
    have t2 : (w1.alloc (.cells #[.int .i64 0] 3)).cell? ⟨0, 2, none⟩ = some (.int .u8 2) := hft 2 (by omega)
    have t3 : (w1.alloc (.cells #[.int .i64 0] 3)).cell? ⟨0, 3, none⟩ = some (.int .u8 4) := hft 3 (by omega)
    have t4 : (w1.alloc (.cells #[.int .i64 0] 3)).cell? ⟨0, 4, none⟩ = some (.int .u8 8) := hft 4 (by omega)
    have t5 : (w1.alloc (.cells #[.int .i64 0] 3)).cell? ⟨0, 5, none⟩ = some (.int .u8 16) := hft 5 (by omega)
    have t6 : (w1.alloc (.cells #[.int .i64 0] 3)).cell? ⟨0, 6, none⟩ = some (.int .u8 0) := hft 6 (by omega)
    have t7 : (w1.alloc (.cells #[.int .i64 0] 3)).cell? ⟨0, 7, none⟩ = some (.int .u8 32) := hft 7 (by omega)
    have t8 : (w1.alloc (.cells #[.int .i64 0] 3)).cell? ⟨0, 8, none⟩ = some (.int .u8 64) := hft 8 (by omega)
    have t9 : (w1.alloc (.cells #[.int .i64 0] 3)).cell? ⟨0, 9, none⟩ = some (.int .u8 128) := hft 9 (by omega)
    clear hft
    go_wp2
    generalize (w1.alloc (.cells #[.int .i64 0] 3)) = U2 at HO0 t0 t1 t2 t3 t4 t5 t6 t7 t8 t9 ⊢
    clear t0 t1 t2 t3 t4 t5 t6 t7 t8 t9
    go_loopw [3, 11] (fun ov nv wr => ∃ (v : Value) (i : Nat), v = ov ∧ nv = .int .i64 (i : Int) ∧ i ≤ 10 ∧ Hid (OwnI U v (preF fs i) wr)) (fun _ nv _ => 10 - (intOf nv).toNat)
    case atStart => exact ⟨_, 0, rfl, rfl, by omega, HO0⟩
    case round =>
      obtain ⟨v, i, rfl, rfl, hi, HO⟩ := hrel
      clear HO0
      have hrow : ∀ W : World, Below U.heap.size U W → W.heap[w.heap.size]? = some (.cells #[.int .u8 f, .int .u32 fg, .int .u32 bg] 24 (0, 0)) := fun W hb => (hb.block w.heap.size HLT.out).trans HROW.out
      have c0 : wr.cell? ⟨w.heap.size, 0, none⟩ = some (.int .u8 f) := by unfold World.cell?; simp only [hrow wr HO.out.below]; rfl
      by_cases hi10 : i < 10
      · have d1 : decide ((i : Int) < 10) = true := by simp; omega
        have hix := fun W => ixT i hi10 W
        have hps := preF_succ fs i
        have hpl := preF_len fs i (by omega)
        have hfa := HFA.out i hi10
        obtain ⟨t, ht⟩ : ∃ t, flT (i : Int) = t := ⟨_, rfl⟩
        simp only [ht] at hix hfa
        obtain ⟨hh, hhh⟩ : ∃ t, hasF fs (i : Int) = t := ⟨_, rfl⟩
        rw [hhh] at hfa hps
        clear ht hhh hrow
        cases hh
        · rw [if_neg (by decide), List.append_nil] at hps
          have HO2 : Hid (OwnI U v (preF fs (i + 1)) wr) := Lib.hid (by rw [hps]; exact HO.out)
          clear hps hpl HO
          go_wp2
          go_roundw
          case rel => exact ⟨_, i + 1, rfl, by go_num, by omega, HO2⟩
          case measure => simp [intOf]; omega
        · rw [if_pos rfl] at hps
          obtain ⟨A4, c4, w4, hrun, hO4⟩ := HO.out.app (by omega) (i : Int)
          have HO2 : Hid (OwnI U _ (preF fs (i + 1)) w4) := Lib.hid (by rw [hps]; exact ⟨own_cast hO4.own (by simp) rfl, hO4.below⟩)
          have HRUN := Lib.hid hrun
          clear hps hpl HO hrun hO4
          go_wp2_with (at_builtin; refine wpList_app rfl (.tmp 20) (.tmp 22) _ rfl _ _ rfl rfl HRUN.out ?_)
          go_roundw
          case rel => exact ⟨_, i + 1, rfl, by go_num, by omega, HO2⟩
          case measure => simp [intOf]; omega
      · obtain rfl : i = 10 := by omega
        have d1 : decide (((10 : Nat) : Int) < 10) = false := by decide
        have hpl := preF_len fs 10 (by omega)
        have c1 : wr.cell? ⟨w.heap.size, 1, none⟩ = some (.int .u32 fg) := by unfold World.cell?; simp only [hrow wr HO.out.below]; rfl
        have HRW := Lib.hid hrow
        obtain ⟨pf, hpf⟩ : ∃ t, preF fs 10 = t := ⟨_, rfl⟩
        rw [hpf] at HO hpl
        have HPF := Lib.hid (fun (_ : Unit) => hpf)
        clear hpf
        have HCP := Lib.hid (p_append HO.out (by omega) 38 fg hfg.1 hfg.2 hc1)
        have hl1 := tellS_len 38 fg
        clear hrow hi hi10 c0
        go_wp2_with fail
        refine HCP.out.mono ?_
        rintro e w5 ⟨v5, rfl, o5⟩
        have c2 : w5.cell? ⟨w.heap.size, 2, none⟩ = some (.int .u32 bg) := by unfold World.cell?; simp only [HRW.out w5 o5.below]; rfl
        have HCQ := Lib.hid (p_append o5 (by simp; omega) 48 bg hbg.1 hbg.2 hc2)
        clear o5 hl1
        go_wp2_with fail
        refine HCQ.out.mono ?_
        rintro e w6 ⟨v6, rfl, o6⟩
        have HO6 := Lib.hid (o6.from HB0.out)
        clear o6
        go_wp2
        go_ret
        exact ⟨_, rfl, by rw [HPF.out (), ← List.append_assoc]; exact HO6.out⟩
end Go.Proofs.YtohhmpkmcodoeaaDoor
