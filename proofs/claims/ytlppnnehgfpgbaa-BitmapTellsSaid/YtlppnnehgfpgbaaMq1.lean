/-
  Proved here: BitmapTells, of a first map that may be, and a second one that may not be, or is of another N: one place that is none.
-/
import Derived.Test.YtlppnnehgfpgbaaMp
set_option linter.unusedSimpArgs false
set_option linter.unusedVariables false
namespace Go.Proofs.Ytlppnnehgfpgbaa
open Go.RowKit
set_option maxRecDepth 100000 in
set_option maxHeartbeats 16000000 in
theorem tells_neg_bad {k b : Nat} (hr : rB k b = true) {i : Int} (hneg : i < 0) {n2 : Int} {b2 : Nat} (hb2 : b2 < 18446744073709551616) (hr2 : rB n2 b2 = false) (w : World) : Calls Try.prog 6 #[mV k b, mV n2 b2, .int .i64 i] w fun e w' => e = .returned (.bool true) ∧ Below w.heap.size w w' := by
  have hb := rB_lt hr
  have hk := (rB_parts hr).1
  have HRR := Lib.hid hr
  have HO1 := Lib.hid (fun W => rof_any k hb W)
  have HO2 := Lib.hid (fun W => rof_any n2 hb2 W)
  have HRT := Lib.hid (fun W => right_any k hb W)
  have HMS := Lib.hid (fun W => missing_any k hb W)
  have HFL := Lib.hid (fun W => full_any k hb W)
  have HHS := Lib.hid (fun W => has_any k hb i W)
  obtain ⟨m, hm⟩ : ∃ m, cntB k b = m := ⟨_, rfl⟩
  have hmk := cntB_le k b
  rw [hm] at hmk
  have HCT := Lib.hid (show ∀ W : World, Calls Try.prog 27 #[.agg #[.int .i64 k, .int .u64 b]] W fun e w' => e = .returned (.int .i64 m) ∧ Below W.heap.size W w' from fun W => (mcount_any k hb W).mono fun _ _ h => by rw [cntS_in hr, hm] at h; exact h)
  have HRC := Lib.hid (fun (c : Nat) (A : Option Addr) W (hT : TI W A (bitsL k b)) => rcount_any (c := c) hk W hT)
  rw [hm] at HRC
  rw [ofL_in hk, hr] at HO1
  rw [hr] at HRT
  rw [misS_in hr] at HMS
  rw [full_cnt hr, hm] at HFL
  obtain ⟨fl, hfl⟩ : ∃ x, decide (m = k) = x := ⟨_, rfl⟩
  rw [hfl] at HFL
  have qf : (((m : Int) == (k : Int)) : Bool) = fl := by
    rw [← hfl]
    by_cases h : m = k
    · subst h; simp
    · rw [decide_eq_false h]; simp; omega
  have q1 : (fl != fl) = false := by cases fl <;> rfl
  have q2 : ((m : Int) != (m : Int)) = false := by simp
  rw [hr2] at HO2
  have HW := Lib.hid (show ∀ W : World, Calls Try.prog 24 #[.agg #[.int .i64 k, .int .u64 b], .int .i64 i] W fun e w' => e = .returned (.tuple #[.agg #[.int .i64 0, .int .u64 0], .int .i64 1]) ∧ Below W.heap.size W w' from fun W => (with_out hb hr (by omega) W).mono fun _ _ h => h)
  rw [hB_out (by omega)] at HHS
  have d3 : decide ((0 : Int) ≤ i) = false := by simp; omega
  have d5 : decide (i < 0) = true := by simpa using hneg
  have d7 : ¬ (0 : Int) ≤ i := by omega
  have HX := Lib.hid (show ∀ W : World, Calls Try.prog 25 #[.agg #[.int .i64 k, .int .u64 b], .agg #[.int .i64 n2, .int .u64 b2]] W fun e w' => e = .returned (.tuple #[.agg #[.int .i64 0, .int .u64 0], .int .i64 3]) ∧ Below W.heap.size W w' from fun W => (or_bad2 hb hb2 hr hr2 W).mono fun _ _ h => h)
  obtain ⟨L2, hL2⟩ : ∃ L, ofL n2 b2 = L := ⟨_, rfl⟩
  rw [hL2] at HO2
  clear hL2
  unfold mV at HRT HMS HFL HHS ⊢
  have HM := Lib.hid ((MB.new w k b).alloc (.cells #[.int .i64 n2, .int .u64 b2] 56))
  have HN := Lib.hid (show MB ((w.alloc (.cells #[.int .i64 k, .int .u64 b] 56)).alloc (.cells #[.int .i64 n2, .int .u64 b2] 56)) (w.heap.size + 1) n2 b2 from by
    have := MB.new (w.alloc (.cells #[.int .i64 k, .int .u64 b] 56)) n2 b2
    rwa [show (w.alloc (.cells #[.int .i64 k, .int .u64 b] 56)).heap.size = w.heap.size + 1 by simp] at this)
  have HB := Lib.hid (Bal (Bal (Below.refl w.heap.size w) (.cells #[.int .i64 k, .int .u64 b] 56)) (.cells #[.int .i64 n2, .int .u64 b2] 56))
  clear hb hb2 hr hm hfl hr2
  go_enter Try.func6, Try.ntmps6
  go_upto_region 1 with fail
  obtain ⟨U, hU⟩ : ∃ U, (w.alloc (.cells #[.int .i64 k, .int .u64 b] 56)).alloc (.cells #[.int .i64 n2, .int .u64 b2] 56) = U := ⟨_, rfl⟩
  rw [hU] at HM HN HB ⊢
  have HBU := HB
  clear hU
  have c0 := HM.out.c0
  have c1 := HM.out.c1
  have e0 := HN.out.c0
  have e1 := HN.out.c1
  go_wp2_with fail
  refine (HO1.out _).mono ?_
  rintro e wa ⟨v1, rfl, h1⟩
  have HM := Lib.hid (HM.out.below h1.below)
  have HN := Lib.hid (HN.out.below h1.below)
  have HB := Lib.hid (Bto HB.out h1.below)
  have HO := Lib.hid h1
  obtain ⟨A1, k1, hv1, _, ht1⟩ := h1.ti
  rw [bitsL_len] at hv1
  subst hv1
  have HGA := Lib.hid (fun (g : Nat) (h : 0 < k) (e : A1 = some ⟨g, 0, none⟩) => show g < wa.heap.size from by
    obtain ⟨b', o', e', hlt, _⟩ := ht1 (by rw [bitsL_len]; exact h)
    rw [e] at e'
    injection e' with e'
    injection e' with e1
    omega)
  clear ht1 h1 c0 c1 e0 e1
  have c0 := HM.out.c0
  have c1 := HM.out.c1
  have e0 := HN.out.c0
  have e1 := HN.out.c1
  go_wp2_with fail
  refine (HO2.out _).mono ?_
  rintro e wb' ⟨v2, rfl, h2⟩
  have HM := Lib.hid (HM.out.below h2.below)
  have HN := Lib.hid (HN.out.below h2.below)
  have HB := Lib.hid (Bto HB.out h2.below)
  have HO := Lib.hid (HO.out.to h2.below)
  obtain ⟨A2, k2', hv2, _, ht2⟩ := h2.ti
  obtain ⟨n9, hn9⟩ : ∃ m, L2.length = m := ⟨_, rfl⟩
  rw [hn9] at hv2
  clear hn9
  subst hv2
  have HT2 := Lib.hid ht2
  have HNE := Lib.hid (fun (g b' o' : Nat) (h : 0 < k) (e : A1 = some ⟨g, 0, none⟩) (e2 : A2 = some ⟨b', o', none⟩) => show b' ≠ g from by
    have h3 := HGA.out g h e
    have h4 := ownBlock_le h2.own b' (by rw [e2]; rfl)
    omega)
  have hw12 : wa.heap.size ≤ wb'.heap.size := h2.below.size
  have HGA := Lib.hid (fun g h e => Nat.lt_of_lt_of_le (HGA.out g h e) hw12)
  clear hw12 ht2 h2 c0 c1 e0 e1
  have c0 := HM.out.c0
  have c1 := HM.out.c1
  have e0 := HN.out.c0
  have e1 := HN.out.c1
  go_wp2_with fail
  refine (HRT.out _).mono ?_
  rintro e wc' ⟨rfl, h3⟩
  have HM := Lib.hid (HM.out.below h3)
  have HN := Lib.hid (HN.out.below h3)
  have HB := Lib.hid (Bto HB.out h3)
  have HO := Lib.hid (HO.out.to h3)
  have HT2 := Lib.hid (HT2.out.below h3)
  have h3s := h3.size
  have HGA := Lib.hid (fun g h e => Nat.lt_of_lt_of_le (HGA.out g h e) h3s)
  clear h3 h3s c0 c1 e0 e1
  have c0 := HM.out.c0
  have c1 := HM.out.c1
  have e0 := HN.out.c0
  have e1 := HN.out.c1
  go_wp2_with fail
  refine (HW.out _).mono ?_
  rintro e wd ⟨rfl, hy⟩
  have hal := (Below.refl wd.heap.size wd).alloc (Nat.le_refl _) (.cells #[.int .i64 0, .int .u64 0] 56)
  have HM := Lib.hid ((HM.out.below hy).below hal)
  have HN := Lib.hid ((HN.out.below hy).below hal)
  have HB := Lib.hid (Bto (Bto HB.out hy) hal)
  have HO := Lib.hid ((HO.out.to hy).to hal)
  have HT2 := Lib.hid ((HT2.out.below hy).below hal)
  have HXW := Lib.hid (MB.new wd 0 0)
  have h3s := Nat.le_trans hy.size hal.size
  have HGA := Lib.hid (fun g h e => Nat.lt_of_lt_of_le (HGA.out g h e) h3s)
  clear hy hal h3s c0 c1 e0 e1
  go_upto_region 6 with fail
  obtain ⟨X1, hX1⟩ : ∃ X, wd.alloc (.cells #[.int .i64 0, .int .u64 0] 56) = X := ⟨_, rfl⟩
  rw [hX1] at HM HN HB HO HT2 HXW HGA ⊢
  clear hX1
  have c0 := HM.out.c0
  have c1 := HM.out.c1
  have e0 := HN.out.c0
  have e1 := HN.out.c1
  go_wp2_with fail
  refine (HX.out _).mono ?_
  rintro e we ⟨rfl, hy⟩
  have hal := (Below.refl we.heap.size we).alloc (Nat.le_refl _) (.cells #[.int .i64 0, .int .u64 0] 56)
  have HM := Lib.hid ((HM.out.below hy).below hal)
  have HB := Lib.hid (Bto (Bto HB.out hy) hal)
  have HO := Lib.hid ((HO.out.to hy).to hal)
  have HT2 := Lib.hid ((HT2.out.below hy).below hal)
  have HXW := Lib.hid ((HXW.out.below hy).below hal)
  have HXX := Lib.hid (MB.new we 0 0)
  have h3s := hy.size
  have HGX := Lib.hid (fun (g : Nat) h e => show g < we.heap.size from Nat.lt_of_lt_of_le (HGA.out g h e) h3s)
  clear hy hal h3s c0 c1 e0 e1 HN HGA
  go_upto_region 9 with fail
  obtain ⟨X2, hX2⟩ : ∃ X, we.alloc (.cells #[.int .i64 0, .int .u64 0] 56) = X := ⟨_, rfl⟩
  rw [hX2] at HM HB HO HT2 HXW HXX ⊢
  clear hX2
  obtain ⟨gw, hgw⟩ : ∃ g, wd.heap.size = g := ⟨_, rfl⟩
  obtain ⟨gx, hgx⟩ : ∃ g, we.heap.size = g := ⟨_, rfl⟩
  rw [hgw] at HXW ⊢
  rw [hgx] at HXX HGX ⊢
  clear hgw hgx
  have HTI := Lib.hid (fun W (hb : Below X2.heap.size X2 W) => show TI W A1 (bitsL k b) from by
    obtain ⟨A', c', e', _, ht⟩ := (HO.out.to hb).ti
    injection e' with e1
    rw [e1]; exact ht)
  go_wp2_with fail
  refine (HRC.out k1 A1 _ (HTI.out _ (Below.refl _ _))).mono ?_
  rintro e wx ⟨rfl, rfl⟩
  have c0 := HM.out.c0
  have c1 := HM.out.c1
  go_wp2_with fail
  refine (HMS.out _).mono ?_
  rintro e wy ⟨v7, rfl, h7⟩
  obtain ⟨A7, k7, hv7, hz7, hr7⟩ := h7.ri
  obtain ⟨nm, hnm⟩ : ∃ m, (misL k b).length = m := ⟨_, rfl⟩
  rw [hnm] at hv7
  subst hv7
  have HR7 := Lib.hid hr7
  have HNM := Lib.hid (fun (_ : Unit) => hnm)
  have hnmk := misL_le k b
  rw [hnm] at hnmk
  have HTI7 := Lib.hid (HTI.out _ h7.below)
  have HM := Lib.hid (HM.out.below h7.below)
  have HB := Lib.hid (Bto HB.out h7.below)
  have HO := Lib.hid (HO.out.to h7.below)
  have HT2 := Lib.hid (HT2.out.below h7.below)
  have HXW := Lib.hid (HXW.out.below h7.below)
  have HXX := Lib.hid (HXX.out.below h7.below)
  clear h7 hr7 hz7 hnm c0 c1
  obtain ⟨Y, hY⟩ : ∃ Y, wy = Y := ⟨_, rfl⟩
  rw [hY] at HR7 HTI7 HM HB HO HT2 HXW HXX ⊢
  clear hY
  go_wp2
  go_loopw [17, 18] (fun av jv wr => ∃ a t : Nat, av = .int .i64 a ∧ jv = .int .i64 t ∧ t ≤ k ∧ a ≤ t ∧ Hid ((misL t b).length = a) ∧ Y = wr) (fun _ jv _ => k - (intOf jv).toNat)
  case atStart => exact ⟨0, 0, rfl, rfl, by omega, by omega, Lib.hid rfl, rfl⟩
  case round =>
    obtain ⟨a, t, rfl, rfl, ht, hat, HA, rfl⟩ := hrel
    by_cases htk : t < k
    · have f1 : decide ((t : Int) < (k : Int)) = true := by simp; omega
      have f2 : decide (t < k) = true := by simp; omega
      have g1 : (0 : Int) ≤ (t : Int) := by omega
      have g2 : (t : Int) < (k : Int) := by omega
      have w1 : IntKind.i64.wrap ((t : Int) + 1) = (t : Int) + 1 := IntWalk.i64_in _ (by omega)
      have w2 : IntKind.i64.wrap ((a : Int) + 1) = (a : Int) + 1 := IntWalk.i64_in _ (by omega)
      obtain ⟨bl, off, hA1, hbl, hcl⟩ := HTI7.out (by rw [bitsL_len]; omega)
      have a0 := hcl t (by rw [bitsL_len]; exact htk)
      rw [bitsL_at htk] at a0
      subst hA1
      obtain ⟨u, hu⟩ : ∃ u, b.testBit t = u := ⟨_, rfl⟩
      have HML := Lib.hid (fun (_ : Unit) => show (misL (t + 1) b).length = a + (if u = true then 0 else 1) from by
        conv => lhs; unfold misL
        rw [List.length_append, HA.out, hu]
        cases u <;> rfl)
      have HMA := Lib.hid (fun (h : u = false) => misL_at htk (by rw [hu]; exact h))
      rw [HA.out, HNM.out ()] at HMA
      rw [hu] at a0
      clear hu hcl
      cases u
      · obtain ⟨hlt, hval⟩ := HMA.out rfl
        obtain ⟨b7, o7, hA7, hb7, hc7⟩ := HR7.out (by rw [HNM.out ()]; omega)
        have a7 := hc7 a (by rw [HNM.out ()]; exact hlt)
        rw [hval] at a7
        subst hA7
        have k3 : decide ((nm : Int) ≤ (a : Int)) = false := by simp; omega
        have k4 : ¬ (nm : Int) ≤ (a : Int) := by omega
        have k5 : (a : Int) < (nm : Int) := by omega
        have k6 : (0 : Int) ≤ (a : Int) := by omega
        have k7' : ((t : Int) != (t : Int)) = false := by simp
        clear hc7 hval
        go_wp2
        go_roundw
        case rel => exact ⟨a + 1, t + 1, by go_num, by go_num, by omega, by omega, Lib.hid (HML.out ()), by first | trivial | rfl⟩
        case measure => simp [intOf]; omega
      · go_wp2
        go_roundw
        case rel => exact ⟨a, t + 1, rfl, by go_num, by omega, by omega, Lib.hid (HML.out ()), by first | trivial | rfl⟩
        case measure => simp [intOf]; omega
    · have f1 : decide ((t : Int) < (k : Int)) = false := by simp; omega
      have f2 : decide (t < k) = false := by simp; omega
      obtain rfl : k = t := by omega
      obtain rfl : a = nm := by rw [← HA.out]; exact HNM.out ()
      clear HR7 HTI HRT HO1 HO2 HW HX HRC HMS
      have q9 : ((a : Int) != (a : Int)) = false := by simp
      have c0 := HM.out.c0
      have c1 := HM.out.c1
      go_wp2_with fail
      refine (HCT.out _).mono ?_
      rintro e wf ⟨rfl, hf⟩
      have HM := Lib.hid (HM.out.below hf)
      have HO := Lib.hid (HO.out.to hf)
      have HT2 := Lib.hid (HT2.out.below hf)
      have HXX := Lib.hid (HXX.out.below hf)
      have HB := Lib.hid (Bto HB.out hf)
      clear hf
      clear c0 c1
      have c0 := HM.out.c0
      have c1 := HM.out.c1
      go_wp2_with fail
      refine (HFL.out _).mono ?_
      rintro e wf ⟨rfl, hf⟩
      have HM := Lib.hid (HM.out.below hf)
      have HO := Lib.hid (HO.out.to hf)
      have HT2 := Lib.hid (HT2.out.below hf)
      have HXX := Lib.hid (HXX.out.below hf)
      have HB := Lib.hid (Bto HB.out hf)
      clear hf
      clear c0 c1
      have c0 := HM.out.c0
      have c1 := HM.out.c1
      go_wp2_with fail
      refine (HHS.out _).mono ?_
      rintro e wf ⟨rfl, hf⟩
      have HM := Lib.hid (HM.out.below hf)
      have HO := Lib.hid (HO.out.to hf)
      have HT2 := Lib.hid (HT2.out.below hf)
      have HXX := Lib.hid (HXX.out.below hf)
      have HB := Lib.hid (Bto HB.out hf)
      clear hf
      clear c0 c1
      go_wp2_with fail
      refine (alive_any _).mono ?_
      rintro e wf ⟨rfl, hf⟩
      have HO := Lib.hid (HO.out.to hf)
      have HB := Lib.hid (Bto HB.out hf)
      clear hf
      go_wp2
      go_ret
      exact ⟨rfl, HB.out⟩
set_option maxRecDepth 100000 in
set_option maxHeartbeats 16000000 in
theorem tells_neg_un {k b : Nat} (hr : rB k b = true) {i : Int} (hneg : i < 0) {k2 b2 : Nat} (hr2 : rB k2 b2 = true) (hne : k2 ≠ k) (w : World) : Calls Try.prog 6 #[mV k b, mV ((k2 : Nat) : Int) b2, .int .i64 i] w fun e w' => e = .returned (.bool true) ∧ Below w.heap.size w w' := by
  have hb := rB_lt hr
  have hk := (rB_parts hr).1
  have hb2 := rB_lt hr2
  have hk2 := (rB_parts hr2).1
  have HRR := Lib.hid hr
  have HO1 := Lib.hid (fun W => rof_any k hb W)
  have HO2 := Lib.hid (fun W => rof_any ((k2 : Nat) : Int) hb2 W)
  have HRT := Lib.hid (fun W => right_any k hb W)
  have HMS := Lib.hid (fun W => missing_any k hb W)
  have HFL := Lib.hid (fun W => full_any k hb W)
  have HHS := Lib.hid (fun W => has_any k hb i W)
  obtain ⟨m, hm⟩ : ∃ m, cntB k b = m := ⟨_, rfl⟩
  have hmk := cntB_le k b
  rw [hm] at hmk
  have HCT := Lib.hid (show ∀ W : World, Calls Try.prog 27 #[.agg #[.int .i64 k, .int .u64 b]] W fun e w' => e = .returned (.int .i64 m) ∧ Below W.heap.size W w' from fun W => (mcount_any k hb W).mono fun _ _ h => by rw [cntS_in hr, hm] at h; exact h)
  have HRC := Lib.hid (fun (c : Nat) (A : Option Addr) W (hT : TI W A (bitsL k b)) => rcount_any (c := c) hk W hT)
  rw [hm] at HRC
  rw [ofL_in hk, hr] at HO1
  rw [hr] at HRT
  rw [misS_in hr] at HMS
  rw [full_cnt hr, hm] at HFL
  obtain ⟨fl, hfl⟩ : ∃ x, decide (m = k) = x := ⟨_, rfl⟩
  rw [hfl] at HFL
  have qf : (((m : Int) == (k : Int)) : Bool) = fl := by
    rw [← hfl]
    by_cases h : m = k
    · subst h; simp
    · rw [decide_eq_false h]; simp; omega
  have q1 : (fl != fl) = false := by cases fl <;> rfl
  have q2 : ((m : Int) != (m : Int)) = false := by simp
  rw [hr2] at HO2
  have HW := Lib.hid (show ∀ W : World, Calls Try.prog 24 #[.agg #[.int .i64 k, .int .u64 b], .int .i64 i] W fun e w' => e = .returned (.tuple #[.agg #[.int .i64 0, .int .u64 0], .int .i64 1]) ∧ Below W.heap.size W w' from fun W => (with_out hb hr (by omega) W).mono fun _ _ h => h)
  rw [hB_out (by omega)] at HHS
  have d3 : decide ((0 : Int) ≤ i) = false := by simp; omega
  have d5 : decide (i < 0) = true := by simpa using hneg
  have d7 : ¬ (0 : Int) ≤ i := by omega
  have HX := Lib.hid (show ∀ W : World, Calls Try.prog 25 #[.agg #[.int .i64 k, .int .u64 b], .agg #[.int .i64 k2, .int .u64 b2]] W fun e w' => e = .returned (.tuple #[.agg #[.int .i64 0, .int .u64 0], .int .i64 1]) ∧ Below W.heap.size W w' from fun W => (or_un hb hb2 hr hr2 (by omega) W).mono fun _ _ h => h)
  rw [ofL_in hk2] at HO2
  have q8 : ((k : Int) != (k2 : Int)) = true := by simp; omega
  unfold mV at HRT HMS HFL HHS ⊢
  have HM := Lib.hid ((MB.new w k b).alloc (.cells #[.int .i64 k2, .int .u64 b2] 56))
  have HN := Lib.hid (show MB ((w.alloc (.cells #[.int .i64 k, .int .u64 b] 56)).alloc (.cells #[.int .i64 k2, .int .u64 b2] 56)) (w.heap.size + 1) k2 b2 from by
    have := MB.new (w.alloc (.cells #[.int .i64 k, .int .u64 b] 56)) k2 b2
    rwa [show (w.alloc (.cells #[.int .i64 k, .int .u64 b] 56)).heap.size = w.heap.size + 1 by simp] at this)
  have HB := Lib.hid (Bal (Bal (Below.refl w.heap.size w) (.cells #[.int .i64 k, .int .u64 b] 56)) (.cells #[.int .i64 k2, .int .u64 b2] 56))
  clear hb hb2 hr hm hfl hr2
  go_enter Try.func6, Try.ntmps6
  go_upto_region 1 with fail
  obtain ⟨U, hU⟩ : ∃ U, (w.alloc (.cells #[.int .i64 k, .int .u64 b] 56)).alloc (.cells #[.int .i64 k2, .int .u64 b2] 56) = U := ⟨_, rfl⟩
  rw [hU] at HM HN HB ⊢
  have HBU := HB
  clear hU
  have c0 := HM.out.c0
  have c1 := HM.out.c1
  have e0 := HN.out.c0
  have e1 := HN.out.c1
  go_wp2_with fail
  refine (HO1.out _).mono ?_
  rintro e wa ⟨v1, rfl, h1⟩
  have HM := Lib.hid (HM.out.below h1.below)
  have HN := Lib.hid (HN.out.below h1.below)
  have HB := Lib.hid (Bto HB.out h1.below)
  have HO := Lib.hid h1
  obtain ⟨A1, k1, hv1, _, ht1⟩ := h1.ti
  rw [bitsL_len] at hv1
  subst hv1
  have HGA := Lib.hid (fun (g : Nat) (h : 0 < k) (e : A1 = some ⟨g, 0, none⟩) => show g < wa.heap.size from by
    obtain ⟨b', o', e', hlt, _⟩ := ht1 (by rw [bitsL_len]; exact h)
    rw [e] at e'
    injection e' with e'
    injection e' with e1
    omega)
  clear ht1 h1 c0 c1 e0 e1
  have c0 := HM.out.c0
  have c1 := HM.out.c1
  have e0 := HN.out.c0
  have e1 := HN.out.c1
  go_wp2_with fail
  refine (HO2.out _).mono ?_
  rintro e wb' ⟨v2, rfl, h2⟩
  have HM := Lib.hid (HM.out.below h2.below)
  have HN := Lib.hid (HN.out.below h2.below)
  have HB := Lib.hid (Bto HB.out h2.below)
  have HO := Lib.hid (HO.out.to h2.below)
  obtain ⟨A2, k2', hv2, _, ht2⟩ := h2.ti
  rw [bitsL_len] at hv2
  subst hv2
  have HT2 := Lib.hid ht2
  have HNE := Lib.hid (fun (g b' o' : Nat) (h : 0 < k) (e : A1 = some ⟨g, 0, none⟩) (e2 : A2 = some ⟨b', o', none⟩) => show b' ≠ g from by
    have h3 := HGA.out g h e
    have h4 := ownBlock_le h2.own b' (by rw [e2]; rfl)
    omega)
  have hw12 : wa.heap.size ≤ wb'.heap.size := h2.below.size
  have HGA := Lib.hid (fun g h e => Nat.lt_of_lt_of_le (HGA.out g h e) hw12)
  clear hw12 ht2 h2 c0 c1 e0 e1
  have c0 := HM.out.c0
  have c1 := HM.out.c1
  have e0 := HN.out.c0
  have e1 := HN.out.c1
  go_wp2_with fail
  refine (HRT.out _).mono ?_
  rintro e wc' ⟨rfl, h3⟩
  have HM := Lib.hid (HM.out.below h3)
  have HN := Lib.hid (HN.out.below h3)
  have HB := Lib.hid (Bto HB.out h3)
  have HO := Lib.hid (HO.out.to h3)
  have HT2 := Lib.hid (HT2.out.below h3)
  have h3s := h3.size
  have HGA := Lib.hid (fun g h e => Nat.lt_of_lt_of_le (HGA.out g h e) h3s)
  clear h3 h3s c0 c1 e0 e1
  have c0 := HM.out.c0
  have c1 := HM.out.c1
  have e0 := HN.out.c0
  have e1 := HN.out.c1
  go_wp2_with fail
  refine (HW.out _).mono ?_
  rintro e wd ⟨rfl, hy⟩
  have hal := (Below.refl wd.heap.size wd).alloc (Nat.le_refl _) (.cells #[.int .i64 0, .int .u64 0] 56)
  have HM := Lib.hid ((HM.out.below hy).below hal)
  have HN := Lib.hid ((HN.out.below hy).below hal)
  have HB := Lib.hid (Bto (Bto HB.out hy) hal)
  have HO := Lib.hid ((HO.out.to hy).to hal)
  have HT2 := Lib.hid ((HT2.out.below hy).below hal)
  have HXW := Lib.hid (MB.new wd 0 0)
  have h3s := Nat.le_trans hy.size hal.size
  have HGA := Lib.hid (fun g h e => Nat.lt_of_lt_of_le (HGA.out g h e) h3s)
  clear hy hal h3s c0 c1 e0 e1
  go_upto_region 6 with fail
  obtain ⟨X1, hX1⟩ : ∃ X, wd.alloc (.cells #[.int .i64 0, .int .u64 0] 56) = X := ⟨_, rfl⟩
  rw [hX1] at HM HN HB HO HT2 HXW HGA ⊢
  clear hX1
  have c0 := HM.out.c0
  have c1 := HM.out.c1
  have e0 := HN.out.c0
  have e1 := HN.out.c1
  go_wp2_with fail
  refine (HX.out _).mono ?_
  rintro e we ⟨rfl, hy⟩
  have hal := (Below.refl we.heap.size we).alloc (Nat.le_refl _) (.cells #[.int .i64 0, .int .u64 0] 56)
  have HM := Lib.hid ((HM.out.below hy).below hal)
  have HB := Lib.hid (Bto (Bto HB.out hy) hal)
  have HO := Lib.hid ((HO.out.to hy).to hal)
  have HT2 := Lib.hid ((HT2.out.below hy).below hal)
  have HXW := Lib.hid ((HXW.out.below hy).below hal)
  have HXX := Lib.hid (MB.new we 0 0)
  have h3s := hy.size
  have HGX := Lib.hid (fun (g : Nat) h e => show g < we.heap.size from Nat.lt_of_lt_of_le (HGA.out g h e) h3s)
  clear hy hal h3s c0 c1 e0 e1 HN HGA
  go_upto_region 9 with fail
  obtain ⟨X2, hX2⟩ : ∃ X, we.alloc (.cells #[.int .i64 0, .int .u64 0] 56) = X := ⟨_, rfl⟩
  rw [hX2] at HM HB HO HT2 HXW HXX ⊢
  clear hX2
  obtain ⟨gw, hgw⟩ : ∃ g, wd.heap.size = g := ⟨_, rfl⟩
  obtain ⟨gx, hgx⟩ : ∃ g, we.heap.size = g := ⟨_, rfl⟩
  rw [hgw] at HXW ⊢
  rw [hgx] at HXX HGX ⊢
  clear hgw hgx
  have HTI := Lib.hid (fun W (hb : Below X2.heap.size X2 W) => show TI W A1 (bitsL k b) from by
    obtain ⟨A', c', e', _, ht⟩ := (HO.out.to hb).ti
    injection e' with e1
    rw [e1]; exact ht)
  go_wp2_with fail
  refine (HRC.out k1 A1 _ (HTI.out _ (Below.refl _ _))).mono ?_
  rintro e wx ⟨rfl, rfl⟩
  have c0 := HM.out.c0
  have c1 := HM.out.c1
  go_wp2_with fail
  refine (HMS.out _).mono ?_
  rintro e wy ⟨v7, rfl, h7⟩
  obtain ⟨A7, k7, hv7, hz7, hr7⟩ := h7.ri
  obtain ⟨nm, hnm⟩ : ∃ m, (misL k b).length = m := ⟨_, rfl⟩
  rw [hnm] at hv7
  subst hv7
  have HR7 := Lib.hid hr7
  have HNM := Lib.hid (fun (_ : Unit) => hnm)
  have hnmk := misL_le k b
  rw [hnm] at hnmk
  have HTI7 := Lib.hid (HTI.out _ h7.below)
  have HM := Lib.hid (HM.out.below h7.below)
  have HB := Lib.hid (Bto HB.out h7.below)
  have HO := Lib.hid (HO.out.to h7.below)
  have HT2 := Lib.hid (HT2.out.below h7.below)
  have HXW := Lib.hid (HXW.out.below h7.below)
  have HXX := Lib.hid (HXX.out.below h7.below)
  clear h7 hr7 hz7 hnm c0 c1
  obtain ⟨Y, hY⟩ : ∃ Y, wy = Y := ⟨_, rfl⟩
  rw [hY] at HR7 HTI7 HM HB HO HT2 HXW HXX ⊢
  clear hY
  go_wp2
  go_loopw [17, 18] (fun av jv wr => ∃ a t : Nat, av = .int .i64 a ∧ jv = .int .i64 t ∧ t ≤ k ∧ a ≤ t ∧ Hid ((misL t b).length = a) ∧ Y = wr) (fun _ jv _ => k - (intOf jv).toNat)
  case atStart => exact ⟨0, 0, rfl, rfl, by omega, by omega, Lib.hid rfl, rfl⟩
  case round =>
    obtain ⟨a, t, rfl, rfl, ht, hat, HA, rfl⟩ := hrel
    by_cases htk : t < k
    · have f1 : decide ((t : Int) < (k : Int)) = true := by simp; omega
      have f2 : decide (t < k) = true := by simp; omega
      have g1 : (0 : Int) ≤ (t : Int) := by omega
      have g2 : (t : Int) < (k : Int) := by omega
      have w1 : IntKind.i64.wrap ((t : Int) + 1) = (t : Int) + 1 := IntWalk.i64_in _ (by omega)
      have w2 : IntKind.i64.wrap ((a : Int) + 1) = (a : Int) + 1 := IntWalk.i64_in _ (by omega)
      obtain ⟨bl, off, hA1, hbl, hcl⟩ := HTI7.out (by rw [bitsL_len]; omega)
      have a0 := hcl t (by rw [bitsL_len]; exact htk)
      rw [bitsL_at htk] at a0
      subst hA1
      obtain ⟨u, hu⟩ : ∃ u, b.testBit t = u := ⟨_, rfl⟩
      have HML := Lib.hid (fun (_ : Unit) => show (misL (t + 1) b).length = a + (if u = true then 0 else 1) from by
        conv => lhs; unfold misL
        rw [List.length_append, HA.out, hu]
        cases u <;> rfl)
      have HMA := Lib.hid (fun (h : u = false) => misL_at htk (by rw [hu]; exact h))
      rw [HA.out, HNM.out ()] at HMA
      rw [hu] at a0
      clear hu hcl
      cases u
      · obtain ⟨hlt, hval⟩ := HMA.out rfl
        obtain ⟨b7, o7, hA7, hb7, hc7⟩ := HR7.out (by rw [HNM.out ()]; omega)
        have a7 := hc7 a (by rw [HNM.out ()]; exact hlt)
        rw [hval] at a7
        subst hA7
        have k3 : decide ((nm : Int) ≤ (a : Int)) = false := by simp; omega
        have k4 : ¬ (nm : Int) ≤ (a : Int) := by omega
        have k5 : (a : Int) < (nm : Int) := by omega
        have k6 : (0 : Int) ≤ (a : Int) := by omega
        have k7' : ((t : Int) != (t : Int)) = false := by simp
        clear hc7 hval
        go_wp2
        go_roundw
        case rel => exact ⟨a + 1, t + 1, by go_num, by go_num, by omega, by omega, Lib.hid (HML.out ()), by first | trivial | rfl⟩
        case measure => simp [intOf]; omega
      · go_wp2
        go_roundw
        case rel => exact ⟨a, t + 1, rfl, by go_num, by omega, by omega, Lib.hid (HML.out ()), by first | trivial | rfl⟩
        case measure => simp [intOf]; omega
    · have f1 : decide ((t : Int) < (k : Int)) = false := by simp; omega
      have f2 : decide (t < k) = false := by simp; omega
      obtain rfl : k = t := by omega
      obtain rfl : a = nm := by rw [← HA.out]; exact HNM.out ()
      clear HR7 HTI HRT HO1 HO2 HW HX HRC HMS
      have q9 : ((a : Int) != (a : Int)) = false := by simp
      have c0 := HM.out.c0
      have c1 := HM.out.c1
      go_wp2_with fail
      refine (HCT.out _).mono ?_
      rintro e wf ⟨rfl, hf⟩
      have HM := Lib.hid (HM.out.below hf)
      have HO := Lib.hid (HO.out.to hf)
      have HT2 := Lib.hid (HT2.out.below hf)
      have HXX := Lib.hid (HXX.out.below hf)
      have HB := Lib.hid (Bto HB.out hf)
      clear hf
      clear c0 c1
      have c0 := HM.out.c0
      have c1 := HM.out.c1
      go_wp2_with fail
      refine (HFL.out _).mono ?_
      rintro e wf ⟨rfl, hf⟩
      have HM := Lib.hid (HM.out.below hf)
      have HO := Lib.hid (HO.out.to hf)
      have HT2 := Lib.hid (HT2.out.below hf)
      have HXX := Lib.hid (HXX.out.below hf)
      have HB := Lib.hid (Bto HB.out hf)
      clear hf
      clear c0 c1
      have c0 := HM.out.c0
      have c1 := HM.out.c1
      go_wp2_with fail
      refine (HHS.out _).mono ?_
      rintro e wf ⟨rfl, hf⟩
      have HM := Lib.hid (HM.out.below hf)
      have HO := Lib.hid (HO.out.to hf)
      have HT2 := Lib.hid (HT2.out.below hf)
      have HXX := Lib.hid (HXX.out.below hf)
      have HB := Lib.hid (Bto HB.out hf)
      clear hf
      clear c0 c1
      go_wp2_with fail
      refine (alive_any _).mono ?_
      rintro e wf ⟨rfl, hf⟩
      have HO := Lib.hid (HO.out.to hf)
      have HB := Lib.hid (Bto HB.out hf)
      clear hf
      go_wp2
      go_ret
      exact ⟨rfl, HB.out⟩
end Go.Proofs.Ytlppnnehgfpgbaa
