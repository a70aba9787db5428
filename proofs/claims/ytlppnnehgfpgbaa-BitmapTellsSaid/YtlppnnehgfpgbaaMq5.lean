/-
  Proved here: BitmapTells, of two maps of one N: a place that is one.
-/
import Derived.Test.YtlppnnehgfpgbaaMp
set_option linter.unusedSimpArgs false
set_option linter.unusedVariables false
namespace Go.Proofs.Ytlppnnehgfpgbaa
open Go.RowKit
set_option maxRecDepth 100000 in
set_option maxHeartbeats 16000000 in
theorem tells_in_same {k b : Nat} (hr : rB k b = true) {j : Nat} (hjk : j < k) {b2 : Nat} (hr2 : rB k b2 = true) (w : World) : Calls Try.prog 6 #[mV k b, mV ((k : Nat) : Int) b2, .int .i64 ((j : Nat) : Int)] w fun e w' => e = .returned (.bool true) ∧ Below w.heap.size w w' := by
  have hb := rB_lt hr
  have hk := (rB_parts hr).1
  have hb2 := rB_lt hr2
  have HRR := Lib.hid hr
  have HO1 := Lib.hid (fun W => rof_any k hb W)
  have HO2 := Lib.hid (fun W => rof_any ((k : Nat) : Int) hb2 W)
  have HRT := Lib.hid (fun W => right_any k hb W)
  have HMS := Lib.hid (fun W => missing_any k hb W)
  have HFL := Lib.hid (fun W => full_any k hb W)
  have HHS := Lib.hid (fun W => has_any k hb ((j : Nat) : Int) W)
  obtain ⟨m, hm⟩ : ∃ m, cntB k b = m := ⟨_, rfl⟩
  have hmk := cntB_le k b
  rw [hm] at hmk
  have HCT := Lib.hid (show ∀ W : World, Calls Try.prog 27 #[.agg #[.int .i64 k, .int .u64 b]] W fun e w' => e = .returned (.int .i64 m) ∧ Below W.heap.size W w' from fun W => (mcount_any k hb W).mono fun _ _ h => by rw [cntS_in hr, hm] at h; exact h)
  have HRC := Lib.hid (fun (c : Nat) (A : Option Addr) W (hT : TI W A (bitsL k b)) => rcount_any (c := c) hk W hT)
  rw [hm] at HRC
  rw [ofL_in hk, hr] at HO1
  rw [hr] at HRT
  rw [misS_in hr] at HMS
  rw [full_cnt hr, hm] at HFL
  obtain ⟨fl, hfl⟩ : ∃ x, decide (m = k) = x := ⟨_, rfl⟩
  rw [hfl] at HFL
  have qf : (((m : Int) == (k : Int)) : Bool) = fl := by
    rw [← hfl]
    by_cases h : m = k
    · subst h; simp
    · rw [decide_eq_false h]; simp; omega
  have q1 : (fl != fl) = false := by cases fl <;> rfl
  have q2 : ((m : Int) != (m : Int)) = false := by simp
  rw [hr2] at HO2
  obtain ⟨x, hx⟩ : ∃ x, b ||| 2 ^ j = x := ⟨_, rfl⟩
  have hrw : rB k x = true := by
    rw [← hx]
    refine rB_or hr ?_
    rw [rB_in hk]
    exact decide_eq_true (Nat.pow_lt_pow_right (by omega) hjk)
  have HW := Lib.hid (show ∀ W : World, Calls Try.prog 24 #[.agg #[.int .i64 k, .int .u64 b], .int .i64 j] W fun e w' => e = .returned (.tuple #[.agg #[.int .i64 k, .int .u64 x], .int .i64 0]) ∧ Below W.heap.size W w' from fun W => (with_in hb (k := j) rfl hr (by omega) W).mono fun _ _ h => by rw [hx] at h; exact h)
  have HHW := Lib.hid (show ∀ W : World, Calls Try.prog 30 #[.agg #[.int .i64 k, .int .u64 x], .int .i64 j] W fun e w' => e = .returned (.bool true) ∧ Below W.heap.size W w' from fun W => (has_any k (rB_lt hrw) j W).mono fun _ _ h => by
    rw [hB_in hrw hjk, ← hx, Nat.testBit_or, Nat.testBit_two_pow_self, Bool.or_true] at h
    exact h)
  obtain ⟨mw, hmw⟩ : ∃ y, cntB k x = y := ⟨_, rfl⟩
  have HCW := Lib.hid (show ∀ W : World, Calls Try.prog 27 #[.agg #[.int .i64 k, .int .u64 x]] W fun e w' => e = .returned (.int .i64 mw) ∧ Below W.heap.size W w' from fun W => (mcount_any k (rB_lt hrw) W).mono fun _ _ h => by rw [cntS_in hrw, hmw] at h; exact h)
  have hge : m ≤ mw := by rw [← hmw, ← hm, ← hx]; exact cnt_or_ge k b _
  have q5 : decide ((mw : Int) < (m : Int)) = false := by simp; omega
  have q6 : ¬ (mw : Int) < (m : Int) := by omega
  have q7 : ((k : Int) != (k : Int)) = false := by simp
  rw [hB_in hr hjk] at HHS
  obtain ⟨y, hy⟩ : ∃ y, b.testBit j = y := ⟨_, rfl⟩
  rw [hy] at HHS
  have q4 : (y != y) = false := by cases y <;> rfl
  have HXB := Lib.hid (fun (h : y = true) => show x = b from by
    rw [← hx]
    refine Nat.eq_of_testBit_eq fun t => ?_
    rw [Nat.testBit_or, Nat.testBit_two_pow]
    by_cases e : j = t
    · subst e; rw [hy, h]; simp
    · simp [e])
  have d3 : decide ((0 : Int) ≤ (j : Int)) = true := by simp
  have d4 : decide ((j : Int) < (k : Int)) = true := by simp; omega
  have d5 : decide ((j : Int) < 0) = false := by simp
  have d6 : decide ((k : Int) ≤ (j : Int)) = false := by simp; omega
  have d7 : ¬ (k : Int) ≤ (j : Int) := by omega
  have d8 : (0 : Int) ≤ (j : Int) := by omega
  have d9 : (j : Int) < (k : Int) := by omega
  have HY := Lib.hid (fun (_ : Unit) => hy)
  clear hx hrw hmw hge hy
  obtain ⟨z, hz⟩ : ∃ z, b ||| b2 = z := ⟨_, rfl⟩
  have hrz : rB k z = true := by rw [← hz]; exact rB_or hr hr2
  have HX := Lib.hid (show ∀ W : World, Calls Try.prog 25 #[.agg #[.int .i64 k, .int .u64 b], .agg #[.int .i64 k, .int .u64 b2]] W fun e w' => e = .returned (.tuple #[.agg #[.int .i64 k, .int .u64 z], .int .i64 0]) ∧ Below W.heap.size W w' from fun W => (or_in hb hb2 hr hr2 W).mono fun _ _ h => by rw [hz] at h; exact h)
  rw [ofL_in hk] at HO2
  have q8 : ((k : Int) != (k : Int)) = false := by simp
  have HSM := Lib.hid (fun (c : Nat) (A : Option Addr) W (hT : TI W A (bitsL k z)) => same_true (c := c) hrz W hT)
  have HZE := Lib.hid hz
  unfold mV at HSM
  clear hz hrz
  unfold mV at HRT HMS HFL HHS ⊢
  have HM := Lib.hid ((MB.new w k b).alloc (.cells #[.int .i64 k, .int .u64 b2] 56))
  have HN := Lib.hid (show MB ((w.alloc (.cells #[.int .i64 k, .int .u64 b] 56)).alloc (.cells #[.int .i64 k, .int .u64 b2] 56)) (w.heap.size + 1) k b2 from by
    have := MB.new (w.alloc (.cells #[.int .i64 k, .int .u64 b] 56)) k b2
    rwa [show (w.alloc (.cells #[.int .i64 k, .int .u64 b] 56)).heap.size = w.heap.size + 1 by simp] at this)
  have HB := Lib.hid (Bal (Bal (Below.refl w.heap.size w) (.cells #[.int .i64 k, .int .u64 b] 56)) (.cells #[.int .i64 k, .int .u64 b2] 56))
  clear hb hb2 hr hm hfl hr2
  go_enter Try.func6, Try.ntmps6
  go_upto_region 1 with fail
  obtain ⟨U, hU⟩ : ∃ U, (w.alloc (.cells #[.int .i64 k, .int .u64 b] 56)).alloc (.cells #[.int .i64 k, .int .u64 b2] 56) = U := ⟨_, rfl⟩
  rw [hU] at HM HN HB ⊢
  have HBU := HB
  clear hU
  have c0 := HM.out.c0
  have c1 := HM.out.c1
  have e0 := HN.out.c0
  have e1 := HN.out.c1
  go_wp2_with fail
  refine (HO1.out _).mono ?_
  rintro e wa ⟨v1, rfl, h1⟩
  have HM := Lib.hid (HM.out.below h1.below)
  have HN := Lib.hid (HN.out.below h1.below)
  have HB := Lib.hid (Bto HB.out h1.below)
  have HO := Lib.hid h1
  obtain ⟨A1, k1, hv1, _, ht1⟩ := h1.ti
  rw [bitsL_len] at hv1
  subst hv1
  have HGA := Lib.hid (fun (g : Nat) (h : 0 < k) (e : A1 = some ⟨g, 0, none⟩) => show g < wa.heap.size from by
    obtain ⟨b', o', e', hlt, _⟩ := ht1 (by rw [bitsL_len]; exact h)
    rw [e] at e'
    injection e' with e'
    injection e' with e1
    omega)
  clear ht1 h1 c0 c1 e0 e1
  have c0 := HM.out.c0
  have c1 := HM.out.c1
  have e0 := HN.out.c0
  have e1 := HN.out.c1
  go_wp2_with fail
  refine (HO2.out _).mono ?_
  rintro e wb' ⟨v2, rfl, h2⟩
  have HM := Lib.hid (HM.out.below h2.below)
  have HN := Lib.hid (HN.out.below h2.below)
  have HB := Lib.hid (Bto HB.out h2.below)
  have HO := Lib.hid (HO.out.to h2.below)
  obtain ⟨A2, k2', hv2, _, ht2⟩ := h2.ti
  rw [bitsL_len] at hv2
  subst hv2
  have HT2 := Lib.hid ht2
  have HNE := Lib.hid (fun (g b' o' : Nat) (h : 0 < k) (e : A1 = some ⟨g, 0, none⟩) (e2 : A2 = some ⟨b', o', none⟩) => show b' ≠ g from by
    have h3 := HGA.out g h e
    have h4 := ownBlock_le h2.own b' (by rw [e2]; rfl)
    omega)
  have hw12 : wa.heap.size ≤ wb'.heap.size := h2.below.size
  have HGA := Lib.hid (fun g h e => Nat.lt_of_lt_of_le (HGA.out g h e) hw12)
  clear hw12 ht2 h2 c0 c1 e0 e1
  have c0 := HM.out.c0
  have c1 := HM.out.c1
  have e0 := HN.out.c0
  have e1 := HN.out.c1
  go_wp2_with fail
  refine (HRT.out _).mono ?_
  rintro e wc' ⟨rfl, h3⟩
  have HM := Lib.hid (HM.out.below h3)
  have HN := Lib.hid (HN.out.below h3)
  have HB := Lib.hid (Bto HB.out h3)
  have HO := Lib.hid (HO.out.to h3)
  have HT2 := Lib.hid (HT2.out.below h3)
  have h3s := h3.size
  have HGA := Lib.hid (fun g h e => Nat.lt_of_lt_of_le (HGA.out g h e) h3s)
  clear h3 h3s c0 c1 e0 e1
  have c0 := HM.out.c0
  have c1 := HM.out.c1
  have e0 := HN.out.c0
  have e1 := HN.out.c1
  go_wp2_with fail
  refine (HW.out _).mono ?_
  rintro e wd ⟨rfl, hy⟩
  have hal := (Below.refl wd.heap.size wd).alloc (Nat.le_refl _) (.cells #[.int .i64 k, .int .u64 x] 56)
  have HM := Lib.hid ((HM.out.below hy).below hal)
  have HN := Lib.hid ((HN.out.below hy).below hal)
  have HB := Lib.hid (Bto (Bto HB.out hy) hal)
  have HO := Lib.hid ((HO.out.to hy).to hal)
  have HT2 := Lib.hid ((HT2.out.below hy).below hal)
  have HXW := Lib.hid (MB.new wd k x)
  have h3s := Nat.le_trans hy.size hal.size
  have HGA := Lib.hid (fun g h e => Nat.lt_of_lt_of_le (HGA.out g h e) h3s)
  clear hy hal h3s c0 c1 e0 e1
  go_upto_region 6 with fail
  obtain ⟨X1, hX1⟩ : ∃ X, wd.alloc (.cells #[.int .i64 k, .int .u64 x] 56) = X := ⟨_, rfl⟩
  rw [hX1] at HM HN HB HO HT2 HXW HGA ⊢
  clear hX1
  have c0 := HM.out.c0
  have c1 := HM.out.c1
  have e0 := HN.out.c0
  have e1 := HN.out.c1
  go_wp2_with fail
  refine (HX.out _).mono ?_
  rintro e we ⟨rfl, hy⟩
  have hal := (Below.refl we.heap.size we).alloc (Nat.le_refl _) (.cells #[.int .i64 k, .int .u64 z] 56)
  have HM := Lib.hid ((HM.out.below hy).below hal)
  have HB := Lib.hid (Bto (Bto HB.out hy) hal)
  have HO := Lib.hid ((HO.out.to hy).to hal)
  have HT2 := Lib.hid ((HT2.out.below hy).below hal)
  have HXW := Lib.hid ((HXW.out.below hy).below hal)
  have HXX := Lib.hid (MB.new we k z)
  have h3s := hy.size
  have HGX := Lib.hid (fun (g : Nat) h e => show g < we.heap.size from Nat.lt_of_lt_of_le (HGA.out g h e) h3s)
  clear hy hal h3s c0 c1 e0 e1 HN HGA
  go_upto_region 9 with fail
  obtain ⟨X2, hX2⟩ : ∃ X, we.alloc (.cells #[.int .i64 k, .int .u64 z] 56) = X := ⟨_, rfl⟩
  rw [hX2] at HM HB HO HT2 HXW HXX ⊢
  clear hX2
  obtain ⟨gw, hgw⟩ : ∃ g, wd.heap.size = g := ⟨_, rfl⟩
  obtain ⟨gx, hgx⟩ : ∃ g, we.heap.size = g := ⟨_, rfl⟩
  rw [hgw] at HXW ⊢
  rw [hgx] at HXX HGX ⊢
  clear hgw hgx
  have HTI := Lib.hid (fun W (hb : Below X2.heap.size X2 W) => show TI W A1 (bitsL k b) from by
    obtain ⟨A', c', e', _, ht⟩ := (HO.out.to hb).ti
    injection e' with e1
    rw [e1]; exact ht)
  go_wp2_with fail
  refine (HRC.out k1 A1 _ (HTI.out _ (Below.refl _ _))).mono ?_
  rintro e wx ⟨rfl, rfl⟩
  have c0 := HM.out.c0
  have c1 := HM.out.c1
  go_wp2_with fail
  refine (HMS.out _).mono ?_
  rintro e wy ⟨v7, rfl, h7⟩
  obtain ⟨A7, k7, hv7, hz7, hr7⟩ := h7.ri
  obtain ⟨nm, hnm⟩ : ∃ m, (misL k b).length = m := ⟨_, rfl⟩
  rw [hnm] at hv7
  subst hv7
  have HR7 := Lib.hid hr7
  have HNM := Lib.hid (fun (_ : Unit) => hnm)
  have hnmk := misL_le k b
  rw [hnm] at hnmk
  have HTI7 := Lib.hid (HTI.out _ h7.below)
  have HM := Lib.hid (HM.out.below h7.below)
  have HB := Lib.hid (Bto HB.out h7.below)
  have HO := Lib.hid (HO.out.to h7.below)
  have HT2 := Lib.hid (HT2.out.below h7.below)
  have HXW := Lib.hid (HXW.out.below h7.below)
  have HXX := Lib.hid (HXX.out.below h7.below)
  clear h7 hr7 hz7 hnm c0 c1
  obtain ⟨Y, hY⟩ : ∃ Y, wy = Y := ⟨_, rfl⟩
  rw [hY] at HR7 HTI7 HM HB HO HT2 HXW HXX ⊢
  clear hY
  go_wp2
  go_loopw [17, 18] (fun av jv wr => ∃ a t : Nat, av = .int .i64 a ∧ jv = .int .i64 t ∧ t ≤ k ∧ a ≤ t ∧ Hid ((misL t b).length = a) ∧ Y = wr) (fun _ jv _ => k - (intOf jv).toNat)
  case atStart => exact ⟨0, 0, rfl, rfl, by omega, by omega, Lib.hid rfl, rfl⟩
  case round =>
    obtain ⟨a, t, rfl, rfl, ht, hat, HA, rfl⟩ := hrel
    by_cases htk : t < k
    · have f1 : decide ((t : Int) < (k : Int)) = true := by simp; omega
      have f2 : decide (t < k) = true := by simp; omega
      have g1 : (0 : Int) ≤ (t : Int) := by omega
      have g2 : (t : Int) < (k : Int) := by omega
      have w1 : IntKind.i64.wrap ((t : Int) + 1) = (t : Int) + 1 := IntWalk.i64_in _ (by omega)
      have w2 : IntKind.i64.wrap ((a : Int) + 1) = (a : Int) + 1 := IntWalk.i64_in _ (by omega)
      obtain ⟨bl, off, hA1, hbl, hcl⟩ := HTI7.out (by rw [bitsL_len]; omega)
      have a0 := hcl t (by rw [bitsL_len]; exact htk)
      rw [bitsL_at htk] at a0
      subst hA1
      obtain ⟨u, hu⟩ : ∃ u, b.testBit t = u := ⟨_, rfl⟩
      have HML := Lib.hid (fun (_ : Unit) => show (misL (t + 1) b).length = a + (if u = true then 0 else 1) from by
        conv => lhs; unfold misL
        rw [List.length_append, HA.out, hu]
        cases u <;> rfl)
      have HMA := Lib.hid (fun (h : u = false) => misL_at htk (by rw [hu]; exact h))
      rw [HA.out, HNM.out ()] at HMA
      rw [hu] at a0
      clear hu hcl
      cases u
      · obtain ⟨hlt, hval⟩ := HMA.out rfl
        obtain ⟨b7, o7, hA7, hb7, hc7⟩ := HR7.out (by rw [HNM.out ()]; omega)
        have a7 := hc7 a (by rw [HNM.out ()]; exact hlt)
        rw [hval] at a7
        subst hA7
        have k3 : decide ((nm : Int) ≤ (a : Int)) = false := by simp; omega
        have k4 : ¬ (nm : Int) ≤ (a : Int) := by omega
        have k5 : (a : Int) < (nm : Int) := by omega
        have k6 : (0 : Int) ≤ (a : Int) := by omega
        have k7' : ((t : Int) != (t : Int)) = false := by simp
        clear hc7 hval
        go_wp2
        go_roundw
        case rel => exact ⟨a + 1, t + 1, by go_num, by go_num, by omega, by omega, Lib.hid (HML.out ()), by first | trivial | rfl⟩
        case measure => simp [intOf]; omega
      · go_wp2
        go_roundw
        case rel => exact ⟨a, t + 1, rfl, by go_num, by omega, by omega, Lib.hid (HML.out ()), by first | trivial | rfl⟩
        case measure => simp [intOf]; omega
    · have f1 : decide ((t : Int) < (k : Int)) = false := by simp; omega
      have f2 : decide (t < k) = false := by simp; omega
      obtain rfl : k = t := by omega
      obtain rfl : a = nm := by rw [← HA.out]; exact HNM.out ()
      clear HR7 HTI HRT HO1 HO2 HW HX HRC HMS
      have q9 : ((a : Int) != (a : Int)) = false := by simp
      obtain ⟨bl, off, hA1, hbl, hcl⟩ := HTI7.out (by rw [bitsL_len]; omega)
      have hcl := hcl j (by rw [bitsL_len]; exact hjk)
      rw [bitsL_at hjk, HY.out ()] at hcl
      have HCL := Lib.hid (And.intro hbl hcl)
      subst hA1
      clear hbl hcl
      have HBY := Lib.hid (Below.refl Y.heap.size Y)
      have c0 := HM.out.c0
      have c1 := HM.out.c1
      go_wp2_with fail
      refine (HCT.out _).mono ?_
      rintro e wf ⟨rfl, hf⟩
      have HM := Lib.hid (HM.out.below hf)
      have HO := Lib.hid (HO.out.to hf)
      have HT2 := Lib.hid (HT2.out.below hf)
      have HXX := Lib.hid (HXX.out.below hf)
      have HXW := Lib.hid (HXW.out.below hf)
      have HB := Lib.hid (Bto HB.out hf)
      have HBY := Lib.hid (Bto HBY.out hf)
      clear hf
      clear c0 c1
      have c0 := HM.out.c0
      have c1 := HM.out.c1
      go_wp2_with fail
      refine (HFL.out _).mono ?_
      rintro e wf ⟨rfl, hf⟩
      have HM := Lib.hid (HM.out.below hf)
      have HO := Lib.hid (HO.out.to hf)
      have HT2 := Lib.hid (HT2.out.below hf)
      have HXX := Lib.hid (HXX.out.below hf)
      have HXW := Lib.hid (HXW.out.below hf)
      have HB := Lib.hid (Bto HB.out hf)
      have HBY := Lib.hid (Bto HBY.out hf)
      clear hf
      clear c0 c1
      have c0 := HM.out.c0
      have c1 := HM.out.c1
      go_wp2_with fail
      refine (HHS.out _).mono ?_
      rintro e wf ⟨rfl, hf⟩
      have HM := Lib.hid (HM.out.below hf)
      have HO := Lib.hid (HO.out.to hf)
      have HT2 := Lib.hid (HT2.out.below hf)
      have HXX := Lib.hid (HXX.out.below hf)
      have HXW := Lib.hid (HXW.out.below hf)
      have HB := Lib.hid (Bto HB.out hf)
      have HBY := Lib.hid (Bto HBY.out hf)
      clear hf
      clear c0 c1
      have a9 := (HBY.out.cell (p := ⟨bl, off + j, none⟩) HCL.out.1).trans HCL.out.2
      have v0 := HXW.out.c0
      have v1 := HXW.out.c1
      go_wp2_with fail
      refine (HHW.out _).mono ?_
      rintro e wf ⟨rfl, hf⟩
      have HM := Lib.hid (HM.out.below hf)
      have HO := Lib.hid (HO.out.to hf)
      have HT2 := Lib.hid (HT2.out.below hf)
      have HXX := Lib.hid (HXX.out.below hf)
      have HXW := Lib.hid (HXW.out.below hf)
      have HB := Lib.hid (Bto HB.out hf)
      have HBY := Lib.hid (Bto HBY.out hf)
      clear hf
      clear v0 v1 a9
      have v0 := HXW.out.c0
      have v1 := HXW.out.c1
      go_wp2_with fail
      refine (HCW.out _).mono ?_
      rintro e wf ⟨rfl, hf⟩
      have HM := Lib.hid (HM.out.below hf)
      have HO := Lib.hid (HO.out.to hf)
      have HT2 := Lib.hid (HT2.out.below hf)
      have HXX := Lib.hid (HXX.out.below hf)
      have HXW := Lib.hid (HXW.out.below hf)
      have HB := Lib.hid (Bto HB.out hf)
      have HBY := Lib.hid (Bto HBY.out hf)
      clear hf
      clear v0 v1
      have v0 := HXW.out.c0
      have v1 := HXW.out.c1
      have c0 := HM.out.c0
      have c1 := HM.out.c1
      have a9 := (HBY.out.cell (p := ⟨bl, off + j, none⟩) HCL.out.1).trans HCL.out.2
      cases y
      · have yy := HRR
        obtain ⟨Z, hZ⟩ : ∃ Z, wf = Z := ⟨_, rfl⟩
        rw [hZ] at HO HT2 HXX HB a9 c0 c1 v0 v1 ⊢
        clear hZ
        go_upto_region 28 with fail
        go_wp2
        go_loopw [19] (fun jv wr => ∃ t : Nat, jv = .int .i64 t ∧ t ≤ k ∧ Hid (OwnB U (.slice (some ⟨bl, off, none⟩) k k1) (midL k b b2 t) wr) ∧ Hid (TI wr A2 (bitsL k b2)) ∧ Hid (MB wr gx k z)) (fun jv _ => k - (intOf jv).toNat)
        case atStart => exact ⟨0, rfl, by omega, (by rw [midL_zero]; exact HO), HT2, HXX⟩
        case round =>
          obtain ⟨t, rfl, ht, HO, HT2, HXX⟩ := hrel
          by_cases htk : t < k
          · have f1 : decide ((t : Int) < (k : Int)) = true := by simp; omega
            have f2 : decide (t < k) = true := by simp; omega
            have g1 : (0 : Int) ≤ (t : Int) := by omega
            have g2 : (t : Int) < (k : Int) := by omega
            have w1 : IntKind.i64.wrap ((t : Int) + 1) = (t : Int) + 1 := IntWalk.i64_in _ (by omega)
            have hown := HO.out.own
            rw [midL_len] at hown
            obtain ⟨g, cap', hv, hge, hlt⟩ := hown.form (by omega)
            injection hv with hg hv2 hv3
            injection hg with hg
            injection hg with hg1 hg2
            subst hg1 hg2
            have l0 := hown.cellAt t (by omega)
            rw [TV_getElem (by rw [midL_len]; exact htk), midL_at htk] at l0
            have lf := hown.frozenAt t
            obtain ⟨b9, o9, hA2, hb9, hc9⟩ := HT2.out (by rw [bitsL_len]; omega)
            have s0 := hc9 t (by rw [bitsL_len]; exact htk)
            rw [bitsL_at htk] at s0
            have HBG := Lib.hid (fun b' o' (e : A2 = some ⟨b', o', none⟩) => HNE.out bl b' o' (by omega) rfl e)
            have hxg : gx ≠ bl := by have := HGX.out bl (by omega) rfl; omega
            have HXG := Lib.hid hxg
            have HGE := Lib.hid hge
            have HMS2 := Lib.hid (fun (_ : Unit) => midL_set (a := b) (c := b2) htk)
            rw [Nat.testBit_or] at HMS2
            subst hA2
            obtain ⟨u, hu⟩ : ∃ u, b.testBit t = u := ⟨_, rfl⟩
            obtain ⟨v, hvv⟩ : ∃ v, b2.testBit t = v := ⟨_, rfl⟩
            rw [hu] at l0 HMS2
            rw [hvv] at s0 HMS2
            clear hu hvv hown hc9 hge hxg hv2 hv3
            cases u
            · have HO2 := Lib.hid (show OwnB U _ (midL k b b2 (t + 1)) (wr.setCell ⟨bl, t, none⟩ (.bool v)) from by
                have := HO.out.store (midL_len _ _ _ _) t v HGE.out
                rwa [show v = (false || v) by simp, HMS2.out (), show (false || v) = v by simp] at this)
              have HT3 := Lib.hid (HT2.out.store (t := t) (v := .bool v) HBG.out)
              have HX3 := Lib.hid (HXX.out.far bl t (.bool v) HXG.out)
              go_wp2
              go_roundw
              case rel => exact ⟨t + 1, by go_num, by omega, HO2, HT3, HX3⟩
              case measure => simp [intOf]; omega
            · have HO2 := Lib.hid (show OwnB U _ (midL k b b2 (t + 1)) (wr.setCell ⟨bl, t, none⟩ (.bool true)) from by
                have := HO.out.store (midL_len _ _ _ _) t true HGE.out
                rwa [show (true : Bool) = (true || v) by simp, HMS2.out (), show (true || v) = true by simp] at this)
              have HT3 := Lib.hid (HT2.out.store (t := t) (v := .bool true) HBG.out)
              have HX3 := Lib.hid (HXX.out.far bl t (.bool true) HXG.out)
              go_wp2
              go_roundw
              case rel => exact ⟨t + 1, by go_num, by omega, HO2, HT3, HX3⟩
              case measure => simp [intOf]; omega
          · have f1 : decide ((t : Int) < (k : Int)) = false := by simp; omega
            have f2 : decide (t < k) = false := by simp; omega
            obtain rfl : k = t := by omega
            have HOZ := Lib.hid (show OwnB U (.slice (some ⟨bl, off, none⟩) k k1) (bitsL k z) wr from by
              have := HO.out
              rwa [midL_all, HZE.out] at this)
            have HBZ := Lib.hid (Bto HBU.out HO.out.below)
            clear HO HT2 HNE HGX
            go_wp2_with fail
            refine (alive_any _).mono ?_
            rintro e wh ⟨rfl, hf⟩
            have HBZ := Lib.hid (Bto HBZ.out hf)
            have HXX := Lib.hid (HXX.out.below hf)
            have HTZ := Lib.hid (show TI wh (some ⟨bl, off, none⟩) (bitsL k z) from by
              obtain ⟨A', c', e', _, ht⟩ := (HOZ.out.to hf).ti
              injection e' with e1
              rw [e1]; exact ht)
            clear hf HOZ
            have x0 := HXX.out.c0
            have x1 := HXX.out.c1
            go_wp2_with fail
            refine (HSM.out k1 (some ⟨bl, off, none⟩) _ HTZ.out).mono ?_
            rintro e wg ⟨rfl, hf⟩
            have HBZ := Lib.hid (Bto HBZ.out hf)
            clear hf x0 x1
            go_wp2
            go_ret
            exact ⟨rfl, HBZ.out⟩
      · obtain rfl : b = x := (HXB.out rfl).symm
        obtain ⟨Z, hZ⟩ : ∃ Z, wf = Z := ⟨_, rfl⟩
        rw [hZ] at HO HT2 HXX HB a9 c0 c1 v0 v1 ⊢
        clear hZ
        go_upto_region 28 with fail
        go_wp2
        go_loopw [19] (fun jv wr => ∃ t : Nat, jv = .int .i64 t ∧ t ≤ k ∧ Hid (OwnB U (.slice (some ⟨bl, off, none⟩) k k1) (midL k b b2 t) wr) ∧ Hid (TI wr A2 (bitsL k b2)) ∧ Hid (MB wr gx k z)) (fun jv _ => k - (intOf jv).toNat)
        case atStart => exact ⟨0, rfl, by omega, (by rw [midL_zero]; exact HO), HT2, HXX⟩
        case round =>
          obtain ⟨t, rfl, ht, HO, HT2, HXX⟩ := hrel
          by_cases htk : t < k
          · have f1 : decide ((t : Int) < (k : Int)) = true := by simp; omega
            have f2 : decide (t < k) = true := by simp; omega
            have g1 : (0 : Int) ≤ (t : Int) := by omega
            have g2 : (t : Int) < (k : Int) := by omega
            have w1 : IntKind.i64.wrap ((t : Int) + 1) = (t : Int) + 1 := IntWalk.i64_in _ (by omega)
            have hown := HO.out.own
            rw [midL_len] at hown
            obtain ⟨g, cap', hv, hge, hlt⟩ := hown.form (by omega)
            injection hv with hg hv2 hv3
            injection hg with hg
            injection hg with hg1 hg2
            subst hg1 hg2
            have l0 := hown.cellAt t (by omega)
            rw [TV_getElem (by rw [midL_len]; exact htk), midL_at htk] at l0
            have lf := hown.frozenAt t
            obtain ⟨b9, o9, hA2, hb9, hc9⟩ := HT2.out (by rw [bitsL_len]; omega)
            have s0 := hc9 t (by rw [bitsL_len]; exact htk)
            rw [bitsL_at htk] at s0
            have HBG := Lib.hid (fun b' o' (e : A2 = some ⟨b', o', none⟩) => HNE.out bl b' o' (by omega) rfl e)
            have hxg : gx ≠ bl := by have := HGX.out bl (by omega) rfl; omega
            have HXG := Lib.hid hxg
            have HGE := Lib.hid hge
            have HMS2 := Lib.hid (fun (_ : Unit) => midL_set (a := b) (c := b2) htk)
            rw [Nat.testBit_or] at HMS2
            subst hA2
            obtain ⟨u, hu⟩ : ∃ u, b.testBit t = u := ⟨_, rfl⟩
            obtain ⟨v, hvv⟩ : ∃ v, b2.testBit t = v := ⟨_, rfl⟩
            rw [hu] at l0 HMS2
            rw [hvv] at s0 HMS2
            clear hu hvv hown hc9 hge hxg hv2 hv3
            cases u
            · have HO2 := Lib.hid (show OwnB U _ (midL k b b2 (t + 1)) (wr.setCell ⟨bl, t, none⟩ (.bool v)) from by
                have := HO.out.store (midL_len _ _ _ _) t v HGE.out
                rwa [show v = (false || v) by simp, HMS2.out (), show (false || v) = v by simp] at this)
              have HT3 := Lib.hid (HT2.out.store (t := t) (v := .bool v) HBG.out)
              have HX3 := Lib.hid (HXX.out.far bl t (.bool v) HXG.out)
              go_wp2
              go_roundw
              case rel => exact ⟨t + 1, by go_num, by omega, HO2, HT3, HX3⟩
              case measure => simp [intOf]; omega
            · have HO2 := Lib.hid (show OwnB U _ (midL k b b2 (t + 1)) (wr.setCell ⟨bl, t, none⟩ (.bool true)) from by
                have := HO.out.store (midL_len _ _ _ _) t true HGE.out
                rwa [show (true : Bool) = (true || v) by simp, HMS2.out (), show (true || v) = true by simp] at this)
              have HT3 := Lib.hid (HT2.out.store (t := t) (v := .bool true) HBG.out)
              have HX3 := Lib.hid (HXX.out.far bl t (.bool true) HXG.out)
              go_wp2
              go_roundw
              case rel => exact ⟨t + 1, by go_num, by omega, HO2, HT3, HX3⟩
              case measure => simp [intOf]; omega
          · have f1 : decide ((t : Int) < (k : Int)) = false := by simp; omega
            have f2 : decide (t < k) = false := by simp; omega
            obtain rfl : k = t := by omega
            have HOZ := Lib.hid (show OwnB U (.slice (some ⟨bl, off, none⟩) k k1) (bitsL k z) wr from by
              have := HO.out
              rwa [midL_all, HZE.out] at this)
            have HBZ := Lib.hid (Bto HBU.out HO.out.below)
            clear HO HT2 HNE HGX
            go_wp2_with fail
            refine (alive_any _).mono ?_
            rintro e wh ⟨rfl, hf⟩
            have HBZ := Lib.hid (Bto HBZ.out hf)
            have HXX := Lib.hid (HXX.out.below hf)
            have HTZ := Lib.hid (show TI wh (some ⟨bl, off, none⟩) (bitsL k z) from by
              obtain ⟨A', c', e', _, ht⟩ := (HOZ.out.to hf).ti
              injection e' with e1
              rw [e1]; exact ht)
            clear hf HOZ
            have x0 := HXX.out.c0
            have x1 := HXX.out.c1
            go_wp2_with fail
            refine (HSM.out k1 (some ⟨bl, off, none⟩) _ HTZ.out).mono ?_
            rintro e wg ⟨rfl, hf⟩
            have HBZ := Lib.hid (Bto HBZ.out hf)
            clear hf x0 x1
            go_wp2
            go_ret
            exact ⟨rfl, HBZ.out⟩
end Go.Proofs.Ytlppnnehgfpgbaa
