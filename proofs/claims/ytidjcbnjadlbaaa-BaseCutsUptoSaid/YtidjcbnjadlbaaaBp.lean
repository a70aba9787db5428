/-
  Proved here: the law BaseCuts, where what comes in is not greater than its bound.
-/
import Derived.Test.YtidjcbnjadlbaaaBo
set_option linter.unusedSimpArgs false
set_option linter.unusedVariables false
namespace Go.Proofs.Ytidjcbnjadlbaaa
open Go.RowKit
/-- A stronger condition on the worlds of a region serves for a weaker one. -/
theorem heldMono {P : Program} {md : Region.Mode} {ops : Array Oper} {Q : Exit → Act → World → Prop} {S S' : World → Prop} (h : ∀ w, S' w → S w) :
    ∀ (fuel : Nat) (listed : Array Bool) (a : Act) (w : World), wpAnyH P md ops Q S' fuel listed a w → wpAnyH P md ops Q S fuel listed a w
  | 0, _, _, _, x => x
  | fuel + 1, _, _, _, x => ⟨x.1, fun i hi => wpOp_mono (fun a' w' h' => ⟨h _ h'.1, heldMono h fuel _ a' w' h'.2⟩) (x.2 i hi)⟩
theorem RI.take {k : IntKind} {w : World} {A : Option Addr} {L : List Int} (h : RI k w A L) (n : Nat) : RI k w A (L.take n) := fun hp => by
  have hl : (L.take n).length ≤ L.length := by simp; omega
  obtain ⟨b, off, rfl, hb, hc⟩ := h (by omega)
  refine ⟨b, off, rfl, hb, fun i hi => ?_⟩
  rw [List.length_take] at hi
  rw [hc i (by omega)]
  simp [List.getD, show i < n by omega]
theorem cut_bad {x : List Int} {j : Nat} (hn : j % 4 ≠ 0) (hl : j ≤ (writeS x).length) : goodB ((writeS x).take j) = false := by
  cases hgg : goodB ((writeS x).take j)
  · rfl
  · have h := good_len _ hgg
    rw [List.length_take] at h
    omega
set_option maxRecDepth 100000 in
set_option maxHeartbeats 2000000 in
theorem cuts_in {w : World} {A : Option Addr} {n c : Nat} {bs : List Int} (hA : Ag w A n c bs) (j : Nat) (hn : n ≤ 3000) (hj : j ≤ n / 3 * 4) :
    Calls Try.prog 10 #[.slice A n c, .int .i64 (j : Int)] w fun e w' => e = .returned (.bool true) ∧ Below w.heap.size w w' := by
  have HA := Lib.hid hA
  have hcap := hA.cap
  have hmax := hA.max
  obtain ⟨S, hS⟩ : ∃ S, strOfNums (writeS bs) = S := ⟨_, rfl⟩
  have hwl : (writeS bs).length = (n + 2) / 3 * 4 := by rw [write_len, hA.l]
  obtain ⟨K, hK⟩ : ∃ K, (n + 2) / 3 * 4 = K := ⟨_, rfl⟩
  have hjK : j ≤ K := by omega
  have hK4 : K ≤ 5000 := by omega
  rw [hK] at hwl
  have hsz : S.size = K := by rw [← hS, strOfNums_size, hwl]
  obtain ⟨T, hT⟩ : ∃ T, (writeS bs).take j = T := ⟨_, rfl⟩
  have hTb : IsBytes T := by rw [← hT]; exact bytes_take (write_bytes bs hA.b) j
  have hTl : T.length = j := by rw [← hT, List.length_take, hwl]; omega
  obtain ⟨S1, hS1⟩ : ∃ S1, strOfNums T = S1 := ⟨_, rfl⟩
  have hext : S.extract 0 j = S1 := by rw [← hS, str_take, hT, hS1]
  have HWB := Lib.hid (fun (W : World) (hb : Below w.heap.size w W) => write_c (c := c) (HA.out.r.below hb) HA.out.l (by omega) HA.out.b HA.out.cap HA.out.max hS)
  obtain ⟨Q, hQ⟩ : ∃ Q, n / 3 * 4 = Q := ⟨_, rfl⟩
  have hq : (n : Int) / 3 * 4 = (Q : Int) := by omega
  rw [hQ] at hj
  have d1 : decide ((3000 : Int) < (n : Int)) = false := by simp; omega
  have d2 : decide (3000 < n) = false := by simp; omega
  have d3 : decide ((j : Int) < 0) = false := by simp
  have d4 : decide ((Q : Int) < (j : Int)) = false := by simp; omega
  have d5 : decide (Q < j) = false := by simp; omega
  have d6 : decide ((K : Int) < (j : Int)) = false := by simp; omega
  have d7 : decide (K < j) = false := by simp; omega
  have g0 : (0 : Int) ≤ (j : Int) := by omega
  have jj : ((j : Int) == (j : Int)) = true := by simp
  by_cases h4 : j % 4 = 0
  · obtain ⟨k, hk⟩ : ∃ k, j / 4 = k := ⟨_, rfl⟩
    obtain ⟨J, hJ⟩ : ∃ J, k * 3 = J := ⟨_, rfl⟩
    have hJn : J ≤ n := by omega
    have hTw : T = writeS (bs.take J) := by rw [← hT, show j = k * 4 by omega, write_take bs k (by rw [hA.l]; omega), hJ]
    have hJb : IsBytes (bs.take J) := bytes_take hA.b J
    have hJl : (bs.take J).length = J := by rw [List.length_take, hA.l]; omega
    have hgw := good_write (bs.take J) hJb
    rw [← hTw] at hgw
    have HRD := Lib.hid (fun W : World => read_okc (w := W) hTb (by omega) hgw.1 hgw.2 hJl hS1)
    have HFA := Lib.hid (fun W : World => fault_c (w := W) (F := -1) hTb (by omega) (by unfold faultS; rw [hgw.1, if_pos rfl]) hS1)
    obtain ⟨SJ, hSJ⟩ : ∃ SJ, strOfNums (bs.take J) = SJ := ⟨_, rfl⟩
    have sJ : (SJ.toList == SJ.toList) = true := by simp
    have HCV := Lib.hid (fun (W : World) (A' : Option Addr) (c' : Nat) (h : RI .u8 W A' (bs.take J)) => conv_c (w := W) hJl c' h hSJ)
    have f1 : ((j : Int) % 4 == 0) = true := by simp; omega
    have f2 : ((j : Int) % 4 != 0) = false := by simp; omega
    have t1 : (j : Int).tdiv 4 = (k : Int) := by rw [Int.tdiv_eq_ediv_of_nonneg (by omega)]; omega
    have t2 : (j : Int) / 4 = (k : Int) := by omega
    have t3 : IntKind.i64.wrap (k : Int) = (k : Int) := IntWalk.i64_in _ (by omega)
    have t4 : IntKind.i64.wrap ((k : Int) * 3) = (J : Int) := by rw [show (k : Int) * 3 = (J : Int) by omega]; exact IntWalk.i64_in _ (by omega)
    have t6 : IntKind.i64.wrap (J : Int) = (J : Int) := IntWalk.i64_in _ (by omega)
    have t5 : (k : Int) * 3 = (J : Int) := by omega
    have g1 : (0 : Int) ≤ (J : Int) := by omega
    have g2 : J ≤ c := by omega
    have g3 : (J : Int) ≤ (c : Int) := by omega
    have g4 : (j : Int) ≤ (K : Int) := by omega
    clear hA hS hwl hK hT hTb hTl hS1 hQ h4 hk hJ hTw hJb hJl hgw hSJ
    go_enter Try.func10, Try.ntmps10
    go_wp2_with fail
    refine (HWB.out w (Below.refl _ _)).mono ?_
    rintro e w1 ⟨rfl, b1⟩
    have HB1 := Lib.hid b1
    clear b1
    go_wp2_with fail
    refine (HRD.out _).mono ?_
    rintro e w2 ⟨A2, rfl, r2, b2⟩
    have HB2 := Lib.hid (HB1.out.trans (b2.mono HB1.out.size))
    have HCX := Lib.hid (fun (W : World) (hb : Below w2.heap.size w2 W) => HCV.out W A2 J (r2.below hb))
    have HCA := Lib.hid (fun (W : World) (hb : Below w2.heap.size w2 W) => HCV.out W A c ((HA.out.r.take J).below (HB2.out.trans (hb.mono HB2.out.size))))
    clear b2 r2 HB1
    go_wp2
    clear d1 d2 d3 d4 d5 d6 d7 HWB HRD HCV HA
    obtain ⟨U, hU⟩ : ∃ U, w2.drew = U := ⟨_, rfl⟩
    have hd0 : Below w2.heap.size w2 U := by rw [← hU]; exact (Below.refl _ _).drew
    have HB2' := Lib.hid (HB2.out.trans (hd0.mono HB2.out.size))
    have HCX' := Lib.hid (fun (W : World) (hb : Below U.heap.size U W) => HCX.out W (hd0.trans (hb.mono hd0.size)))
    have HCA' := Lib.hid (fun (W : World) (hb : Below U.heap.size U W) => HCA.out W (hd0.trans (hb.mono hd0.size)))
    clear HB2 HCX HCA
    have HB2 := HB2'
    have HCX := HCX'
    have HCA := HCA'
    clear HB2' HCX' HCA' hd0
    refine wp_region_held_drew (S := fun W => Below U.heap.size U W) (by kernel_rfl) (by rw [hU]; exact Below.refl _ _) (fun hHeld => ?_)
    rw [hU] at hHeld ⊢
    clear hU
    refine wpAnyH_ready (rs := [0]) (by kernel_rfl) (by simp) ?_
    refine AllReadyH.cons (by simp; rfl) (fun K0 hK0 => ?_) AllReadyH.nil
    go_simp
    refine (alive_any _).mono ?_
    rintro e Ux1 ⟨rfl, h1⟩
    have hbUx1 : Below U.heap.size U Ux1 := h1
    have HB3 := Lib.hid (HB2.out.trans (hbUx1.mono HB2.out.size))
    clear HB2 h1
    have HBU := Lib.hid hbUx1
    refine hK0.out _ _ hbUx1 (fun _ => ?_)
    clear hK0 K0 hHeld
    refine heldMono (S' := fun W => Below Ux1.heap.size Ux1 W) (fun _ h => hbUx1.trans (h.mono hbUx1.size)) _ _ _ _ ?_
    have hHeld := Below.refl Ux1.heap.size Ux1
    have HBUx1 := Lib.hid hbUx1
    clear hbUx1
    refine wpAnyH_take (i := 1) (v := ?_) (by simp; rfl) (by kernel_rfl) (by kernel_rfl) (by kernel_rfl) (by exact fun _ _ _ h => h) (Or.inl ⟨by rfl, fun wx hSx => ?_⟩) hHeld ?_
    rotate_left
    · clear hSx; go_simp; (try with_reducible rfl)
    simp only [Act.put, List.setIfInBounds_toArray, List.set_cons_zero, List.set_cons_succ]
    refine wpAnyH_take (i := 2) (v := ?_) (by simp; rfl) (by kernel_rfl) (by kernel_rfl) (by kernel_rfl) (by exact fun _ _ _ h => h) (Or.inl ⟨by rfl, fun wx hSx => ?_⟩) hHeld ?_
    rotate_left
    · clear hSx; go_simp; (try with_reducible rfl)
    simp only [Act.put, List.setIfInBounds_toArray, List.set_cons_zero, List.set_cons_succ]
    refine wpAnyH_take (i := 3) (v := ?_) (by simp; rfl) (by kernel_rfl) (by kernel_rfl) (by kernel_rfl) (by exact fun _ _ _ h => h) (Or.inl ⟨by rfl, fun wx hSx => ?_⟩) hHeld ?_
    rotate_left
    · clear hSx; go_simp; (try with_reducible rfl)
    simp only [Act.put, List.setIfInBounds_toArray, List.set_cons_zero, List.set_cons_succ]
    refine wpAnyH_take (i := 4) (v := ?_) (by simp; rfl) (by kernel_rfl) (by kernel_rfl) (by kernel_rfl) (by exact fun _ _ _ h => h) (Or.inl ⟨by rfl, fun wx hSx => ?_⟩) hHeld ?_
    rotate_left
    · clear hSx; go_simp; (try with_reducible rfl)
    simp only [Act.put, List.setIfInBounds_toArray, List.set_cons_zero, List.set_cons_succ]
    refine wpAnyH_take (i := 5) (v := ?_) (by simp; rfl) (by kernel_rfl) (by kernel_rfl) (by kernel_rfl) (by exact fun _ _ _ h => h) (Or.inl ⟨by rfl, fun wx hSx => ?_⟩) hHeld ?_
    rotate_left
    · clear hSx; go_simp; (try with_reducible rfl)
    simp only [Act.put, List.setIfInBounds_toArray, List.set_cons_zero, List.set_cons_succ]
    refine wpAnyH_take (i := 6) (v := ?_) (by simp; rfl) (by kernel_rfl) (by kernel_rfl) (by kernel_rfl) (by exact fun _ _ _ h => h) (Or.inl ⟨by rfl, fun wx hSx => ?_⟩) hHeld ?_
    rotate_left
    · clear hSx; go_simp; (try with_reducible rfl)
    simp only [Act.put, List.setIfInBounds_toArray, List.set_cons_zero, List.set_cons_succ]
    refine wpAnyH_take (i := 7) (v := ?_) (by simp; rfl) (by kernel_rfl) (by kernel_rfl) (by kernel_rfl) (by exact fun _ _ _ h => h) (Or.inl ⟨by rfl, fun wx hSx => ?_⟩) hHeld ?_
    rotate_left
    · have hc := HCX.out wx (HBU.out.trans (hSx.mono HBU.out.size)); clear hSx; go_simp; (try with_reducible rfl)
    simp only [Act.put, List.setIfInBounds_toArray, List.set_cons_zero, List.set_cons_succ]
    refine wpAnyH_take (i := 8) (v := ?_) (by simp; rfl) (by kernel_rfl) (by kernel_rfl) (by kernel_rfl) (by exact fun _ _ _ h => h) (Or.inl ⟨by rfl, fun wx hSx => ?_⟩) hHeld ?_
    rotate_left
    · clear hSx; go_simp; (try with_reducible rfl)
    simp only [Act.put, List.setIfInBounds_toArray, List.set_cons_zero, List.set_cons_succ]
    refine wpAnyH_take (i := 9) (v := ?_) (by simp; rfl) (by kernel_rfl) (by kernel_rfl) (by kernel_rfl) (by exact fun _ _ _ h => h) (Or.inl ⟨by rfl, fun wx hSx => ?_⟩) hHeld ?_
    rotate_left
    · clear hSx; go_simp; (try with_reducible rfl)
    simp only [Act.put, List.setIfInBounds_toArray, List.set_cons_zero, List.set_cons_succ]
    refine wpAnyH_take (i := 10) (v := ?_) (by simp; rfl) (by kernel_rfl) (by kernel_rfl) (by kernel_rfl) (by exact fun _ _ _ h => h) (Or.inl ⟨by rfl, fun wx hSx => ?_⟩) hHeld ?_
    rotate_left
    · clear hSx; go_simp; (try with_reducible rfl)
    simp only [Act.put, List.setIfInBounds_toArray, List.set_cons_zero, List.set_cons_succ]
    refine wpAnyH_take (i := 11) (v := ?_) (by simp; rfl) (by kernel_rfl) (by kernel_rfl) (by kernel_rfl) (by exact fun _ _ _ h => h) (Or.inl ⟨by rfl, fun wx hSx => ?_⟩) hHeld ?_
    rotate_left
    · clear hSx; go_simp; (try with_reducible rfl)
    simp only [Act.put, List.setIfInBounds_toArray, List.set_cons_zero, List.set_cons_succ]
    refine wpAnyH_take (i := 12) (v := ?_) (by simp; rfl) (by kernel_rfl) (by kernel_rfl) (by kernel_rfl) (by exact fun _ _ _ h => h) (Or.inl ⟨by rfl, fun wx hSx => ?_⟩) hHeld ?_
    rotate_left
    · clear hSx; go_simp; (try with_reducible rfl)
    simp only [Act.put, List.setIfInBounds_toArray, List.set_cons_zero, List.set_cons_succ]
    refine wpAnyH_take (i := 13) (v := ?_) (by simp; rfl) (by kernel_rfl) (by kernel_rfl) (by kernel_rfl) (by exact fun _ _ _ h => h) (Or.inl ⟨by rfl, fun wx hSx => ?_⟩) hHeld ?_
    rotate_left
    · have hc := HCA.out wx (HBU.out.trans (hSx.mono HBU.out.size)); clear hSx; go_simp; (try with_reducible rfl)
    simp only [Act.put, List.setIfInBounds_toArray, List.set_cons_zero, List.set_cons_succ]
    refine wpAnyH_take (i := 14) (v := ?_) (by simp; rfl) (by kernel_rfl) (by kernel_rfl) (by kernel_rfl) (by exact fun _ _ _ h => h) (Or.inl ⟨by rfl, fun wx hSx => ?_⟩) hHeld ?_
    rotate_left
    · clear hSx; go_simp; (try with_reducible rfl)
    simp only [Act.put, List.setIfInBounds_toArray, List.set_cons_zero, List.set_cons_succ]
    refine wpAnyH_take (i := 15) (v := ?_) (by simp; rfl) (by kernel_rfl) (by kernel_rfl) (by kernel_rfl) (by exact fun _ _ _ h => h) (Or.inl ⟨by rfl, fun wx hSx => ?_⟩) hHeld ?_
    rotate_left
    · clear hSx; go_simp; (try with_reducible rfl)
    simp only [Act.put, List.setIfInBounds_toArray, List.set_cons_zero, List.set_cons_succ]
    refine wpAnyH_take (i := 16) (v := ?_) (by simp; rfl) (by kernel_rfl) (by kernel_rfl) (by kernel_rfl) (by exact fun _ _ _ h => h) (Or.inl ⟨by rfl, fun wx hSx => ?_⟩) hHeld ?_
    rotate_left
    · clear hSx; go_simp; (try with_reducible rfl)
    simp only [Act.put, List.setIfInBounds_toArray, List.set_cons_zero, List.set_cons_succ]
    refine wpAnyH_take (i := 17) (v := ?_) (by simp; rfl) (by kernel_rfl) (by kernel_rfl) (by kernel_rfl) (by exact fun _ _ _ h => h) (Or.inl ⟨by rfl, fun wx hSx => ?_⟩) hHeld ?_
    rotate_left
    · clear hSx; go_simp; (try with_reducible rfl)
    simp only [Act.put, List.setIfInBounds_toArray, List.set_cons_zero, List.set_cons_succ]
    refine wpAnyH_take (i := 18) (v := ?_) (by simp; rfl) (by kernel_rfl) (by kernel_rfl) (by kernel_rfl) (by exact fun _ _ _ h => h) (Or.inl ⟨by rfl, fun wx hSx => ?_⟩) hHeld ?_
    rotate_left
    · clear hSx; go_simp; (try with_reducible rfl)
    simp only [Act.put, List.setIfInBounds_toArray, List.set_cons_zero, List.set_cons_succ]
    refine wpAnyH_take (i := 19) (v := ?_) (by simp; rfl) (by kernel_rfl) (by kernel_rfl) (by kernel_rfl) (by exact fun _ _ _ h => h) (Or.inl ⟨by rfl, fun wx hSx => ?_⟩) hHeld ?_
    rotate_left
    · clear hSx; go_simp; (try with_reducible rfl)
    simp only [Act.put, List.setIfInBounds_toArray, List.set_cons_zero, List.set_cons_succ]
    refine wpAnyH_ready (rs := [20]) (by kernel_rfl) (by simp) ?_
    refine AllReadyH.cons (by simp; rfl) (fun K0 hK0 => ?_) AllReadyH.nil
    go_simp
    refine (HFA.out _).mono ?_
    rintro e Ux2 ⟨rfl, h1⟩
    have hbUx2 : Below Ux1.heap.size Ux1 Ux2 := h1
    have HB4 := Lib.hid (HB3.out.trans (hbUx2.mono HB3.out.size))
    clear HB3 h1
    refine hK0.out _ _ hbUx2 (fun _ => ?_)
    clear hK0 K0 hHeld
    refine heldMono (S' := fun W => Below Ux2.heap.size Ux2 W) (fun _ h => hbUx2.trans (h.mono hbUx2.size)) _ _ _ _ ?_
    have hHeld := Below.refl Ux2.heap.size Ux2
    have HBUx2 := Lib.hid hbUx2
    clear hbUx2
    refine wpAnyH_take (i := 21) (v := ?_) (by simp; rfl) (by kernel_rfl) (by kernel_rfl) (by kernel_rfl) (by exact fun _ _ _ h => h) (Or.inl ⟨by rfl, fun wx hSx => ?_⟩) hHeld ?_
    rotate_left
    · clear hSx; go_simp; (try with_reducible rfl)
    simp only [Act.put, List.setIfInBounds_toArray, List.set_cons_zero, List.set_cons_succ]
    refine wpAnyH_take (i := 22) (v := ?_) (by simp; rfl) (by kernel_rfl) (by kernel_rfl) (by kernel_rfl) (by exact fun _ _ _ h => h) (Or.inl ⟨by rfl, fun wx hSx => ?_⟩) hHeld ?_
    rotate_left
    · clear hSx; go_simp; (try with_reducible rfl)
    simp only [Act.put, List.setIfInBounds_toArray, List.set_cons_zero, List.set_cons_succ]
    refine wpAnyH_take (i := 23) (v := ?_) (by simp; rfl) (by kernel_rfl) (by kernel_rfl) (by kernel_rfl) (by exact fun _ _ _ h => h) (Or.inl ⟨by rfl, fun wx hSx => ?_⟩) hHeld ?_
    rotate_left
    · clear hSx; go_simp; (try with_reducible rfl)
    simp only [Act.put, List.setIfInBounds_toArray, List.set_cons_zero, List.set_cons_succ]
    refine wpAnyH_done (by kernel_rfl) ?_ _
    clear hHeld
    go_wp2
    go_ret
    exact ⟨rfl, HB4.out⟩
  · have hgb := cut_bad (x := bs) h4 (by rw [hwl]; exact hjK)
    rw [hT] at hgb
    have hfc := fault_cut hA.b h4 (by rw [hwl]; exact hjK)
    rw [hT] at hfc
    have HRD := Lib.hid (fun W : World => read_badc (w := W) hTb (by omega) hgb hS1)
    have HFA := Lib.hid (fun W : World => fault_c (w := W) hTb (by omega) hfc hS1)
    have f1 : ((j : Int) % 4 == 0) = false := by simp; omega
    have f2 : ((j : Int) % 4 != 0) = true := by simp; omega
    have g4 : (j : Int) ≤ (K : Int) := by omega
    clear hA hS hwl hK hT hTb hTl hS1 hQ h4 hgb hfc
    go_enter Try.func10, Try.ntmps10
    go_wp2_with fail
    refine (HWB.out w (Below.refl _ _)).mono ?_
    rintro e w1 ⟨rfl, b1⟩
    have HB1 := Lib.hid b1
    clear b1
    go_wp2_with fail
    refine (HRD.out _).mono ?_
    rintro e w2 ⟨rfl, b2⟩
    have HB2 := Lib.hid (HB1.out.trans (b2.mono HB1.out.size))
    clear b2 HB1
    go_wp2_with fail
    refine (alive_any _).mono ?_
    rintro e w3 ⟨rfl, b3⟩
    have HB3 := Lib.hid (HB2.out.trans (b3.mono HB2.out.size))
    clear b3 HB2
    go_wp2_with fail
    refine (HFA.out _).mono ?_
    rintro e w4 ⟨rfl, b4⟩
    have HB4 := Lib.hid (HB3.out.trans (b4.mono HB3.out.size))
    clear b4 HB3
    go_wp2
    go_ret
    exact ⟨rfl, HB4.out⟩
set_option maxRecDepth 100000 in
set_option maxHeartbeats 1000000 in
theorem cuts_law {w : World} {A : Option Addr} {n c : Nat} {bs : List Int} (hs : SlI .u8 w A n c bs) (hn : n ≤ 1048576) (m : Int) (m0 : -9223372036854775808 ≤ m) (m1 : m < 9223372036854775808) :
    Calls Try.prog 10 #[.slice A n c, .int .i64 m] w fun e w' => e = .returned (.bool true) ∧ Below w.heap.size w w' := by
  by_cases hin : n ≤ 3000 ∧ 0 ≤ m ∧ m ≤ (n : Int) / 3 * 4
  · obtain ⟨h1, h2, h3⟩ := hin
    obtain ⟨j, rfl⟩ : ∃ j : Nat, m = j := ⟨m.toNat, by omega⟩
    exact cuts_in (Ag.of hs) j h1 (by omega)
  · have hA := Ag.of hs
    have HWB := Lib.hid (fun (W : World) (hb : Below w.heap.size w W) => write_c (c := c) (hA.r.below hb) hA.l (by omega) hA.b hA.cap hA.max rfl)
    obtain ⟨S, hS⟩ : ∃ S, strOfNums (writeS bs) = S := ⟨_, rfl⟩
    rw [hS] at HWB
    obtain ⟨Q, hQ⟩ : ∃ Q, n / 3 * 4 = Q := ⟨_, rfl⟩
    have hq : (n : Int) / 3 * 4 = (Q : Int) := by omega
    rw [hq] at hin
    clear hs hA hS hQ
    have hcase : 3000 < n ∨ (n ≤ 3000 ∧ m < 0) ∨ (n ≤ 3000 ∧ 0 ≤ m ∧ (Q : Int) < m) := by omega
    rcases hcase with h | ⟨h, h'⟩ | ⟨h, h', h''⟩
    · have d1 : decide ((3000 : Int) < (n : Int)) = true := by simp; omega
      have d2 : decide (3000 < n) = true := by simp; omega
      go_enter Try.func10, Try.ntmps10
      go_wp2_with fail
      refine (HWB.out w (Below.refl _ _)).mono ?_
      rintro e w1 ⟨rfl, b1⟩
      have HB1 := Lib.hid b1
      clear b1
      go_wp2_with fail
      refine (alive_any _).mono ?_
      rintro e w2 ⟨rfl, b2⟩
      have HB2 := Lib.hid (HB1.out.trans (b2.mono HB1.out.size))
      clear b2
      go_wp2
      go_ret
      exact ⟨rfl, HB2.out⟩
    · have d1 : decide ((3000 : Int) < (n : Int)) = false := by simp; omega
      have d2 : decide (3000 < n) = false := by simp; omega
      have d3 : decide (m < 0) = true := by simp; omega
      go_enter Try.func10, Try.ntmps10
      go_wp2_with fail
      refine (HWB.out w (Below.refl _ _)).mono ?_
      rintro e w1 ⟨rfl, b1⟩
      have HB1 := Lib.hid b1
      clear b1
      go_wp2_with fail
      refine (alive_any _).mono ?_
      rintro e w2 ⟨rfl, b2⟩
      have HB2 := Lib.hid (HB1.out.trans (b2.mono HB1.out.size))
      clear b2
      go_wp2
      go_ret
      exact ⟨rfl, HB2.out⟩
    · have d1 : decide ((3000 : Int) < (n : Int)) = false := by simp; omega
      have d2 : decide (3000 < n) = false := by simp; omega
      have d3 : decide (m < 0) = false := by simp; omega
      have d4 : decide ((Q : Int) < m) = true := by simp; omega
      go_enter Try.func10, Try.ntmps10
      go_wp2_with fail
      refine (HWB.out w (Below.refl _ _)).mono ?_
      rintro e w1 ⟨rfl, b1⟩
      have HB1 := Lib.hid b1
      clear b1
      go_wp2_with fail
      refine (alive_any _).mono ?_
      rintro e w2 ⟨rfl, b2⟩
      have HB2 := Lib.hid (HB1.out.trans (b2.mono HB1.out.size))
      clear b2
      go_wp2
      go_ret
      exact ⟨rfl, HB2.out⟩
end Go.Proofs.Ytidjcbnjadlbaaa
