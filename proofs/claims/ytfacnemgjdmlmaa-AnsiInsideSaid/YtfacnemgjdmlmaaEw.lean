/-
  Proved here: AnsiInside.
-/
import Derived.Test.YtfacnemgjdmlmaaEv
import Derived.BigRegion
set_option linter.unusedSimpArgs false
set_option linter.unusedVariables false
namespace Go.Proofs.Ytfacnemgjdmlmaa
open Go.RowKit
theorem setF {α : Type} (x0 x1 x2 x3 x4 x5 x6 x7 x8 x9 x10 x11 x12 x13 x14 x15 : α) (l : List α) (n : Nat) (v : α) : (x0 :: x1 :: x2 :: x3 :: x4 :: x5 :: x6 :: x7 :: x8 :: x9 :: x10 :: x11 :: x12 :: x13 :: x14 :: x15 :: l).set (n + 16) v = x0 :: x1 :: x2 :: x3 :: x4 :: x5 :: x6 :: x7 :: x8 :: x9 :: x10 :: x11 :: x12 :: x13 :: x14 :: x15 :: l.set n v := rfl
set_option maxRecDepth 100000 in
set_option maxHeartbeats 16000000 in
theorem inside_any {w : World} {A : Option Addr} {n cp : Nat} {l : List Int} (hR : RI .i32 w A l) (hl : l.length = n) (hcp : n ≤ cp) (hcm : cp ≤ maxLen) (a0 c0 : Int) (ha : -9223372036854775808 ≤ a0 ∧ a0 < 9223372036854775808) (hc : 0 ≤ c0 ∧ c0 < 256) :
    Calls Try.prog 7 #[.slice A n cp, .int .i64 a0, .int .u8 c0] w fun e w' => e = .returned (.bool true) ∧ Below w.heap.size w w' := by
  have HAL := Lib.hid (fun U => alive_any U)
  unfold maxLen at hcm
  have h31 : bits .and .u8 c0 31 = c0 % 32 := by
    have h := and31 ⟨c0.toNat, by omega⟩
    dsimp only at h
    rw [show ((c0.toNat : Nat) : Int) = c0 by omega] at h
    rw [h]; omega
  obtain ⟨p, hp⟩ : ∃ p, c0 % 32 = p := ⟨_, rfl⟩
  rw [hp] at h31
  have p0 : 0 ≤ p := by omega
  have p1 : p < 32 := by omega
  have pw : IntKind.i32.wrap p = p := by rw [IntKind.wrap_i32]; omega
  have HR := Lib.hid hR
  have HLL := Lib.hid (fun (_ : Unit) => hl)
  clear hR hl hp hc
  by_cases h1 : 60 < n
  · have e1 : decide (60 < (n : Int)) = true := by simp; omega
    clear HR HLL h1
    go_enter Try.func7, Try.ntmps7
    go_wp2_with fail
    refine (HAL.out _).mono ?_
    rintro e wx ⟨rfl, hx⟩
    have HX := Lib.hid (hx)
    clear hx
    go_wp2
    go_ret
    exact ⟨rfl, HX.out⟩
  have e1 : decide (60 < (n : Int)) = false := by simp; omega
  by_cases h2 : a0 < 0
  · have e2 : decide (a0 < 0) = true := by simp; omega
    clear HR HLL h1 h2
    go_enter Try.func7, Try.ntmps7
    go_wp2_with fail
    refine (HAL.out _).mono ?_
    rintro e wx ⟨rfl, hx⟩
    have HX := Lib.hid (hx)
    clear hx
    go_wp2
    go_ret
    exact ⟨rfl, HX.out⟩
  have e2 : decide (a0 < 0) = false := by simp; omega
  by_cases h3 : (n : Int) < a0
  · have e3 : decide ((n : Int) < a0) = true := by simp; omega
    clear HR HLL h1 h2 h3
    go_enter Try.func7, Try.ntmps7
    go_wp2_with fail
    refine (HAL.out _).mono ?_
    rintro e wx ⟨rfl, hx⟩
    have HX := Lib.hid (hx)
    clear hx
    go_wp2
    go_ret
    exact ⟨rfl, HX.out⟩
  have e3 : decide ((n : Int) < a0) = false := by simp; omega
  by_cases h4 : p = 24
  · have e4 : (p == 24) = true := by simp; omega
    clear HR HLL h1 h2 h3 h4
    go_enter Try.func7, Try.ntmps7
    go_wp2_with fail
    refine (HAL.out _).mono ?_
    rintro e wx ⟨rfl, hx⟩
    have HX := Lib.hid (hx)
    clear hx
    go_wp2
    go_ret
    exact ⟨rfl, HX.out⟩
  have e4 : (p == 24) = false := by simp; omega
  by_cases h5 : p = 26
  · have e5 : (p == 26) = true := by simp; omega
    clear HR HLL h1 h2 h3 h4 h5
    go_enter Try.func7, Try.ntmps7
    go_wp2_with fail
    refine (HAL.out _).mono ?_
    rintro e wx ⟨rfl, hx⟩
    have HX := Lib.hid (hx)
    clear hx
    go_wp2
    go_ret
    exact ⟨rfl, HX.out⟩
  have e5 : (p == 26) = false := by simp; omega
  by_cases h6 : p = 27
  · have e6 : (p == 27) = true := by simp; omega
    clear HR HLL h1 h2 h3 h4 h5 h6
    go_enter Try.func7, Try.ntmps7
    go_wp2_with fail
    refine (HAL.out _).mono ?_
    rintro e wx ⟨rfl, hx⟩
    have HX := Lib.hid (hx)
    clear hx
    go_wp2
    go_ret
    exact ⟨rfl, HX.out⟩
  have e6 : (p == 27) = false := by simp; omega
  obtain ⟨k, rfl⟩ : ∃ k : Nat, a0 = k := ⟨a0.toNat, by omega⟩
  have hkn : k ≤ n := by omega
  have hn60 : n ≤ 60 := by omega
  have HPP := Lib.hid (show 0 ≤ p ∧ p < 32 ∧ p ≠ 24 ∧ p ≠ 26 ∧ p ≠ 27 from ⟨p0, p1, h4, h5, h6⟩)
  clear h1 h2 h3 h4 h5 h6 p0 p1 ha
  go_enter Try.func7, Try.ntmps7
  have hb1 := (Below.refl w.heap.size w).alloc (Nat.le_refl _) (.cells (NV .i32 [27, 91]).toArray 21)
  obtain ⟨A1, c1, w1, hr1, hO1, hg1, _⟩ := ((O2.new w).to hb1).app (g := w.heap.size) (n := 0) (zs := [27, 91]) (m := 2) rfl rfl (RI.lit w [27, 91] 21) (by omega)
  have hb2 := (Below.refl w1.heap.size w1).alloc (Nat.le_refl _) (.cells (NV .i32 [27, 91]).toArray 21)
  obtain ⟨A2, c2, w2, hr2, hO2, hg2, _⟩ := (hO1.to hb2).swap.app (g := w1.heap.size) (n := 0) (zs := [27, 91]) (m := 2) rfl rfl (RI.lit w1 [27, 91] 21) (by omega)
  have HR1 := Lib.hid hr1
  have HR2 := Lib.hid hr2
  have HO2 := Lib.hid hO2.swap
  clear hb1 hr1 hO1 hg1 hb2 hr2 hO2 hg2
  simp only [Nat.zero_add] at HR1 HR2 HO2
  go_wp2_with (first | (at_builtin; refine wpList_app rfl (.tmp 46) (.tmp 47) _ rfl _ _ rfl rfl HR1.out ?_) | (at_builtin; refine wpList_app rfl (.tmp 49) (.tmp 50) _ rfl _ _ rfl rfl HR2.out ?_))
  clear HR1 HR2
  go_loopw [8, 9, 10] (fun v1 v2 iv wr => ∃ i : Nat, iv = .int .i64 i ∧ i ≤ n ∧ Hid (O2 w v1 v2 ([27, 91] ++ l.take i) ([27, 91] ++ wth l k p i) wr ∧ ∀ j, j < i → 32 ≤ l.getD j 0 ∧ l.getD j 0 < 64)) (fun _ _ iv _ => n - (intOf iv).toNat)
  case atStart => exact ⟨0, rfl, by omega, Lib.hid ⟨by have h := HO2.out; simpa [wth] using h, fun j hj => absurd hj (by omega)⟩⟩
  case round =>
    obtain ⟨i, rfl, hi, HI⟩ := hrel
    clear HO2
    by_cases hin : i < n
    · have d1 : decide ((i : Int) < (n : Int)) = true := by simp; omega
      have d1' : decide (i < n) = true := by simp; omega
      have g3 : (0 : Int) ≤ (i : Int) := by omega
      have g4 : (i : Int) < (n : Int) := by omega
      have w9 : IntKind.i64.wrap ((i : Int) + 1) = (i : Int) + 1 := IntWalk.i64_in _ (by omega)
      obtain ⟨b, off, rfl, hb, hc⟩ := HR.out (by rw [HLL.out ()]; omega)
      have hci := hc i (by rw [HLL.out ()]; exact hin)
      obtain ⟨r, hr⟩ : ∃ x, l.getD i 0 = x := ⟨_, rfl⟩
      rw [hr] at hci
      have k0 := (HI.out.1.below.cell (p := ⟨b, off + i, none⟩) hb).trans hci
      have HCI := Lib.hid (show b < w.heap.size ∧ w.cell? ⟨b, off + i, none⟩ = some (.int .i32 r) from ⟨hb, hci⟩)
      have HRI := Lib.hid (fun (_ : Unit) => hr)
      clear hb hc hci hr
      by_cases r32 : r < 32
      · have f1 : decide (r < 32) = true := by simpa using r32
        clear r32
        go_wp2_with fail
        refine (HAL.out _).mono ?_
        rintro e wx ⟨rfl, hx⟩
        have HX := Lib.hid (HI.out.1.below.trans (hx.mono HI.out.1.below.size))
        clear hx
        go_wp2
        go_ret
        exact ⟨rfl, HX.out⟩
      have f1 : decide (r < 32) = false := by simpa using r32
      by_cases r63 : 63 < r
      · have f2 : decide (63 < r) = true := by simpa using r63
        clear r32 r63
        go_wp2_with fail
        refine (HAL.out _).mono ?_
        rintro e wx ⟨rfl, hx⟩
        have HX := Lib.hid (HI.out.1.below.trans (hx.mono HI.out.1.below.size))
        clear hx
        go_wp2
        go_ret
        exact ⟨rfl, HX.out⟩
      have f2 : decide (63 < r) = false := by simpa using r63
      have HJ := Lib.hid (show ∀ j, j < i + 1 → 32 ≤ l.getD j 0 ∧ l.getD j 0 < 64 from fun j hj => by
        rcases Nat.lt_or_ge j i with e | e
        · exact HI.out.2 j e
        · rw [show j = i by omega, HRI.out ()]; omega)
      have HX1 := Lib.hid (fun (_ : Unit) => show ([27, 91] ++ l.take i) ++ [r] = [27, 91] ++ l.take (i + 1) from by
        rw [take_snoc (by rw [HLL.out ()]; exact hin), HRI.out ()]; simp)
      have hlen1 : ([27, 91] ++ l.take i).length = i + 2 := by have := HLL.out (); simp; omega
      have HO := Lib.hid HI.out.1
      have hlen2 := wth_len (l := l) (k := k) (i := i) (p := p) (by rw [HLL.out ()]; exact hi)
      clear HI
      by_cases hik : i = k
      · subst hik
        have q1 : ((i : Int) == (i : Int)) = true := by simp
        have HX2 := Lib.hid (fun (_ : Unit) => show ([27, 91] ++ wth l i p i ++ [p]) ++ [r] = [27, 91] ++ wth l i p (i + 1) from by
          rw [← wth_at (p := p) (by rw [HLL.out ()]; exact hin), HRI.out ()]; simp)
        rw [if_neg (Nat.lt_irrefl i)] at hlen2
        have hlen3 : ([27, 91] ++ wth l i p i).length = i + 2 := by simp [hlen2]
        have hbl := (Below.refl wr.heap.size wr).alloc (Nat.le_refl _) (.cells #[.int .i32 p] 21)
        obtain ⟨A4, c4, w4, hr4, hO4, _, _⟩ := (HO.out.to hbl).swap.app (g := wr.heap.size) (n := i + 2) (zs := [p]) (m := 1) rfl hlen3 (RI.one .i32 wr p 21) (by omega)
        have HR4 := Lib.hid hr4
        have HO4 := Lib.hid hO4.swap
        have HLA := Lib.hid (fun (_ : Unit) => hlen1)
        have HLB := Lib.hid (fun (_ : Unit) => show ([27, 91] ++ wth l i p i ++ [p]).length = i + 2 + 1 from by simp [hlen2])
        clear hbl hr4 hO4 hlen1 hlen2 hlen3 HO HRI
        go_wp2_with (first | (at_builtin; refine wpList_app rfl (.tmp 74) (.tmp 76) _ rfl _ _ rfl rfl HR4.out ?_))
        clear HR4 k0
        have HO0 := Lib.hid (HO4.out.to (Below.refl _ _).drew)
        have HN1 := Lib.hid (fun (g : Nat) (h : w4.drew.heap.size ≤ g) => HO0.out.ne1 h)
        have HN2 := Lib.hid (fun (g : Nat) (h : w4.drew.heap.size ≤ g) => HO0.out.swap.ne1 h)
        have HS0 := Lib.hid (Nat.le_refl w4.drew.heap.size)
        refine wp_region_held_drew (S := fun W => Below w.heap.size w W) (by kernel_rfl) HO0.out.below (fun hHeld => ?_)
        generalize w4.drew = U0 at HO0 HN1 HN2 HS0 hHeld ⊢
        refine wpAnyH_take (i := 0) (v := ?_) (by simp; rfl) (by kernel_rfl) (by kernel_rfl) (by kernel_rfl) (by exact fun _ _ _ h => h) (Or.inl ⟨by rfl, fun wx hSx => ?_⟩) hHeld ?_
        rotate_left
        · clear hSx; go_simp; (try with_reducible rfl)
        simp only [Act.put, List.setIfInBounds_toArray, setF]; try simp only [List.set_cons_zero, List.set_cons_succ]
        refine wpAnyH_take (i := 1) (v := ?_) (by simp; rfl) (by kernel_rfl) (by kernel_rfl) (by kernel_rfl) (by exact fun _ _ _ h => h) (Or.inl ⟨by rfl, fun wx hSx => ?_⟩) hHeld ?_
        rotate_left
        · clear hSx; go_simp; (try with_reducible rfl)
        simp only [Act.put, List.setIfInBounds_toArray, setF]; try simp only [List.set_cons_zero, List.set_cons_succ]
        refine wpAnyH_take (i := 2) (v := ?_) (by simp; rfl) (by kernel_rfl) (by kernel_rfl) (by kernel_rfl) (by exact fun _ _ _ h => h) (Or.inl ⟨by rfl, fun wx hSx => ?_⟩) hHeld ?_
        rotate_left
        · clear hSx; go_simp; (try with_reducible rfl)
        simp only [Act.put, List.setIfInBounds_toArray, setF]; try simp only [List.set_cons_zero, List.set_cons_succ]
        refine wpAnyH_take (i := 3) (v := ?_) (by simp; rfl) (by kernel_rfl) (by kernel_rfl) (by kernel_rfl) (by exact fun _ _ _ h => h) (Or.inl ⟨by rfl, fun wx hSx => ?_⟩) hHeld ?_
        rotate_left
        · clear hSx; go_simp; (try with_reducible rfl)
        simp only [Act.put, List.setIfInBounds_toArray, setF]; try simp only [List.set_cons_zero, List.set_cons_succ]
        refine wpAnyH_take (i := 4) (v := ?_) (by simp; rfl) (by kernel_rfl) (by kernel_rfl) (by kernel_rfl) (by exact fun _ _ _ h => h) (Or.inl ⟨by rfl, fun wx hSx => ?_⟩) hHeld ?_
        rotate_left
        · have hc := (hSx.cell (p := ⟨b, off + i, none⟩) HCI.out.1).trans HCI.out.2; clear hSx; go_simp; (try with_reducible rfl)
        simp only [Act.put, List.setIfInBounds_toArray, setF]; try simp only [List.set_cons_zero, List.set_cons_succ]
        refine wpAnyH_take (i := 7) (v := ?_) (by simp; rfl) (by kernel_rfl) (by kernel_rfl) (by kernel_rfl) (by exact fun _ _ _ h => h) (Or.inl ⟨by rfl, fun wx hSx => ?_⟩) hHeld ?_
        rotate_left
        · clear hSx; go_simp; (try with_reducible rfl)
        simp only [Act.put, List.setIfInBounds_toArray, setF]; try simp only [List.set_cons_zero, List.set_cons_succ]
        refine wpAnyH_take (i := 8) (v := ?_) (by simp; rfl) (by kernel_rfl) (by kernel_rfl) (by kernel_rfl) (by exact fun _ _ _ h => h) (Or.inl ⟨by rfl, fun wx hSx => ?_⟩) hHeld ?_
        rotate_left
        · clear hSx; go_simp; (try with_reducible rfl)
        simp only [Act.put, List.setIfInBounds_toArray, setF]; try simp only [List.set_cons_zero, List.set_cons_succ]
        refine wpAnyH_take (i := 9) (v := ?_) (by simp; rfl) (by kernel_rfl) (by kernel_rfl) (by kernel_rfl) (by exact fun _ _ _ h => h) (Or.inl ⟨by rfl, fun wx hSx => ?_⟩) hHeld ?_
        rotate_left
        · clear hSx; go_simp; (try with_reducible rfl)
        simp only [Act.put, List.setIfInBounds_toArray, setF]; try simp only [List.set_cons_zero, List.set_cons_succ]
        refine wpAnyH_take (i := 10) (v := ?_) (by simp; rfl) (by kernel_rfl) (by kernel_rfl) (by kernel_rfl) (by exact fun _ _ _ h => h) (Or.inl ⟨by rfl, fun wx hSx => ?_⟩) hHeld ?_
        rotate_left
        · clear hSx; go_simp; (try with_reducible rfl)
        simp only [Act.put, List.setIfInBounds_toArray, setF]; try simp only [List.set_cons_zero, List.set_cons_succ]
        refine wpAnyH_take (i := 11) (v := ?_) (by simp; rfl) (by kernel_rfl) (by kernel_rfl) (by kernel_rfl) (by exact fun _ _ _ h => h) (Or.inl ⟨by rfl, fun wx hSx => ?_⟩) hHeld ?_
        rotate_left
        · have hc := (hSx.cell (p := ⟨b, off + i, none⟩) HCI.out.1).trans HCI.out.2; clear hSx; go_simp; (try with_reducible rfl)
        simp only [Act.put, List.setIfInBounds_toArray, setF]; try simp only [List.set_cons_zero, List.set_cons_succ]
        refine wpAnyH_ready (rs := [5, 12]) (by kernel_rfl) (by simp) ?_
        refine AllReadyH.cons (by simp; rfl) (fun K0 hK0 => ?_) (AllReadyH.cons (by simp; rfl) (fun K0 hK0 => ?_) AllReadyH.nil)
        · go_simp
          have hb := (Below.refl U0.heap.size U0).alloc (Nat.le_refl _) (.cells #[.int .i32 r] 21)
          have HO_5 := Lib.hid (HO0.out.to hb)
          have RI5_5 := Lib.hid (RI.one .i32 U0 r 21)
          have GE_5 := HS0
          have HS_5 := Lib.hid (Nat.le_trans HS0.out hb.size)
          refine hK0.out _ _ HO_5.out.below (fun hHeld => ?_)
          clear hK0 K0 hb
          generalize (U0.alloc (.cells #[.int .i32 r] 21)) = V_5 at HO_5 RI5_5 HS_5 hHeld ⊢
          refine wpAnyH_ready (rs := [6, 12]) (by kernel_rfl) (by simp) ?_
          refine AllReadyH.cons (by simp; rfl) (fun K0 hK0 => ?_) (AllReadyH.cons (by simp; rfl) (fun K0 hK0 => ?_) AllReadyH.nil)
          · obtain ⟨A_5_6, c_5_6, V_5_6, hr, hO, hg, _⟩ := HO_5.out.app (n := i + 2) (zs := [r]) (m := 1) rfl (HLA.out ()) RI5_5.out (by omega)
            have HRr := Lib.hid hr
            have HO_5_6 := Lib.hid (hO)
            have HS_5_6 := Lib.hid (Nat.le_trans HS_5.out hg.size)
            refine step_app rfl (.tmp 78) (.tmp 83) _ rfl _ _ rfl rfl HRr.out ?_
            simp only [Act.put, List.setIfInBounds_toArray, setF]; try simp only [List.set_cons_zero, List.set_cons_succ]
            refine hK0.out _ _ HO_5_6.out.below (fun hHeld => ?_)
            clear hK0 K0 hr hO hg HRr
            refine wpAnyH_ready (rs := [12]) (by kernel_rfl) (by simp) ?_
            refine AllReadyH.cons (by simp; rfl) (fun K0 hK0 => ?_) AllReadyH.nil
            go_simp
            have hb := (Below.refl V_5_6.heap.size V_5_6).alloc (Nat.le_refl _) (.cells #[.int .i32 r] 21)
            have HO_5_6_12 := Lib.hid (HO_5_6.out.to hb)
            have RI12_5_6_12 := Lib.hid (RI.one .i32 V_5_6 r 21)
            have GE_5_6_12 := HS_5_6
            have HS_5_6_12 := Lib.hid (Nat.le_trans HS_5_6.out hb.size)
            refine hK0.out _ _ HO_5_6_12.out.below (fun hHeld => ?_)
            clear hK0 K0 hb
            generalize (V_5_6.alloc (.cells #[.int .i32 r] 21)) = V_5_6_12 at HO_5_6_12 RI12_5_6_12 HS_5_6_12 hHeld ⊢
            refine wpAnyH_ready (rs := [13]) (by kernel_rfl) (by simp) ?_
            refine AllReadyH.cons (by simp; rfl) (fun K0 hK0 => ?_) AllReadyH.nil
            obtain ⟨A_5_6_12_13, c_5_6_12_13, V_5_6_12_13, hr, hO, hg, _⟩ := HO_5_6_12.out.swap.app (n := i + 2 + 1) (zs := [r]) (m := 1) rfl (HLB.out ()) RI12_5_6_12.out (by omega)
            have HRr := Lib.hid hr
            have HO_5_6_12_13 := Lib.hid (hO.swap)
            have HS_5_6_12_13 := Lib.hid (Nat.le_trans HS_5_6_12.out hg.size)
            refine step_app rfl (.tmp 85) (.tmp 90) _ rfl _ _ rfl rfl HRr.out ?_
            simp only [Act.put, List.setIfInBounds_toArray, setF]; try simp only [List.set_cons_zero, List.set_cons_succ]
            refine hK0.out _ _ HO_5_6_12_13.out.below (fun hHeld => ?_)
            clear hK0 K0 hr hO hg HRr
            refine wpAnyH_take (i := 14) (v := ?_) (by simp; rfl) (by kernel_rfl) (by kernel_rfl) (by kernel_rfl) (by exact fun _ _ _ h => h) (Or.inl ⟨by rfl, fun wx hSx => ?_⟩) hHeld ?_
            rotate_left
            · clear hSx; go_simp; (try with_reducible rfl)
            simp only [Act.put, List.setIfInBounds_toArray, setF]; try simp only [List.set_cons_zero, List.set_cons_succ]
            refine wpAnyH_take (i := 15) (v := ?_) (by simp; rfl) (by kernel_rfl) (by kernel_rfl) (by kernel_rfl) (by exact fun _ _ _ h => h) (Or.inl ⟨by rfl, fun wx hSx => ?_⟩) hHeld ?_
            rotate_left
            · clear hSx; go_simp; (try with_reducible rfl)
            simp only [Act.put, List.setIfInBounds_toArray, setF]; try simp only [List.set_cons_zero, List.set_cons_succ]
            refine wpAnyH_done (by kernel_rfl) ?_ _
            go_wp2
            go_roundw
            case rel => exact ⟨i + 1, by go_num, by omega, Lib.hid ⟨by have h := HO_5_6_12_13.out; rw [HX1.out (), HX2.out ()] at h; exact h, HJ.out⟩⟩
            case measure => simp [intOf]; omega
          · go_simp
            have hb := (Below.refl V_5.heap.size V_5).alloc (Nat.le_refl _) (.cells #[.int .i32 r] 21)
            have HO_5_12 := Lib.hid (HO_5.out.to hb)
            have RI12_5_12 := Lib.hid (RI.one .i32 V_5 r 21)
            have GE_5_12 := HS_5
            have RJ5_5_12 := Lib.hid (RI.below RI5_5.out hb)
            have HS_5_12 := Lib.hid (Nat.le_trans HS_5.out hb.size)
            refine hK0.out _ _ HO_5_12.out.below (fun hHeld => ?_)
            clear hK0 K0 hb
            generalize (V_5.alloc (.cells #[.int .i32 r] 21)) = V_5_12 at HO_5_12 RI12_5_12 HS_5_12 RJ5_5_12 hHeld ⊢
            refine wpAnyH_ready (rs := [6]) (by kernel_rfl) (by simp) ?_
            refine AllReadyH.cons (by simp; rfl) (fun K0 hK0 => ?_) AllReadyH.nil
            obtain ⟨A_5_12_6, c_5_12_6, V_5_12_6, hr, hO, hg, _⟩ := HO_5_12.out.app (n := i + 2) (zs := [r]) (m := 1) rfl (HLA.out ()) RJ5_5_12.out (by omega)
            have HRr := Lib.hid hr
            have HO_5_12_6 := Lib.hid (hO)
            have RJ12_5_12_6 := Lib.hid (RI.grownN RI12_5_12.out hg (HN1.out _ GE_5_12.out))
            have HS_5_12_6 := Lib.hid (Nat.le_trans HS_5_12.out hg.size)
            refine step_app rfl (.tmp 78) (.tmp 83) _ rfl _ _ rfl rfl HRr.out ?_
            simp only [Act.put, List.setIfInBounds_toArray, setF]; try simp only [List.set_cons_zero, List.set_cons_succ]
            refine hK0.out _ _ HO_5_12_6.out.below (fun hHeld => ?_)
            clear hK0 K0 hr hO hg HRr
            refine wpAnyH_ready (rs := [13]) (by kernel_rfl) (by simp) ?_
            refine AllReadyH.cons (by simp; rfl) (fun K0 hK0 => ?_) AllReadyH.nil
            obtain ⟨A_5_12_6_13, c_5_12_6_13, V_5_12_6_13, hr, hO, hg, _⟩ := HO_5_12_6.out.swap.app (n := i + 2 + 1) (zs := [r]) (m := 1) rfl (HLB.out ()) RJ12_5_12_6.out (by omega)
            have HRr := Lib.hid hr
            have HO_5_12_6_13 := Lib.hid (hO.swap)
            have HS_5_12_6_13 := Lib.hid (Nat.le_trans HS_5_12_6.out hg.size)
            refine step_app rfl (.tmp 85) (.tmp 90) _ rfl _ _ rfl rfl HRr.out ?_
            simp only [Act.put, List.setIfInBounds_toArray, setF]; try simp only [List.set_cons_zero, List.set_cons_succ]
            refine hK0.out _ _ HO_5_12_6_13.out.below (fun hHeld => ?_)
            clear hK0 K0 hr hO hg HRr
            refine wpAnyH_take (i := 14) (v := ?_) (by simp; rfl) (by kernel_rfl) (by kernel_rfl) (by kernel_rfl) (by exact fun _ _ _ h => h) (Or.inl ⟨by rfl, fun wx hSx => ?_⟩) hHeld ?_
            rotate_left
            · clear hSx; go_simp; (try with_reducible rfl)
            simp only [Act.put, List.setIfInBounds_toArray, setF]; try simp only [List.set_cons_zero, List.set_cons_succ]
            refine wpAnyH_take (i := 15) (v := ?_) (by simp; rfl) (by kernel_rfl) (by kernel_rfl) (by kernel_rfl) (by exact fun _ _ _ h => h) (Or.inl ⟨by rfl, fun wx hSx => ?_⟩) hHeld ?_
            rotate_left
            · clear hSx; go_simp; (try with_reducible rfl)
            simp only [Act.put, List.setIfInBounds_toArray, setF]; try simp only [List.set_cons_zero, List.set_cons_succ]
            refine wpAnyH_done (by kernel_rfl) ?_ _
            go_wp2
            go_roundw
            case rel => exact ⟨i + 1, by go_num, by omega, Lib.hid ⟨by have h := HO_5_12_6_13.out; rw [HX1.out (), HX2.out ()] at h; exact h, HJ.out⟩⟩
            case measure => simp [intOf]; omega
        · go_simp
          have hb := (Below.refl U0.heap.size U0).alloc (Nat.le_refl _) (.cells #[.int .i32 r] 21)
          have HO_12 := Lib.hid (HO0.out.to hb)
          have RI12_12 := Lib.hid (RI.one .i32 U0 r 21)
          have GE_12 := HS0
          have HS_12 := Lib.hid (Nat.le_trans HS0.out hb.size)
          refine hK0.out _ _ HO_12.out.below (fun hHeld => ?_)
          clear hK0 K0 hb
          generalize (U0.alloc (.cells #[.int .i32 r] 21)) = V_12 at HO_12 RI12_12 HS_12 hHeld ⊢
          refine wpAnyH_ready (rs := [5]) (by kernel_rfl) (by simp) ?_
          refine AllReadyH.cons (by simp; rfl) (fun K0 hK0 => ?_) AllReadyH.nil
          go_simp
          have hb := (Below.refl V_12.heap.size V_12).alloc (Nat.le_refl _) (.cells #[.int .i32 r] 21)
          have HO_12_5 := Lib.hid (HO_12.out.to hb)
          have RI5_12_5 := Lib.hid (RI.one .i32 V_12 r 21)
          have GE_12_5 := HS_12
          have RJ12_12_5 := Lib.hid (RI.below RI12_12.out hb)
          have HS_12_5 := Lib.hid (Nat.le_trans HS_12.out hb.size)
          refine hK0.out _ _ HO_12_5.out.below (fun hHeld => ?_)
          clear hK0 K0 hb
          generalize (V_12.alloc (.cells #[.int .i32 r] 21)) = V_12_5 at HO_12_5 RI5_12_5 HS_12_5 RJ12_12_5 hHeld ⊢
          refine wpAnyH_ready (rs := [6]) (by kernel_rfl) (by simp) ?_
          refine AllReadyH.cons (by simp; rfl) (fun K0 hK0 => ?_) AllReadyH.nil
          obtain ⟨A_12_5_6, c_12_5_6, V_12_5_6, hr, hO, hg, _⟩ := HO_12_5.out.app (n := i + 2) (zs := [r]) (m := 1) rfl (HLA.out ()) RI5_12_5.out (by omega)
          have HRr := Lib.hid hr
          have HO_12_5_6 := Lib.hid (hO)
          have RJ12_12_5_6 := Lib.hid (RI.grownN RJ12_12_5.out hg (HN1.out _ GE_12.out))
          have HS_12_5_6 := Lib.hid (Nat.le_trans HS_12_5.out hg.size)
          refine step_app rfl (.tmp 78) (.tmp 83) _ rfl _ _ rfl rfl HRr.out ?_
          simp only [Act.put, List.setIfInBounds_toArray, setF]; try simp only [List.set_cons_zero, List.set_cons_succ]
          refine hK0.out _ _ HO_12_5_6.out.below (fun hHeld => ?_)
          clear hK0 K0 hr hO hg HRr
          refine wpAnyH_ready (rs := [13]) (by kernel_rfl) (by simp) ?_
          refine AllReadyH.cons (by simp; rfl) (fun K0 hK0 => ?_) AllReadyH.nil
          obtain ⟨A_12_5_6_13, c_12_5_6_13, V_12_5_6_13, hr, hO, hg, _⟩ := HO_12_5_6.out.swap.app (n := i + 2 + 1) (zs := [r]) (m := 1) rfl (HLB.out ()) RJ12_12_5_6.out (by omega)
          have HRr := Lib.hid hr
          have HO_12_5_6_13 := Lib.hid (hO.swap)
          have HS_12_5_6_13 := Lib.hid (Nat.le_trans HS_12_5_6.out hg.size)
          refine step_app rfl (.tmp 85) (.tmp 90) _ rfl _ _ rfl rfl HRr.out ?_
          simp only [Act.put, List.setIfInBounds_toArray, setF]; try simp only [List.set_cons_zero, List.set_cons_succ]
          refine hK0.out _ _ HO_12_5_6_13.out.below (fun hHeld => ?_)
          clear hK0 K0 hr hO hg HRr
          refine wpAnyH_take (i := 14) (v := ?_) (by simp; rfl) (by kernel_rfl) (by kernel_rfl) (by kernel_rfl) (by exact fun _ _ _ h => h) (Or.inl ⟨by rfl, fun wx hSx => ?_⟩) hHeld ?_
          rotate_left
          · clear hSx; go_simp; (try with_reducible rfl)
          simp only [Act.put, List.setIfInBounds_toArray, setF]; try simp only [List.set_cons_zero, List.set_cons_succ]
          refine wpAnyH_take (i := 15) (v := ?_) (by simp; rfl) (by kernel_rfl) (by kernel_rfl) (by kernel_rfl) (by exact fun _ _ _ h => h) (Or.inl ⟨by rfl, fun wx hSx => ?_⟩) hHeld ?_
          rotate_left
          · clear hSx; go_simp; (try with_reducible rfl)
          simp only [Act.put, List.setIfInBounds_toArray, setF]; try simp only [List.set_cons_zero, List.set_cons_succ]
          refine wpAnyH_done (by kernel_rfl) ?_ _
          go_wp2
          go_roundw
          case rel => exact ⟨i + 1, by go_num, by omega, Lib.hid ⟨by have h := HO_12_5_6_13.out; rw [HX1.out (), HX2.out ()] at h; exact h, HJ.out⟩⟩
          case measure => simp [intOf]; omega
      · have q1 : ((i : Int) == (k : Int)) = false := by simp; omega
        have q1' : (i == k) = false := by simp; omega
        have HX2 := Lib.hid (fun (_ : Unit) => show ([27, 91] ++ wth l k p i) ++ [r] = [27, 91] ++ wth l k p (i + 1) from by
          rw [← wth_no (p := p) (by rw [HLL.out ()]; exact hin) hik, HRI.out ()]; simp)
        obtain ⟨m2, hm2⟩ : ∃ m, ([27, 91] ++ wth l k p i).length = m := ⟨_, rfl⟩
        have hm3 : m2 ≤ 100 := by rw [← hm2]; simp only [List.length_append, hlen2]; simp; split <;> omega
        have HLA := Lib.hid (fun (_ : Unit) => hlen1)
        have HLB := Lib.hid (fun (_ : Unit) => hm2)
        clear hlen1 hlen2 hm2 HRI
        go_wp2
        clear k0
        have HO0 := Lib.hid (HO.out.to (Below.refl _ _).drew)
        have HN1 := Lib.hid (fun (g : Nat) (h : wr.drew.heap.size ≤ g) => HO0.out.ne1 h)
        have HN2 := Lib.hid (fun (g : Nat) (h : wr.drew.heap.size ≤ g) => HO0.out.swap.ne1 h)
        have HS0 := Lib.hid (Nat.le_refl wr.drew.heap.size)
        refine wp_region_held_drew (S := fun W => Below w.heap.size w W) (by kernel_rfl) HO0.out.below (fun hHeld => ?_)
        generalize wr.drew = U0 at HO0 HN1 HN2 HS0 hHeld ⊢
        refine wpAnyH_take (i := 0) (v := ?_) (by simp; rfl) (by kernel_rfl) (by kernel_rfl) (by kernel_rfl) (by exact fun _ _ _ h => h) (Or.inl ⟨by rfl, fun wx hSx => ?_⟩) hHeld ?_
        rotate_left
        · clear hSx; go_simp; (try with_reducible rfl)
        simp only [Act.put, List.setIfInBounds_toArray, setF]; try simp only [List.set_cons_zero, List.set_cons_succ]
        refine wpAnyH_take (i := 1) (v := ?_) (by simp; rfl) (by kernel_rfl) (by kernel_rfl) (by kernel_rfl) (by exact fun _ _ _ h => h) (Or.inl ⟨by rfl, fun wx hSx => ?_⟩) hHeld ?_
        rotate_left
        · clear hSx; go_simp; (try with_reducible rfl)
        simp only [Act.put, List.setIfInBounds_toArray, setF]; try simp only [List.set_cons_zero, List.set_cons_succ]
        refine wpAnyH_take (i := 2) (v := ?_) (by simp; rfl) (by kernel_rfl) (by kernel_rfl) (by kernel_rfl) (by exact fun _ _ _ h => h) (Or.inl ⟨by rfl, fun wx hSx => ?_⟩) hHeld ?_
        rotate_left
        · clear hSx; go_simp; (try with_reducible rfl)
        simp only [Act.put, List.setIfInBounds_toArray, setF]; try simp only [List.set_cons_zero, List.set_cons_succ]
        refine wpAnyH_take (i := 3) (v := ?_) (by simp; rfl) (by kernel_rfl) (by kernel_rfl) (by kernel_rfl) (by exact fun _ _ _ h => h) (Or.inl ⟨by rfl, fun wx hSx => ?_⟩) hHeld ?_
        rotate_left
        · clear hSx; go_simp; (try with_reducible rfl)
        simp only [Act.put, List.setIfInBounds_toArray, setF]; try simp only [List.set_cons_zero, List.set_cons_succ]
        refine wpAnyH_take (i := 4) (v := ?_) (by simp; rfl) (by kernel_rfl) (by kernel_rfl) (by kernel_rfl) (by exact fun _ _ _ h => h) (Or.inl ⟨by rfl, fun wx hSx => ?_⟩) hHeld ?_
        rotate_left
        · have hc := (hSx.cell (p := ⟨b, off + i, none⟩) HCI.out.1).trans HCI.out.2; clear hSx; go_simp; (try with_reducible rfl)
        simp only [Act.put, List.setIfInBounds_toArray, setF]; try simp only [List.set_cons_zero, List.set_cons_succ]
        refine wpAnyH_take (i := 7) (v := ?_) (by simp; rfl) (by kernel_rfl) (by kernel_rfl) (by kernel_rfl) (by exact fun _ _ _ h => h) (Or.inl ⟨by rfl, fun wx hSx => ?_⟩) hHeld ?_
        rotate_left
        · clear hSx; go_simp; (try with_reducible rfl)
        simp only [Act.put, List.setIfInBounds_toArray, setF]; try simp only [List.set_cons_zero, List.set_cons_succ]
        refine wpAnyH_take (i := 8) (v := ?_) (by simp; rfl) (by kernel_rfl) (by kernel_rfl) (by kernel_rfl) (by exact fun _ _ _ h => h) (Or.inl ⟨by rfl, fun wx hSx => ?_⟩) hHeld ?_
        rotate_left
        · clear hSx; go_simp; (try with_reducible rfl)
        simp only [Act.put, List.setIfInBounds_toArray, setF]; try simp only [List.set_cons_zero, List.set_cons_succ]
        refine wpAnyH_take (i := 9) (v := ?_) (by simp; rfl) (by kernel_rfl) (by kernel_rfl) (by kernel_rfl) (by exact fun _ _ _ h => h) (Or.inl ⟨by rfl, fun wx hSx => ?_⟩) hHeld ?_
        rotate_left
        · clear hSx; go_simp; (try with_reducible rfl)
        simp only [Act.put, List.setIfInBounds_toArray, setF]; try simp only [List.set_cons_zero, List.set_cons_succ]
        refine wpAnyH_take (i := 10) (v := ?_) (by simp; rfl) (by kernel_rfl) (by kernel_rfl) (by kernel_rfl) (by exact fun _ _ _ h => h) (Or.inl ⟨by rfl, fun wx hSx => ?_⟩) hHeld ?_
        rotate_left
        · clear hSx; go_simp; (try with_reducible rfl)
        simp only [Act.put, List.setIfInBounds_toArray, setF]; try simp only [List.set_cons_zero, List.set_cons_succ]
        refine wpAnyH_take (i := 11) (v := ?_) (by simp; rfl) (by kernel_rfl) (by kernel_rfl) (by kernel_rfl) (by exact fun _ _ _ h => h) (Or.inl ⟨by rfl, fun wx hSx => ?_⟩) hHeld ?_
        rotate_left
        · have hc := (hSx.cell (p := ⟨b, off + i, none⟩) HCI.out.1).trans HCI.out.2; clear hSx; go_simp; (try with_reducible rfl)
        simp only [Act.put, List.setIfInBounds_toArray, setF]; try simp only [List.set_cons_zero, List.set_cons_succ]
        refine wpAnyH_ready (rs := [5, 12]) (by kernel_rfl) (by simp) ?_
        refine AllReadyH.cons (by simp; rfl) (fun K0 hK0 => ?_) (AllReadyH.cons (by simp; rfl) (fun K0 hK0 => ?_) AllReadyH.nil)
        · go_simp
          have hb := (Below.refl U0.heap.size U0).alloc (Nat.le_refl _) (.cells #[.int .i32 r] 21)
          have HO_5 := Lib.hid (HO0.out.to hb)
          have RI5_5 := Lib.hid (RI.one .i32 U0 r 21)
          have GE_5 := HS0
          have HS_5 := Lib.hid (Nat.le_trans HS0.out hb.size)
          refine hK0.out _ _ HO_5.out.below (fun hHeld => ?_)
          clear hK0 K0 hb
          generalize (U0.alloc (.cells #[.int .i32 r] 21)) = V_5 at HO_5 RI5_5 HS_5 hHeld ⊢
          refine wpAnyH_ready (rs := [6, 12]) (by kernel_rfl) (by simp) ?_
          refine AllReadyH.cons (by simp; rfl) (fun K0 hK0 => ?_) (AllReadyH.cons (by simp; rfl) (fun K0 hK0 => ?_) AllReadyH.nil)
          · obtain ⟨A_5_6, c_5_6, V_5_6, hr, hO, hg, _⟩ := HO_5.out.app (n := i + 2) (zs := [r]) (m := 1) rfl (HLA.out ()) RI5_5.out (by omega)
            have HRr := Lib.hid hr
            have HO_5_6 := Lib.hid (hO)
            have HS_5_6 := Lib.hid (Nat.le_trans HS_5.out hg.size)
            refine step_app rfl (.tmp 78) (.tmp 83) _ rfl _ _ rfl rfl HRr.out ?_
            simp only [Act.put, List.setIfInBounds_toArray, setF]; try simp only [List.set_cons_zero, List.set_cons_succ]
            refine hK0.out _ _ HO_5_6.out.below (fun hHeld => ?_)
            clear hK0 K0 hr hO hg HRr
            refine wpAnyH_ready (rs := [12]) (by kernel_rfl) (by simp) ?_
            refine AllReadyH.cons (by simp; rfl) (fun K0 hK0 => ?_) AllReadyH.nil
            go_simp
            have hb := (Below.refl V_5_6.heap.size V_5_6).alloc (Nat.le_refl _) (.cells #[.int .i32 r] 21)
            have HO_5_6_12 := Lib.hid (HO_5_6.out.to hb)
            have RI12_5_6_12 := Lib.hid (RI.one .i32 V_5_6 r 21)
            have GE_5_6_12 := HS_5_6
            have HS_5_6_12 := Lib.hid (Nat.le_trans HS_5_6.out hb.size)
            refine hK0.out _ _ HO_5_6_12.out.below (fun hHeld => ?_)
            clear hK0 K0 hb
            generalize (V_5_6.alloc (.cells #[.int .i32 r] 21)) = V_5_6_12 at HO_5_6_12 RI12_5_6_12 HS_5_6_12 hHeld ⊢
            refine wpAnyH_ready (rs := [13]) (by kernel_rfl) (by simp) ?_
            refine AllReadyH.cons (by simp; rfl) (fun K0 hK0 => ?_) AllReadyH.nil
            obtain ⟨A_5_6_12_13, c_5_6_12_13, V_5_6_12_13, hr, hO, hg, _⟩ := HO_5_6_12.out.swap.app (n := m2) (zs := [r]) (m := 1) rfl (HLB.out ()) RI12_5_6_12.out (by omega)
            have HRr := Lib.hid hr
            have HO_5_6_12_13 := Lib.hid (hO.swap)
            have HS_5_6_12_13 := Lib.hid (Nat.le_trans HS_5_6_12.out hg.size)
            refine step_app rfl (.tmp 85) (.tmp 90) _ rfl _ _ rfl rfl HRr.out ?_
            simp only [Act.put, List.setIfInBounds_toArray, setF]; try simp only [List.set_cons_zero, List.set_cons_succ]
            refine hK0.out _ _ HO_5_6_12_13.out.below (fun hHeld => ?_)
            clear hK0 K0 hr hO hg HRr
            refine wpAnyH_take (i := 14) (v := ?_) (by simp; rfl) (by kernel_rfl) (by kernel_rfl) (by kernel_rfl) (by exact fun _ _ _ h => h) (Or.inl ⟨by rfl, fun wx hSx => ?_⟩) hHeld ?_
            rotate_left
            · clear hSx; go_simp; (try with_reducible rfl)
            simp only [Act.put, List.setIfInBounds_toArray, setF]; try simp only [List.set_cons_zero, List.set_cons_succ]
            refine wpAnyH_take (i := 15) (v := ?_) (by simp; rfl) (by kernel_rfl) (by kernel_rfl) (by kernel_rfl) (by exact fun _ _ _ h => h) (Or.inl ⟨by rfl, fun wx hSx => ?_⟩) hHeld ?_
            rotate_left
            · clear hSx; go_simp; (try with_reducible rfl)
            simp only [Act.put, List.setIfInBounds_toArray, setF]; try simp only [List.set_cons_zero, List.set_cons_succ]
            refine wpAnyH_done (by kernel_rfl) ?_ _
            go_wp2
            go_roundw
            case rel => exact ⟨i + 1, by go_num, by omega, Lib.hid ⟨by have h := HO_5_6_12_13.out; rw [HX1.out (), HX2.out ()] at h; exact h, HJ.out⟩⟩
            case measure => simp [intOf]; omega
          · go_simp
            have hb := (Below.refl V_5.heap.size V_5).alloc (Nat.le_refl _) (.cells #[.int .i32 r] 21)
            have HO_5_12 := Lib.hid (HO_5.out.to hb)
            have RI12_5_12 := Lib.hid (RI.one .i32 V_5 r 21)
            have GE_5_12 := HS_5
            have RJ5_5_12 := Lib.hid (RI.below RI5_5.out hb)
            have HS_5_12 := Lib.hid (Nat.le_trans HS_5.out hb.size)
            refine hK0.out _ _ HO_5_12.out.below (fun hHeld => ?_)
            clear hK0 K0 hb
            generalize (V_5.alloc (.cells #[.int .i32 r] 21)) = V_5_12 at HO_5_12 RI12_5_12 HS_5_12 RJ5_5_12 hHeld ⊢
            refine wpAnyH_ready (rs := [6]) (by kernel_rfl) (by simp) ?_
            refine AllReadyH.cons (by simp; rfl) (fun K0 hK0 => ?_) AllReadyH.nil
            obtain ⟨A_5_12_6, c_5_12_6, V_5_12_6, hr, hO, hg, _⟩ := HO_5_12.out.app (n := i + 2) (zs := [r]) (m := 1) rfl (HLA.out ()) RJ5_5_12.out (by omega)
            have HRr := Lib.hid hr
            have HO_5_12_6 := Lib.hid (hO)
            have RJ12_5_12_6 := Lib.hid (RI.grownN RI12_5_12.out hg (HN1.out _ GE_5_12.out))
            have HS_5_12_6 := Lib.hid (Nat.le_trans HS_5_12.out hg.size)
            refine step_app rfl (.tmp 78) (.tmp 83) _ rfl _ _ rfl rfl HRr.out ?_
            simp only [Act.put, List.setIfInBounds_toArray, setF]; try simp only [List.set_cons_zero, List.set_cons_succ]
            refine hK0.out _ _ HO_5_12_6.out.below (fun hHeld => ?_)
            clear hK0 K0 hr hO hg HRr
            refine wpAnyH_ready (rs := [13]) (by kernel_rfl) (by simp) ?_
            refine AllReadyH.cons (by simp; rfl) (fun K0 hK0 => ?_) AllReadyH.nil
            obtain ⟨A_5_12_6_13, c_5_12_6_13, V_5_12_6_13, hr, hO, hg, _⟩ := HO_5_12_6.out.swap.app (n := m2) (zs := [r]) (m := 1) rfl (HLB.out ()) RJ12_5_12_6.out (by omega)
            have HRr := Lib.hid hr
            have HO_5_12_6_13 := Lib.hid (hO.swap)
            have HS_5_12_6_13 := Lib.hid (Nat.le_trans HS_5_12_6.out hg.size)
            refine step_app rfl (.tmp 85) (.tmp 90) _ rfl _ _ rfl rfl HRr.out ?_
            simp only [Act.put, List.setIfInBounds_toArray, setF]; try simp only [List.set_cons_zero, List.set_cons_succ]
            refine hK0.out _ _ HO_5_12_6_13.out.below (fun hHeld => ?_)
            clear hK0 K0 hr hO hg HRr
            refine wpAnyH_take (i := 14) (v := ?_) (by simp; rfl) (by kernel_rfl) (by kernel_rfl) (by kernel_rfl) (by exact fun _ _ _ h => h) (Or.inl ⟨by rfl, fun wx hSx => ?_⟩) hHeld ?_
            rotate_left
            · clear hSx; go_simp; (try with_reducible rfl)
            simp only [Act.put, List.setIfInBounds_toArray, setF]; try simp only [List.set_cons_zero, List.set_cons_succ]
            refine wpAnyH_take (i := 15) (v := ?_) (by simp; rfl) (by kernel_rfl) (by kernel_rfl) (by kernel_rfl) (by exact fun _ _ _ h => h) (Or.inl ⟨by rfl, fun wx hSx => ?_⟩) hHeld ?_
            rotate_left
            · clear hSx; go_simp; (try with_reducible rfl)
            simp only [Act.put, List.setIfInBounds_toArray, setF]; try simp only [List.set_cons_zero, List.set_cons_succ]
            refine wpAnyH_done (by kernel_rfl) ?_ _
            go_wp2
            go_roundw
            case rel => exact ⟨i + 1, by go_num, by omega, Lib.hid ⟨by have h := HO_5_12_6_13.out; rw [HX1.out (), HX2.out ()] at h; exact h, HJ.out⟩⟩
            case measure => simp [intOf]; omega
        · go_simp
          have hb := (Below.refl U0.heap.size U0).alloc (Nat.le_refl _) (.cells #[.int .i32 r] 21)
          have HO_12 := Lib.hid (HO0.out.to hb)
          have RI12_12 := Lib.hid (RI.one .i32 U0 r 21)
          have GE_12 := HS0
          have HS_12 := Lib.hid (Nat.le_trans HS0.out hb.size)
          refine hK0.out _ _ HO_12.out.below (fun hHeld => ?_)
          clear hK0 K0 hb
          generalize (U0.alloc (.cells #[.int .i32 r] 21)) = V_12 at HO_12 RI12_12 HS_12 hHeld ⊢
          refine wpAnyH_ready (rs := [5]) (by kernel_rfl) (by simp) ?_
          refine AllReadyH.cons (by simp; rfl) (fun K0 hK0 => ?_) AllReadyH.nil
          go_simp
          have hb := (Below.refl V_12.heap.size V_12).alloc (Nat.le_refl _) (.cells #[.int .i32 r] 21)
          have HO_12_5 := Lib.hid (HO_12.out.to hb)
          have RI5_12_5 := Lib.hid (RI.one .i32 V_12 r 21)
          have GE_12_5 := HS_12
          have RJ12_12_5 := Lib.hid (RI.below RI12_12.out hb)
          have HS_12_5 := Lib.hid (Nat.le_trans HS_12.out hb.size)
          refine hK0.out _ _ HO_12_5.out.below (fun hHeld => ?_)
          clear hK0 K0 hb
          generalize (V_12.alloc (.cells #[.int .i32 r] 21)) = V_12_5 at HO_12_5 RI5_12_5 HS_12_5 RJ12_12_5 hHeld ⊢
          refine wpAnyH_ready (rs := [6]) (by kernel_rfl) (by simp) ?_
          refine AllReadyH.cons (by simp; rfl) (fun K0 hK0 => ?_) AllReadyH.nil
          obtain ⟨A_12_5_6, c_12_5_6, V_12_5_6, hr, hO, hg, _⟩ := HO_12_5.out.app (n := i + 2) (zs := [r]) (m := 1) rfl (HLA.out ()) RI5_12_5.out (by omega)
          have HRr := Lib.hid hr
          have HO_12_5_6 := Lib.hid (hO)
          have RJ12_12_5_6 := Lib.hid (RI.grownN RJ12_12_5.out hg (HN1.out _ GE_12.out))
          have HS_12_5_6 := Lib.hid (Nat.le_trans HS_12_5.out hg.size)
          refine step_app rfl (.tmp 78) (.tmp 83) _ rfl _ _ rfl rfl HRr.out ?_
          simp only [Act.put, List.setIfInBounds_toArray, setF]; try simp only [List.set_cons_zero, List.set_cons_succ]
          refine hK0.out _ _ HO_12_5_6.out.below (fun hHeld => ?_)
          clear hK0 K0 hr hO hg HRr
          refine wpAnyH_ready (rs := [13]) (by kernel_rfl) (by simp) ?_
          refine AllReadyH.cons (by simp; rfl) (fun K0 hK0 => ?_) AllReadyH.nil
          obtain ⟨A_12_5_6_13, c_12_5_6_13, V_12_5_6_13, hr, hO, hg, _⟩ := HO_12_5_6.out.swap.app (n := m2) (zs := [r]) (m := 1) rfl (HLB.out ()) RJ12_12_5_6.out (by omega)
          have HRr := Lib.hid hr
          have HO_12_5_6_13 := Lib.hid (hO.swap)
          have HS_12_5_6_13 := Lib.hid (Nat.le_trans HS_12_5_6.out hg.size)
          refine step_app rfl (.tmp 85) (.tmp 90) _ rfl _ _ rfl rfl HRr.out ?_
          simp only [Act.put, List.setIfInBounds_toArray, setF]; try simp only [List.set_cons_zero, List.set_cons_succ]
          refine hK0.out _ _ HO_12_5_6_13.out.below (fun hHeld => ?_)
          clear hK0 K0 hr hO hg HRr
          refine wpAnyH_take (i := 14) (v := ?_) (by simp; rfl) (by kernel_rfl) (by kernel_rfl) (by kernel_rfl) (by exact fun _ _ _ h => h) (Or.inl ⟨by rfl, fun wx hSx => ?_⟩) hHeld ?_
          rotate_left
          · clear hSx; go_simp; (try with_reducible rfl)
          simp only [Act.put, List.setIfInBounds_toArray, setF]; try simp only [List.set_cons_zero, List.set_cons_succ]
          refine wpAnyH_take (i := 15) (v := ?_) (by simp; rfl) (by kernel_rfl) (by kernel_rfl) (by kernel_rfl) (by exact fun _ _ _ h => h) (Or.inl ⟨by rfl, fun wx hSx => ?_⟩) hHeld ?_
          rotate_left
          · clear hSx; go_simp; (try with_reducible rfl)
          simp only [Act.put, List.setIfInBounds_toArray, setF]; try simp only [List.set_cons_zero, List.set_cons_succ]
          refine wpAnyH_done (by kernel_rfl) ?_ _
          go_wp2
          go_roundw
          case rel => exact ⟨i + 1, by go_num, by omega, Lib.hid ⟨by have h := HO_12_5_6_13.out; rw [HX1.out (), HX2.out ()] at h; exact h, HJ.out⟩⟩
          case measure => simp [intOf]; omega
    · obtain rfl : i = n := by omega
      have d1 : decide ((i : Int) < (i : Int)) = false := by simp
      have HJL := Lib.hid (fun (_ : Unit) => show ∀ r ∈ l, 32 ≤ r ∧ r < 64 from fun r hr => by
        obtain ⟨j, hj, rfl⟩ := List.getElem_of_mem hr
        have := HI.out.2 j (by rw [← HLL.out ()]; exact hj)
        simpa [List.getD, hj] using this)
      have hX : ([27, 91] ++ l.take i) = [27, 91] ++ l := by rw [← HLL.out (), List.take_length]
      have HLX := Lib.hid (fun (_ : Unit) => show ([27, 91] ++ l).length = i + 2 from by have := HLL.out (); simp; omega)
      have HLY := Lib.hid (fun (_ : Unit) => show ([27, 91] ++ (l.take k ++ [p] ++ l.drop k)).length = i + 3 from by have := HLL.out (); simp; omega)
      by_cases hik : k = i
      · subst hik
        have q1 : ((k : Int) == (k : Int)) = true := by simp
        have hO := HI.out.1
        rw [hX] at hO
        have hbl := (Below.refl wr.heap.size wr).alloc (Nat.le_refl _) (.cells #[.int .i32 p] 21)
        have hw := wth_len (l := l) (k := k) (i := k) (p := p) (by rw [HLL.out ()]; exact Nat.le_refl _)
        rw [if_neg (Nat.lt_irrefl k)] at hw
        obtain ⟨A4, c4, wz, hr4, hO4, _, _⟩ := (hO.to hbl).swap.app (g := wr.heap.size) (n := k + 2) (zs := [p]) (m := 1) rfl (by simp [hw]) (RI.one .i32 wr p 21) (by omega)
        have HR4 := Lib.hid hr4
        have e5 : [27, 91] ++ wth l k p k ++ [p] = [27, 91] ++ (l.take k ++ [p] ++ l.drop k) := by
          unfold wth
          rw [if_neg (Nat.lt_irrefl k), List.drop_eq_nil_of_le (by rw [HLL.out ()]; exact Nat.le_refl _)]; simp
        rw [e5] at hO4
        have HO4 := Lib.hid hO4.swap
        clear hO hbl hw hr4 hO4 e5 hX HI
        go_wp2_with (first | (at_builtin; refine wpList_app rfl (.tmp 96) (.tmp 98) _ rfl _ _ rfl rfl HR4.out ?_) | fail)
        clear HR4
        obtain ⟨v2, hv2⟩ : ∃ x, Value.slice A4 (k + 2 + 1) c4 = x := ⟨_, rfl⟩
        rw [hv2] at HO4 ⊢
        clear hv2
        have HB0 := Lib.hid (HO4.out.below)
        refine (new_calls _).mono ?_
        rintro e wx ⟨rfl, rfl⟩
        go_wp2_with fail
        refine (new_calls _).mono ?_
        rintro e wx ⟨rfl, rfl⟩
        have hnew := new_two (w := wz)
        rw [show (wz.alloc (.cells (qC (beginP 0) (.slice none 0 0) (.slice none 0 0)) 42)).heap.size = wz.heap.size + 1 by simp]
        generalize ((wz.alloc (.cells (qC (beginP 0) (.slice none 0 0) (.slice none 0 0)) 42)).alloc (.cells (qC (beginP 0) (.slice none 0 0) (.slice none 0 0)) 42)) = w2 at hnew ⊢
        obtain ⟨hp, hq, hb⟩ := hnew
        have hb3 := (Below.refl w2.heap.size w2).alloc (Nat.le_refl _) (.cells #[.int .i32 113] 21)
        have hsz2 : wz.heap.size + 2 ≤ w2.heap.size := hp.big
        have hU : w.heap.size ≤ wz.heap.size := HO4.out.below.size
        have n1a := HO4.out.ne1 (Nat.le_refl _)
        have n1b := HO4.out.ne1 (Nat.le_succ wz.heap.size)
        have n2a := HO4.out.swap.ne1 (Nat.le_refl _)
        have n2b := HO4.out.swap.ne1 (Nat.le_succ wz.heap.size)
        have l2 := fun k (e : v2.ownBlock = some k) => own_lt HO4.out.own2 e
        have l1 := fun k (e : u8.ownBlock = some k) => own_lt HO4.out.own1 e
        have hO3 := (HO4.out.to hb).to hb3
        obtain ⟨A4, c4, w4, hr4, hO4, hg4, hs4⟩ := hO3.app (g := w2.heap.size) (n := k + 2) (zs := [113]) (m := 1) rfl (HLX.out ()) (RI.one .i32 w2 113 21) (by omega)
        have hp4 := (hp.below hb3).grownBy hg4 n1a (fun k e => by have := l1 k e; omega)
        have hq4 := (hq.below hb3).grownBy hg4 n1b (fun k e => by have := l1 k e; omega)
        have ha4 := hO4.arg hs4 n1a (by have := hb3.size; omega) (by simp)
        have HR4 := Lib.hid hr4
        obtain ⟨B4, d4, e4, hle4, _⟩ := own_slice hO4.own1
        injection e4 with e4a e4b e4c
        clear e4b
        subst e4a e4c
        have HF := Lib.hid (p_feed hp4 (good_begin 0 (by omega)) (A := A4) (n := k + 2 + 1) (cp := c4) (l := ([27, 91] ++ l) ++ [113]) hO4.ri1.1 (by rw [List.length_append, HLX.out ()]; rfl) (by omega) (by rw [List.length_append, HLX.out ()] at hle4; exact hle4) (fun _ b o q e => ⟨ha4 b o q e, by simp [Value.ownBlock], by simp [Value.ownBlock]⟩))
        have n4a : some wz.heap.size ≠ (Value.slice A4 (k + 2 + 1) c4).ownBlock := fun e => by
          rcases hs4 _ e.symm with x | x
          · exact n1a x.symm
          · have := hb3.size; omega
        have HO4 := Lib.hid hO4
        have HQ4 := Lib.hid hq4
        have HNN := Lib.hid (And.intro n4a (And.intro n2a (And.intro n2b l2)))
        have HUU := Lib.hid (And.intro hU hsz2)
        have H42 := Lib.hid (show w2.heap.size ≤ w4.heap.size from Nat.le_trans hb3.size hg4.size)
        clear hp hq hb hb3 hsz2 hU n1a n1b n2a n2b l1 l2 hO3 hr4 hO4 hg4 hs4 hp4 hq4 ha4 hle4 n4a
        go_wp2_with (first | (at_builtin; refine wpList_app rfl (.tmp 104) (.tmp 105) _ rfl _ _ rfl rfl HR4.out ?_))
        refine HF.out.mono ?_
        rintro e w5 ⟨vp, vt, va, es, rfl, hF, hM⟩
        have hf5 := hF.f
        have hO5 := HO4.out.fr2 hf5 HUU.out.1 HNN.out.1 HNN.out.2.1
        have hq5 := HQ4.out.other (vp2 := vp) (vt2 := vt) (s2 := beginP 0) hf5 (by omega) (by omega)
        have hEA := hF.evo (B := wz.heap.size + 2) (by have := H42.out; have := HUU.out; omega)
        have hb6 := (Below.refl w5.heap.size w5).alloc (Nat.le_refl _) (.cells #[.int .i32 113] 21)
        have h54 := hf5.size
        obtain ⟨A7, c7, w7, hr7, hO7, hg7, hs7⟩ := (hO5.to hb6).swap.app (g := w5.heap.size) (n := k + 3) (zs := [113]) (m := 1) rfl (HLY.out ()) (RI.one .i32 w5 113 21) (by omega)
        have hp7 := (hF.q.below hb6).grownBy hg7 HNN.out.2.1 (fun k e => by have := HNN.out.2.2.2 k e; omega)
        have hq7 := (hq5.below hb6).grownBy hg7 HNN.out.2.2.1 (fun k e => by have := HNN.out.2.2.2 k e; omega)
        have hEA7 := (hEA.keep (KeepB.below hb6)).keep (KeepB.grown hg7 (fun k e => by have := HNN.out.2.2.2 k e; omega))
        have ha7 := hO7.arg hs7 HNN.out.2.2.1 (by have := hb6.size; have := H42.out; have := HUU.out; omega) (by simp)
        obtain ⟨B7, d7, e7, hle7, _⟩ := own_slice hO7.own1
        injection e7 with e7a e7b e7c
        clear e7b
        subst e7a e7c
        have HG := Lib.hid (p_feed hq7 (good_begin 0 (by omega)) (A := A7) (n := k + 3 + 1) (cp := c7) (l := ([27, 91] ++ (l.take k ++ [p] ++ l.drop k)) ++ [113]) hO7.ri1.1 (by rw [List.length_append, HLY.out ()]; rfl) (by omega) (by rw [List.length_append, HLY.out ()] at hle7; exact hle7) (fun _ b o q e => ⟨ha7 b o q e, by simp [Value.ownBlock], by simp [Value.ownBlock]⟩))
        have HR7 := Lib.hid hr7
        have HEA := Lib.hid hEA7
        have HP7 := Lib.hid hp7
        have HQ7 := Lib.hid hq7
        have HB7 := Lib.hid hO7.below
        have HM := Lib.hid (fun (_ : Unit) => hM)
        have HSZ7 := Lib.hid (show wz.heap.size + 2 ≤ w7.heap.size from by have := hb6.size; have := hg7.size; have := H42.out; have := HUU.out; omega)
        obtain ⟨vA, hvA⟩ : ∃ x, va = x := ⟨_, rfl⟩
        clear hF hM hf5 hO5 hq5 hEA hb6 h54 hr7 hO7 hg7 hs7 hp7 hq7 hEA7 ha7 hle7 HF HR4 HO4 HQ4 H42
        subst hvA
        go_wp2_with (first | (at_builtin; refine wpList_app rfl (.tmp 112) (.tmp 113) _ rfl _ _ rfl rfl HR7.out ?_))
        refine HG.out.mono ?_
        rintro e w8 ⟨vp2, vt2, vb, es2, rfl, hG, hM2⟩
        have hU1 := HUU.out.1
        have hEA8 := HEA.out.keep (hG.f.keepB (B := wz.heap.size + 2) (by omega))
        have hEB8 := hG.evo (B := wz.heap.size + 2) HSZ7.out
        have hp8 := HP7.out.other (vp2 := vp2) (vt2 := vt2) (s2 := beginP 0) hG.f (by omega) (by omega)
        have hb8 := hG.belowW (w0 := w) (by omega) ⟨_, HQ7.out⟩ HB7.out
        obtain ⟨Aa, ca, rfl, _, _, _, hqa, _⟩ := hEA8.evq
        obtain ⟨Ab, cb, rfl, hb1, hb2, hb3, hqb, _⟩ := hEB8.evq
        obtain ⟨r1, r2⟩ := rel_feeds (([27, 91] ++ l) ++ [113]) rel_zero (good_begin 0 (by omega))
        obtain ⟨r3, r4⟩ := rel_feeds (([27, 91] ++ (l.take k ++ [p] ++ l.drop k)) ++ [113]) rel_zero (good_begin 0 (by omega))
        have i1 := rel_idle r1
        have i3 := rel_idle r3
        have hfx : feedsS [] (([27, 91] ++ l) ++ [113]) = ([], qEnd l) := inside_plain (HJL.out ())
        have hfy : feedsS [] (([27, 91] ++ (l.take k ++ [p] ++ l.drop k)) ++ [113]) = ([], ⟨2, p, 0, 0, 0, [], []⟩ :: qEnd l) := by
          rw [show ([27, 91] ++ (l.take k ++ [p] ++ l.drop k)) ++ [113] = [27, 91] ++ l.take k ++ [p] ++ l.drop k ++ [113] by simp]
          exact inside_with (HJL.out ()) HPP.out.1 HPP.out.2.1 HPP.out.2.2
        rw [hfx] at i1 r2
        rw [hfy] at i3 r4
        dsimp only at i1 i3 r2 r4
        have hm1 : es.map Prod.fst = qEnd l := (HM.out ()).trans r2
        have hm2 : es2.map Prod.fst = ⟨2, p, 0, 0, 0, [], []⟩ :: qEnd l := hM2.trans r4
        have ho1 : ∀ i, ((qEnd l).getD i evZ).params.length ≤ 100000 := fun i => by rw [← r2]; exact ok_get (ok_feeds (([27, 91] ++ l) ++ [113]) (good_begin 0 (by omega))) i
        have hl1 : (qEnd l).length ≤ 2000 := by
          rw [← r2]
          have := feedsP_len (([27, 91] ++ l) ++ [113]) (beginP 0)
          rw [List.length_append, HLX.out ()] at this
          have e1 : ([113] : List Int).length = 1 := rfl
          omega
        rw [hm1] at hqa
        rw [hm2] at hqb
        obtain ⟨la, hla⟩ : ∃ n, es.length = n := ⟨_, rfl⟩
        obtain ⟨lb, hlb⟩ : ∃ n, es2.length = n := ⟨_, rfl⟩
        have hq1 : (qEnd l).length = la := by rw [← hm1, List.length_map, hla]
        have hq2 : lb = la + 1 := by rw [← hlb, ← hq1]; have := congrArg List.length hm2; simpa using this
        obtain ⟨bb, ob, rfl, _, hlt, hcb⟩ := hqb (by simp)
        obtain ⟨Ax, cx, y0, y1, _⟩ := hcb 0 (by simp)
        obtain ⟨A9, hA9, hsl⟩ := slice_from_ev (b := bb) (off := ob) (n := lb) (cap := cb) (by omega) (by omega)
        have hq9 := hA9 _ _ _ _ hqb (by omega)
        rw [hla]
        rw [hlb]
        rw [hlb] at hb1
        obtain ⟨l9, hl9⟩ : ∃ n, lb - 1 = n := ⟨_, rfl⟩
        obtain ⟨c9, hc9⟩ : ∃ n, cb - 1 = n := ⟨_, rfl⟩
        rw [hl9, hc9] at hsl
        obtain rfl : l9 = la := by omega
        have y0' : w8.cell? ⟨bb, ob, none⟩ = some (.int .i64 2) := by simpa using y0
        have y1' : w8.cell? ⟨bb, ob + 1, none⟩ = some (.int .i32 p) := by simpa using y1
        have d1 : IntKind.i64.wrap ((l9 : Int) + 1) = (l9 : Int) + 1 := IntWalk.i64_in _ (by omega)
        have d2 : ((lb : Int) != (l9 : Int) + 1) = false := by simp; omega
        have d3 : (p != p) = false := by simp
        have g5 : (0 : Int) < (lb : Int) := by omega
        have g6 : (1 : Int) ≤ (lb : Int) := by omega
        have HALL := Lib.hid (fun (X : World) (hX : Below w8.heap.size w8 X) => all_true (w := X) (n := l9) (ca := ca) (cb := c9) (hqa.below hX).evr (hq9.below hX).evr hq1 (by omega) (fun i _ => ho1 i))
        have HP8 := Lib.hid hp8
        have HQ8 := Lib.hid hG.q
        have HB8 := Lib.hid hb8
        have HI1 := Lib.hid (fun (_ : Unit) => i1)
        have HI3 := Lib.hid (fun (_ : Unit) => i3)
        clear hG hM2 hU1 hEA8 hEB8 hp8 hb8 hb1 hb2 hb3 hqa hqb r1 r2 r3 r4 i1 i3 hfx hfy hm1 hm2 ho1 hl1 hq1 hq2 hlt hcb y0 y1 hA9 hq9 hla hlb hl9 hc9 HG HR7 HEA HP7 HQ7 HB7 HM HSZ7 HJL HPP HNN HUU
        go_wp2_with fail
        refine (HAL.out _).mono ?_
        rintro e w9 ⟨rfl, hx9⟩
        clear y0' y1'
        have HX9 := Lib.hid hx9
        clear hx9
        go_wp2_with fail
        refine (HALL.out _ HX9.out).mono ?_
        rintro e w10 ⟨rfl, hx10⟩
        have HX10 := Lib.hid (HX9.out.trans (hx10.mono HX9.out.size))
        clear hx10 HALL HX9
        go_wp2_with fail
        refine (p_idle (HP8.out.below HX10.out)).mono ?_
        rintro e wx ⟨rfl, rfl⟩
        rw [HI1.out ()]
        go_wp2_with fail
        refine (p_idle (HQ8.out.below HX10.out)).mono ?_
        rintro e wx ⟨rfl, rfl⟩
        rw [HI3.out ()]
        have HZ := Lib.hid (HB8.out.trans (HX10.out.mono HB8.out.size))
        clear HP8 HQ8 HB8 HI1 HI3 HX10
        go_wp2
        go_ret
        exact ⟨rfl, HZ.out⟩
      · have q1 : ((k : Int) == (i : Int)) = false := by simp; omega
        have q1' : (k == i) = false := by simp; omega
        have hO := HI.out.1
        rw [hX] at hO
        have e5 : wth l k p i = l.take k ++ [p] ++ l.drop k := by
          have h := wth_end (l := l) (k := k) (p := p) (by rw [HLL.out ()]; omega)
          rw [HLL.out ()] at h; exact h
        rw [e5] at hO
        have HO4 := Lib.hid hO
        clear hO e5 hX HI
        go_wp2_with fail
        have HB0 := Lib.hid (HO4.out.below)
        refine (new_calls _).mono ?_
        rintro e wx ⟨rfl, rfl⟩
        go_wp2_with fail
        refine (new_calls _).mono ?_
        rintro e wx ⟨rfl, rfl⟩
        have hnew := new_two (w := wr)
        rw [show (wr.alloc (.cells (qC (beginP 0) (.slice none 0 0) (.slice none 0 0)) 42)).heap.size = wr.heap.size + 1 by simp]
        generalize ((wr.alloc (.cells (qC (beginP 0) (.slice none 0 0) (.slice none 0 0)) 42)).alloc (.cells (qC (beginP 0) (.slice none 0 0) (.slice none 0 0)) 42)) = w2 at hnew ⊢
        obtain ⟨hp, hq, hb⟩ := hnew
        have hb3 := (Below.refl w2.heap.size w2).alloc (Nat.le_refl _) (.cells #[.int .i32 113] 21)
        have hsz2 : wr.heap.size + 2 ≤ w2.heap.size := hp.big
        have hU : w.heap.size ≤ wr.heap.size := HO4.out.below.size
        have n1a := HO4.out.ne1 (Nat.le_refl _)
        have n1b := HO4.out.ne1 (Nat.le_succ wr.heap.size)
        have n2a := HO4.out.swap.ne1 (Nat.le_refl _)
        have n2b := HO4.out.swap.ne1 (Nat.le_succ wr.heap.size)
        have l2 := fun k (e : u9.ownBlock = some k) => own_lt HO4.out.own2 e
        have l1 := fun k (e : u8.ownBlock = some k) => own_lt HO4.out.own1 e
        have hO3 := (HO4.out.to hb).to hb3
        obtain ⟨A4, c4, w4, hr4, hO4, hg4, hs4⟩ := hO3.app (g := w2.heap.size) (n := i + 2) (zs := [113]) (m := 1) rfl (HLX.out ()) (RI.one .i32 w2 113 21) (by omega)
        have hp4 := (hp.below hb3).grownBy hg4 n1a (fun k e => by have := l1 k e; omega)
        have hq4 := (hq.below hb3).grownBy hg4 n1b (fun k e => by have := l1 k e; omega)
        have ha4 := hO4.arg hs4 n1a (by have := hb3.size; omega) (by simp)
        have HR4 := Lib.hid hr4
        obtain ⟨B4, d4, e4, hle4, _⟩ := own_slice hO4.own1
        injection e4 with e4a e4b e4c
        clear e4b
        subst e4a e4c
        have HF := Lib.hid (p_feed hp4 (good_begin 0 (by omega)) (A := A4) (n := i + 2 + 1) (cp := c4) (l := ([27, 91] ++ l) ++ [113]) hO4.ri1.1 (by rw [List.length_append, HLX.out ()]; rfl) (by omega) (by rw [List.length_append, HLX.out ()] at hle4; exact hle4) (fun _ b o q e => ⟨ha4 b o q e, by simp [Value.ownBlock], by simp [Value.ownBlock]⟩))
        have n4a : some wr.heap.size ≠ (Value.slice A4 (i + 2 + 1) c4).ownBlock := fun e => by
          rcases hs4 _ e.symm with x | x
          · exact n1a x.symm
          · have := hb3.size; omega
        have HO4 := Lib.hid hO4
        have HQ4 := Lib.hid hq4
        have HNN := Lib.hid (And.intro n4a (And.intro n2a (And.intro n2b l2)))
        have HUU := Lib.hid (And.intro hU hsz2)
        have H42 := Lib.hid (show w2.heap.size ≤ w4.heap.size from Nat.le_trans hb3.size hg4.size)
        clear hp hq hb hb3 hsz2 hU n1a n1b n2a n2b l1 l2 hO3 hr4 hO4 hg4 hs4 hp4 hq4 ha4 hle4 n4a
        go_wp2_with (first | (at_builtin; refine wpList_app rfl (.tmp 104) (.tmp 105) _ rfl _ _ rfl rfl HR4.out ?_))
        refine HF.out.mono ?_
        rintro e w5 ⟨vp, vt, va, es, rfl, hF, hM⟩
        have hf5 := hF.f
        have hO5 := HO4.out.fr2 hf5 HUU.out.1 HNN.out.1 HNN.out.2.1
        have hq5 := HQ4.out.other (vp2 := vp) (vt2 := vt) (s2 := beginP 0) hf5 (by omega) (by omega)
        have hEA := hF.evo (B := wr.heap.size + 2) (by have := H42.out; have := HUU.out; omega)
        have hb6 := (Below.refl w5.heap.size w5).alloc (Nat.le_refl _) (.cells #[.int .i32 113] 21)
        have h54 := hf5.size
        obtain ⟨A7, c7, w7, hr7, hO7, hg7, hs7⟩ := (hO5.to hb6).swap.app (g := w5.heap.size) (n := i + 3) (zs := [113]) (m := 1) rfl (HLY.out ()) (RI.one .i32 w5 113 21) (by omega)
        have hp7 := (hF.q.below hb6).grownBy hg7 HNN.out.2.1 (fun k e => by have := HNN.out.2.2.2 k e; omega)
        have hq7 := (hq5.below hb6).grownBy hg7 HNN.out.2.2.1 (fun k e => by have := HNN.out.2.2.2 k e; omega)
        have hEA7 := (hEA.keep (KeepB.below hb6)).keep (KeepB.grown hg7 (fun k e => by have := HNN.out.2.2.2 k e; omega))
        have ha7 := hO7.arg hs7 HNN.out.2.2.1 (by have := hb6.size; have := H42.out; have := HUU.out; omega) (by simp)
        obtain ⟨B7, d7, e7, hle7, _⟩ := own_slice hO7.own1
        injection e7 with e7a e7b e7c
        clear e7b
        subst e7a e7c
        have HG := Lib.hid (p_feed hq7 (good_begin 0 (by omega)) (A := A7) (n := i + 3 + 1) (cp := c7) (l := ([27, 91] ++ (l.take k ++ [p] ++ l.drop k)) ++ [113]) hO7.ri1.1 (by rw [List.length_append, HLY.out ()]; rfl) (by omega) (by rw [List.length_append, HLY.out ()] at hle7; exact hle7) (fun _ b o q e => ⟨ha7 b o q e, by simp [Value.ownBlock], by simp [Value.ownBlock]⟩))
        have HR7 := Lib.hid hr7
        have HEA := Lib.hid hEA7
        have HP7 := Lib.hid hp7
        have HQ7 := Lib.hid hq7
        have HB7 := Lib.hid hO7.below
        have HM := Lib.hid (fun (_ : Unit) => hM)
        have HSZ7 := Lib.hid (show wr.heap.size + 2 ≤ w7.heap.size from by have := hb6.size; have := hg7.size; have := H42.out; have := HUU.out; omega)
        obtain ⟨vA, hvA⟩ : ∃ x, va = x := ⟨_, rfl⟩
        clear hF hM hf5 hO5 hq5 hEA hb6 h54 hr7 hO7 hg7 hs7 hp7 hq7 hEA7 ha7 hle7 HF HR4 HO4 HQ4 H42
        subst hvA
        go_wp2_with (first | (at_builtin; refine wpList_app rfl (.tmp 112) (.tmp 113) _ rfl _ _ rfl rfl HR7.out ?_))
        refine HG.out.mono ?_
        rintro e w8 ⟨vp2, vt2, vb, es2, rfl, hG, hM2⟩
        have hU1 := HUU.out.1
        have hEA8 := HEA.out.keep (hG.f.keepB (B := wr.heap.size + 2) (by omega))
        have hEB8 := hG.evo (B := wr.heap.size + 2) HSZ7.out
        have hp8 := HP7.out.other (vp2 := vp2) (vt2 := vt2) (s2 := beginP 0) hG.f (by omega) (by omega)
        have hb8 := hG.belowW (w0 := w) (by omega) ⟨_, HQ7.out⟩ HB7.out
        obtain ⟨Aa, ca, rfl, _, _, _, hqa, _⟩ := hEA8.evq
        obtain ⟨Ab, cb, rfl, hb1, hb2, hb3, hqb, _⟩ := hEB8.evq
        obtain ⟨r1, r2⟩ := rel_feeds (([27, 91] ++ l) ++ [113]) rel_zero (good_begin 0 (by omega))
        obtain ⟨r3, r4⟩ := rel_feeds (([27, 91] ++ (l.take k ++ [p] ++ l.drop k)) ++ [113]) rel_zero (good_begin 0 (by omega))
        have i1 := rel_idle r1
        have i3 := rel_idle r3
        have hfx : feedsS [] (([27, 91] ++ l) ++ [113]) = ([], qEnd l) := inside_plain (HJL.out ())
        have hfy : feedsS [] (([27, 91] ++ (l.take k ++ [p] ++ l.drop k)) ++ [113]) = ([], ⟨2, p, 0, 0, 0, [], []⟩ :: qEnd l) := by
          rw [show ([27, 91] ++ (l.take k ++ [p] ++ l.drop k)) ++ [113] = [27, 91] ++ l.take k ++ [p] ++ l.drop k ++ [113] by simp]
          exact inside_with (HJL.out ()) HPP.out.1 HPP.out.2.1 HPP.out.2.2
        rw [hfx] at i1 r2
        rw [hfy] at i3 r4
        dsimp only at i1 i3 r2 r4
        have hm1 : es.map Prod.fst = qEnd l := (HM.out ()).trans r2
        have hm2 : es2.map Prod.fst = ⟨2, p, 0, 0, 0, [], []⟩ :: qEnd l := hM2.trans r4
        have ho1 : ∀ i, ((qEnd l).getD i evZ).params.length ≤ 100000 := fun i => by rw [← r2]; exact ok_get (ok_feeds (([27, 91] ++ l) ++ [113]) (good_begin 0 (by omega))) i
        have hl1 : (qEnd l).length ≤ 2000 := by
          rw [← r2]
          have := feedsP_len (([27, 91] ++ l) ++ [113]) (beginP 0)
          rw [List.length_append, HLX.out ()] at this
          have e1 : ([113] : List Int).length = 1 := rfl
          omega
        rw [hm1] at hqa
        rw [hm2] at hqb
        obtain ⟨la, hla⟩ : ∃ n, es.length = n := ⟨_, rfl⟩
        obtain ⟨lb, hlb⟩ : ∃ n, es2.length = n := ⟨_, rfl⟩
        have hq1 : (qEnd l).length = la := by rw [← hm1, List.length_map, hla]
        have hq2 : lb = la + 1 := by rw [← hlb, ← hq1]; have := congrArg List.length hm2; simpa using this
        obtain ⟨bb, ob, rfl, _, hlt, hcb⟩ := hqb (by simp)
        obtain ⟨Ax, cx, y0, y1, _⟩ := hcb 0 (by simp)
        obtain ⟨A9, hA9, hsl⟩ := slice_from_ev (b := bb) (off := ob) (n := lb) (cap := cb) (by omega) (by omega)
        have hq9 := hA9 _ _ _ _ hqb (by omega)
        rw [hla]
        rw [hlb]
        rw [hlb] at hb1
        obtain ⟨l9, hl9⟩ : ∃ n, lb - 1 = n := ⟨_, rfl⟩
        obtain ⟨c9, hc9⟩ : ∃ n, cb - 1 = n := ⟨_, rfl⟩
        rw [hl9, hc9] at hsl
        obtain rfl : l9 = la := by omega
        have y0' : w8.cell? ⟨bb, ob, none⟩ = some (.int .i64 2) := by simpa using y0
        have y1' : w8.cell? ⟨bb, ob + 1, none⟩ = some (.int .i32 p) := by simpa using y1
        have d1 : IntKind.i64.wrap ((l9 : Int) + 1) = (l9 : Int) + 1 := IntWalk.i64_in _ (by omega)
        have d2 : ((lb : Int) != (l9 : Int) + 1) = false := by simp; omega
        have d3 : (p != p) = false := by simp
        have g5 : (0 : Int) < (lb : Int) := by omega
        have g6 : (1 : Int) ≤ (lb : Int) := by omega
        have HALL := Lib.hid (fun (X : World) (hX : Below w8.heap.size w8 X) => all_true (w := X) (n := l9) (ca := ca) (cb := c9) (hqa.below hX).evr (hq9.below hX).evr hq1 (by omega) (fun i _ => ho1 i))
        have HP8 := Lib.hid hp8
        have HQ8 := Lib.hid hG.q
        have HB8 := Lib.hid hb8
        have HI1 := Lib.hid (fun (_ : Unit) => i1)
        have HI3 := Lib.hid (fun (_ : Unit) => i3)
        clear hG hM2 hU1 hEA8 hEB8 hp8 hb8 hb1 hb2 hb3 hqa hqb r1 r2 r3 r4 i1 i3 hfx hfy hm1 hm2 ho1 hl1 hq1 hq2 hlt hcb y0 y1 hA9 hq9 hla hlb hl9 hc9 HG HR7 HEA HP7 HQ7 HB7 HM HSZ7 HJL HPP HNN HUU
        go_wp2_with fail
        refine (HAL.out _).mono ?_
        rintro e w9 ⟨rfl, hx9⟩
        clear y0' y1'
        have HX9 := Lib.hid hx9
        clear hx9
        go_wp2_with fail
        refine (HALL.out _ HX9.out).mono ?_
        rintro e w10 ⟨rfl, hx10⟩
        have HX10 := Lib.hid (HX9.out.trans (hx10.mono HX9.out.size))
        clear hx10 HALL HX9
        go_wp2_with fail
        refine (p_idle (HP8.out.below HX10.out)).mono ?_
        rintro e wx ⟨rfl, rfl⟩
        rw [HI1.out ()]
        go_wp2_with fail
        refine (p_idle (HQ8.out.below HX10.out)).mono ?_
        rintro e wx ⟨rfl, rfl⟩
        rw [HI3.out ()]
        have HZ := Lib.hid (HB8.out.trans (HX10.out.mono HB8.out.size))
        clear HP8 HQ8 HB8 HI1 HI3 HX10
        go_wp2
        go_ret
        exact ⟨rfl, HZ.out⟩
end Go.Proofs.Ytfacnemgjdmlmaa
