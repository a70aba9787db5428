/-
  Proved here: the document's own One: what stands at a place of bytes.
-/
import Derived.Test.YtidjcbnjadlbaaaUr
namespace Go.Proofs.Ytidjcbnjadlbaaa
open Go.RowKit
/-- How great the number may be, ahead of the i-th byte. -/
def vB (i : Nat) : Int := if i = 1 then 31 else if i = 2 then 2200 else if i = 3 then 150000 else 10000000
theorem vB_step {i : Nat} {v c : Int} (hi : 1 ≤ i) (hi3 : i ≤ 3) (h0 : -vB i ≤ v) (h1 : v ≤ vB i) (c0 : 0 ≤ c) (c1 : c < 256) : -vB (i + 1) ≤ 64 * v + c - 128 ∧ 64 * v + c - 128 ≤ vB (i + 1) := by
  have : i = 1 ∨ i = 2 ∨ i = 3 := by omega
  rcases this with rfl | rfl | rfl
  · have e1 : vB 1 = 31 := rfl
    have e2 : vB (1 + 1) = 2200 := rfl
    omega
  · have e1 : vB 2 = 2200 := rfl
    have e2 : vB (2 + 1) = 150000 := rfl
    omega
  · have e1 : vB 3 = 150000 := rfl
    have e2 : vB (3 + 1) = 10000000 := rfl
    omega
theorem vB_le (i : Nat) : vB i ≤ 10000000 := by unfold vB; split <;> (try split) <;> (try split) <;> omega
theorem drop_at {bs : List Int} {i : Nat} (hi : i < bs.length) : bs.drop i = bs.getD i 0 :: bs.drop (i + 1) := by
  rw [List.drop_eq_getElem_cons hi]; simp [List.getD, hi]
theorem fol_range {c : Int} {n : Nat} (h : fol c = n) (hn : n ≠ 0) : 194 ≤ c ∧ c ≤ 244 ∧ (0 ≤ c - topB n ∧ c - topB n ≤ 31) ∧ n ≤ 3 := by
  unfold fol at h
  split at h
  · subst h; have : topB 1 = 192 := rfl; omega
  · split at h
    · subst h; have : topB 2 = 224 := rfl; omega
    · split at h
      · subst h; have : topB 3 = 240 := rfl; omega
      · exact absurd h.symm hn
set_option maxRecDepth 100000 in
set_option maxHeartbeats 1000000 in
theorem rone_any {w : World} {A : Option Addr} {n c : Nat} {bs : List Int} (hR : RI .u8 w A bs) (hl : bs.length = n) (hn : n ≤ 100000) (hb : ∀ j, j < n → 0 ≤ bs.getD j 0 ∧ bs.getD j 0 < 256) (i : Nat) (hi : i < n) :
    Calls Try.prog 35 #[.slice A n c, .int .i64 i] w fun e w' => e = .returned (.tuple #[.int .i32 (one (bs.drop i)).1, .int .i64 ((one (bs.drop i)).2 : Nat)]) ∧ Below w.heap.size w w' := by
  obtain ⟨bl, off, rfl, hbl, hc⟩ := hR (by omega)
  have e0 := hc i (by omega)
  have hd := drop_at (bs := bs) (i := i) (by omega)
  have hb0 := hb i hi
  obtain ⟨f, hf⟩ : ∃ f, bs.getD i 0 = f := ⟨_, rfl⟩
  rw [hf] at e0 hd hb0
  obtain ⟨r, hr⟩ : ∃ r, one (bs.drop i) = r := ⟨_, rfl⟩
  have HRr := Lib.hid (fun (_ : Unit) => hr)
  have HD := Lib.hid (fun (_ : Unit) => hd)
  have HC := Lib.hid hc
  have HB := Lib.hid hb
  have HL := Lib.hid hl
  have g3 : (0 : Int) ≤ (i : Int) := by omega
  have g4 : (i : Int) < (n : Int) := by omega
  obtain ⟨b0, b1⟩ := hb0
  rw [hr]
  clear hR hc hd hr hf hb
  by_cases h128 : f < 128
  · have e : r = (f, 1) := by rw [← HRr.out (), HD.out (), one_cons, if_pos h128]
    subst e
    clear HRr HD
    go_enter Try.func35, Try.ntmps35
    go_wp2
    go_returns
    exact ⟨rfl, Below.refl _ _⟩
  · obtain ⟨N, hN⟩ : ∃ N, fol f = N := ⟨_, rfl⟩
    have HN := Lib.hid (fun (_ : Unit) => hN)
    have HF : Hid (∀ w : World, Calls Try.prog 41 #[.int .i64 f] w fun e w' => e = .returned (.int .i64 (N : Nat)) ∧ w = w') := Lib.hid (fun w => hN ▸ rfollows_any f w)
    clear hN
    by_cases hN0 : N = 0
    · have e : r = (65533, 1) := by rw [← HRr.out (), HD.out (), one_cons, if_neg h128, HN.out (), if_pos hN0]
      subst e hN0
      clear HRr HD HN
      go_enter Try.func35, Try.ntmps35
      go_wp2_with fail
      refine (HF.out _).mono ?_
      rintro e w' ⟨rfl, rfl⟩
      go_wp2
      go_returns
      exact ⟨rfl, Below.refl _ _⟩
    · have e : cont f (f - topB N) 1 N (bs.drop (i + 1)) = r := by rw [← HRr.out (), HD.out (), one_cons, if_neg h128, HN.out (), if_neg hN0]
      obtain ⟨f0, f1, ⟨f2, f3⟩, hN3⟩ := fol_range (HN.out ()) hN0
      have HE := Lib.hid (fun (_ : Unit) => e)
      have z0 : ((N : Int) == 0) = false := by simp; exact hN0
      have z1 : (0 : Int) ≤ (N : Int) := by omega
      have z2 : (N : Int) < 4 := by omega
      obtain ⟨t, ht⟩ : ∃ t, topB N = t := ⟨_, rfl⟩
      have HT := Lib.hid (fun (_ : Unit) => ht)
      rw [ht] at HE f2 f3
      clear HRr HD HN e ht
      go_enter Try.func35, Try.ntmps35
      go_wp2_with fail
      refine (HF.out _).mono ?_
      rintro e w' ⟨rfl, rfl⟩
      have hrow : ((w.alloc (.cells #[.int .i64 0, .int .i64 192, .int .i64 224, .int .i64 240] 3)).cell? ⟨w.heap.size, N, none⟩) = some (.int .i64 t) := by
        have h4 : (w.alloc (.cells #[.int .i64 0, .int .i64 192, .int .i64 224, .int .i64 240] 3)).heap[w.heap.size]? = some (.cells #[.int .i64 0, .int .i64 192, .int .i64 224, .int .i64 240] 3 (0, 0)) := heap_alloc_new _ _
        have : N = 1 ∨ N = 2 ∨ N = 3 := by omega
        rcases this with h | h | h
        · subst h; rw [← HT.out ()]; unfold World.cell?; dsimp only; rw [h4]; rfl
        · subst h; rw [← HT.out ()]; unfold World.cell?; dsimp only; rw [h4]; rfl
        · subst h; rw [← HT.out ()]; unfold World.cell?; dsimp only; rw [h4]; rfl
      have hBl : Below w.heap.size w (w.alloc (.cells #[.int .i64 0, .int .i64 192, .int .i64 224, .int .i64 240] 3)) := (Below.refl _ _).alloc (Nat.le_refl _) _
      have HBl := Lib.hid hBl
      clear hBl
      go_wp2
      have t0 : IntKind.i64.wrap (f - t) = f - t := IntWalk.i64_in _ (by omega)
      obtain ⟨W, hW⟩ : ∃ W, w.alloc (.cells #[.int .i64 0, .int .i64 192, .int .i64 224, .int .i64 240] 3) = W := ⟨_, rfl⟩
      rw [hW] at HBl ⊢
      clear hW hrow t0 z0
      have HV0 := Lib.hid (show -vB 1 ≤ f - t ∧ f - t ≤ vB 1 from by have : vB 1 = 31 := rfl; omega)
      go_loopw [9, 10] (fun vv jv wr => ∃ (j : Nat) (v : Int), 1 ≤ j ∧ j ≤ N + 1 ∧ jv = .int .i64 j ∧ vv = .int .i64 v ∧ Hid (-vB j ≤ v ∧ v ≤ vB j) ∧ Hid (Unit → cont f v j (N + 1 - j) (bs.drop (i + j)) = r) ∧ W = wr) (fun _ jv _ => 5 - (intOf jv).toNat)
      case atStart => exact ⟨1, _, by omega, by omega, rfl, rfl, HV0, Lib.hid (fun _ => HE.out ()), rfl⟩
      case round =>
        obtain ⟨j, v, hj1, hjN, rfl, rfl, HV, HK, rfl⟩ := hrel
        clear HE HV0 f2 f3
        by_cases hjn : j ≤ N
        · obtain ⟨k, hk⟩ : ∃ k, N + 1 - j = k + 1 := ⟨N - j, by omega⟩
          have HK2 := Lib.hid (fun (_ : Unit) => show N + 1 - (j + 1) = k by omega)
          have hij : IntKind.i64.wrap ((i : Int) + (j : Int)) = ((i + j : Nat) : Int) := by rw [← Int.natCast_add]; exact IntWalk.i64_in _ (by omega)
          have le1 : decide ((j : Int) ≤ (N : Int)) = true := by simp; omega
          have le2 : decide (j ≤ N) = true := by simp; omega
          by_cases hin : i + j < n
          · have hdj := drop_at (bs := bs) (i := i + j) (by rw [HL.out]; exact hin)
            have e1 : W.cell? ⟨bl, off + (i + j), none⟩ = some (.int .u8 (bs.getD (i + j) 0)) := (HBl.out.cell (p := ⟨bl, off + (i + j), none⟩) hbl).trans (HC.out (i + j) (by rw [HL.out]; exact hin))
            have hb1 := HB.out (i + j) hin
            obtain ⟨c', hc'⟩ : ∃ c', bs.getD (i + j) 0 = c' := ⟨_, rfl⟩
            rw [hc'] at hdj e1 hb1
            obtain ⟨x0, x1⟩ := hb1
            have HKK := Lib.hid (fun (_ : Unit) => show cont f v j (k + 1) (c' :: bs.drop (i + j + 1)) = r from by rw [← hdj, ← hk]; exact HK.out ())
            have q1 : decide ((n : Int) ≤ ((i + j : Nat) : Int)) = false := by simp; omega
            have q2 : decide (n ≤ i + j) = false := by simp; omega
            have g5 : (0 : Int) ≤ ((i + j : Nat) : Int) := by omega
            have g6 : ((i + j : Nat) : Int) < (n : Int) := by omega
            obtain ⟨y, hy⟩ : ∃ y, mayB f j c' = y := ⟨_, rfl⟩
            have HY := Lib.hid (fun (_ : Unit) => hy)
            have HM : Hid (∀ w : World, Calls Try.prog 42 #[.int .i64 f, .int .i64 j, .int .i64 c'] w fun e w' => e = .returned (.bool y) ∧ w = w') := Lib.hid (fun w => hy ▸ rmay_any f c' j w)
            clear hy hdj hc' HK hk
            cases y
            · have e : r = (65533, j) := by rw [← HKK.out (), contN (HY.out ())]
              subst e
              clear HKK HY HV
              go_wp2_with (go_at_call 42; refine (HM.out _).mono ?_; rintro e w' ⟨rfl, rfl⟩)
              go_returns
              exact ⟨rfl, HBl.out⟩
            · have hst := vB_step hj1 (by omega) HV.out.1 HV.out.2 x0 x1
              have hvle := vB_le j
              have hvle2 := vB_le (j + 1)
              have hv := HV.out
              obtain ⟨v2, hv2⟩ : ∃ v2, 64 * v + c' - 128 = v2 := ⟨_, rfl⟩
              have w1 : IntKind.i64.wrap (64 * v) = 64 * v := IntWalk.i64_in _ (by omega)
              have w2 : IntKind.i64.wrap (64 * v + c') = 64 * v + c' := IntWalk.i64_in _ (by omega)
              have w3 : IntKind.i64.wrap (64 * v + c' - 128) = v2 := by rw [hv2]; exact IntWalk.i64_in _ (by omega)
              have HKN := Lib.hid (fun (_ : Unit) => show cont f v2 (j + 1) (N + 1 - (j + 1)) (bs.drop (i + (j + 1))) = r from by
                have := HKK.out ()
                rw [contY (HY.out ()), hv2] at this
                rw [HK2.out (), ← Nat.add_assoc]
                exact this)
              rw [hv2] at hst
              have HVN := Lib.hid hst
              clear hst hvle hvle2 hv hv2 HV HKK HY
              go_wp2_with (go_at_call 42; refine (HM.out _).mono ?_; rintro e w' ⟨rfl, rfl⟩)
              go_roundw
              case rel => exact ⟨j + 1, v2, by omega, by omega, by go_num, rfl, HVN, HKN, trivial⟩
              case measure => simp [intOf]; omega
          · have e : r = (0, 0) := by
              have h0 : bs.drop (i + j) = [] := List.drop_eq_nil_of_le (by rw [HL.out]; omega)
              have := HK.out ()
              rw [h0, hk, contE] at this
              exact this.symm
            have q1 : decide ((n : Int) ≤ ((i + j : Nat) : Int)) = true := by simp; omega
            have q2 : decide (n ≤ i + j) = true := by simp; omega
            subst e
            clear HK HV hk
            go_wp2
            go_returns
            exact ⟨rfl, HBl.out⟩
        · have hjN' : j = N + 1 := by omega
          have e : r = (v, N + 1) := by
            have := HK.out ()
            rw [show N + 1 - j = 0 by omega, cont0, hjN'] at this
            exact this.symm
          have hvle := vB_le j
          have hv := HV.out
          have w1 : IntKind.i32.wrap v = v := IntWalk.i32_in _ (by omega)
          have le1 : decide ((j : Int) ≤ (N : Int)) = false := by simp; omega
          have le2 : decide (j ≤ N) = false := by simp; omega
          subst e
          clear HK HV hv hvle hjn hjN'
          go_wp2
          go_returns
          exact ⟨by simp, HBl.out⟩
end Go.Proofs.Ytidjcbnjadlbaaa
