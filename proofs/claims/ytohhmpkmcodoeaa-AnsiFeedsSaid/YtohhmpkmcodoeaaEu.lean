/-
  Proved here: AnsiFeeds.
-/
import Derived.Test.YtohhmpkmcodoeaaEt
set_option linter.unusedSimpArgs false
set_option linter.unusedVariables false
namespace Go.Proofs.Ytohhmpkmcodoeaa
open Go.RowKit
theorem setF {α : Type} (x0 x1 x2 x3 x4 x5 x6 x7 x8 x9 x10 x11 x12 x13 x14 x15 : α) (l : List α) (n : Nat) (v : α) : (x0 :: x1 :: x2 :: x3 :: x4 :: x5 :: x6 :: x7 :: x8 :: x9 :: x10 :: x11 :: x12 :: x13 :: x14 :: x15 :: l).set (n + 16) v = x0 :: x1 :: x2 :: x3 :: x4 :: x5 :: x6 :: x7 :: x8 :: x9 :: x10 :: x11 :: x12 :: x13 :: x14 :: x15 :: l.set n v := rfl
theorem two_new (w : World) : Two w (.slice none 0 0) (.slice none 0 0) (.slice none 0 0) (beginP 0) [] ((w.alloc (.cells (qC (beginP 0) (.slice none 0 0) (.slice none 0 0)) 42)).alloc (.cells #[.slice none 0 0] 28)) :=
  ⟨⟨(Below.heap_alloc _ _ w.heap.size (by simp)).trans (heap_alloc_new _ _), World.ownsRow_nil _ _ _ _, World.ownsRow_nil _ _ _ _, by omega, by simp⟩,
   ⟨heap_alloc2_new _ _ _, World.ownsRow_nil _ _ _ _, by omega, by simp⟩, .inl rfl, ((Below.refl _ _).alloc (Nat.le_refl _) _).alloc (by simp) _⟩
set_option maxRecDepth 100000 in
set_option maxHeartbeats 8000000 in
theorem feeds_any {w : World} {A : Option Addr} {n cp : Nat} {l : List Int} (hR : RI .i32 w A l) (hl : l.length = n) (hcp : n ≤ cp) (hcm : cp ≤ maxLen) :
    Calls Try.prog 3 #[.slice A n cp] w fun e w' => e = .returned (.bool true) ∧ Below w.heap.size w w' := by
  have HAL := Lib.hid (fun U => alive_any U)
  unfold maxLen at hcm
  have HR := Lib.hid hR
  have HLL := Lib.hid (fun (_ : Unit) => hl)
  clear hR hl
  by_cases h1 : 1500 < n
  · have e1 : decide (1500 < (n : Int)) = true := decide_eq_true (by omega)
    clear h1
    go_enter Try.func3, Try.ntmps3
    go_wp2_with fail
    refine (HAL.out _).mono ?_
    rintro e wx ⟨rfl, hx⟩
    have HX := Lib.hid hx
    clear hx
    go_wp2
    go_ret
    exact ⟨rfl, HX.out⟩
  have e1 : decide (1500 < (n : Int)) = false := decide_eq_false (by omega)
  have HT0 := Lib.hid (two_new w)
  go_enter Try.func3, Try.ntmps3
  go_wp2_with fail
  refine (new_calls w).mono ?_
  rintro e wx ⟨rfl, rfl⟩
  go_wp2
  generalize ((w.alloc (.cells (qC (beginP 0) (.slice none 0 0) (.slice none 0 0)) 42)).alloc (.cells #[.slice none 0 0] 28)) = W0 at HT0 ⊢
  go_loopw [5] (fun iv wr => ∃ i : Nat, iv = .int .i64 i ∧ i ≤ n ∧ Hid (∃ vp vt v s L, Two w vp vt v s L wr ∧ Rel s L ∧ PGood s ∧ KeepOk L ∧ L.length ≤ i)) (fun iv _ => n - (intOf iv).toNat)
  case atStart => exact ⟨0, rfl, by omega, Lib.hid ⟨_, _, _, _, _, HT0.out, rel_zero, good_begin 0 (by omega), keep_nil, by simp⟩⟩
  case round =>
    obtain ⟨i, rfl, hi, HI⟩ := hrel
    clear HT0
    obtain ⟨w5, hw5⟩ : ∃ W, W = wr := ⟨_, rfl⟩
    subst hw5
    by_cases hin : i < n
    · have d1 : decide ((i : Int) < (n : Int)) = true := by simp; omega
      have d1' : decide (i < n) = true := by simp; omega
      have g3 : (0 : Int) ≤ (i : Int) := by omega
      have g4 : (i : Int) < (n : Int) := by omega
      have w1 : IntKind.i64.wrap ((i : Int) + 1) = (i : Int) + 1 := IntWalk.i64_in _ (by omega)
      obtain ⟨vp, vt, v, s, L, hT, hrl, hG, hK, hLn⟩ := HI.out
      obtain ⟨b, off, rfl, hb, hc⟩ := HR.out (by rw [HLL.out ()]; omega)
      have hci := hc i (by rw [HLL.out ()]; exact hin)
      obtain ⟨r, hr⟩ : ∃ x, l.getD i 0 = x := ⟨_, rfl⟩
      rw [hr] at hci
      have hRr : RI .i32 w (some ⟨b, off + i, none⟩) [r] := fun _ => ⟨b, off + i, rfl, hb, fun j hj => by
        obtain rfl : j = 0 := by simpa using hj
        exact hci⟩
      have hsl := fun W => slice_one32 (b := b) (off := off) hin hcp W
      have HP := Lib.hid (hT.feed hG hRr (c := cp - i) (by omega))
      obtain ⟨hr2, hev⟩ := rel_feed hrl hG r
      have HST := Lib.hid (show Rel (feedP s r).1 (feedS L r).1 ∧ PGood (feedP s r).1 ∧ KeepOk (feedS L r).1 ∧ (feedS L r).1.length ≤ i + 1 ∧ L.length < 5000 ∧ KeepOk L from ⟨hr2, good_feed hG r, (feed_keep hK r).1, by have := (feed_keep hK r).2; omega, by omega, hK⟩)
      have HEV := Lib.hid (show (feedP s r).2 = (feedS L r).2 from hev)
      have HOK := Lib.hid (fun e (he : (feedP s r).2 = some e) => ok_feed hG.len he)
      have HCI := Lib.hid (show b < w.heap.size ∧ w.cell? ⟨b, off + i, none⟩ = some (.int .i32 r) from ⟨hb, hci⟩)
      clear hT hrl hG hK hLn hc hci hr hRr hr2 hev hb HI
      go_wp2_with fail
      refine HP.out.mono ?_
      rintro x w6 ⟨vp1, vt1, Ae, es, ce, rfl, hT1, hE1, hM1⟩
      have k0 := (hT1.below.cell (p := ⟨b, off + i, none⟩) HCI.out.1).trans HCI.out.2
      have HX := Lib.hid (hT1.rfeed HST.out.2.2.2.2.1 HST.out.2.2.2.2.2 hE1 r)
      have HM1 := Lib.hid (fun (_ : Unit) => hM1)
      clear hT1 hE1 hM1 HP
      go_wp2_with fail
      refine HX.out.mono ?_
      rintro x w7 ⟨v2, Ax, cx, rfl, hT2, hE2, hQ2⟩
      have hQ1 := hE2.evq
      obtain ⟨Aq, cq, hq1, _, _, _, hQ1, _⟩ := hQ1
      injection hq1 with q1 _ q2
      subst q1 q2
      rw [HM1.out (), HEV.out] at hQ1
      have hm1 : es.length = (feedS L r).2.toList.length := by rw [← HEV.out, ← HM1.out (), List.length_map]
      rw [hm1]
      obtain ⟨M, hM⟩ : ∃ M, (feedS L r).2.toList = M := ⟨_, rfl⟩
      have hM8 : M.length ≤ 1 ∧ ∀ e ∈ M, e.params.length ≤ 16 := by
        rw [← hM, ← HEV.out]
        refine ⟨by cases (feedP s r).2 <;> simp, fun e he => HOK.out e (Option.mem_toList.1 he)⟩
      rw [hM] at hQ1 hQ2 ⊢
      obtain ⟨m, hm⟩ : ∃ k, M.length = k := ⟨_, rfl⟩
      rw [hm] at hM8 ⊢
      have HQ1 := Lib.hid hQ1
      have HQ2 := Lib.hid hQ2
      have HMM := Lib.hid (fun (_ : Unit) => (show M.length = m ∧ m ≤ 1 ∧ ∀ e ∈ M, e.params.length ≤ 16 from ⟨hm, hM8⟩))
      have HT2 := Lib.hid hT2
      have zm : ((m : Int) != (m : Int)) = false := by simp
      clear hT2 hE2 hQ2 hQ1 hm1 hM hM8 hm HX HM1 HEV HOK HCI k0
      obtain ⟨s2, hs2⟩ : ∃ x, (feedP s r).1 = x := ⟨_, rfl⟩
      obtain ⟨L2, hL2⟩ : ∃ x, (feedS L r).1 = x := ⟨_, rfl⟩
      rw [hs2, hL2] at HST HT2
      clear hs2 hL2
      go_wp2_with fail
      refine (p_idle HT2.out.q).mono ?_
      rintro x wx ⟨rfl, rfl⟩
      rw [rel_idle HST.out.1]
      go_wp2_with fail
      refine (rp_idle HT2.out.x).mono ?_
      rintro x wx ⟨rfl, rfl⟩
      obtain ⟨bb, hbb⟩ : ∃ b, decide (L2 = []) = b := ⟨_, rfl⟩
      rw [hbb]
      have zb : (bb != bb) = false := by simp
      have HZ := Lib.hid (Below.refl w7.heap.size w7)
      clear hbb
      go_wp2
      go_loopw [9] (fun kv wr2 => ∃ k : Nat, kv = .int .i64 k ∧ k ≤ m ∧ Hid (Below w7.heap.size w7 wr2)) (fun kv _ => m - (intOf kv).toNat)
      case atStart => exact ⟨0, rfl, by omega, HZ⟩
      case round =>
        obtain ⟨k, rfl, hk, HBW⟩ := hrel
        clear HZ zm zb
        by_cases hkm : k < m
        · have f1 : decide ((k : Int) < (m : Int)) = true := by simp; omega
          have f1' : decide (k < m) = true := by simp; omega
          have f3 : (0 : Int) ≤ (k : Int) := by omega
          have f4 : (k : Int) < (m : Int) := by omega
          have w9 : IntKind.i64.wrap ((k : Int) + 1) = (k : Int) + 1 := IntWalk.i64_in _ (by have := (HMM.out ()).2.1; omega)
          obtain ⟨ba, oa, rfl, _, hla, hca⟩ := HQ1.out (by rw [(HMM.out ()).1]; omega)
          obtain ⟨bx, ox, rfl, _, hlb, hcb⟩ := HQ2.out (by rw [(HMM.out ()).1]; omega)
          have ha := hca k (by rw [(HMM.out ()).1]; exact hkm)
          have hb := hcb k (by rw [(HMM.out ()).1]; exact hkm)
          have hpl := ok_get (HMM.out ()).2.2 k
          obtain ⟨ev, hev⟩ : ∃ x, M.getD k evZ = x := ⟨_, rfl⟩
          rw [hev] at ha hb hpl
          obtain ⟨Ap, cp2, a0, a1, a2, a3, a4, a5, a6, _, ra, _⟩ := ha
          obtain ⟨Bp, dp, b0, b1, b2, b3, b4, b5, b6, _, rb, _⟩ := hb
          obtain ⟨kind, point, priv, inter, fin, params, text⟩ := ev
          dsimp only at a0 a1 a2 a3 a4 a5 a6 b0 b1 b2 b3 b4 b5 b6 ra rb hpl
          obtain ⟨np, hnp⟩ : ∃ k, params.length = k := ⟨_, rfl⟩
          obtain ⟨S, hS⟩ : ∃ S, strOfNums text = S := ⟨_, rfl⟩
          rw [hnp] at a5 b5 hpl
          rw [hS] at a6 b6
          have HEQ := Lib.hid (fun (X : World) (hX : Below w7.heap.size w7 X) => (eq_yes (w := X) (a0 := kind) (a1 := point) (a2 := priv) (a3 := inter) (a4 := fin) (ca := cp2) (cb := dp) (sa := S) (sb := S) rfl (RI.below ra hX) (RI.below rb hX) hnp hnp hpl).mono fun e w' h => by rw [decide_eq_true rfl] at h; exact h)
          have HCA := Lib.hid (fun (X : World) (hX : Below w7.heap.size w7 X) => (And.intro ((hX.cell (p := ⟨ba, oa + k * 7, none⟩) hla).trans a0) (And.intro ((hX.cell (p := ⟨ba, oa + k * 7 + 1, none⟩) hla).trans a1) (And.intro ((hX.cell (p := ⟨ba, oa + k * 7 + 2, none⟩) hla).trans a2) (And.intro ((hX.cell (p := ⟨ba, oa + k * 7 + 3, none⟩) hla).trans a3) (And.intro ((hX.cell (p := ⟨ba, oa + k * 7 + 4, none⟩) hla).trans a4) (And.intro ((hX.cell (p := ⟨ba, oa + k * 7 + 5, none⟩) hla).trans a5) ((hX.cell (p := ⟨ba, oa + k * 7 + 6, none⟩) hla).trans a6))))))))
          have HCB := Lib.hid (fun (X : World) (hX : Below w7.heap.size w7 X) => (And.intro ((hX.cell (p := ⟨bx, ox + k * 7, none⟩) hlb).trans b0) (And.intro ((hX.cell (p := ⟨bx, ox + k * 7 + 1, none⟩) hlb).trans b1) (And.intro ((hX.cell (p := ⟨bx, ox + k * 7 + 2, none⟩) hlb).trans b2) (And.intro ((hX.cell (p := ⟨bx, ox + k * 7 + 3, none⟩) hlb).trans b3) (And.intro ((hX.cell (p := ⟨bx, ox + k * 7 + 4, none⟩) hlb).trans b4) (And.intro ((hX.cell (p := ⟨bx, ox + k * 7 + 5, none⟩) hlb).trans b5) ((hX.cell (p := ⟨bx, ox + k * 7 + 6, none⟩) hlb).trans b6))))))))
          have HAS := Lib.hid (fun (A : Option Addr) (c : Nat) (X : World) => l_as kind point priv inter fin A np c S X)
          clear a0 a1 a2 a3 a4 a5 a6 b0 b1 b2 b3 b4 b5 b6 ra rb hnp hS hpl hla hlb hca hcb hev
          go_wp2
          have HDB := Lib.hid HBW.out.drew
          refine wp_region_held_drew (S := fun W => Below wr.drew.heap.size wr.drew W) (by kernel_rfl) (Below.refl _ _) (fun hHeld => ?_)
          refine wpAnyH_take (i := 0) (v := ?_) (by simp; rfl) (by kernel_rfl) (by kernel_rfl) (by kernel_rfl) (by exact fun _ _ _ h => h) (Or.inl ⟨by rfl, fun wx hSx => ?_⟩) hHeld ?_
          rotate_left
          · clear hSx; go_simp; (try with_reducible rfl)
          simp only [Act.put, List.setIfInBounds_toArray, setF]; try simp only [List.set_cons_zero, List.set_cons_succ]
          refine wpAnyH_take (i := 1) (v := ?_) (by simp; rfl) (by kernel_rfl) (by kernel_rfl) (by kernel_rfl) (by exact fun _ _ _ h => h) (Or.inl ⟨by rfl, fun wx hSx => ?_⟩) hHeld ?_
          rotate_left
          · clear hSx; go_simp; (try with_reducible rfl)
          simp only [Act.put, List.setIfInBounds_toArray, setF]; try simp only [List.set_cons_zero, List.set_cons_succ]
          refine wpAnyH_take (i := 2) (v := ?_) (by simp; rfl) (by kernel_rfl) (by kernel_rfl) (by kernel_rfl) (by exact fun _ _ _ h => h) (Or.inl ⟨by rfl, fun wx hSx => ?_⟩) hHeld ?_
          rotate_left
          · clear hSx; go_simp; (try with_reducible rfl)
          simp only [Act.put, List.setIfInBounds_toArray, setF]; try simp only [List.set_cons_zero, List.set_cons_succ]
          refine wpAnyH_take (i := 3) (v := ?_) (by simp; rfl) (by kernel_rfl) (by kernel_rfl) (by kernel_rfl) (by exact fun _ _ _ h => h) (Or.inl ⟨by rfl, fun wx hSx => ?_⟩) hHeld ?_
          rotate_left
          · have hz := HCA.out wx (HDB.out.trans (hSx.mono HDB.out.size)); obtain ⟨s0, s1, s2, s3, s4, s5, s6⟩ := hz; clear hSx; go_simp; (try with_reducible rfl)
          simp only [Act.put, List.setIfInBounds_toArray, setF]; try simp only [List.set_cons_zero, List.set_cons_succ]
          refine wpAnyH_take (i := 5) (v := ?_) (by simp; rfl) (by kernel_rfl) (by kernel_rfl) (by kernel_rfl) (by exact fun _ _ _ h => h) (Or.inl ⟨by rfl, fun wx hSx => ?_⟩) hHeld ?_
          rotate_left
          · clear hSx; go_simp; (try with_reducible rfl)
          simp only [Act.put, List.setIfInBounds_toArray, setF]; try simp only [List.set_cons_zero, List.set_cons_succ]
          refine wpAnyH_take (i := 6) (v := ?_) (by simp; rfl) (by kernel_rfl) (by kernel_rfl) (by kernel_rfl) (by exact fun _ _ _ h => h) (Or.inl ⟨by rfl, fun wx hSx => ?_⟩) hHeld ?_
          rotate_left
          · clear hSx; go_simp; (try with_reducible rfl)
          simp only [Act.put, List.setIfInBounds_toArray, setF]; try simp only [List.set_cons_zero, List.set_cons_succ]
          refine wpAnyH_take (i := 7) (v := ?_) (by simp; rfl) (by kernel_rfl) (by kernel_rfl) (by kernel_rfl) (by exact fun _ _ _ h => h) (Or.inl ⟨by rfl, fun wx hSx => ?_⟩) hHeld ?_
          rotate_left
          · clear hSx; go_simp; (try with_reducible rfl)
          simp only [Act.put, List.setIfInBounds_toArray, setF]; try simp only [List.set_cons_zero, List.set_cons_succ]
          refine wpAnyH_take (i := 8) (v := ?_) (by simp; rfl) (by kernel_rfl) (by kernel_rfl) (by kernel_rfl) (by exact fun _ _ _ h => h) (Or.inl ⟨by rfl, fun wx hSx => ?_⟩) hHeld ?_
          rotate_left
          · have hz := HCB.out wx (HDB.out.trans (hSx.mono HDB.out.size)); obtain ⟨s0, s1, s2, s3, s4, s5, s6⟩ := hz; clear hSx; go_simp; (try with_reducible rfl)
          simp only [Act.put, List.setIfInBounds_toArray, setF]; try simp only [List.set_cons_zero, List.set_cons_succ]
          refine wpAnyH_ready (rs := [4]) (by kernel_rfl) (by simp) ?_
          refine AllReadyH.cons (by simp; rfl) (fun K0 hK0 => ?_) AllReadyH.nil
          go_simp
          refine (HAS.out _ _ _).mono ?_
          rintro e v1 ⟨rfl, hx⟩
          have hbv1 : Below wr.drew.heap.size wr.drew v1 := hx
          have HDB2 := Lib.hid (HDB.out.trans (hbv1.mono HDB.out.size))
          clear HDB
          have HDB := HDB2
          clear HDB2
          clear hx
          refine hK0.out _ _ hbv1 (fun _ => ?_)
          clear hK0 K0 hHeld
          refine heldMono (S' := fun W => Below v1.heap.size v1 W) (fun _ h => hbv1.trans (h.mono hbv1.size)) _ _ _ _ ?_
          have hHeld := Below.refl v1.heap.size v1
          have HBv1 := Lib.hid hbv1
          clear hbv1
          refine wpAnyH_ready (rs := [9]) (by kernel_rfl) (by simp) ?_
          refine AllReadyH.cons (by simp; rfl) (fun K0 hK0 => ?_) AllReadyH.nil
          go_simp
          refine (HEQ.out _ HDB.out).mono ?_
          rintro e v24 ⟨rfl, hx⟩
          have hbv24 : Below v1.heap.size v1 v24 := hx
          have HDB2 := Lib.hid (HDB.out.trans (hbv24.mono HDB.out.size))
          clear HDB
          have HDB := HDB2
          clear HDB2
          clear hx
          refine hK0.out _ _ hbv24 (fun _ => ?_)
          clear hK0 K0 hHeld
          refine heldMono (S' := fun W => Below v24.heap.size v24 W) (fun _ h => hbv24.trans (h.mono hbv24.size)) _ _ _ _ ?_
          have hHeld := Below.refl v24.heap.size v24
          have HBv24 := Lib.hid hbv24
          clear hbv24
          refine wpAnyH_take (i := 10) (v := ?_) (by simp; rfl) (by kernel_rfl) (by kernel_rfl) (by kernel_rfl) (by exact fun _ _ _ h => h) (Or.inl ⟨by rfl, fun wx hSx => ?_⟩) hHeld ?_
          rotate_left
          · clear hSx; go_simp; (try with_reducible rfl)
          simp only [Act.put, List.setIfInBounds_toArray, setF]; try simp only [List.set_cons_zero, List.set_cons_succ]
          refine wpAnyH_done (by kernel_rfl) ?_ _
          have HBF := Lib.hid HDB.out
          clear hHeld HDB HBW
          go_wp2
          go_roundw
          case rel => exact ⟨k + 1, by go_num, by omega, HBF⟩
          case measure => simp [intOf]; omega
        · obtain rfl : k = m := by omega
          have f1 : decide ((k : Int) < (k : Int)) = false := by simp
          have f1' : decide (k < k) = false := by simp
          have HTF := Lib.hid (HT2.out.to HBW.out)
          clear HQ1 HQ2 HMM HT2 HBW
          go_wp2
          go_roundw
          case rel => exact ⟨i + 1, by go_num, by omega, Lib.hid ⟨_, _, _, _, _, HTF.out, HST.out.1, HST.out.2.1, HST.out.2.2.1, HST.out.2.2.2.1⟩⟩
          case measure => simp [intOf]; omega
    · obtain rfl : i = n := by omega
      have d1 : decide ((i : Int) < (i : Int)) = false := by simp
      have d1' : decide (i < i) = false := by simp
      obtain ⟨vp, vt, v, s, L, hT, _⟩ := HI.out
      have HB5 := Lib.hid hT.below
      clear hT HI hin
      go_wp2_with fail
      refine (nil_feed _ _ _ _).mono ?_
      rintro x wx ⟨rfl, rfl⟩
      go_wp2_with fail
      have kz : (w5.alloc (.cells #[.bool false, .int .i64 0, .bool false, .bool false, .int .u8 0, .int .u8 0, .slice none 0 0, .slice none 0 0] 42)).cell? ⟨w5.heap.size, 0, none⟩ = some (.bool false) := by simp
      have HB6 := Lib.hid (HB5.out.alloc HB5.out.size (.cells #[.bool false, .int .i64 0, .bool false, .bool false, .int .u8 0, .int .u8 0, .slice none 0 0, .slice none 0 0] 42))
      have hsz : w5.heap.size < (w5.alloc (.cells #[.bool false, .int .i64 0, .bool false, .bool false, .int .u8 0, .int .u8 0, .slice none 0 0, .slice none 0 0] 42)).heap.size := by simp
      generalize (w5.alloc (.cells #[.bool false, .int .i64 0, .bool false, .bool false, .int .u8 0, .int .u8 0, .slice none 0 0, .slice none 0 0] 42)) = w6 at kz HB6 hsz ⊢
      refine (zero_feed kz _ _ _).mono ?_
      rintro x wx ⟨rfl, rfl⟩
      have HKZ := Lib.hid kz
      have HSZ := Lib.hid hsz
      clear kz hsz
      go_wp2_with fail
      refine (HAL.out _).mono ?_
      rintro x w7 ⟨rfl, hx⟩
      have kz := (hx.cell (p := ⟨w5.heap.size, 0, none⟩) HSZ.out).trans HKZ.out
      have HX := Lib.hid (HB6.out.trans (hx.mono HB6.out.size))
      have HZI := Lib.hid (zero_idle kz)
      clear hx kz
      go_wp2_with fail
      refine (nil_idle _).mono ?_
      rintro x wx ⟨rfl, rfl⟩
      go_wp2_with fail
      refine HZI.out.mono ?_
      rintro x wx ⟨rfl, rfl⟩
      go_wp2
      go_ret
      exact ⟨rfl, HX.out⟩
end Go.Proofs.Ytohhmpkmcodoeaa
