/-
  Proved here: the document's own Read of utf, and the law's own 'same'.
-/
import Derived.Test.YtidjcbnjadlbaaaUo
namespace Go.Proofs.Ytidjcbnjadlbaaa
open Go.RowKit
set_option maxRecDepth 100000 in
set_option maxHeartbeats 1000000 in
theorem rread_any {w : World} {A : Option Addr} {n c : Nat} {bs : List Int} (hR : RI .u8 w A bs) (hl : bs.length = n) (hn : n ≤ 100000) (hb : ∀ j, j < n → 0 ≤ bs.getD j 0 ∧ bs.getD j 0 < 256) :
    Calls Try.prog 14 #[.slice A n c] w fun e w' => ∃ v, e = .returned (.tuple #[v, .int .i64 ((readS bs).2 : Nat)]) ∧ Own32 w v (readS bs).1 w' := by
  obtain ⟨r, hr⟩ : ∃ r, readS bs = r := ⟨_, rfl⟩
  have HR := Lib.hid hR
  have HL := Lib.hid hl
  have HB := Lib.hid hb
  have H0 := Lib.hid (fun (_ : Unit) => show readS bs = (([] : List Int) ++ (readS (bs.drop 0)).1, (readS (bs.drop 0)).2) from by simp)
  have HRr := Lib.hid (fun (_ : Unit) => hr)
  have HO0 := Lib.hid (Own32.new w)
  rw [hr]
  clear hR hl hb hr
  go_enter Try.func14, Try.ntmps14
  go_wp2
  go_loopw [4, 5] (fun ov av wr => ∃ (v : Value) (a : Nat) (xs : List Int), v = ov ∧ av = .int .i64 a ∧ a ≤ n ∧ xs.length ≤ a ∧ Hid (Own32 w v xs wr) ∧ Hid (Unit → readS bs = (xs ++ (readS (bs.drop a)).1, (readS (bs.drop a)).2))) (fun _ av _ => n - (intOf av).toNat)
  case atStart => exact ⟨_, 0, [], rfl, rfl, by omega, by simp, HO0, H0⟩
  case round =>
    obtain ⟨v, a, xs, rfl, rfl, ha, hxa, HO, HK⟩ := hrel
    clear H0 HO0
    by_cases han : a < n
    · have d1 : decide ((a : Int) < (n : Int)) = true := by simp; omega
      have d2 : decide (a < n) = true := by simp; omega
      have HONE := Lib.hid (rone_any (c := c) (HR.out.below HO.out.below) HL.out hn HB.out a han)
      obtain ⟨q, hq⟩ : ∃ q, one (bs.drop a) = q := ⟨_, rfl⟩
      have hle := one_le (bs.drop a)
      rw [hq] at HONE hle
      rw [List.length_drop, HL.out] at hle
      have HQ := Lib.hid (fun (_ : Unit) => hq)
      have hne : bs.drop a ≠ [] := by rw [drop_at (by rw [HL.out]; exact han)]; simp
      have HNE := Lib.hid (fun (_ : Unit) => hne)
      obtain ⟨p, k⟩ := q
      dsimp only at hle HONE
      clear hq hne
      go_wp2_with fail
      refine HONE.out.mono ?_
      rintro e w2 ⟨rfl, hb2⟩
      have HO2 := Lib.hid (HO.out.to hb2)
      clear hb2 HONE HO
      by_cases hk0 : k = 0
      · subst hk0
        have e : r = (xs, n - a) := by rw [← HRr.out (), HK.out (), readS_step (HNE.out ()), HQ.out (), if_pos rfl, List.length_drop, HL.out]; simp
        have w1 : IntKind.i64.wrap ((n : Int) - (a : Int)) = ((n - a : Nat) : Int) := by rw [show (n : Int) - (a : Int) = ((n - a : Nat) : Int) by omega]; exact IntWalk.i64_in _ (by omega)
        subst e
        clear HK HRr HQ HNE
        go_wp2
        go_returns
        exact ⟨v, rfl, HO2.out⟩
      · have k0 : ((k : Int) == 0) = false := by simp; exact hk0
        have k1 : (k == 0) = false := by simp; exact hk0
        obtain ⟨A3, c3, w3, hrun, hO3⟩ := HO2.out.app (by omega) p
        have HRUN := Lib.hid hrun
        have HO3 := Lib.hid hO3
        have HK3 := Lib.hid (fun (_ : Unit) => show readS bs = ((xs ++ [p]) ++ (readS (bs.drop (a + k))).1, (readS (bs.drop (a + k))).2) from by
          rw [HK.out (), readS_step (HNE.out ()), HQ.out (), if_neg hk0, List.drop_drop]; simp)
        have w1 : IntKind.i64.wrap ((a : Int) + (k : Int)) = ((a + k : Nat) : Int) := by rw [← Int.natCast_add]; exact IntWalk.i64_in _ (by omega)
        clear hrun hO3 HK HQ HNE
        go_wp2_with (first | (at_builtin; refine wpList_app rfl (.tmp 25) (.tmp 27) _ rfl _ _ rfl rfl HRUN.out ?_))
        go_roundw
        case rel => exact ⟨_, a + k, xs ++ [p], rfl, by simp, by omega, by simp; omega, HO3, HK3⟩
        case measure => simp [intOf]; omega
    · have e : r = (xs, 0) := by
        rw [← HRr.out (), HK.out (), show bs.drop a = [] from List.drop_eq_nil_of_le (by rw [HL.out]; omega), readS_nil]; simp
      have d1 : decide ((a : Int) < (n : Int)) = false := by simp; omega
      have d2 : decide (a < n) = false := by simp; omega
      subst e
      clear HK HRr
      go_wp2
      go_returns
      exact ⟨v, rfl, HO.out⟩
/-- Two slices of points are held against each other. -/
theorem same_any {w : World} {A B : Option Addr} {n m c d : Nat} {xs ys : List Int} (hA : RI .i32 w A xs) (hB : RI .i32 w B ys) (hx : xs.length = n) (hy : ys.length = m) (hn : n ≤ 1000000) :
    Calls Try.prog 15 #[.slice A n c, .slice B m d] w fun e w' => e = .returned (.bool (decide (xs = ys))) ∧ ∃ k, w' = w.drewN k := by
  obtain ⟨r, hr⟩ : ∃ r, decide (xs = ys) = r := ⟨_, rfl⟩
  rw [hr]
  have HR := Lib.hid (fun (_ : Unit) => hr)
  have HA := Lib.hid hA
  have HB := Lib.hid hB
  have HX := Lib.hid hx
  have HY := Lib.hid hy
  clear hr hA hB
  by_cases hnm : n = m
  · subst hnm
    go_enter Try.func15, Try.ntmps15
    go_wp2
    go_loopw [5] (fun jv wr => ∃ (j k : Nat), jv = .int .i64 j ∧ j ≤ n ∧ wr = w.drewN k ∧ Hid (∀ i, i < j → xs.getD i 0 = ys.getD i 0)) (fun jv _ => n - (intOf jv).toNat)
    case atStart => exact ⟨0, 0, rfl, by omega, rfl, Lib.hid (fun i hi => absurd hi (by omega))⟩
    case round =>
      obtain ⟨j, k, rfl, hj, rfl, HJ⟩ := hrel
      by_cases hjn : j < n
      · obtain ⟨b1, o1, rfl, h1, hc1⟩ := HA.out (by rw [HX.out]; omega)
        obtain ⟨b2, o2, rfl, h2, hc2⟩ := HB.out (by rw [HY.out]; omega)
        have e1 := hc1 j (by rw [HX.out]; exact hjn)
        have e2 := hc2 j (by rw [HY.out]; exact hjn)
        obtain ⟨a, ha⟩ : ∃ a, xs.getD j 0 = a := ⟨_, rfl⟩
        obtain ⟨b, hb⟩ : ∃ b, ys.getD j 0 = b := ⟨_, rfl⟩
        rw [ha] at e1
        rw [hb] at e2
        have e1' : (w.drewN k).cell? ⟨b1, o1 + j, none⟩ = some (.int .i32 a) := e1
        have e2' : (w.drewN k).cell? ⟨b2, o2 + j, none⟩ = some (.int .i32 b) := e2
        have HAB := Lib.hid (fun (_ : Unit) => And.intro ha hb)
        have d1 : decide ((j : Int) < (n : Int)) = true := by simp; omega
        have d2 : decide (j < n) = true := by simp; omega
        have g3 : (0 : Int) ≤ (j : Int) := by omega
        have g4 : (j : Int) < (n : Int) := by omega
        clear hc1 hc2 ha hb
        by_cases hab : a = b
        · have x1 : (a != b) = false := by simpa using hab
          have HJ' : Hid (∀ i, i < j + 1 → xs.getD i 0 = ys.getD i 0) := Lib.hid (fun i hi => by
            rcases Nat.lt_or_ge i j with h | h
            · exact HJ.out i h
            · rw [show i = j by omega, (HAB.out ()).1, (HAB.out ()).2, hab])
          clear HJ hab HAB
          go_wp2
          go_region
          all_goals go_wp2
          all_goals go_roundw
          case rel => exact ⟨j + 1, k + 1, by simp, by omega, rfl, HJ'⟩
          case measure => simp [intOf]; omega
        · have x1 : (a != b) = true := by simpa using hab
          have e : r = false := by
            rw [← HR.out ()]
            simp only [decide_eq_false_iff_not]
            intro h
            exact hab (by rw [← (HAB.out ()).1, ← (HAB.out ()).2, h])
          subst e
          clear HJ hab HAB HR
          go_wp2
          go_region
          all_goals go_wp2
          all_goals go_ret
          all_goals exact ⟨rfl, k + 1, rfl⟩
      · have e : r = true := by
          rw [← HR.out ()]
          simp only [decide_eq_true_eq]
          refine List.ext_getElem (HX.out.trans HY.out.symm) fun i h1 h2 => ?_
          have := HJ.out i (by rw [HX.out] at h1; omega)
          simpa [List.getD, h1, h2] using this
        have d1 : decide ((j : Int) < (n : Int)) = false := by simp; omega
        have d2 : decide (j < n) = false := by simp; omega
        subst e
        clear HJ HR
        go_wp2
        go_ret
        exact ⟨rfl, k, rfl⟩
  · have e : r = false := by
      rw [← HR.out ()]
      simp only [decide_eq_false_iff_not]
      intro h
      exact hnm (by rw [← hx, ← hy, h])
    have x1 : ((n : Int) != (m : Int)) = true := by simp; omega
    have x2 : (n != m) = true := by simp; exact hnm
    subst e
    clear HR
    go_enter Try.func15, Try.ntmps15
    go_wp2
    go_ret
    exact ⟨rfl, 0, rfl⟩
end Go.Proofs.Ytidjcbnjadlbaaa
