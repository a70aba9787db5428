/-
  Proved here: the document's own Cut, Read and Write of osc.
-/
import Derived.Test.YtmpmlmhphnpdlaaOq
set_option linter.unusedSimpArgs false
set_option linter.unusedVariables false
namespace Go.Proofs.Ytmpmlmhphnpdlaa
open Go.RowKit
theorem cutAt_no {t : List Int} {k : Nat} (h : folB (t.getD k 0) = false) : cutAt t k = k := by
  cases k with
  | zero => rfl
  | succ j => rw [cutAt_succ, if_neg (by rw [h]; decide)]
theorem cutAt_yes {t : List Int} {k : Nat} (h : folB (t.getD k 0) = true) (hk : 0 < k) : cutAt t k = cutAt t (k - 1) := by
  cases k with
  | zero => omega
  | succ j => rw [cutAt_succ, if_pos h]; rfl
set_option maxRecDepth 100000 in
set_option maxHeartbeats 1000000 in
/-- The document's Cut. -/
theorem rcut_any {w : World} {t : List Int} (ht : IsBytes t) (hl : t.length ≤ 1000000) (most : Int) (hm : -9223372036854775808 ≤ most ∧ most < 9223372036854775808) :
    Calls Try.prog 39 #[.string (strOfNums t), .int .i64 most] w fun e w' => e = .returned (.string (strOfNums (cutS t most))) ∧ w = w' := by
  have hsz := strOfNums_size t
  obtain ⟨n, hn⟩ : ∃ n, t.length = n := ⟨_, rfl⟩
  rw [hn] at hsz hl
  by_cases h1 : (n : Int) ≤ most
  · have d1 : decide ((n : Int) ≤ most) = true := by simpa using h1
    rw [cutS_all (by rw [hn]; exact h1)]
    generalize strOfNums t = s at hsz ⊢
    go_enter Try.func39, Try.ntmps39
    go_wp2
    go_ret
    exact ⟨rfl, rfl⟩
  have d1 : decide ((n : Int) ≤ most) = false := by simpa using h1
  have hp := (cutS_part (l := t) (most := most) (by rw [hn]; omega)).1
  have HP := Lib.hid (fun (_ : Unit) => show strOfNums (cutS t most) = strOfNums (t.take (cutAt t most.toNat)) from by rw [hp])
  have HAT := Lib.hid (fun (i : Nat) (hi : i < t.length) (h : i < (strOfNums t).size) => str_at ht hi h)
  have HTK := Lib.hid (fun i => str_take t i)
  have HN := Lib.hid (fun (_ : Unit) => hn)
  have HB := Lib.hid (fun i (hi : i < t.length) => ht (t[i]) (List.getElem_mem hi))
  obtain ⟨R, hR⟩ : ∃ R, strOfNums (cutS t most) = R := ⟨_, rfl⟩
  rw [hR]
  rw [hR] at HP
  obtain ⟨m, hm1⟩ : ∃ m, (most + 1).toNat = m := ⟨_, rfl⟩
  have hmn : m ≤ n := by omega
  have hmt : most.toNat = m - 1 := by omega
  rw [hmt] at HP
  have HM := Lib.hid (fun (i : Nat) => show (i < m → (i : Int) ≤ most) ∧ (¬ i < m → ¬ (i : Int) ≤ most) from by omega)
  clear hp ht hn h1 hR hm hm1 hmt
  generalize strOfNums t = s at hsz HAT HTK ⊢
  go_enter Try.func39, Try.ntmps39
  go_wp2
  clear d1
  go_loopw [5, 6] (fun bv iv wr => wr = w ∧ ∃ (i : Nat) (B : ByteArray), iv = .int .i64 i ∧ bv = .string B ∧ i ≤ m ∧ Hid (B = strOfNums (t.take (cutAt t (i - 1))))) (fun _ iv _ => n - (intOf iv).toNat)
  case atStart => exact ⟨rfl, 0, ⟨#[]⟩, rfl, rfl, by omega, Lib.hid (by simp [cutAt]; rfl)⟩
  case round =>
    obtain ⟨rfl, i, B, rfl, rfl, hi, HK⟩ := hrel
    by_cases hlt : i < m
    · have c1 : decide ((i : Int) ≤ most) = true := by simpa using (HM.out i).1 hlt
      have c2 : decide ((i : Int) < (n : Int)) = true := by simp; omega
      have c2' : decide (i < n) = true := by simp; omega
      have g3 : (0 : Int) ≤ (i : Int) := by omega
      have g4 : (i : Int) < (n : Int) := by omega
      have w1 : IntKind.i64.wrap ((i : Int) + 1) = (i : Int) + 1 := IntWalk.i64_in _ (by omega)
      have hiz : i < s.size := by omega
      have hat := HAT.out i (by rw [HN.out ()]; omega) hiz
      have hbx := HB.out i (by rw [HN.out ()]; omega)
      have hgd : t.getD i 0 = t[i]'(by rw [HN.out ()]; omega) := by simp [List.getD, show i < t.length by rw [HN.out ()]; omega]
      obtain ⟨x, hx⟩ : ∃ x : Nat, (s[i]'hiz).toNat = x := ⟨_, rfl⟩
      rw [hx] at hat
      have htk := HTK.out i
      have HX := Lib.hid (fun (_ : Unit) => hat.symm)
      clear hbx hgd hat
      by_cases h128 : x < 128
      · have f1 : decide ((x : Int) < 128) = true := by simp; omega
        have f1' : decide (x < 128) = true := by simp; omega
        have HK' := Lib.hid (show s.extract 0 i = strOfNums (t.take (cutAt t (i + 1 - 1))) from by
          rw [Nat.add_sub_cancel, cutAt_no (by rw [HX.out ()]; unfold folB; simp; omega), htk])
        clear htk HK
        go_wp2
        go_roundw
        case rel => exact ⟨trivial, i + 1, _, by go_num, rfl, by omega, HK'⟩
        case measure => simp [intOf]; omega
      · have f1 : decide ((x : Int) < 128) = false := by simp; omega
        have f1' : decide (x < 128) = false := by simp; omega
        by_cases h191 : 191 < x
        · have f2 : decide ((191 : Int) < (x : Int)) = true := by simp; omega
          have f2' : decide (191 < x) = true := by simp; omega
          have HK' := Lib.hid (show s.extract 0 i = strOfNums (t.take (cutAt t (i + 1 - 1))) from by
            rw [Nat.add_sub_cancel, cutAt_no (by rw [HX.out ()]; unfold folB; simp; omega), htk])
          clear htk HK
          go_wp2
          go_roundw
          case rel => exact ⟨trivial, i + 1, _, by go_num, rfl, by omega, HK'⟩
          case measure => simp [intOf]; omega
        · have f2 : decide ((191 : Int) < (x : Int)) = false := by simp; omega
          have f2' : decide (191 < x) = false := by simp; omega
          have HK' := Lib.hid (show B = strOfNums (t.take (cutAt t (i + 1 - 1))) from by
            rw [Nat.add_sub_cancel, HK.out]
            rcases Nat.eq_zero_or_pos i with h0 | h0
            · subst h0; rfl
            · rw [cutAt_yes (k := i) (by rw [HX.out ()]; unfold folB; simp; omega) h0])
          clear htk HK
          go_wp2
          go_roundw
          case rel => exact ⟨trivial, i + 1, _, by go_num, rfl, by omega, HK'⟩
          case measure => simp [intOf]; omega
    · have c1 : decide ((i : Int) ≤ most) = false := by simpa using (HM.out i).2 hlt
      obtain rfl : i = m := by omega
      have e : B = R := by rw [HK.out, HP.out ()]
      clear HK
      subst e
      go_wp2
      go_ret
      exact ⟨rfl, rfl⟩
set_option maxRecDepth 100000 in
theorem rwhich_any (q : Int) (w : World) : Calls Try.prog 63 #[.int .u8 q] w fun e w' => e = .returned (.bool (whichB q)) ∧ w = w' := by
  cases hw : whichB q with
  | true =>
    have hc := which_cases hw
    clear hw
    rcases hc with rfl | rfl | rfl | rfl | rfl | rfl | rfl | rfl | rfl | rfl | rfl | rfl | rfl | rfl
    all_goals
      go_enter Try.func63, Try.ntmps63
      go_wp2
      go_ret
      exact ⟨rfl, rfl⟩
  | false =>
    have z0 : (q == 99) = false := by simp; intro e; subst e; exact absurd hw (by decide)
    have z1 : (q == 112) = false := by simp; intro e; subst e; exact absurd hw (by decide)
    have z2 : (q == 115) = false := by simp; intro e; subst e; exact absurd hw (by decide)
    have z3 : (q == 113) = false := by simp; intro e; subst e; exact absurd hw (by decide)
    have hr : ¬ 48 ≤ q ∨ ¬ q ≤ 57 := by
      unfold whichB at hw
      simp at hw
      omega
    clear hw
    by_cases h48 : 48 ≤ q
    · have z4 : decide (48 ≤ q) = true := by simpa using h48
      have z5 : decide (q ≤ 57) = false := by simp; omega
      clear h48 hr
      go_enter Try.func63, Try.ntmps63
      go_wp2
      go_ret
      exact ⟨rfl, rfl⟩
    · have z4 : decide (48 ≤ q) = false := by simpa using h48
      clear h48 hr
      go_enter Try.func63, Try.ntmps63
      go_wp2
      go_ret
      exact ⟨rfl, rfl⟩
theorem info_rask (k : Value) (s : Value) : (Try.prog.info? 75).map (·.size) = some (#[k, s] : Array Value).size := by
  have h : (Try.prog.info? 75).map (·.size) = some 2 := by kernel_rfl
  exact h
theorem lits_list : (strOfNums [48, 59]).toList = [48, 59] ∧ (strOfNums [50, 59]).toList = [50, 59] ∧ (strOfNums [53, 50, 59]).toList = [53, 50, 59] := by
  refine ⟨?_, ?_, ?_⟩ <;> (rw [ByteArray.toList_eq, strOfNums_data]; rfl)
set_option maxRecDepth 100000 in
set_option maxHeartbeats 4000000 in
theorem rread18_any {w : World} {t : List Int} (ht : IsBytes t) (hl : t.length ≤ 90000) :
    Calls Try.prog 37 #[.string (strOfNums t)] w (AnPost (readS t) w) := by
  have HIZ := info_rask
  have HIO := ask_one
  obtain ⟨l1, l2, l3⟩ := lits_list
  have hsz := strOfNums_size t
  obtain ⟨n, hn⟩ : ∃ n, t.length = n := ⟨_, rfl⟩
  rw [hn] at hsz hl
  have htk := fun i => str_take t i
  have q1 : ((strOfNums t).extract 0 2).toList == [48, 59] ↔ t.take 2 = [48, 59] := by
    rw [htk, ← l1, str_eq (fun x hx => ht x (List.mem_of_mem_take hx)) (fun x hx => by simp at hx; omega)]; simp
  have q2 : ((strOfNums t).extract 0 2).toList == [50, 59] ↔ t.take 2 = [50, 59] := by
    rw [htk, ← l2, str_eq (fun x hx => ht x (List.mem_of_mem_take hx)) (fun x hx => by simp at hx; omega)]; simp
  have q3 : ((strOfNums t).extract 0 3).toList == [53, 50, 59] ↔ t.take 3 = [53, 50, 59] := by
    rw [htk, ← l3, str_eq (fun x hx => ht x (List.mem_of_mem_take hx)) (fun x hx => by simp at hx; omega)]; simp
  have HT := Lib.hid ht
  have HN := Lib.hid (fun (_ : Unit) => hn)
  have HAT := Lib.hid (fun (i : Nat) (hi : i < t.length) (h : i < (strOfNums t).size) => str_at ht hi h)
  have HDR := Lib.hid (fun (i : Nat) (hi : i ≤ t.length) => str_drop t i hi)
  by_cases h2 : n < 2
  · have e9 : readS t = noneA 4 := by
      unfold readS
      rw [if_neg (by rintro (e | e) <;> (have := congrArg List.length e; simp at this; omega)), if_neg (fun e => by have := congrArg List.length e; simp at this; omega)]
    rw [e9]
    have d1 : decide ((2 : Int) ≤ (n : Int)) = false := by simp; omega
    have d1' : decide (2 ≤ n) = false := by simp; omega
    have d2 : decide ((n : Int) < 3) = true := by simp; omega
    have d2' : decide (n < 3) = true := by simp; omega
    clear e9 q1 q2 q3 l1 l2 l3 htk ht hn h2 HT HN HAT HDR
    generalize strOfNums t = s at hsz ⊢
    go_enter Try.func37, Try.ntmps37
    go_wp2
    exact bodyPost_ret (results_cell_tmp Try.results37 _ _ w.heap.size 75 #[.int .i64 0, .string ⟨#[]⟩] (0, 0) _ (.int .i64 4) rfl rfl (heap_alloc_new w _) Try.underlying75 rfl (HIZ _ _)) rfl ⟨rfl, (Below.refl _ _).alloc (Nat.le_refl _) _⟩
  have d1 : decide ((2 : Int) ≤ (n : Int)) = true := by simp; omega
  have d1' : decide (2 ≤ n) = true := by simp; omega
  have g2 : (2 : Int) ≤ (n : Int) := by omega
  by_cases hT : t.take 2 = [48, 59] ∨ t.take 2 = [50, 59]
  · have e9 : readS t = ⟨1, cutS (t.drop 2) 64, 0⟩ := by unfold readS; rw [if_pos hT]
    rw [e9]
    have hqq : ((((strOfNums t).extract 0 2).toList == [48, 59]) = true) ∨ ((((strOfNums t).extract 0 2).toList == [48, 59]) = false ∧ (((strOfNums t).extract 0 2).toList == [50, 59]) = true) := by
      rcases hT with h | h
      · exact .inl (q1.2 h)
      · exact .inr ⟨by rw [← Bool.not_eq_true]; intro e; have := q1.1 e; rw [h] at this; exact absurd this (by decide), q2.2 h⟩
    have HC := Lib.hid (fun (W : World) => rcut_any (w := W) (t := t.drop 2) (fun x hx => ht x (List.mem_of_mem_drop hx)) (by simp; omega) 64 (by omega))
    have hdr := HDR.out 2 (by omega)
    rw [hn] at hdr
    rw [← hdr] at HC
    unfold AnPost AV
    dsimp only
    generalize strOfNums (cutS (t.drop 2) 64) = C at HC ⊢
    clear e9 q1 q2 q3 l1 l2 l3 htk ht hn h2 HT HN HAT HDR hT hdr
    generalize strOfNums t = s at hsz hqq HC ⊢
    rcases hqq with hq1 | ⟨hq1, hq2⟩
    all_goals
      go_enter Try.func37, Try.ntmps37
      go_wp2_with fail
      refine (HC.out _).mono ?_
      rintro e wx ⟨rfl, rfl⟩
      go_wp2
      exact bodyPost_ret (results_cell_tmp Try.results37 _ _ w.heap.size 75 #[.int .i64 1, .string C] (0, 0) _ (.int .i64 0) rfl rfl (heap_alloc_new w _) Try.underlying75 rfl (HIZ _ _)) rfl ⟨rfl, (Below.refl _ _).alloc (Nat.le_refl _) _⟩
  · have p1 : (((strOfNums t).extract 0 2).toList == [48, 59]) = false := by rw [← Bool.not_eq_true]; exact fun e => hT (.inl (q1.1 e))
    have p2 : (((strOfNums t).extract 0 2).toList == [50, 59]) = false := by rw [← Bool.not_eq_true]; exact fun e => hT (.inr (q2.1 e))
    by_cases h3 : n < 3
    · have e9 : readS t = noneA 4 := by
        unfold readS
        rw [if_neg hT, if_neg (fun e => by have := congrArg List.length e; simp at this; omega)]
      rw [e9]
      have d2 : decide ((n : Int) < 3) = true := by simp; omega
      have d2' : decide (n < 3) = true := by simp; omega
      clear e9 q1 q2 q3 l1 l2 l3 htk ht hn h2 HT HN HAT HDR hT h3
      generalize strOfNums t = s at hsz p1 p2 ⊢
      go_enter Try.func37, Try.ntmps37
      go_wp2
      exact bodyPost_ret (results_cell_tmp Try.results37 _ _ w.heap.size 75 #[.int .i64 0, .string ⟨#[]⟩] (0, 0) _ (.int .i64 4) rfl rfl (heap_alloc_new w _) Try.underlying75 rfl (HIZ _ _)) rfl ⟨rfl, (Below.refl _ _).alloc (Nat.le_refl _) _⟩
    have d2 : decide ((n : Int) < 3) = false := by simp; omega
    have d2' : decide (n < 3) = false := by simp; omega
    have g3 : (3 : Int) ≤ (n : Int) := by omega
    by_cases h5 : t.take 3 = [53, 50, 59]
    · have p3 : (((strOfNums t).extract 0 3).toList == [53, 50, 59]) = true := q3.2 h5
      have p4 : (!(((strOfNums t).extract 0 3).toList == [53, 50, 59])) = false := by rw [p3]; rfl
      clear p3
      have e9 : readS t = clipS (t.drop 3) := by
        unfold readS
        rw [if_neg hT, if_pos h5]
      rw [e9, clip_beh]
      obtain ⟨R, hR⟩ : ∃ R, (if (behS (t.drop 3)).2 = true then decA (behS (t.drop 3)).1 else noneA 3) = R := ⟨_, rfl⟩
      have HRR := Lib.hid (fun (b : List Int × Bool) (h : behS (t.drop 3) = b) => show R = (if b.2 = true then decA b.1 else noneA 3) from by rw [← hR, h])
      rw [hR]
      have HLT := Lib.hid (fun (_ : Unit) => (show (t.drop 3).length = n - 3 from by rw [List.length_drop, hn]))
      have hg0 : ∀ j, 3 ≤ j → (t.drop 3).getD (j - 3) 0 = t.getD j 0 := fun j hj => by
        simp only [List.getD, List.getElem?_drop]
        rw [show 3 + (j - 3) = j by omega]
      have HG0 := Lib.hid hg0
      clear e9 q1 q2 q3 l1 l2 l3 htk ht h2 hT h3 h5 hR hg0
      generalize strOfNums t = s at hsz p1 p2 p4 HAT HDR ⊢
      have HSZ := Lib.hid (fun (_ : Unit) => hsz)
      have HNN := Lib.hid (fun (_ : Unit) => hn)
      clear hn
      go_enter Try.func37, Try.ntmps37
      go_wp2
      clear p1 p2 p4 d1 d1' d2 d2'
      have HW0 := Lib.hid (show (w.alloc (.cells #[.int .i64 0, .string ⟨#[]⟩] 75)).heap[w.heap.size]? = some (.cells #[.int .i64 0, .string ⟨#[]⟩] 75 (0, 0)) ∧ Below w.heap.size w (w.alloc (.cells #[.int .i64 0, .string ⟨#[]⟩] 75)) ∧ ∀ W, Below (w.alloc (.cells #[.int .i64 0, .string ⟨#[]⟩] 75)).heap.size (w.alloc (.cells #[.int .i64 0, .string ⟨#[]⟩] 75)) W → W.heap[w.heap.size]? = some (.cells #[.int .i64 0, .string ⟨#[]⟩] 75 (0, 0)) ∧ ∀ ds, Below w.heap.size w (W.setRow w.heap.size ds) from ⟨heap_alloc_new w _, (Below.refl _ _).alloc (Nat.le_refl _) _, fun W h => an_row h⟩)
      generalize (w.alloc (.cells #[.int .i64 0, .string ⟨#[]⟩] 75)) = W0 at HW0 ⊢
      go_loopw [4] (fun iv wr => wr = W0 ∧ ∃ i : Nat, iv = .int .i64 i ∧ 3 ≤ i ∧ i ≤ n ∧ Hid (∀ j, j < i - 3 → whichB ((t.drop 3).getD j 0) = true)) (fun iv _ => n - (intOf iv).toNat)
      case atStart => exact ⟨rfl, 3, rfl, by omega, by omega, Lib.hid (fun j hj => absurd hj (by omega))⟩
      case round =>
        obtain ⟨rfl, i, rfl, h3i, hi, HP⟩ := hrel
        by_cases hin : i < n
        · have c2 : decide ((i : Int) < (n : Int)) = true := by simp; omega
          have c2' : decide (i < n) = true := by simp; omega
          have c3 : decide ((n : Int) ≤ (i : Int)) = false := by simp; omega
          have c3' : decide (n ≤ i) = false := by simp; omega
          have g4 : (0 : Int) ≤ (i : Int) := by omega
          have g5 : (i : Int) < (n : Int) := by omega
          have w1 : IntKind.i64.wrap ((i : Int) + 1) = (i : Int) + 1 := IntWalk.i64_in _ (by omega)
          have hiz : i < s.size := by rw [HSZ.out ()]; exact hin
          have hat := HAT.out i (by rw [HNN.out ()]; exact hin) hiz
          obtain ⟨x, hx⟩ : ∃ x : Nat, (s[i]'hiz).toNat = x := ⟨_, rfl⟩
          rw [hx] at hat
          have hgx : (t.drop 3).getD (i - 3) 0 = x := by rw [HG0.out i h3i, hat]
          have HX := Lib.hid (fun (_ : Unit) => hgx)
          clear hat hgx
          cases hw : whichB (x : Int) with
          | true =>
            have HP' : Hid (∀ j, j < i + 1 - 3 → whichB ((t.drop 3).getD j 0) = true) := Lib.hid (fun j hj => by
              rcases Nat.lt_or_ge j (i - 3) with e | e
              · exact HP.out j e
              · rw [show j = i - 3 by omega, HX.out ()]; exact hw)
            clear HP HX
            go_wp2_with fail
            refine (rwhich_any _ _).mono ?_
            rintro e wx ⟨rfl, rfl⟩
            rw [hw]
            go_wp2
            go_roundw
            case rel => exact ⟨by first | rfl | trivial, i + 1, by go_num, by omega, by omega, HP'⟩
            case measure => simp [intOf]; omega
          | false =>
            by_cases h9 : x = 59
            · have hbe := HRR.out _ (beh_at (t := t.drop 3) (i := i - 3) (by rw [HLT.out ()]; omega) HP.out (by rw [HX.out ()]; omega))
              rw [List.drop_drop, show 3 + (i - 3 + 1) = i + 1 by omega] at hbe
              dsimp only at hbe
              rw [if_pos rfl] at hbe
              have hbd : IsBytes (t.drop (i + 1)) := fun x hx => HT.out x (List.mem_of_mem_drop hx)
              have HBD := Lib.hid hbd
              have hdl : (t.drop (i + 1)).length ≤ 90000 := by rw [List.length_drop, HNN.out ()]; omega
              clear hbd
              have z9 : ((x : Int) != 59) = false := by subst h9; rfl
              have z9' : (x != 59) = false := by subst h9; rfl
              have hdr := HDR.out (i + 1) (by rw [HNN.out ()]; omega)
              rw [HNN.out ()] at hdr
              have HRD := Lib.hid (fun (W : World) => rread14_any (w := W) (t := t.drop (i + 1)) HBD.out (by omega))
              rw [← hdr] at HRD
              obtain ⟨d, hd⟩ : ∃ d, t.drop (i + 1) = d := ⟨_, rfl⟩
              rw [hd] at HRD hdl HBD hbe
              have HDE := Lib.hid (fun (_ : Unit) => hbe)
              clear hbe
              have c5 : (0 : Int) ≤ (i : Int) + 1 := by omega
              have c6 : (i : Int) + 1 ≤ (n : Int) := by omega
              have w5 : IntKind.i64.wrap ((n : Int) - (i : Int)) = (n : Int) - (i : Int) := IntWalk.i64_in _ (by omega)
              have w6 : IntKind.i64.wrap ((n : Int) - (i : Int) - 1) = (n : Int) - (i : Int) - 1 := IntWalk.i64_in _ (by omega)
              have d7 : decide ((90000 : Int) < (n : Int) - (i : Int) - 1) = false := by simp; omega
              clear HP HX hdr hd HRR HLT
              go_wp2_with fail
              refine (rwhich_any _ _).mono ?_
              rintro e wx ⟨rfl, rfl⟩
              rw [show whichB 59 = false from rfl]
              go_wp2_with fail
              refine (HRD.out _).mono ?_
              rintro e w1 ⟨v, rfl, hO⟩
              have HROW := Lib.hid (HW0.out.2.2 _ hO.below)
              obtain ⟨A, c, rfl, _⟩ := own_slice hO.own
              cases hg : goodB d with
              | false =>
                have e9 : R = noneA 3 := by rw [HDE.out ()]; unfold decA; rw [hg]; rfl
                subst e9
                rw [hg] at hO
                clear hO hg HRD HDE
                go_wp2_with (refine wpList_store_row rfl 75 _ _ rfl w.heap.size #[.int .i64 0, .string ⟨#[]⟩] rfl rfl 75 _ HROW.out.1 (HIZ _ _) rfl (HIO _ _) ?_)
                exact bodyPost_ret (results_cell_tmp Try.results37 _ _ w.heap.size 75 _ (0, 0) _ (.int .i64 3) rfl rfl (setRow_heap _ _ _ _ _ _ HROW.out.1) Try.underlying75 rfl (HIZ _ _)) rfl ⟨rfl, HROW.out.2 _⟩
              | true =>
                have hri := hO.ri.1
                rw [hg, if_pos rfl] at hO hri
                obtain ⟨k, hk⟩ : ∃ k, (decB d).length = k := ⟨_, rfl⟩
                have hle : k ≤ 1000000 := by
                  have h := congrArg List.length (write_dec d hg).1
                  rw [write_len, hk] at h
                  omega
                rw [if_pos rfl, hk]
                have hcv := conv_nums (w := w1) hk c hri
                have hda : R = if 256 < k then noneA 2 else ⟨2, decB d, 0⟩ := by rw [HDE.out ()]; unfold decA; rw [hg, if_pos rfl, hk]
                by_cases h256 : 256 < k
                · have d1 : decide ((256 : Int) < (k : Int)) = true := by simp; omega
                  have d1' : decide (256 < k) = true := by simp; omega
                  rw [if_pos h256] at hda
                  subst hda
                  clear hO hg HRD hri hcv hk HDE
                  go_wp2_with (refine wpList_store_row rfl 75 _ _ rfl w.heap.size #[.int .i64 0, .string ⟨#[]⟩] rfl rfl 75 _ HROW.out.1 (HIZ _ _) rfl (HIO _ _) ?_)
                  exact bodyPost_ret (results_cell_tmp Try.results37 _ _ w.heap.size 75 _ (0, 0) _ (.int .i64 2) rfl rfl (setRow_heap _ _ _ _ _ _ HROW.out.1) Try.underlying75 rfl (HIZ _ _)) rfl ⟨rfl, HROW.out.2 _⟩
                · have d1 : decide ((256 : Int) < (k : Int)) = false := by simp; omega
                  have d1' : decide (256 < k) = false := by simp; omega
                  rw [if_neg h256] at hda
                  subst hda
                  clear hO hg HRD hri hk HDE
                  go_wp2_with (refine wpList_store_row rfl 75 _ _ rfl w.heap.size #[.int .i64 2, .string (strOfNums (decB d))] rfl rfl 75 _ HROW.out.1 (HIZ _ _) rfl (HIO _ _) ?_)
                  exact bodyPost_ret (results_cell_tmp Try.results37 _ _ w.heap.size 75 _ (0, 0) _ (.int .i64 0) rfl rfl (setRow_heap _ _ _ _ _ _ HROW.out.1) Try.underlying75 rfl (HIZ _ _)) rfl ⟨rfl, HROW.out.2 _⟩
            · have hbe := HRR.out _ (beh_no (t := t.drop 3) (i := i - 3) (by rw [HLT.out ()]; omega) HP.out (by rw [HX.out ()]; exact hw) (by rw [HX.out ()]; omega))
              dsimp only at hbe
              rw [if_neg (by decide)] at hbe
              subst hbe
              have z9 : ((x : Int) != 59) = true := by simp; omega
              have z9' : (x != 59) = true := by simp; omega
              clear HP HX HRR HLT
              go_wp2_with fail
              refine (rwhich_any _ _).mono ?_
              rintro e wx ⟨rfl, rfl⟩
              rw [hw]
              have HROW := Lib.hid (HW0.out.2.2 _ (Below.refl _ _))
              go_wp2_with (refine wpList_store_row rfl 75 _ _ rfl w.heap.size #[.int .i64 0, .string ⟨#[]⟩] rfl rfl 75 _ HROW.out.1 (HIZ _ _) rfl (HIO _ _) ?_)
              exact bodyPost_ret (results_cell_tmp Try.results37 _ _ w.heap.size 75 _ (0, 0) _ (.int .i64 3) rfl rfl (setRow_heap _ _ _ _ _ _ HROW.out.1) Try.underlying75 rfl (HIZ _ _)) rfl ⟨rfl, HROW.out.2 _⟩
        · obtain rfl : i = n := by omega
          have hbe := HRR.out _ (beh_end (t := t.drop 3) (by rw [HLT.out ()]; exact HP.out))
          dsimp only at hbe
          rw [if_neg (by decide)] at hbe
          subst hbe
          clear HP HRR HLT
          have HROW := Lib.hid (HW0.out.2.2 _ (Below.refl _ _))
          go_wp2_with (refine wpList_store_row rfl 75 _ _ rfl w.heap.size #[.int .i64 0, .string ⟨#[]⟩] rfl rfl 75 _ HROW.out.1 (HIZ _ _) rfl (HIO _ _) ?_)
          exact bodyPost_ret (results_cell_tmp Try.results37 _ _ w.heap.size 75 _ (0, 0) _ (.int .i64 3) rfl rfl (setRow_heap _ _ _ _ _ _ HROW.out.1) Try.underlying75 rfl (HIZ _ _)) rfl ⟨rfl, HROW.out.2 _⟩
    · have p3 : (((strOfNums t).extract 0 3).toList == [53, 50, 59]) = false := by rw [← Bool.not_eq_true]; exact fun e => h5 (q3.1 e)
      have e9 : readS t = noneA 4 := by
        unfold readS
        rw [if_neg hT, if_neg h5]
      rw [e9]
      clear e9 q1 q2 q3 l1 l2 l3 htk ht hn h2 HT HN HAT HDR hT h3 h5
      generalize strOfNums t = s at hsz p1 p2 p3 ⊢
      go_enter Try.func37, Try.ntmps37
      go_wp2
      exact bodyPost_ret (results_cell_tmp Try.results37 _ _ w.heap.size 75 #[.int .i64 0, .string ⟨#[]⟩] (0, 0) _ (.int .i64 4) rfl rfl (heap_alloc_new w _) Try.underlying75 rfl (HIZ _ _)) rfl ⟨rfl, (Below.refl _ _).alloc (Nat.le_refl _) _⟩
end Go.Proofs.Ytmpmlmhphnpdlaa
