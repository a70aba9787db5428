/-
  Proved here: of the document's styles: Params.
-/
import Derived.Test.YtohhmpkmcodoeaaDoorYd
set_option linter.unusedSimpArgs false
set_option linter.unusedVariables false
namespace Go.Proofs.YtohhmpkmcodoeaaDoor
open Go.RowKit
theorem OwnI.from {w U W : World} {v : Value} {xs : List Int} (h : OwnI U v xs W) (hb : Below w.heap.size w U) : OwnI w v xs W := ⟨own_mono h.own hb.size, hb.trans (h.below.mono hb.size)⟩
theorem placeS_lt (n : Int) : placeS n < 8 ∧ -1 ≤ placeS n := by unfold placeS; repeat' split <;> omega
set_option maxRecDepth 100000 in
set_option maxHeartbeats 1000000 in
theorem ry_params (s : Sty) (w : World) (hs : Good s) :
    Calls Tryd.prog 10 #[styV s] w fun e w' => ∃ v, e = .returned v ∧ OwnI w v (paramsS s) w' := by
  have hl := hs.len
  have HL := Lib.hid hl
  obtain ⟨rt, hrt⟩ : ∃ rt, rightS s = rt := ⟨_, rfl⟩
  have hrr := fun W : World => hrt ▸ ry_right s W hs
  have hps : paramsS s = if rt = true then 0 :: flagNs s.fs 9 ++ tellS 38 s.fg ++ tellS 48 s.bg else [] := by unfold paramsS; rw [hrt]
  rw [hps]
  have hfg := hs.fg
  have hbg := hs.bg
  obtain ⟨fs, fg, bg⟩ := s
  obtain ⟨f0, f1, f2, f3, f4, f5, f6, f7, rfl⟩ := eight hl
  have HRT : Hid (∀ W : World, Calls Tryd.prog 13 #[.agg #[.bool f0, .bool f1, .bool f2, .bool f3, .bool f4, .bool f5, .bool f6, .bool f7, .int .u32 fg, .int .u32 bg]] W fun e w' => e = .returned (.bool rt) ∧ Below W.heap.size W w') := Lib.hid hrr
  clear hrr
  have HROW : Hid ((w.alloc (.cells #[.bool f0, .bool f1, .bool f2, .bool f3, .bool f4, .bool f5, .bool f6, .bool f7, .int .u32 fg, .int .u32 bg] 31)).heap[w.heap.size]? = some (.cells (styL ⟨[f0, f1, f2, f3, f4, f5, f6, f7], fg, bg⟩).toArray 31 (0, 0))) := Lib.hid (heap_alloc_new _ _)
  have HB0 : Hid (Below w.heap.size w (w.alloc (.cells #[.bool f0, .bool f1, .bool f2, .bool f3, .bool f4, .bool f5, .bool f6, .bool f7, .int .u32 fg, .int .u32 bg] 31))) := Lib.hid ((Below.refl _ _).alloc (Nat.le_refl _) _)
  have HIS := Lib.hid (info_of (s := ⟨[f0, f1, f2, f3, f4, f5, f6, f7], fg, bg⟩) hl)
  have HLT : Hid (w.heap.size < (w.alloc (.cells #[.bool f0, .bool f1, .bool f2, .bool f3, .bool f4, .bool f5, .bool f6, .bool f7, .int .u32 fg, .int .u32 bg] 31)).heap.size) := Lib.hid (by simp)
  show Calls Tryd.prog 10 #[.agg #[.bool f0, .bool f1, .bool f2, .bool f3, .bool f4, .bool f5, .bool f6, .bool f7, .int .u32 fg, .int .u32 bg]] w _
  obtain ⟨fs, hfs⟩ : ∃ fs, [f0, f1, f2, f3, f4, f5, f6, f7] = fs := ⟨_, rfl⟩
  simp only [hfs] at HROW HL HIS ⊢
  clear hl hs hrt hps hfs
  obtain ⟨ns, hns⟩ : ∃ ns, flagNs fs 9 = ns := ⟨_, rfl⟩
  obtain ⟨t1, ht1⟩ : ∃ t1, tellS 38 fg = t1 := ⟨_, rfl⟩
  obtain ⟨t2, ht2⟩ : ∃ t2, tellS 48 bg = t2 := ⟨_, rfl⟩
  have hl1 := tellS_len 38 fg
  have hl2 := tellS_len 48 bg
  have hl3 := flagNs_len fs 9
  have HT1 := Lib.hid (fun W : World => ht1 ▸ ry_tell 38 fg W hfg.1 hfg.2)
  have HT2 := Lib.hid (fun W : World => ht2 ▸ ry_tell 48 bg W hbg.1 hbg.2)
  rw [ht1] at hl1
  rw [ht2] at hl2
  rw [hns] at hl3
  simp only [hns, ht1, ht2]
  have HNS := Lib.hid hns
  clear hns ht1 ht2
  go_enter Tryd.func10, Tryd.ntmps10
  go_wp2_with fail
  refine (HRT.out _).mono ?_
  generalize (w.alloc (.cells #[.bool f0, .bool f1, .bool f2, .bool f3, .bool f4, .bool f5, .bool f6, .bool f7, .int .u32 fg, .int .u32 bg] 31)) = U at HROW HB0 HLT ⊢
  rintro e w1 ⟨rfl, b1⟩
  have HB1 := Lib.hid b1
  clear b1
  cases rt
  · go_wp2
    go_ret
    exact ⟨_, rfl, by simp only [Bool.false_eq_true, if_false]; exact ⟨World.ownsRow_nil _ _ _ _, HB0.out.trans (HB1.out.mono HB0.out.size)⟩⟩
  · have HO0 : Hid (OwnI U (.slice (some ⟨w1.heap.size, 0, none⟩) 1 1) (0 :: flagNs fs 0) (w1.alloc (.cells #[.int .i64 0] 3))) := Lib.hid ((OwnI.lit w1 [0] 1 rfl (by omega)).from HB1.out)
    go_wp2
    generalize (w1.alloc (.cells #[.int .i64 0] 3)) = U2 at HO0 ⊢
    go_loopw [3, 4] (fun ov nv wr => ∃ (v : Value) (i : Nat), v = ov ∧ nv = .int .i64 ((i : Int) + 1) ∧ i ≤ 9 ∧ Hid (OwnI U v (0 :: flagNs fs i) wr)) (fun _ nv _ => 10 - (intOf nv).toNat)
    case atStart => exact ⟨_, 0, rfl, rfl, by omega, HO0⟩
    case round =>
      obtain ⟨v, i, rfl, rfl, hi, HO⟩ := hrel
      clear HO0
      by_cases hi9 : i < 9
      · have d1 : decide ((i : Int) + 1 < 10) = true := by simp; omega
        obtain ⟨pz, hpz⟩ : ∃ pz, placeS ((i : Int) + 1) = pz := ⟨_, rfl⟩
        have hp8 := placeS_lt ((i : Int) + 1)
        have hfn := flagNs_succ fs i
        have hfl := flagNs_len fs i
        rw [hpz] at hp8 hfn
        have HP := Lib.hid (fun W : World => hpz ▸ ry_place ((i : Int) + 1) W)
        clear hpz
        by_cases h0 : 0 ≤ pz
        · obtain ⟨p, rfl⟩ : ∃ p : Nat, pz = p := ⟨pz.toNat, by omega⟩
          have p8 : (p : Int) < 8 := by omega
          have p8' : p < 8 := by omega
          obtain ⟨bt, hbt⟩ : ∃ bt, fs.getD p false = bt := ⟨_, rfl⟩
          have hcell : ∀ W : World, Below U.heap.size U W → W.cell? ⟨w.heap.size, p, none⟩ = some (.bool bt) := fun W hb => by
            have h1 := (hb.block w.heap.size HLT.out).trans HROW.out
            unfold World.cell?; simp only [h1]
            have h2 := styL_f (s := ⟨fs, fg, bg⟩) HL.out p8'
            rw [← hbt]; simpa using h2
          have hc := hcell wr HO.out.below
          have hd : decide (0 ≤ ((p : Nat) : Int)) = true := by simp
          rw [show ((p : Nat) : Int).toNat = p from rfl, hd, hbt] at hfn
          cases bt
          · simp only [Bool.and_false, Bool.false_eq_true, if_false, List.append_nil] at hfn
            have HO2 : Hid (OwnI U v (0 :: flagNs fs (i + 1)) wr) := Lib.hid (by rw [hfn]; exact HO.out)
            clear hfn hfl hp8 hcell hbt h0 hd HO
            go_wp2_with fail
            refine (HP.out _).mono ?_
            rintro e wx ⟨rfl, rfl⟩
            go_wp2_with fail
            refine (HP.out _).mono ?_
            rintro e wx ⟨rfl, rfl⟩
            go_wp2
            go_roundw
            case rel => exact ⟨_, i + 1, rfl, by go_num, by omega, HO2⟩
            case measure => simp [intOf]; omega
          · simp only [Bool.and_self, if_true] at hfn
            obtain ⟨A4, c4, w4, hrun, hO4⟩ := HO.out.app (by simp; omega) ((i : Int) + 1)
            have HO2 : Hid (OwnI U _ (0 :: flagNs fs (i + 1)) w4) := Lib.hid (by rw [hfn]; exact hO4)
            have HRUN := Lib.hid hrun
            clear hfn hfl hp8 hcell hbt h0 hd HO hrun hO4
            go_wp2_with fail
            refine (HP.out _).mono ?_
            rintro e wx ⟨rfl, rfl⟩
            go_wp2_with fail
            refine (HP.out _).mono ?_
            rintro e wx ⟨rfl, rfl⟩
            go_wp2_with (at_builtin; refine wpList_app rfl (.tmp 23) (.tmp 25) _ rfl _ _ rfl rfl HRUN.out ?_)
            go_roundw
            case rel => exact ⟨_, i + 1, rfl, by go_num, by omega, HO2⟩
            case measure => simp [intOf]; omega
        · obtain rfl : pz = -1 := by omega
          simp only [show decide ((0 : Int) ≤ -1) = false by decide, Bool.false_and, Bool.false_eq_true, if_false, List.append_nil] at hfn
          have HO2 : Hid (OwnI U v (0 :: flagNs fs (i + 1)) wr) := Lib.hid (by rw [hfn]; exact HO.out)
          clear hfn hfl hp8 h0 HO
          go_wp2_with fail
          refine (HP.out _).mono ?_
          rintro e wx ⟨rfl, rfl⟩
          go_wp2
          go_roundw
          case rel => exact ⟨_, i + 1, rfl, by go_num, by omega, HO2⟩
          case measure => simp [intOf]; omega
      · obtain rfl : i = 9 := by omega
        have d1 : decide (((9 : Nat) : Int) + 1 < 10) = false := by decide
        have HO9 : Hid (OwnI U v (0 :: ns) wr) := Lib.hid (HNS.out ▸ HO.out)
        clear HO
        have HO := HO9
        clear HO9
        have hrow : ∀ W : World, Below U.heap.size U W → W.cell? ⟨w.heap.size, 8, none⟩ = some (.int .u32 fg) ∧ W.cell? ⟨w.heap.size, 9, none⟩ = some (.int .u32 bg) := fun W hb => by
          have h1 := (hb.block w.heap.size HLT.out).trans HROW.out
          have h2 := styL_8 (s := ⟨fs, fg, bg⟩) HL.out
          have h3 := styL_9 (s := ⟨fs, fg, bg⟩) HL.out
          constructor
          · unfold World.cell?; simp only [h1]; simpa using h2
          · unfold World.cell?; simp only [h1]; simpa using h3
        have c8 := (hrow wr HO.out.below).1
        have HRW := Lib.hid hrow
        clear hi hi9 hrow
        go_wp2_with fail
        refine (HT1.out _).mono ?_
        rintro e w5 ⟨v5, rfl, o5⟩
        obtain ⟨A6, c6, w6, hrun6, o6⟩ := HO.out.apps o5.ri o5.below (by simp; omega)
        have c9 := (HRW.out w6 o6.below).2
        have HRUN6 := Lib.hid hrun6
        have HO6 := Lib.hid o6
        clear o5 hrun6 o6 HO c8
        go_wp2_with (at_builtin; refine wpList_app rfl (.tmp 27) (.tmp 30) _ rfl _ _ rfl rfl HRUN6.out ?_)
        refine (HT2.out _).mono ?_
        rintro e w7 ⟨v7, rfl, o7⟩
        obtain ⟨k6, hk6⟩ : ∃ k6, (0 :: ns).length + t1.length = k6 := ⟨_, rfl⟩
        have hk6' : (0 :: ns ++ t1).length = k6 := by rw [List.length_append]; exact hk6
        obtain ⟨A8, c8, w8, hrun8, o8⟩ := HO6.out.apps o7.ri o7.below (by simp; omega)
        have HRUN8 := Lib.hid hrun8
        have HO8 := Lib.hid (o8.from HB0.out)
        clear o7 hrun8 o8 HO6 c9 HRUN6
        go_wp2_with (at_builtin; refine wpList_app rfl (.tmp 32) (.tmp 35) _ rfl _ _ rfl rfl HRUN8.out ?_)
        go_ret
        have h8 := HO8.out
        rw [show (0 :: ns ++ t1).length + t2.length = ns.length + t1.length + 1 + t2.length by simp, show 0 :: ns ++ t1 ++ t2 = 0 :: (ns ++ (t1 ++ t2)) by simp] at h8
        exact ⟨_, rfl, h8⟩
end Go.Proofs.YtohhmpkmcodoeaaDoor
