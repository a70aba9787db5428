/-
  Proved here: KeysLive.
-/
import Derived.Test.YtlppnnehgfpgbaaKyf
import Derived.Test.YtlppnnehgfpgbaaPlK
import Derived.Deep.CutBlock
set_option linter.unusedSimpArgs false
set_option linter.unusedVariables false
namespace Go.Proofs.Ytlppnnehgfpgbaa
open Go.RowKit
/-- The end of a slice. -/
theorem run_fromL {A : Option Addr} {n c k : Nat} (hk : k ≤ n) (hc : n ≤ c) (hz : A = none → c = 0) :
    ∃ A2 : Option Addr, (∀ W bs, RI .u8 W A bs → bs.length = n → RI .u8 W A2 (bs.drop k)) ∧ ∀ W : World, (Instr.slice 28 (.slice A n c) (some (.int .u64 (k : Int))) none none).run Try.prog W = .ok (.slice A2 (n - k) (c - k)) W := by
  have h1 : (k : Int) ≤ (n : Int) := by omega
  rcases A with _ | ad
  · obtain rfl := hz rfl
    obtain rfl : n = 0 := by omega
    obtain rfl : k = 0 := by omega
    refine ⟨none, fun W bs h hl => ?_, fun W => ?_⟩
    · obtain rfl : bs = [] := List.eq_nil_of_length_eq_zero hl
      exact RI.nothing _ _ _
    · simp [Instr.slice, run_underlying Try.underlying28, Instr.sliceBounds, run_sliceBound]
  · refine ⟨some (if c = k then ad else ad.add k), fun W bs h hl hp => ?_, fun W => ?_⟩
    · obtain ⟨b', off', e, hb, hcl⟩ := h (by simp at hp; omega)
      injection e with e
      subst e
      have ha : (⟨b', off', none⟩ : Addr).add k = ⟨b', off' + k, none⟩ := by unfold Addr.add; split <;> simp_all
      rw [if_neg (by simp at hp; omega), ha]
      refine ⟨b', off' + k, rfl, hb, fun i hi => ?_⟩
      rw [Nat.add_assoc, hcl (k + i) (by simp at hi; omega)]
      simp [List.getD]
    · obtain ⟨i0, hi, _, hz1, _⟩ := info_parts info_u8
      simp [Instr.slice, run_underlying Try.underlying28, Instr.sliceBounds, run_sliceBound, h1, hi, hz1]
      split <;> rfl
theorem drewN_addL (w : World) (a b : Nat) : (w.drewN a).drewN b = w.drewN (a + b) := by simp [World.drewN, Nat.add_assoc]
/-- What KeysLive holds: the stream with the bytes sb behind its base, the sink, the document's stream. -/
structure KL (w : World) (g h x base : Nat) (sb all : List Int) (rb cnt : Nat) (W : World) : Prop where
  st : St W g base sb
  sk : Sk W h cnt
  rs : Rs W x all rb
  below : Below w.heap.size w W
  gw : w.heap.size ≤ g
  hw : w.heap.size ≤ h
  xw : w.heap.size ≤ x
  gh : g ≠ h
  gx : g ≠ x
  hx : h ≠ x
theorem KL.to {w : World} {g h x base : Nat} {sb all : List Int} {rb cnt : Nat} {W W' : World} (k : KL w g h x base sb all rb cnt W) (hb : Below W.heap.size W W') : KL w g h x base sb all rb cnt W' :=
  ⟨k.st.below hb, k.sk.below hb, k.rs.below hb, Bto k.below hb, k.gw, k.hw, k.xw, k.gh, k.gx, k.hx⟩
theorem KL.stream {w : World} {g h x base base' : Nat} {sb sb' all : List Int} {rb cnt : Nat} {W W' : World} (k : KL w g h x base sb all rb cnt W) (hs : St W' g base' sb') (ho : Only g W W') : KL w g h x base' sb' all rb cnt W' :=
  ⟨hs, k.sk.only k.gh ho, k.rs.only k.gx k.st.noU8 ho, Only.below ho k.below k.gw, k.gw, k.hw, k.xw, k.gh, k.gx, k.hx⟩
theorem KL.doc {w : World} {g h x base : Nat} {sb all all' : List Int} {rb rb' cnt : Nat} {W W' : World} (k : KL w g h x base sb all rb cnt W) (hs : Rs W' x all' rb') (ho : Only x W W') : KL w g h x base sb all' rb' cnt W' :=
  ⟨k.st.only (fun e => k.gx e.symm) k.rs.noU8 ho, k.sk.only (fun e => k.hx e.symm) ho, hs, Only.below ho k.below k.xw, k.gw, k.hw, k.xw, k.gh, k.gx, k.hx⟩
theorem KL.sink {w : World} {g h x base : Nat} {sb all : List Int} {rb cnt cnt' : Nat} {W W' : World} (k : KL w g h x base sb all rb cnt W) (hs : Sk W' h cnt') (ho : Only h W W') : KL w g h x base sb all rb cnt' W' :=
  ⟨k.st.only (fun e => k.gh e.symm) k.sk.noU8 ho, hs, k.rs.only k.hx k.sk.noU8 ho, Only.below ho k.below k.hw, k.gw, k.hw, k.xw, k.gh, k.gx, k.hx⟩
/-- A call, copied to a block of its own. -/
def OB (W : World) (b : Nat) (kd : Int) (nn : Nat) (A : Option Addr) (m c : Nat) : Prop := W.heap[b]? = some (.cells #[.int .i64 kd, .int .u64 nn, .slice A m c] 33 (0, 0))
theorem OB.below {W W' : World} {b : Nat} {kd : Int} {nn : Nat} {A : Option Addr} {m c : Nat} (h : OB W b kd nn A m c) (hb : Below W.heap.size W W') : OB W' b kd nn A m c := (hb.block b (lt_of_block h)).trans h
theorem OB.only {W W' : World} {b k : Nat} {kd : Int} {nn : Nat} {A : Option Addr} {m c : Nat} (h : OB W b kd nn A m c) (hk : b ≠ k) (ho : Only k W W') : OB W' b kd nn A m c := (ho.block b (lt_of_block h) hk).trans h
set_option maxRecDepth 100000 in
set_option maxHeartbeats 16000000 in
theorem live_any {A : Option Addr} {N cap : Nat} {l : List KOp} (w : World) (hs : SlKOp w A N cap l) : Calls Try.prog 3 #[.slice A N cap] w fun e w' => e = .returned (.bool true) ∧ Below w.heap.size w w' := by
  have HSL := Lib.hid hs
  have hNm : N ≤ 9223372036854775807 := by have := hs.le; have := hs.max; unfold maxLen at this; omega
  clear hs
  go_enter Try.func3, Try.ntmps3
  go_wp2_with fail
  refine (new_any _).mono ?_
  rintro e w1 ⟨rfl, hs1, hb1⟩
  obtain ⟨g, hg⟩ : ∃ g, w.heap.size = g := ⟨_, rfl⟩
  have HGW := Lib.hid (show w.heap.size ≤ g from Nat.le_of_eq hg)
  have HS1 := Lib.hid (show St w1 g 0 [] from by rw [← hg]; exact hs1)
  have HB1 := Lib.hid hb1
  rw [hg]
  clear hs1 hb1 hg
  go_wp2_with fail
  refine (sink_any _).mono ?_
  rintro e w2 ⟨rfl, hs2, hb2⟩
  obtain ⟨h, hh⟩ : ∃ h, w1.heap.size = h := ⟨_, rfl⟩
  have HGH := Lib.hid (show g < h from by have := HS1.out.lt; omega)
  have HS2 := Lib.hid (show Sk w2 h 0 from by rw [← hh]; exact hs2)
  have HS1 := Lib.hid (HS1.out.below hb2)
  have HB1 := Lib.hid (Bto HB1.out hb2)
  rw [hh]
  clear hs2 hb2 hh
  have hal := (Below.refl w2.heap.size w2).alloc (Nat.le_refl _) (.cells #[.slice none 0 0, .int .u64 0] 31)
  have HX := Lib.hid (show Rs (w2.alloc (.cells #[.slice none 0 0, .int .u64 0] 31)) w2.heap.size [] 0 from ⟨none, 0, heap_alloc_new w2 _, RI.nothing _ _ _, by simp, by unfold maxLen; omega, fun _ => rfl⟩)
  have HK0 := Lib.hid (show KL w g h w2.heap.size 0 ([].drop 0) [] 0 0 (w2.alloc (.cells #[.slice none 0 0, .int .u64 0] 31)) from
    ⟨HS1.out.below hal, HS2.out.below hal, HX.out, Bto HB1.out hal, HGW.out, by have := HGW.out; have := HGH.out; omega, HB1.out.size, by have := HGH.out; omega, by have := HS1.out.lt; omega, by have := HS2.out.lt; omega⟩)
  clear hal
  go_upto_region 2 with fail
  obtain ⟨x, hx⟩ : ∃ x, w2.heap.size = x := ⟨_, rfl⟩
  obtain ⟨X, hX⟩ : ∃ X, w2.alloc (.cells #[.slice none 0 0, .int .u64 0] 31) = X := ⟨_, rfl⟩
  rw [hX, hx] at HK0
  rw [hX, hx]
  clear hX hx HX HS1 HS2
  go_wp2
  go_loopw [6, 7] (fun nv iv wr => ∃ (i cnt : Nat), nv = .int .u64 cnt ∧ iv = .int .i64 i ∧ i ≤ N ∧ i ≤ 60 ∧ Hid (∃ (all : List Int) (b0 : Nat), b0 ≤ all.length ∧ all.length ≤ 600 * i ∧ all.length - b0 ≤ 512 ∧ cnt ≤ 600 * i ∧ KL w g h x b0 (all.drop b0) all b0 cnt wr)) (fun _ iv _ => 60 - (intOf iv).toNat)
  case atStart => exact ⟨0, 0, rfl, rfl, by omega, by omega, Lib.hid ⟨[], 0, by simp, by simp, by simp, by omega, HK0.out⟩⟩
  case round =>
    obtain ⟨i, cnt, rfl, rfl, hiN, hi60, HR⟩ := hrel
    obtain ⟨all, b0, hb0, ha, hd0, hcnt, hk⟩ := HR.out
    have HK := Lib.hid hk
    clear HK0 HR hk
    by_cases hin : i < N
    · have d1 : decide ((i : Int) < (N : Int)) = true := by simp; omega
      have d2 : decide (i < N) = true := by simp; omega
      by_cases hi : i < 60
      · have e1 : decide ((i : Int) < 60) = true := by simp; omega
        have e2 : decide (i < 60) = true := by simp; omega
        obtain ⟨bl, off, hA, hbl, hcl⟩ := HSL.out.reads (by rw [HSL.out.len_eq]; omega)
        have hcl := hcl i (by rw [HSL.out.len_eq]; exact hin)
        have hok := HSL.out.ok i (by rw [HSL.out.len_eq]; exact hin)
        obtain ⟨xo, hxo⟩ : ∃ x, atKOp l i = x := ⟨_, rfl⟩
        rw [hxo] at hcl hok
        obtain ⟨kd, nn, dd⟩ := xo
        obtain ⟨q0, q1, A2, c2, q2, sl⟩ := hcl
        obtain ⟨m, hm⟩ : ∃ m, dd.length = m := ⟨_, rfl⟩
        have q2 : w.cell? ⟨bl, off + i * 3 + 2, none⟩ = some (.slice A2 m c2) := by rw [← hm]; exact q2
        have hnn : nn < 18446744073709551616 := hok.2
        have HSD := Lib.hid (show RI .u8 w A2 dd from sl.reads)
        have HSZ := Lib.hid (show A2 = none → c2 = 0 from sl.nil)
        have HSC := Lib.hid (show m ≤ c2 from by rw [← hm]; exact sl.le)
        have HDM := Lib.hid hm
        have a0 := (HK.out.below.cell (p := ⟨bl, off + i * 3, none⟩) hbl).trans q0
        have a1 := (HK.out.below.cell (p := ⟨bl, off + i * 3 + 1, none⟩) hbl).trans q1
        have a2 := (HK.out.below.cell (p := ⟨bl, off + i * 3 + 2, none⟩) hbl).trans q2
        have g1 : (0 : Int) ≤ (i : Int) := by omega
        have g2 : (i : Int) < (N : Int) := by omega
        have w1 : IntKind.i64.wrap ((i : Int) + 1) = (i : Int) + 1 := IntWalk.i64_in _ (by omega)
        have hdl0 : (all.drop b0).length = all.length - b0 := by simp
        have HDL0 := Lib.hid hdl0
        subst hA
        clear hxo hok q0 q1 q2 sl hm hbl hdl0
        have hal := (Below.refl wr.heap.size wr).alloc (Nat.le_refl _) (.cells #[.int .i64 kd, .int .u64 nn, .slice A2 m c2] 33)
        have HOZ := Lib.hid (show OB (wr.alloc (.cells #[.int .i64 kd, .int .u64 nn, .slice A2 m c2] 33)) wr.heap.size kd nn A2 m c2 from heap_alloc_new wr _)
        have hbg : wr.heap.size ≠ g := by have := HK.out.st.lt; omega
        have hbh : wr.heap.size ≠ h := by have := HK.out.sk.lt; omega
        have HK := Lib.hid (HK.out.to hal)
        clear hal
        go_upto_region 7 with fail
        obtain ⟨Z, hZ⟩ : ∃ Z, wr.alloc (.cells #[.int .i64 kd, .int .u64 nn, .slice A2 m c2] 33) = Z := ⟨_, rfl⟩
        obtain ⟨gb, hgb⟩ : ∃ gb, wr.heap.size = gb := ⟨_, rfl⟩
        rw [hZ] at HK HOZ ⊢
        rw [hgb] at HOZ hbg hbh ⊢
        clear hZ hgb a0 a1 a2
        obtain ⟨z0, z1, z2⟩ := three_cells HOZ.out
        by_cases h600 : 600 < m
        · have k1 : decide ((600 : Int) < (m : Int)) = true := by simp; omega
          have k1n : decide (600 < m) = true := by simp; omega
          have k2 : (600 : Int) < (m : Int) := by omega
          go_wp2_with fail
          refine (alive_any _).mono ?_
          rintro e wf ⟨rfl, hf⟩
          have HF := Lib.hid (Bto HK.out.below hf)
          clear hf
          go_wp2
          go_ret
          exact ⟨rfl, HF.out⟩
        have k1 : decide ((600 : Int) < (m : Int)) = false := by simp; omega
        have k1n : decide (600 < m) = false := by simp; omega
        have k2 : ¬ (600 : Int) < (m : Int) := by omega
        go_upto_block 2 with fail
        go_cut [6] (fun nv wx => ∃ cnt' : Nat, nv = .int .u64 cnt' ∧ cnt' ≤ 600 * i + 600 ∧ Hid (∃ (all' : List Int) (b' : Nat), b' ≤ all'.length ∧ all'.length ≤ 600 * i + 600 ∧ all'.length - b' ≤ 512 ∧ KL w g h x b' (all'.drop b') all' b' cnt' wx))
        case rest =>
          obtain ⟨cnt', rfl, hc1, HR⟩ := hcut
          obtain ⟨all', b', hb1, ha1, hd1, hk⟩ := HR.out
          have HK := Lib.hid hk
          clear hk HR
          obtain ⟨s, hs⟩ : ∃ s, all'.length = s := ⟨_, rfl⟩
          have hdl : (all'.drop b').length = all'.length - b' := by simp
          go_wp2_with fail
          refine (pending_st HK.out.st (by rw [hdl]; omega)).mono ?_
          rintro e wp ⟨v8, rfl, hO⟩
          have HK := Lib.hid (HK.out.to hO.below)
          obtain ⟨A8, c8, hv8, hr8, _⟩ := DV.own hO.own
          obtain ⟨n8, hn8⟩ : ∃ m, (all'.drop b').length = m := ⟨_, rfl⟩
          rw [hn8] at hv8
          subst hv8
          obtain ⟨Au, cu, hxh, hru, hcu1, _, hzu⟩ := HK.out.rs.ex
          rw [hs] at hxh hcu1
          obtain ⟨x0, x1⟩ := two_cells hxh
          obtain ⟨A9, hr9, hrun9⟩ := run_fromL (A := Au) (n := s) (c := cu) (k := b') (by omega) hcu1 hzu
          have hd9 : s - b' = n8 := by omega
          rw [hd9] at hrun9
          have HCV8 : Hid (∀ m, (convert 28 9 (.slice A8 n8 c8)).run Try.prog (wp.drewN m) = .ok (.string (strOfNums (all'.drop b'))) (wp.drewN m)) := Lib.hid (fun m => conv_text hn8 c8 (hr8.below (belowN (Below.refl wp.heap.size wp) m)))
          have HCV9 : Hid (∀ m, (convert 28 9 (.slice A9 n8 (cu - b'))).run Try.prog (wp.drewN m) = .ok (.string (strOfNums (all'.drop b'))) (wp.drewN m)) := Lib.hid (fun m => conv_text hn8 _ ((hr9 wp all' hru hs).below (belowN (Below.refl wp.heap.size wp) m)))
          obtain ⟨S, hS⟩ : ∃ S, strOfNums (all'.drop b') = S := ⟨_, rfl⟩
          rw [hS] at HCV8 HCV9
          have hcv8 := HCV8.out
          have hcv9 := HCV9.out
          have ss : (S.toList == S.toList) = true := by simp
          have HCT := Lib.hid (fun m => count_st (HK.out.st.below (belowN (Below.refl wp.heap.size wp) m)) (s := s) (by rw [hn8]; omega) (by omega))
          have HCS := Lib.hid (fun m => count_sk (HK.out.sk.below (belowN (Below.refl wp.heap.size wp) m)))
          have p1 : IntKind.u64.wrap (s : Int) = (s : Int) := wrap64_in (by omega)
          have p8 : ((s : Int) != (s : Int)) = false := by simp
          have p8n : (s != s) = false := by simp
          have p9 : ((b' : Int) != (b' : Int)) = false := by simp
          have p9n : (b' != b') = false := by simp
          have p10 : ((cnt' : Int) != (cnt' : Int)) = false := by simp
          have p10n : (cnt' != cnt') = false := by simp
          have HNX := Lib.hid (show b' ≤ all'.length ∧ all'.length ≤ 600 * (i + 1) ∧ all'.length - b' ≤ 512 ∧ cnt' ≤ 600 * (i + 1) from ⟨by omega, by omega, by omega, by omega⟩)
          clear hO hr8 hr9 hru hs hn8 hS hdl hxh
          go_wp2
          go_quiet (first | (go_at_call 20; exact ((HCT.out _).mono fun e w' ⟨he, m', hw⟩ => ⟨he, _, hw.trans (drewN_addL _ _ _)⟩)) | (go_at_call 21; exact ((HCS.out _).mono fun e w' ⟨he, hw⟩ => ⟨he, _, hw.symm⟩)))
          have HK := Lib.hid (HK.out.to (belowN (Below.refl wp.heap.size wp) nq))
          go_wp2
          go_roundw
          case rel => exact ⟨i + 1, cnt', rfl, by go_num, by omega, by omega, Lib.hid ⟨all', b', HNX.out.1, HNX.out.2.1, HNX.out.2.2.1, HNX.out.2.2.2, HK.out⟩⟩
          case measure => simp [intOf]; omega
        case first =>
        have HKD := Lib.hid (HK.out.to (belowN (Below.refl Z.heap.size Z) 1))
        have HOD := Lib.hid (HOZ.out.below (belowN (Below.refl Z.heap.size Z) 1))
        by_cases hk0 : kd = 0
        · have y0 : (kd == 0) = true := by simp [hk0]
          clear hk0
          go_upto_region 16 with fail
          clear z0 z1 z2
          obtain ⟨z0, z1, z2⟩ := three_cells (show Z.drew.heap[gb]? = some (.cells #[.int .i64 kd, .int .u64 nn, .slice A2 m c2] 33 (0, 0)) from HOD.out)
          have hdl0 := HDL0.out
          by_cases hfit : m ≤ 512 - (all.length - b0)
          · skip
            refine wp_region_held_drew (S := fun W => Below w.heap.size w W) (by kernel_rfl) HKD.out.below (fun hHeld => ?_)
            refine wpAnyH_take (i := 0) (v := ?_) (by simp; rfl) (by kernel_rfl) (by kernel_rfl) (by kernel_rfl) (by exact fun _ _ _ h => h) (Or.inl ⟨by rfl, fun wx hSx => ?_⟩) hHeld ?_
            rotate_left
            · clear hSx; go_simp; (try with_reducible rfl)
            simp only [Act.put, List.setIfInBounds_toArray, List.set_cons_zero, List.set_cons_succ]
            refine wpAnyH_take (i := 1) (v := ?_) (by simp; rfl) (by kernel_rfl) (by kernel_rfl) (by kernel_rfl) (by exact fun _ _ _ h => h) (Or.inl ⟨by rfl, fun wx hSx => ?_⟩) hHeld ?_
            rotate_left
            · clear hSx; go_simp; (try with_reducible rfl)
            simp only [Act.put, List.setIfInBounds_toArray, List.set_cons_zero, List.set_cons_succ]
            refine wpAnyH_take (i := 4) (v := ?_) (by simp; rfl) (by kernel_rfl) (by kernel_rfl) (by kernel_rfl) (by exact fun _ _ _ h => h) (Or.inl ⟨by rfl, fun wx hSx => ?_⟩) hHeld ?_
            rotate_left
            · clear hSx; go_simp; (try with_reducible rfl)
            simp only [Act.put, List.setIfInBounds_toArray, List.set_cons_zero, List.set_cons_succ]
            refine wpAnyH_take (i := 5) (v := ?_) (by simp; rfl) (by kernel_rfl) (by kernel_rfl) (by kernel_rfl) (by exact fun _ _ _ h => h) (Or.inl ⟨by rfl, fun wx hSx => ?_⟩) hHeld ?_
            rotate_left
            · clear hSx; go_simp; (try with_reducible rfl)
            simp only [Act.put, List.setIfInBounds_toArray, List.set_cons_zero, List.set_cons_succ]
            refine wpAnyH_ready (rs := [2, 6]) (by kernel_rfl) (by simp) ?_
            refine AllReadyH.cons (by simp; rfl) (fun K0 hK0 => ?_) (AllReadyH.cons (by simp; rfl) (fun K0 hK0 => ?_) AllReadyH.nil)
            · go_simp
              refine hK0.out _ _ hHeld (fun _ => ?_)
              clear hK0 K0
              refine wpAnyH_ready (rs := [3, 6]) (by kernel_rfl) (by simp) ?_
              refine AllReadyH.cons (by simp; rfl) (fun K0 hK0 => ?_) (AllReadyH.cons (by simp; rfl) (fun K0 hK0 => ?_) AllReadyH.nil)
              · go_simp
                refine (type_ok HKD.out.st HDM.out (HSD.out.below HKD.out.below) HSZ.out (by rw [hdl0]; omega) (by rw [hdl0]; omega)).mono ?_
                rintro e V1 ⟨rfl, hst, hot, _⟩
                have HK1 := Lib.hid (HKD.out.stream hst hot)
                have HO1 := Lib.hid (HOD.out.only hbg hot)
                clear hst hot
                have hHeld1 := HK1.out.below
                refine hK0.out _ _ hHeld1 (fun _ => ?_)
                clear hK0 K0 hHeld
                have hHeld := hHeld1
                obtain ⟨z0, z1, z2⟩ := three_cells HO1.out
                refine wpAnyH_ready (rs := [6]) (by kernel_rfl) (by simp) ?_
                refine AllReadyH.cons (by simp; rfl) (fun K0 hK0 => ?_) AllReadyH.nil
                go_simp
                refine hK0.out _ _ hHeld (fun _ => ?_)
                clear hK0 K0
                refine wpAnyH_ready (rs := [7]) (by kernel_rfl) (by simp) ?_
                refine AllReadyH.cons (by simp; rfl) (fun K0 hK0 => ?_) AllReadyH.nil
                go_simp
                refine (rtype_ok HK1.out.rs HDM.out (HSD.out.below HK1.out.below) HSZ.out hb0 hd0 (by omega) (by omega)).mono ?_
                rintro e V2 ⟨rfl, hst, hot⟩
                have HK2 := Lib.hid (HK1.out.doc hst hot)
                clear hst hot
                have hHeld2 := HK2.out.below
                refine hK0.out _ _ hHeld2 (fun _ => ?_)
                clear hK0 K0 hHeld
                have hHeld := hHeld2
                refine wpAnyH_take (i := 8) (v := ?_) (by simp; rfl) (by kernel_rfl) (by kernel_rfl) (by kernel_rfl) (by exact fun _ _ _ h => h) (Or.inl ⟨by rfl, fun wx hSx => ?_⟩) hHeld ?_
                rotate_left
                · clear hSx; go_simp; (try with_reducible rfl)
                simp only [Act.put, List.setIfInBounds_toArray, List.set_cons_zero, List.set_cons_succ]
                refine wpAnyH_done (by kernel_rfl) ?_ _
                have hall : (all ++ dd).length = all.length + m := by rw [List.length_append, HDM.out]
                have hdr : (all.drop b0) ++ dd = (all ++ dd).drop b0 := by rw [List.drop_append_of_le_length hb0]
                rw [hdr] at HK2
                obtain ⟨all2, hall2⟩ : ∃ a, all ++ dd = a := ⟨_, rfl⟩
                rw [hall2] at HK2 hall
                clear hall2 hdr
                have HK := HK2
                skip
                have hb1 : b0 ≤ all2.length := by omega
                have ha1 : all2.length ≤ 600 * i + 600 := by omega
                have hc1 : cnt ≤ 600 * i + 600 := by omega
                have hd1 : all2.length - b0 ≤ 512 := by omega
                have HNX := Lib.hid (show b0 ≤ all2.length ∧ all2.length ≤ 600 * i + 600 ∧ all2.length - b0 ≤ 512 from ⟨by omega, by omega, by omega⟩)
                have hcx : cnt ≤ 600 * i + 600 := by omega
                go_wp2
                go_meet
                exact ⟨cnt, rfl, hcx, Lib.hid ⟨all2, b0, HNX.out.1, HNX.out.2.1, HNX.out.2.2, HK.out⟩⟩
              · go_simp
                refine hK0.out _ _ hHeld (fun _ => ?_)
                clear hK0 K0
                refine wpAnyH_ready (rs := [3]) (by kernel_rfl) (by simp) ?_
                refine AllReadyH.cons (by simp; rfl) (fun K0 hK0 => ?_) AllReadyH.nil
                go_simp
                refine (type_ok HKD.out.st HDM.out (HSD.out.below HKD.out.below) HSZ.out (by rw [hdl0]; omega) (by rw [hdl0]; omega)).mono ?_
                rintro e V1 ⟨rfl, hst, hot, _⟩
                have HK1 := Lib.hid (HKD.out.stream hst hot)
                have HO1 := Lib.hid (HOD.out.only hbg hot)
                clear hst hot
                have hHeld1 := HK1.out.below
                refine hK0.out _ _ hHeld1 (fun _ => ?_)
                clear hK0 K0 hHeld
                have hHeld := hHeld1
                obtain ⟨z0, z1, z2⟩ := three_cells HO1.out
                refine wpAnyH_ready (rs := [7]) (by kernel_rfl) (by simp) ?_
                refine AllReadyH.cons (by simp; rfl) (fun K0 hK0 => ?_) AllReadyH.nil
                go_simp
                refine (rtype_ok HK1.out.rs HDM.out (HSD.out.below HK1.out.below) HSZ.out hb0 hd0 (by omega) (by omega)).mono ?_
                rintro e V2 ⟨rfl, hst, hot⟩
                have HK2 := Lib.hid (HK1.out.doc hst hot)
                clear hst hot
                have hHeld2 := HK2.out.below
                refine hK0.out _ _ hHeld2 (fun _ => ?_)
                clear hK0 K0 hHeld
                have hHeld := hHeld2
                refine wpAnyH_take (i := 8) (v := ?_) (by simp; rfl) (by kernel_rfl) (by kernel_rfl) (by kernel_rfl) (by exact fun _ _ _ h => h) (Or.inl ⟨by rfl, fun wx hSx => ?_⟩) hHeld ?_
                rotate_left
                · clear hSx; go_simp; (try with_reducible rfl)
                simp only [Act.put, List.setIfInBounds_toArray, List.set_cons_zero, List.set_cons_succ]
                refine wpAnyH_done (by kernel_rfl) ?_ _
                have hall : (all ++ dd).length = all.length + m := by rw [List.length_append, HDM.out]
                have hdr : (all.drop b0) ++ dd = (all ++ dd).drop b0 := by rw [List.drop_append_of_le_length hb0]
                rw [hdr] at HK2
                obtain ⟨all2, hall2⟩ : ∃ a, all ++ dd = a := ⟨_, rfl⟩
                rw [hall2] at HK2 hall
                clear hall2 hdr
                have HK := HK2
                skip
                have hb1 : b0 ≤ all2.length := by omega
                have ha1 : all2.length ≤ 600 * i + 600 := by omega
                have hc1 : cnt ≤ 600 * i + 600 := by omega
                have hd1 : all2.length - b0 ≤ 512 := by omega
                have HNX := Lib.hid (show b0 ≤ all2.length ∧ all2.length ≤ 600 * i + 600 ∧ all2.length - b0 ≤ 512 from ⟨by omega, by omega, by omega⟩)
                have hcx : cnt ≤ 600 * i + 600 := by omega
                go_wp2
                go_meet
                exact ⟨cnt, rfl, hcx, Lib.hid ⟨all2, b0, HNX.out.1, HNX.out.2.1, HNX.out.2.2, HK.out⟩⟩
            · go_simp
              refine hK0.out _ _ hHeld (fun _ => ?_)
              clear hK0 K0
              refine wpAnyH_ready (rs := [2]) (by kernel_rfl) (by simp) ?_
              refine AllReadyH.cons (by simp; rfl) (fun K0 hK0 => ?_) AllReadyH.nil
              go_simp
              refine hK0.out _ _ hHeld (fun _ => ?_)
              clear hK0 K0
              refine wpAnyH_ready (rs := [3]) (by kernel_rfl) (by simp) ?_
              refine AllReadyH.cons (by simp; rfl) (fun K0 hK0 => ?_) AllReadyH.nil
              go_simp
              refine (type_ok HKD.out.st HDM.out (HSD.out.below HKD.out.below) HSZ.out (by rw [hdl0]; omega) (by rw [hdl0]; omega)).mono ?_
              rintro e V1 ⟨rfl, hst, hot, _⟩
              have HK1 := Lib.hid (HKD.out.stream hst hot)
              have HO1 := Lib.hid (HOD.out.only hbg hot)
              clear hst hot
              have hHeld1 := HK1.out.below
              refine hK0.out _ _ hHeld1 (fun _ => ?_)
              clear hK0 K0 hHeld
              have hHeld := hHeld1
              obtain ⟨z0, z1, z2⟩ := three_cells HO1.out
              refine wpAnyH_ready (rs := [7]) (by kernel_rfl) (by simp) ?_
              refine AllReadyH.cons (by simp; rfl) (fun K0 hK0 => ?_) AllReadyH.nil
              go_simp
              refine (rtype_ok HK1.out.rs HDM.out (HSD.out.below HK1.out.below) HSZ.out hb0 hd0 (by omega) (by omega)).mono ?_
              rintro e V2 ⟨rfl, hst, hot⟩
              have HK2 := Lib.hid (HK1.out.doc hst hot)
              clear hst hot
              have hHeld2 := HK2.out.below
              refine hK0.out _ _ hHeld2 (fun _ => ?_)
              clear hK0 K0 hHeld
              have hHeld := hHeld2
              refine wpAnyH_take (i := 8) (v := ?_) (by simp; rfl) (by kernel_rfl) (by kernel_rfl) (by kernel_rfl) (by exact fun _ _ _ h => h) (Or.inl ⟨by rfl, fun wx hSx => ?_⟩) hHeld ?_
              rotate_left
              · clear hSx; go_simp; (try with_reducible rfl)
              simp only [Act.put, List.setIfInBounds_toArray, List.set_cons_zero, List.set_cons_succ]
              refine wpAnyH_done (by kernel_rfl) ?_ _
              have hall : (all ++ dd).length = all.length + m := by rw [List.length_append, HDM.out]
              have hdr : (all.drop b0) ++ dd = (all ++ dd).drop b0 := by rw [List.drop_append_of_le_length hb0]
              rw [hdr] at HK2
              obtain ⟨all2, hall2⟩ : ∃ a, all ++ dd = a := ⟨_, rfl⟩
              rw [hall2] at HK2 hall
              clear hall2 hdr
              have HK := HK2
              skip
              have hb1 : b0 ≤ all2.length := by omega
              have ha1 : all2.length ≤ 600 * i + 600 := by omega
              have hc1 : cnt ≤ 600 * i + 600 := by omega
              have hd1 : all2.length - b0 ≤ 512 := by omega
              have HNX := Lib.hid (show b0 ≤ all2.length ∧ all2.length ≤ 600 * i + 600 ∧ all2.length - b0 ≤ 512 from ⟨by omega, by omega, by omega⟩)
              have hcx : cnt ≤ 600 * i + 600 := by omega
              go_wp2
              go_meet
              exact ⟨cnt, rfl, hcx, Lib.hid ⟨all2, b0, HNX.out.1, HNX.out.2.1, HNX.out.2.2, HK.out⟩⟩
          · skip
            refine wp_region_held_drew (S := fun W => Below w.heap.size w W) (by kernel_rfl) HKD.out.below (fun hHeld => ?_)
            refine wpAnyH_take (i := 0) (v := ?_) (by simp; rfl) (by kernel_rfl) (by kernel_rfl) (by kernel_rfl) (by exact fun _ _ _ h => h) (Or.inl ⟨by rfl, fun wx hSx => ?_⟩) hHeld ?_
            rotate_left
            · clear hSx; go_simp; (try with_reducible rfl)
            simp only [Act.put, List.setIfInBounds_toArray, List.set_cons_zero, List.set_cons_succ]
            refine wpAnyH_take (i := 1) (v := ?_) (by simp; rfl) (by kernel_rfl) (by kernel_rfl) (by kernel_rfl) (by exact fun _ _ _ h => h) (Or.inl ⟨by rfl, fun wx hSx => ?_⟩) hHeld ?_
            rotate_left
            · clear hSx; go_simp; (try with_reducible rfl)
            simp only [Act.put, List.setIfInBounds_toArray, List.set_cons_zero, List.set_cons_succ]
            refine wpAnyH_take (i := 4) (v := ?_) (by simp; rfl) (by kernel_rfl) (by kernel_rfl) (by kernel_rfl) (by exact fun _ _ _ h => h) (Or.inl ⟨by rfl, fun wx hSx => ?_⟩) hHeld ?_
            rotate_left
            · clear hSx; go_simp; (try with_reducible rfl)
            simp only [Act.put, List.setIfInBounds_toArray, List.set_cons_zero, List.set_cons_succ]
            refine wpAnyH_take (i := 5) (v := ?_) (by simp; rfl) (by kernel_rfl) (by kernel_rfl) (by kernel_rfl) (by exact fun _ _ _ h => h) (Or.inl ⟨by rfl, fun wx hSx => ?_⟩) hHeld ?_
            rotate_left
            · clear hSx; go_simp; (try with_reducible rfl)
            simp only [Act.put, List.setIfInBounds_toArray, List.set_cons_zero, List.set_cons_succ]
            refine wpAnyH_ready (rs := [2, 6]) (by kernel_rfl) (by simp) ?_
            refine AllReadyH.cons (by simp; rfl) (fun K0 hK0 => ?_) (AllReadyH.cons (by simp; rfl) (fun K0 hK0 => ?_) AllReadyH.nil)
            · go_simp
              refine hK0.out _ _ hHeld (fun _ => ?_)
              clear hK0 K0
              refine wpAnyH_ready (rs := [3, 6]) (by kernel_rfl) (by simp) ?_
              refine AllReadyH.cons (by simp; rfl) (fun K0 hK0 => ?_) (AllReadyH.cons (by simp; rfl) (fun K0 hK0 => ?_) AllReadyH.nil)
              · go_simp
                refine (type_full HKD.out.st (by rw [hdl0]; omega) (by rw [hdl0]; omega)).mono ?_
                rintro e V0 ⟨rfl, rfl⟩
                have HK1 := HKD
                have HO1 := HOD
                have hHeld1 := HK1.out.below
                refine hK0.out _ _ hHeld1 (fun _ => ?_)
                clear hK0 K0 hHeld
                have hHeld := hHeld1
                obtain ⟨z0, z1, z2⟩ := three_cells HO1.out
                refine wpAnyH_ready (rs := [6]) (by kernel_rfl) (by simp) ?_
                refine AllReadyH.cons (by simp; rfl) (fun K0 hK0 => ?_) AllReadyH.nil
                go_simp
                refine hK0.out _ _ hHeld (fun _ => ?_)
                clear hK0 K0
                refine wpAnyH_ready (rs := [7]) (by kernel_rfl) (by simp) ?_
                refine AllReadyH.cons (by simp; rfl) (fun K0 hK0 => ?_) AllReadyH.nil
                go_simp
                refine (rtype_full HK1.out.rs hb0 (by omega) (by omega) (by omega)).mono ?_
                rintro e V2 ⟨rfl, mq, hV⟩
                have hB9 : Below (Z.drewN 1).heap.size (Z.drewN 1) V2 := by rw [hV]; exact belowN (Below.refl _ _) mq
                have HK2 := Lib.hid (HK1.out.to hB9)
                have HO2 := Lib.hid (HO1.out.below hB9)
                clear hV hB9
                have hHeld2 := HK2.out.below
                refine hK0.out _ _ hHeld2 (fun _ => ?_)
                clear hK0 K0 hHeld
                have hHeld := hHeld2
                refine wpAnyH_take (i := 8) (v := ?_) (by simp; rfl) (by kernel_rfl) (by kernel_rfl) (by kernel_rfl) (by exact fun _ _ _ h => h) (Or.inl ⟨by rfl, fun wx hSx => ?_⟩) hHeld ?_
                rotate_left
                · clear hSx; go_simp; (try with_reducible rfl)
                simp only [Act.put, List.setIfInBounds_toArray, List.set_cons_zero, List.set_cons_succ]
                refine wpAnyH_done (by kernel_rfl) ?_ _
                have HK := HK2
                skip
                have hb1 := hb0
                have ha1 : all.length ≤ 600 * i + 600 := by omega
                have hc1 : cnt ≤ 600 * i + 600 := by omega
                have hd1 := hd0
                have HNX := Lib.hid (show b0 ≤ all.length ∧ all.length ≤ 600 * i + 600 ∧ all.length - b0 ≤ 512 from ⟨by omega, by omega, by omega⟩)
                have hcx : cnt ≤ 600 * i + 600 := by omega
                go_wp2
                go_meet
                exact ⟨cnt, rfl, hcx, Lib.hid ⟨all, b0, HNX.out.1, HNX.out.2.1, HNX.out.2.2, HK.out⟩⟩
              · go_simp
                refine hK0.out _ _ hHeld (fun _ => ?_)
                clear hK0 K0
                refine wpAnyH_ready (rs := [3]) (by kernel_rfl) (by simp) ?_
                refine AllReadyH.cons (by simp; rfl) (fun K0 hK0 => ?_) AllReadyH.nil
                go_simp
                refine (type_full HKD.out.st (by rw [hdl0]; omega) (by rw [hdl0]; omega)).mono ?_
                rintro e V0 ⟨rfl, rfl⟩
                have HK1 := HKD
                have HO1 := HOD
                have hHeld1 := HK1.out.below
                refine hK0.out _ _ hHeld1 (fun _ => ?_)
                clear hK0 K0 hHeld
                have hHeld := hHeld1
                obtain ⟨z0, z1, z2⟩ := three_cells HO1.out
                refine wpAnyH_ready (rs := [7]) (by kernel_rfl) (by simp) ?_
                refine AllReadyH.cons (by simp; rfl) (fun K0 hK0 => ?_) AllReadyH.nil
                go_simp
                refine (rtype_full HK1.out.rs hb0 (by omega) (by omega) (by omega)).mono ?_
                rintro e V2 ⟨rfl, mq, hV⟩
                have hB9 : Below (Z.drewN 1).heap.size (Z.drewN 1) V2 := by rw [hV]; exact belowN (Below.refl _ _) mq
                have HK2 := Lib.hid (HK1.out.to hB9)
                have HO2 := Lib.hid (HO1.out.below hB9)
                clear hV hB9
                have hHeld2 := HK2.out.below
                refine hK0.out _ _ hHeld2 (fun _ => ?_)
                clear hK0 K0 hHeld
                have hHeld := hHeld2
                refine wpAnyH_take (i := 8) (v := ?_) (by simp; rfl) (by kernel_rfl) (by kernel_rfl) (by kernel_rfl) (by exact fun _ _ _ h => h) (Or.inl ⟨by rfl, fun wx hSx => ?_⟩) hHeld ?_
                rotate_left
                · clear hSx; go_simp; (try with_reducible rfl)
                simp only [Act.put, List.setIfInBounds_toArray, List.set_cons_zero, List.set_cons_succ]
                refine wpAnyH_done (by kernel_rfl) ?_ _
                have HK := HK2
                skip
                have hb1 := hb0
                have ha1 : all.length ≤ 600 * i + 600 := by omega
                have hc1 : cnt ≤ 600 * i + 600 := by omega
                have hd1 := hd0
                have HNX := Lib.hid (show b0 ≤ all.length ∧ all.length ≤ 600 * i + 600 ∧ all.length - b0 ≤ 512 from ⟨by omega, by omega, by omega⟩)
                have hcx : cnt ≤ 600 * i + 600 := by omega
                go_wp2
                go_meet
                exact ⟨cnt, rfl, hcx, Lib.hid ⟨all, b0, HNX.out.1, HNX.out.2.1, HNX.out.2.2, HK.out⟩⟩
            · go_simp
              refine hK0.out _ _ hHeld (fun _ => ?_)
              clear hK0 K0
              refine wpAnyH_ready (rs := [2]) (by kernel_rfl) (by simp) ?_
              refine AllReadyH.cons (by simp; rfl) (fun K0 hK0 => ?_) AllReadyH.nil
              go_simp
              refine hK0.out _ _ hHeld (fun _ => ?_)
              clear hK0 K0
              refine wpAnyH_ready (rs := [3]) (by kernel_rfl) (by simp) ?_
              refine AllReadyH.cons (by simp; rfl) (fun K0 hK0 => ?_) AllReadyH.nil
              go_simp
              refine (type_full HKD.out.st (by rw [hdl0]; omega) (by rw [hdl0]; omega)).mono ?_
              rintro e V0 ⟨rfl, rfl⟩
              have HK1 := HKD
              have HO1 := HOD
              have hHeld1 := HK1.out.below
              refine hK0.out _ _ hHeld1 (fun _ => ?_)
              clear hK0 K0 hHeld
              have hHeld := hHeld1
              obtain ⟨z0, z1, z2⟩ := three_cells HO1.out
              refine wpAnyH_ready (rs := [7]) (by kernel_rfl) (by simp) ?_
              refine AllReadyH.cons (by simp; rfl) (fun K0 hK0 => ?_) AllReadyH.nil
              go_simp
              refine (rtype_full HK1.out.rs hb0 (by omega) (by omega) (by omega)).mono ?_
              rintro e V2 ⟨rfl, mq, hV⟩
              have hB9 : Below (Z.drewN 1).heap.size (Z.drewN 1) V2 := by rw [hV]; exact belowN (Below.refl _ _) mq
              have HK2 := Lib.hid (HK1.out.to hB9)
              have HO2 := Lib.hid (HO1.out.below hB9)
              clear hV hB9
              have hHeld2 := HK2.out.below
              refine hK0.out _ _ hHeld2 (fun _ => ?_)
              clear hK0 K0 hHeld
              have hHeld := hHeld2
              refine wpAnyH_take (i := 8) (v := ?_) (by simp; rfl) (by kernel_rfl) (by kernel_rfl) (by kernel_rfl) (by exact fun _ _ _ h => h) (Or.inl ⟨by rfl, fun wx hSx => ?_⟩) hHeld ?_
              rotate_left
              · clear hSx; go_simp; (try with_reducible rfl)
              simp only [Act.put, List.setIfInBounds_toArray, List.set_cons_zero, List.set_cons_succ]
              refine wpAnyH_done (by kernel_rfl) ?_ _
              have HK := HK2
              skip
              have hb1 := hb0
              have ha1 : all.length ≤ 600 * i + 600 := by omega
              have hc1 : cnt ≤ 600 * i + 600 := by omega
              have hd1 := hd0
              have HNX := Lib.hid (show b0 ≤ all.length ∧ all.length ≤ 600 * i + 600 ∧ all.length - b0 ≤ 512 from ⟨by omega, by omega, by omega⟩)
              have hcx : cnt ≤ 600 * i + 600 := by omega
              go_wp2
              go_meet
              exact ⟨cnt, rfl, hcx, Lib.hid ⟨all, b0, HNX.out.1, HNX.out.2.1, HNX.out.2.2, HK.out⟩⟩
        have y0 : (kd == 0) = false := by simpa using hk0
        by_cases hk1 : kd = 1
        · have y1 : (kd == 1) = true := by simp [hk1]
          clear hk0 hk1
          go_upto_region 19 with fail
          clear z0 z1 z2
          obtain ⟨z0, z1, z2⟩ := three_cells (show Z.drew.heap[gb]? = some (.cells #[.int .i64 kd, .int .u64 nn, .slice A2 m c2] 33 (0, 0)) from HOD.out)
          have hdl0 := HDL0.out
          by_cases hold : nn < b0
          · skip
            refine wp_region_held_drew (S := fun W => Below w.heap.size w W) (by kernel_rfl) HKD.out.below (fun hHeld => ?_)
            refine wpAnyH_take (i := 0) (v := ?_) (by simp; rfl) (by kernel_rfl) (by kernel_rfl) (by kernel_rfl) (by exact fun _ _ _ h => h) (Or.inl ⟨by rfl, fun wx hSx => ?_⟩) hHeld ?_
            rotate_left
            · clear hSx; go_simp; (try with_reducible rfl)
            simp only [Act.put, List.setIfInBounds_toArray, List.set_cons_zero, List.set_cons_succ]
            refine wpAnyH_take (i := 1) (v := ?_) (by simp; rfl) (by kernel_rfl) (by kernel_rfl) (by kernel_rfl) (by exact fun _ _ _ h => h) (Or.inl ⟨by rfl, fun wx hSx => ?_⟩) hHeld ?_
            rotate_left
            · clear hSx; go_simp; (try with_reducible rfl)
            simp only [Act.put, List.setIfInBounds_toArray, List.set_cons_zero, List.set_cons_succ]
            refine wpAnyH_take (i := 4) (v := ?_) (by simp; rfl) (by kernel_rfl) (by kernel_rfl) (by kernel_rfl) (by exact fun _ _ _ h => h) (Or.inl ⟨by rfl, fun wx hSx => ?_⟩) hHeld ?_
            rotate_left
            · clear hSx; go_simp; (try with_reducible rfl)
            simp only [Act.put, List.setIfInBounds_toArray, List.set_cons_zero, List.set_cons_succ]
            refine wpAnyH_take (i := 5) (v := ?_) (by simp; rfl) (by kernel_rfl) (by kernel_rfl) (by kernel_rfl) (by exact fun _ _ _ h => h) (Or.inl ⟨by rfl, fun wx hSx => ?_⟩) hHeld ?_
            rotate_left
            · clear hSx; go_simp; (try with_reducible rfl)
            simp only [Act.put, List.setIfInBounds_toArray, List.set_cons_zero, List.set_cons_succ]
            refine wpAnyH_ready (rs := [2, 6]) (by kernel_rfl) (by simp) ?_
            refine AllReadyH.cons (by simp; rfl) (fun K0 hK0 => ?_) (AllReadyH.cons (by simp; rfl) (fun K0 hK0 => ?_) AllReadyH.nil)
            · go_simp
              refine hK0.out _ _ hHeld (fun _ => ?_)
              clear hK0 K0
              refine wpAnyH_ready (rs := [3, 6]) (by kernel_rfl) (by simp) ?_
              refine AllReadyH.cons (by simp; rfl) (fun K0 hK0 => ?_) (AllReadyH.cons (by simp; rfl) (fun K0 hK0 => ?_) AllReadyH.nil)
              · go_simp
                refine (ack_old HKD.out.st hold).mono ?_
                rintro e V0 ⟨rfl, rfl⟩
                have HK1 := HKD
                have HO1 := HOD
                have hHeld1 := HK1.out.below
                refine hK0.out _ _ hHeld1 (fun _ => ?_)
                clear hK0 K0 hHeld
                have hHeld := hHeld1
                obtain ⟨z0, z1, z2⟩ := three_cells HO1.out
                refine wpAnyH_ready (rs := [6]) (by kernel_rfl) (by simp) ?_
                refine AllReadyH.cons (by simp; rfl) (fun K0 hK0 => ?_) AllReadyH.nil
                go_simp
                refine hK0.out _ _ hHeld (fun _ => ?_)
                clear hK0 K0
                refine wpAnyH_ready (rs := [7]) (by kernel_rfl) (by simp) ?_
                refine AllReadyH.cons (by simp; rfl) (fun K0 hK0 => ?_) AllReadyH.nil
                go_simp
                refine (rack_old HK1.out.rs hold).mono ?_
                rintro e V2 ⟨rfl, rfl⟩
                have HK2 := HK1
                have hHeld2 := HK2.out.below
                refine hK0.out _ _ hHeld2 (fun _ => ?_)
                clear hK0 K0 hHeld
                have hHeld := hHeld2
                refine wpAnyH_take (i := 8) (v := ?_) (by simp; rfl) (by kernel_rfl) (by kernel_rfl) (by kernel_rfl) (by exact fun _ _ _ h => h) (Or.inl ⟨by rfl, fun wx hSx => ?_⟩) hHeld ?_
                rotate_left
                · clear hSx; go_simp; (try with_reducible rfl)
                simp only [Act.put, List.setIfInBounds_toArray, List.set_cons_zero, List.set_cons_succ]
                refine wpAnyH_done (by kernel_rfl) ?_ _
                have HK := HK2
                skip
                have hb1 : b0 ≤ all.length := by omega
                have ha1 : all.length ≤ 600 * i + 600 := by omega
                have hc1 : cnt ≤ 600 * i + 600 := by omega
                have hd1 : all.length - b0 ≤ 512 := by omega
                have HNX := Lib.hid (show b0 ≤ all.length ∧ all.length ≤ 600 * i + 600 ∧ all.length - b0 ≤ 512 from ⟨by omega, by omega, by omega⟩)
                have hcx : cnt ≤ 600 * i + 600 := by omega
                go_wp2
                go_meet
                exact ⟨cnt, rfl, hcx, Lib.hid ⟨all, b0, HNX.out.1, HNX.out.2.1, HNX.out.2.2, HK.out⟩⟩
              · go_simp
                refine hK0.out _ _ hHeld (fun _ => ?_)
                clear hK0 K0
                refine wpAnyH_ready (rs := [3]) (by kernel_rfl) (by simp) ?_
                refine AllReadyH.cons (by simp; rfl) (fun K0 hK0 => ?_) AllReadyH.nil
                go_simp
                refine (ack_old HKD.out.st hold).mono ?_
                rintro e V0 ⟨rfl, rfl⟩
                have HK1 := HKD
                have HO1 := HOD
                have hHeld1 := HK1.out.below
                refine hK0.out _ _ hHeld1 (fun _ => ?_)
                clear hK0 K0 hHeld
                have hHeld := hHeld1
                obtain ⟨z0, z1, z2⟩ := three_cells HO1.out
                refine wpAnyH_ready (rs := [7]) (by kernel_rfl) (by simp) ?_
                refine AllReadyH.cons (by simp; rfl) (fun K0 hK0 => ?_) AllReadyH.nil
                go_simp
                refine (rack_old HK1.out.rs hold).mono ?_
                rintro e V2 ⟨rfl, rfl⟩
                have HK2 := HK1
                have hHeld2 := HK2.out.below
                refine hK0.out _ _ hHeld2 (fun _ => ?_)
                clear hK0 K0 hHeld
                have hHeld := hHeld2
                refine wpAnyH_take (i := 8) (v := ?_) (by simp; rfl) (by kernel_rfl) (by kernel_rfl) (by kernel_rfl) (by exact fun _ _ _ h => h) (Or.inl ⟨by rfl, fun wx hSx => ?_⟩) hHeld ?_
                rotate_left
                · clear hSx; go_simp; (try with_reducible rfl)
                simp only [Act.put, List.setIfInBounds_toArray, List.set_cons_zero, List.set_cons_succ]
                refine wpAnyH_done (by kernel_rfl) ?_ _
                have HK := HK2
                skip
                have hb1 : b0 ≤ all.length := by omega
                have ha1 : all.length ≤ 600 * i + 600 := by omega
                have hc1 : cnt ≤ 600 * i + 600 := by omega
                have hd1 : all.length - b0 ≤ 512 := by omega
                have HNX := Lib.hid (show b0 ≤ all.length ∧ all.length ≤ 600 * i + 600 ∧ all.length - b0 ≤ 512 from ⟨by omega, by omega, by omega⟩)
                have hcx : cnt ≤ 600 * i + 600 := by omega
                go_wp2
                go_meet
                exact ⟨cnt, rfl, hcx, Lib.hid ⟨all, b0, HNX.out.1, HNX.out.2.1, HNX.out.2.2, HK.out⟩⟩
            · go_simp
              refine hK0.out _ _ hHeld (fun _ => ?_)
              clear hK0 K0
              refine wpAnyH_ready (rs := [2]) (by kernel_rfl) (by simp) ?_
              refine AllReadyH.cons (by simp; rfl) (fun K0 hK0 => ?_) AllReadyH.nil
              go_simp
              refine hK0.out _ _ hHeld (fun _ => ?_)
              clear hK0 K0
              refine wpAnyH_ready (rs := [3]) (by kernel_rfl) (by simp) ?_
              refine AllReadyH.cons (by simp; rfl) (fun K0 hK0 => ?_) AllReadyH.nil
              go_simp
              refine (ack_old HKD.out.st hold).mono ?_
              rintro e V0 ⟨rfl, rfl⟩
              have HK1 := HKD
              have HO1 := HOD
              have hHeld1 := HK1.out.below
              refine hK0.out _ _ hHeld1 (fun _ => ?_)
              clear hK0 K0 hHeld
              have hHeld := hHeld1
              obtain ⟨z0, z1, z2⟩ := three_cells HO1.out
              refine wpAnyH_ready (rs := [7]) (by kernel_rfl) (by simp) ?_
              refine AllReadyH.cons (by simp; rfl) (fun K0 hK0 => ?_) AllReadyH.nil
              go_simp
              refine (rack_old HK1.out.rs hold).mono ?_
              rintro e V2 ⟨rfl, rfl⟩
              have HK2 := HK1
              have hHeld2 := HK2.out.below
              refine hK0.out _ _ hHeld2 (fun _ => ?_)
              clear hK0 K0 hHeld
              have hHeld := hHeld2
              refine wpAnyH_take (i := 8) (v := ?_) (by simp; rfl) (by kernel_rfl) (by kernel_rfl) (by kernel_rfl) (by exact fun _ _ _ h => h) (Or.inl ⟨by rfl, fun wx hSx => ?_⟩) hHeld ?_
              rotate_left
              · clear hSx; go_simp; (try with_reducible rfl)
              simp only [Act.put, List.setIfInBounds_toArray, List.set_cons_zero, List.set_cons_succ]
              refine wpAnyH_done (by kernel_rfl) ?_ _
              have HK := HK2
              skip
              have hb1 : b0 ≤ all.length := by omega
              have ha1 : all.length ≤ 600 * i + 600 := by omega
              have hc1 : cnt ≤ 600 * i + 600 := by omega
              have hd1 : all.length - b0 ≤ 512 := by omega
              have HNX := Lib.hid (show b0 ≤ all.length ∧ all.length ≤ 600 * i + 600 ∧ all.length - b0 ≤ 512 from ⟨by omega, by omega, by omega⟩)
              have hcx : cnt ≤ 600 * i + 600 := by omega
              go_wp2
              go_meet
              exact ⟨cnt, rfl, hcx, Lib.hid ⟨all, b0, HNX.out.1, HNX.out.2.1, HNX.out.2.2, HK.out⟩⟩
          by_cases harg : all.length < nn
          · skip
            refine wp_region_held_drew (S := fun W => Below w.heap.size w W) (by kernel_rfl) HKD.out.below (fun hHeld => ?_)
            refine wpAnyH_take (i := 0) (v := ?_) (by simp; rfl) (by kernel_rfl) (by kernel_rfl) (by kernel_rfl) (by exact fun _ _ _ h => h) (Or.inl ⟨by rfl, fun wx hSx => ?_⟩) hHeld ?_
            rotate_left
            · clear hSx; go_simp; (try with_reducible rfl)
            simp only [Act.put, List.setIfInBounds_toArray, List.set_cons_zero, List.set_cons_succ]
            refine wpAnyH_take (i := 1) (v := ?_) (by simp; rfl) (by kernel_rfl) (by kernel_rfl) (by kernel_rfl) (by exact fun _ _ _ h => h) (Or.inl ⟨by rfl, fun wx hSx => ?_⟩) hHeld ?_
            rotate_left
            · clear hSx; go_simp; (try with_reducible rfl)
            simp only [Act.put, List.setIfInBounds_toArray, List.set_cons_zero, List.set_cons_succ]
            refine wpAnyH_take (i := 4) (v := ?_) (by simp; rfl) (by kernel_rfl) (by kernel_rfl) (by kernel_rfl) (by exact fun _ _ _ h => h) (Or.inl ⟨by rfl, fun wx hSx => ?_⟩) hHeld ?_
            rotate_left
            · clear hSx; go_simp; (try with_reducible rfl)
            simp only [Act.put, List.setIfInBounds_toArray, List.set_cons_zero, List.set_cons_succ]
            refine wpAnyH_take (i := 5) (v := ?_) (by simp; rfl) (by kernel_rfl) (by kernel_rfl) (by kernel_rfl) (by exact fun _ _ _ h => h) (Or.inl ⟨by rfl, fun wx hSx => ?_⟩) hHeld ?_
            rotate_left
            · clear hSx; go_simp; (try with_reducible rfl)
            simp only [Act.put, List.setIfInBounds_toArray, List.set_cons_zero, List.set_cons_succ]
            refine wpAnyH_ready (rs := [2, 6]) (by kernel_rfl) (by simp) ?_
            refine AllReadyH.cons (by simp; rfl) (fun K0 hK0 => ?_) (AllReadyH.cons (by simp; rfl) (fun K0 hK0 => ?_) AllReadyH.nil)
            · go_simp
              refine hK0.out _ _ hHeld (fun _ => ?_)
              clear hK0 K0
              refine wpAnyH_ready (rs := [3, 6]) (by kernel_rfl) (by simp) ?_
              refine AllReadyH.cons (by simp; rfl) (fun K0 hK0 => ?_) (AllReadyH.cons (by simp; rfl) (fun K0 hK0 => ?_) AllReadyH.nil)
              · go_simp
                refine (ack_arg HKD.out.st (s := all.length) (by rw [hdl0]; omega) (by omega) harg).mono ?_
                rintro e V1 ⟨rfl, mq, hV⟩
                have hB9 : Below (Z.drewN 1).heap.size (Z.drewN 1) V1 := by rw [hV]; exact belowN (Below.refl _ _) mq
                have HK1 := Lib.hid (HKD.out.to hB9)
                have HO1 := Lib.hid (HOD.out.below hB9)
                clear hV hB9
                have hHeld1 := HK1.out.below
                refine hK0.out _ _ hHeld1 (fun _ => ?_)
                clear hK0 K0 hHeld
                have hHeld := hHeld1
                obtain ⟨z0, z1, z2⟩ := three_cells HO1.out
                refine wpAnyH_ready (rs := [6]) (by kernel_rfl) (by simp) ?_
                refine AllReadyH.cons (by simp; rfl) (fun K0 hK0 => ?_) AllReadyH.nil
                go_simp
                refine hK0.out _ _ hHeld (fun _ => ?_)
                clear hK0 K0
                refine wpAnyH_ready (rs := [7]) (by kernel_rfl) (by simp) ?_
                refine AllReadyH.cons (by simp; rfl) (fun K0 hK0 => ?_) AllReadyH.nil
                go_simp
                refine (rack_arg HK1.out.rs (by omega) hb0 harg).mono ?_
                rintro e V2 ⟨rfl, rfl⟩
                have HK2 := HK1
                have hHeld2 := HK2.out.below
                refine hK0.out _ _ hHeld2 (fun _ => ?_)
                clear hK0 K0 hHeld
                have hHeld := hHeld2
                refine wpAnyH_take (i := 8) (v := ?_) (by simp; rfl) (by kernel_rfl) (by kernel_rfl) (by kernel_rfl) (by exact fun _ _ _ h => h) (Or.inl ⟨by rfl, fun wx hSx => ?_⟩) hHeld ?_
                rotate_left
                · clear hSx; go_simp; (try with_reducible rfl)
                simp only [Act.put, List.setIfInBounds_toArray, List.set_cons_zero, List.set_cons_succ]
                refine wpAnyH_done (by kernel_rfl) ?_ _
                have HK := HK2
                skip
                have hb1 : b0 ≤ all.length := by omega
                have ha1 : all.length ≤ 600 * i + 600 := by omega
                have hc1 : cnt ≤ 600 * i + 600 := by omega
                have hd1 : all.length - b0 ≤ 512 := by omega
                have HNX := Lib.hid (show b0 ≤ all.length ∧ all.length ≤ 600 * i + 600 ∧ all.length - b0 ≤ 512 from ⟨by omega, by omega, by omega⟩)
                have hcx : cnt ≤ 600 * i + 600 := by omega
                go_wp2
                go_meet
                exact ⟨cnt, rfl, hcx, Lib.hid ⟨all, b0, HNX.out.1, HNX.out.2.1, HNX.out.2.2, HK.out⟩⟩
              · go_simp
                refine hK0.out _ _ hHeld (fun _ => ?_)
                clear hK0 K0
                refine wpAnyH_ready (rs := [3]) (by kernel_rfl) (by simp) ?_
                refine AllReadyH.cons (by simp; rfl) (fun K0 hK0 => ?_) AllReadyH.nil
                go_simp
                refine (ack_arg HKD.out.st (s := all.length) (by rw [hdl0]; omega) (by omega) harg).mono ?_
                rintro e V1 ⟨rfl, mq, hV⟩
                have hB9 : Below (Z.drewN 1).heap.size (Z.drewN 1) V1 := by rw [hV]; exact belowN (Below.refl _ _) mq
                have HK1 := Lib.hid (HKD.out.to hB9)
                have HO1 := Lib.hid (HOD.out.below hB9)
                clear hV hB9
                have hHeld1 := HK1.out.below
                refine hK0.out _ _ hHeld1 (fun _ => ?_)
                clear hK0 K0 hHeld
                have hHeld := hHeld1
                obtain ⟨z0, z1, z2⟩ := three_cells HO1.out
                refine wpAnyH_ready (rs := [7]) (by kernel_rfl) (by simp) ?_
                refine AllReadyH.cons (by simp; rfl) (fun K0 hK0 => ?_) AllReadyH.nil
                go_simp
                refine (rack_arg HK1.out.rs (by omega) hb0 harg).mono ?_
                rintro e V2 ⟨rfl, rfl⟩
                have HK2 := HK1
                have hHeld2 := HK2.out.below
                refine hK0.out _ _ hHeld2 (fun _ => ?_)
                clear hK0 K0 hHeld
                have hHeld := hHeld2
                refine wpAnyH_take (i := 8) (v := ?_) (by simp; rfl) (by kernel_rfl) (by kernel_rfl) (by kernel_rfl) (by exact fun _ _ _ h => h) (Or.inl ⟨by rfl, fun wx hSx => ?_⟩) hHeld ?_
                rotate_left
                · clear hSx; go_simp; (try with_reducible rfl)
                simp only [Act.put, List.setIfInBounds_toArray, List.set_cons_zero, List.set_cons_succ]
                refine wpAnyH_done (by kernel_rfl) ?_ _
                have HK := HK2
                skip
                have hb1 : b0 ≤ all.length := by omega
                have ha1 : all.length ≤ 600 * i + 600 := by omega
                have hc1 : cnt ≤ 600 * i + 600 := by omega
                have hd1 : all.length - b0 ≤ 512 := by omega
                have HNX := Lib.hid (show b0 ≤ all.length ∧ all.length ≤ 600 * i + 600 ∧ all.length - b0 ≤ 512 from ⟨by omega, by omega, by omega⟩)
                have hcx : cnt ≤ 600 * i + 600 := by omega
                go_wp2
                go_meet
                exact ⟨cnt, rfl, hcx, Lib.hid ⟨all, b0, HNX.out.1, HNX.out.2.1, HNX.out.2.2, HK.out⟩⟩
            · go_simp
              refine hK0.out _ _ hHeld (fun _ => ?_)
              clear hK0 K0
              refine wpAnyH_ready (rs := [2]) (by kernel_rfl) (by simp) ?_
              refine AllReadyH.cons (by simp; rfl) (fun K0 hK0 => ?_) AllReadyH.nil
              go_simp
              refine hK0.out _ _ hHeld (fun _ => ?_)
              clear hK0 K0
              refine wpAnyH_ready (rs := [3]) (by kernel_rfl) (by simp) ?_
              refine AllReadyH.cons (by simp; rfl) (fun K0 hK0 => ?_) AllReadyH.nil
              go_simp
              refine (ack_arg HKD.out.st (s := all.length) (by rw [hdl0]; omega) (by omega) harg).mono ?_
              rintro e V1 ⟨rfl, mq, hV⟩
              have hB9 : Below (Z.drewN 1).heap.size (Z.drewN 1) V1 := by rw [hV]; exact belowN (Below.refl _ _) mq
              have HK1 := Lib.hid (HKD.out.to hB9)
              have HO1 := Lib.hid (HOD.out.below hB9)
              clear hV hB9
              have hHeld1 := HK1.out.below
              refine hK0.out _ _ hHeld1 (fun _ => ?_)
              clear hK0 K0 hHeld
              have hHeld := hHeld1
              obtain ⟨z0, z1, z2⟩ := three_cells HO1.out
              refine wpAnyH_ready (rs := [7]) (by kernel_rfl) (by simp) ?_
              refine AllReadyH.cons (by simp; rfl) (fun K0 hK0 => ?_) AllReadyH.nil
              go_simp
              refine (rack_arg HK1.out.rs (by omega) hb0 harg).mono ?_
              rintro e V2 ⟨rfl, rfl⟩
              have HK2 := HK1
              have hHeld2 := HK2.out.below
              refine hK0.out _ _ hHeld2 (fun _ => ?_)
              clear hK0 K0 hHeld
              have hHeld := hHeld2
              refine wpAnyH_take (i := 8) (v := ?_) (by simp; rfl) (by kernel_rfl) (by kernel_rfl) (by kernel_rfl) (by exact fun _ _ _ h => h) (Or.inl ⟨by rfl, fun wx hSx => ?_⟩) hHeld ?_
              rotate_left
              · clear hSx; go_simp; (try with_reducible rfl)
              simp only [Act.put, List.setIfInBounds_toArray, List.set_cons_zero, List.set_cons_succ]
              refine wpAnyH_done (by kernel_rfl) ?_ _
              have HK := HK2
              skip
              have hb1 : b0 ≤ all.length := by omega
              have ha1 : all.length ≤ 600 * i + 600 := by omega
              have hc1 : cnt ≤ 600 * i + 600 := by omega
              have hd1 : all.length - b0 ≤ 512 := by omega
              have HNX := Lib.hid (show b0 ≤ all.length ∧ all.length ≤ 600 * i + 600 ∧ all.length - b0 ≤ 512 from ⟨by omega, by omega, by omega⟩)
              have hcx : cnt ≤ 600 * i + 600 := by omega
              go_wp2
              go_meet
              exact ⟨cnt, rfl, hcx, Lib.hid ⟨all, b0, HNX.out.1, HNX.out.2.1, HNX.out.2.2, HK.out⟩⟩
          · skip
            refine wp_region_held_drew (S := fun W => Below w.heap.size w W) (by kernel_rfl) HKD.out.below (fun hHeld => ?_)
            refine wpAnyH_take (i := 0) (v := ?_) (by simp; rfl) (by kernel_rfl) (by kernel_rfl) (by kernel_rfl) (by exact fun _ _ _ h => h) (Or.inl ⟨by rfl, fun wx hSx => ?_⟩) hHeld ?_
            rotate_left
            · clear hSx; go_simp; (try with_reducible rfl)
            simp only [Act.put, List.setIfInBounds_toArray, List.set_cons_zero, List.set_cons_succ]
            refine wpAnyH_take (i := 1) (v := ?_) (by simp; rfl) (by kernel_rfl) (by kernel_rfl) (by kernel_rfl) (by exact fun _ _ _ h => h) (Or.inl ⟨by rfl, fun wx hSx => ?_⟩) hHeld ?_
            rotate_left
            · clear hSx; go_simp; (try with_reducible rfl)
            simp only [Act.put, List.setIfInBounds_toArray, List.set_cons_zero, List.set_cons_succ]
            refine wpAnyH_take (i := 4) (v := ?_) (by simp; rfl) (by kernel_rfl) (by kernel_rfl) (by kernel_rfl) (by exact fun _ _ _ h => h) (Or.inl ⟨by rfl, fun wx hSx => ?_⟩) hHeld ?_
            rotate_left
            · clear hSx; go_simp; (try with_reducible rfl)
            simp only [Act.put, List.setIfInBounds_toArray, List.set_cons_zero, List.set_cons_succ]
            refine wpAnyH_take (i := 5) (v := ?_) (by simp; rfl) (by kernel_rfl) (by kernel_rfl) (by kernel_rfl) (by exact fun _ _ _ h => h) (Or.inl ⟨by rfl, fun wx hSx => ?_⟩) hHeld ?_
            rotate_left
            · clear hSx; go_simp; (try with_reducible rfl)
            simp only [Act.put, List.setIfInBounds_toArray, List.set_cons_zero, List.set_cons_succ]
            refine wpAnyH_ready (rs := [2, 6]) (by kernel_rfl) (by simp) ?_
            refine AllReadyH.cons (by simp; rfl) (fun K0 hK0 => ?_) (AllReadyH.cons (by simp; rfl) (fun K0 hK0 => ?_) AllReadyH.nil)
            · go_simp
              refine hK0.out _ _ hHeld (fun _ => ?_)
              clear hK0 K0
              refine wpAnyH_ready (rs := [3, 6]) (by kernel_rfl) (by simp) ?_
              refine AllReadyH.cons (by simp; rfl) (fun K0 hK0 => ?_) (AllReadyH.cons (by simp; rfl) (fun K0 hK0 => ?_) AllReadyH.nil)
              · go_simp
                refine (ack_ok HKD.out.st (s := all.length) (by rw [hdl0]; omega) (by omega) (k := nn) (by omega) (by omega)).mono ?_
                rintro e V1 ⟨rfl, hst, hot, _⟩
                have hdd : (all.drop b0).drop (nn - b0) = all.drop nn := by rw [List.drop_drop, show b0 + (nn - b0) = nn by omega]
                rw [hdd] at hst
                have HK1 := Lib.hid (HKD.out.stream hst hot)
                have HO1 := Lib.hid (HOD.out.only hbg hot)
                clear hst hot hdd
                have hHeld1 := HK1.out.below
                refine hK0.out _ _ hHeld1 (fun _ => ?_)
                clear hK0 K0 hHeld
                have hHeld := hHeld1
                obtain ⟨z0, z1, z2⟩ := three_cells HO1.out
                refine wpAnyH_ready (rs := [6]) (by kernel_rfl) (by simp) ?_
                refine AllReadyH.cons (by simp; rfl) (fun K0 hK0 => ?_) AllReadyH.nil
                go_simp
                refine hK0.out _ _ hHeld (fun _ => ?_)
                clear hK0 K0
                refine wpAnyH_ready (rs := [7]) (by kernel_rfl) (by simp) ?_
                refine AllReadyH.cons (by simp; rfl) (fun K0 hK0 => ?_) AllReadyH.nil
                go_simp
                refine (rack_ok HK1.out.rs (by omega) (k := nn) (by omega) (by omega)).mono ?_
                rintro e V2 ⟨rfl, hst, hot⟩
                have HK2 := Lib.hid (HK1.out.doc hst hot)
                clear hst hot
                have hHeld2 := HK2.out.below
                refine hK0.out _ _ hHeld2 (fun _ => ?_)
                clear hK0 K0 hHeld
                have hHeld := hHeld2
                refine wpAnyH_take (i := 8) (v := ?_) (by simp; rfl) (by kernel_rfl) (by kernel_rfl) (by kernel_rfl) (by exact fun _ _ _ h => h) (Or.inl ⟨by rfl, fun wx hSx => ?_⟩) hHeld ?_
                rotate_left
                · clear hSx; go_simp; (try with_reducible rfl)
                simp only [Act.put, List.setIfInBounds_toArray, List.set_cons_zero, List.set_cons_succ]
                refine wpAnyH_done (by kernel_rfl) ?_ _
                have HK := HK2
                skip
                have hb1 : nn ≤ all.length := by omega
                have ha1 : all.length ≤ 600 * i + 600 := by omega
                have hc1 : cnt ≤ 600 * i + 600 := by omega
                have hd1 : all.length - nn ≤ 512 := by omega
                have HNX := Lib.hid (show nn ≤ all.length ∧ all.length ≤ 600 * i + 600 ∧ all.length - nn ≤ 512 from ⟨by omega, by omega, by omega⟩)
                have hcx : cnt ≤ 600 * i + 600 := by omega
                go_wp2
                go_meet
                exact ⟨cnt, rfl, hcx, Lib.hid ⟨all, nn, HNX.out.1, HNX.out.2.1, HNX.out.2.2, HK.out⟩⟩
              · go_simp
                refine hK0.out _ _ hHeld (fun _ => ?_)
                clear hK0 K0
                refine wpAnyH_ready (rs := [3]) (by kernel_rfl) (by simp) ?_
                refine AllReadyH.cons (by simp; rfl) (fun K0 hK0 => ?_) AllReadyH.nil
                go_simp
                refine (ack_ok HKD.out.st (s := all.length) (by rw [hdl0]; omega) (by omega) (k := nn) (by omega) (by omega)).mono ?_
                rintro e V1 ⟨rfl, hst, hot, _⟩
                have hdd : (all.drop b0).drop (nn - b0) = all.drop nn := by rw [List.drop_drop, show b0 + (nn - b0) = nn by omega]
                rw [hdd] at hst
                have HK1 := Lib.hid (HKD.out.stream hst hot)
                have HO1 := Lib.hid (HOD.out.only hbg hot)
                clear hst hot hdd
                have hHeld1 := HK1.out.below
                refine hK0.out _ _ hHeld1 (fun _ => ?_)
                clear hK0 K0 hHeld
                have hHeld := hHeld1
                obtain ⟨z0, z1, z2⟩ := three_cells HO1.out
                refine wpAnyH_ready (rs := [7]) (by kernel_rfl) (by simp) ?_
                refine AllReadyH.cons (by simp; rfl) (fun K0 hK0 => ?_) AllReadyH.nil
                go_simp
                refine (rack_ok HK1.out.rs (by omega) (k := nn) (by omega) (by omega)).mono ?_
                rintro e V2 ⟨rfl, hst, hot⟩
                have HK2 := Lib.hid (HK1.out.doc hst hot)
                clear hst hot
                have hHeld2 := HK2.out.below
                refine hK0.out _ _ hHeld2 (fun _ => ?_)
                clear hK0 K0 hHeld
                have hHeld := hHeld2
                refine wpAnyH_take (i := 8) (v := ?_) (by simp; rfl) (by kernel_rfl) (by kernel_rfl) (by kernel_rfl) (by exact fun _ _ _ h => h) (Or.inl ⟨by rfl, fun wx hSx => ?_⟩) hHeld ?_
                rotate_left
                · clear hSx; go_simp; (try with_reducible rfl)
                simp only [Act.put, List.setIfInBounds_toArray, List.set_cons_zero, List.set_cons_succ]
                refine wpAnyH_done (by kernel_rfl) ?_ _
                have HK := HK2
                skip
                have hb1 : nn ≤ all.length := by omega
                have ha1 : all.length ≤ 600 * i + 600 := by omega
                have hc1 : cnt ≤ 600 * i + 600 := by omega
                have hd1 : all.length - nn ≤ 512 := by omega
                have HNX := Lib.hid (show nn ≤ all.length ∧ all.length ≤ 600 * i + 600 ∧ all.length - nn ≤ 512 from ⟨by omega, by omega, by omega⟩)
                have hcx : cnt ≤ 600 * i + 600 := by omega
                go_wp2
                go_meet
                exact ⟨cnt, rfl, hcx, Lib.hid ⟨all, nn, HNX.out.1, HNX.out.2.1, HNX.out.2.2, HK.out⟩⟩
            · go_simp
              refine hK0.out _ _ hHeld (fun _ => ?_)
              clear hK0 K0
              refine wpAnyH_ready (rs := [2]) (by kernel_rfl) (by simp) ?_
              refine AllReadyH.cons (by simp; rfl) (fun K0 hK0 => ?_) AllReadyH.nil
              go_simp
              refine hK0.out _ _ hHeld (fun _ => ?_)
              clear hK0 K0
              refine wpAnyH_ready (rs := [3]) (by kernel_rfl) (by simp) ?_
              refine AllReadyH.cons (by simp; rfl) (fun K0 hK0 => ?_) AllReadyH.nil
              go_simp
              refine (ack_ok HKD.out.st (s := all.length) (by rw [hdl0]; omega) (by omega) (k := nn) (by omega) (by omega)).mono ?_
              rintro e V1 ⟨rfl, hst, hot, _⟩
              have hdd : (all.drop b0).drop (nn - b0) = all.drop nn := by rw [List.drop_drop, show b0 + (nn - b0) = nn by omega]
              rw [hdd] at hst
              have HK1 := Lib.hid (HKD.out.stream hst hot)
              have HO1 := Lib.hid (HOD.out.only hbg hot)
              clear hst hot hdd
              have hHeld1 := HK1.out.below
              refine hK0.out _ _ hHeld1 (fun _ => ?_)
              clear hK0 K0 hHeld
              have hHeld := hHeld1
              obtain ⟨z0, z1, z2⟩ := three_cells HO1.out
              refine wpAnyH_ready (rs := [7]) (by kernel_rfl) (by simp) ?_
              refine AllReadyH.cons (by simp; rfl) (fun K0 hK0 => ?_) AllReadyH.nil
              go_simp
              refine (rack_ok HK1.out.rs (by omega) (k := nn) (by omega) (by omega)).mono ?_
              rintro e V2 ⟨rfl, hst, hot⟩
              have HK2 := Lib.hid (HK1.out.doc hst hot)
              clear hst hot
              have hHeld2 := HK2.out.below
              refine hK0.out _ _ hHeld2 (fun _ => ?_)
              clear hK0 K0 hHeld
              have hHeld := hHeld2
              refine wpAnyH_take (i := 8) (v := ?_) (by simp; rfl) (by kernel_rfl) (by kernel_rfl) (by kernel_rfl) (by exact fun _ _ _ h => h) (Or.inl ⟨by rfl, fun wx hSx => ?_⟩) hHeld ?_
              rotate_left
              · clear hSx; go_simp; (try with_reducible rfl)
              simp only [Act.put, List.setIfInBounds_toArray, List.set_cons_zero, List.set_cons_succ]
              refine wpAnyH_done (by kernel_rfl) ?_ _
              have HK := HK2
              skip
              have hb1 : nn ≤ all.length := by omega
              have ha1 : all.length ≤ 600 * i + 600 := by omega
              have hc1 : cnt ≤ 600 * i + 600 := by omega
              have hd1 : all.length - nn ≤ 512 := by omega
              have HNX := Lib.hid (show nn ≤ all.length ∧ all.length ≤ 600 * i + 600 ∧ all.length - nn ≤ 512 from ⟨by omega, by omega, by omega⟩)
              have hcx : cnt ≤ 600 * i + 600 := by omega
              go_wp2
              go_meet
              exact ⟨cnt, rfl, hcx, Lib.hid ⟨all, nn, HNX.out.1, HNX.out.2.1, HNX.out.2.2, HK.out⟩⟩
        have y1 : (kd == 1) = false := by simpa using hk1
        clear hk0 hk1 HKD HOD
        go_upto_region 10 with fail
        clear z0 z1 z2
        by_cases hlong : 512 < m
        · skip
          obtain ⟨z0, z1, z2⟩ := three_cells HOZ.out
          go_wp2_with fail
          refine (take_long HK.out.sk (by omega)).mono ?_
          rintro e wt ⟨rfl, rfl⟩
          have hcv := fun (W : World) => conv_text (w := W) (A := none) (bs := []) (n := 0) rfl 0 (RI.nothing _ _ _)
          have ss0 : ((strOfNums []).toList == (strOfNums []).toList) = true := by simp
          have uu0 : IntKind.u64.wrap (0 : Int) = 0 := by decide
          have uu2 : IntKind.u64.wrap (cnt : Int) = (cnt : Int) := wrap64_in (by omega)
          go_wp2_with fail
          refine (rtake_long (by omega)).mono ?_
          rintro e wt ⟨rfl, rfl⟩
          skip
          have hb1 : b0 ≤ all.length := by omega
          have ha1 : all.length ≤ 600 * i + 600 := by omega
          have hc1 : cnt ≤ 600 * i + 600 := by omega
          have hd1 := hd0
          have HNX := Lib.hid (show b0 ≤ all.length ∧ all.length ≤ 600 * i + 600 ∧ all.length - b0 ≤ 512 from ⟨by omega, by omega, by omega⟩)
          have hcx : cnt ≤ 600 * i + 600 := by omega
          go_wp2
          go_meet
          exact ⟨cnt, rfl, hcx, Lib.hid ⟨all, b0, HNX.out.1, HNX.out.2.1, HNX.out.2.2, HK.out⟩⟩
        by_cases hbase : cnt < nn
        · skip
          obtain ⟨z0, z1, z2⟩ := three_cells HOZ.out
          go_wp2_with fail
          refine (take_base HK.out.sk (by omega) hbase).mono ?_
          rintro e wt ⟨rfl, rfl⟩
          have hcv := fun (W : World) => conv_text (w := W) (A := none) (bs := []) (n := 0) rfl 0 (RI.nothing _ _ _)
          have ss0 : ((strOfNums []).toList == (strOfNums []).toList) = true := by simp
          have uu0 : IntKind.u64.wrap (0 : Int) = 0 := by decide
          have uu2 : IntKind.u64.wrap (cnt : Int) = (cnt : Int) := wrap64_in (by omega)
          go_wp2_with fail
          refine (rtake_base (by omega) hbase).mono ?_
          rintro e wt ⟨rfl, rfl⟩
          skip
          have hb1 : b0 ≤ all.length := by omega
          have ha1 : all.length ≤ 600 * i + 600 := by omega
          have hc1 : cnt ≤ 600 * i + 600 := by omega
          have hd1 := hd0
          have HNX := Lib.hid (show b0 ≤ all.length ∧ all.length ≤ 600 * i + 600 ∧ all.length - b0 ≤ 512 from ⟨by omega, by omega, by omega⟩)
          have hcx : cnt ≤ 600 * i + 600 := by omega
          go_wp2
          go_meet
          exact ⟨cnt, rfl, hcx, Lib.hid ⟨all, b0, HNX.out.1, HNX.out.2.1, HNX.out.2.2, HK.out⟩⟩
        have hfrom : nn ≤ cnt := by omega
        by_cases hnone : m ≤ cnt - nn
        · skip
          obtain ⟨z0, z1, z2⟩ := three_cells HOZ.out
          go_wp2_with fail
          refine (take_none HK.out.sk (by omega) (by omega) (by omega) hnone).mono ?_
          rintro e wt ⟨rfl, rfl⟩
          go_wp2_with fail
          refine (rtake_ok (by omega) HDM.out (HSD.out.below HK.out.below) (by omega) hfrom).mono ?_
          rintro e wt ⟨v2, rfl, hO⟩
          have hnil : dd.drop (cnt - nn) = [] := List.drop_eq_nil_of_le (by rw [HDM.out]; omega)
          rw [hnil] at hO
          have HK := Lib.hid (HK.out.to hO.below)
          obtain ⟨A7, c7, hv7, hr7, _⟩ := DV.own hO.own
          have hv7 : v2 = .slice A7 0 c7 := hv7
          subst hv7
          have hcv := fun (W : World) => conv_text (w := W) (A := none) (bs := []) (n := 0) rfl 0 (RI.nothing _ _ _)
          have hcv2 := fun (W : World) => conv_text (w := W) (A := A7) (bs := []) (n := 0) rfl c7 (RI.nothing _ _ _)
          have ss0 : ((strOfNums []).toList == (strOfNums []).toList) = true := by simp
          have uu0 : IntKind.u64.wrap (0 : Int) = 0 := by decide
          have uu1 : IntKind.u64.wrap ((cnt : Int) + 0) = (cnt : Int) := by rw [Int.add_zero]; exact wrap64_in (by omega)
          have uu2 : IntKind.u64.wrap (cnt : Int) = (cnt : Int) := wrap64_in (by omega)
          clear hO hnil hr7
          skip
          have hb1 : b0 ≤ all.length := by omega
          have ha1 : all.length ≤ 600 * i + 600 := by omega
          have hc1 : cnt ≤ 600 * i + 600 := by omega
          have hd1 := hd0
          have HNX := Lib.hid (show b0 ≤ all.length ∧ all.length ≤ 600 * i + 600 ∧ all.length - b0 ≤ 512 from ⟨by omega, by omega, by omega⟩)
          have hcx : cnt ≤ 600 * i + 600 := by omega
          go_wp2
          go_meet
          exact ⟨cnt, rfl, hcx, Lib.hid ⟨all, b0, HNX.out.1, HNX.out.2.1, HNX.out.2.2, HK.out⟩⟩
        have hsome : cnt - nn < m := by omega
        obtain ⟨z0, z1, z2⟩ := three_cells HOZ.out
        go_wp2_with fail
        refine (take_some HK.out.sk (by omega) HDM.out (HSD.out.below HK.out.below) HSC.out HSZ.out (by omega) hfrom hsome).mono ?_
        rintro e wt ⟨v1, rfl, hd9, hst, hot⟩
        have HK := Lib.hid (HK.out.sink hst hot)
        have HOZ := Lib.hid (HOZ.out.only hbh hot)
        obtain ⟨A6, c6, hv6, hr6, _⟩ := hd9
        obtain ⟨nq', hnq⟩ : ∃ q, (dd.drop (cnt - nn)).length = q := ⟨_, rfl⟩
        have hnq2 : nq' ≤ m - (cnt - nn) := by rw [← hnq, List.length_drop, HDM.out]; exact Nat.le_refl _
        have hnq3 : m - (cnt - nn) ≤ nq' := by rw [← hnq, List.length_drop, HDM.out]; exact Nat.le_refl _
        rw [hnq] at hv6
        subst hv6
        have HR6 := Lib.hid hr6
        have HNQ := Lib.hid hnq
        obtain ⟨cn2, hcn2⟩ : ∃ c, cnt + (m - (cnt - nn)) = c := ⟨_, rfl⟩
        rw [hcn2] at HK
        clear hst hot hr6 z0 z1 z2
        obtain ⟨z0, z1, z2⟩ := three_cells HOZ.out
        go_wp2_with fail
        refine (rtake_ok (by omega) HDM.out (HSD.out.below HK.out.below) (by omega) hfrom).mono ?_
        rintro e wu ⟨v2, rfl, hO⟩
        have HK := Lib.hid (HK.out.to hO.below)
        obtain ⟨A7, c7, hv7, hr7, _⟩ := DV.own hO.own
        rw [hnq] at hv7
        subst hv7
        have hcv : (convert 28 9 (.slice A6 nq' c6)).run Try.prog wu = .ok (.string (strOfNums (dd.drop (cnt - nn)))) wu := conv_text HNQ.out c6 (HR6.out.below hO.below)
        have hcv2 : (convert 28 9 (.slice A7 nq' c7)).run Try.prog wu = .ok (.string (strOfNums (dd.drop (cnt - nn)))) wu := conv_text HNQ.out c7 hr7
        obtain ⟨S0, hS0⟩ : ∃ S, strOfNums (dd.drop (cnt - nn)) = S := ⟨_, rfl⟩
        rw [hS0] at hcv hcv2
        have ss0 : (S0.toList == S0.toList) = true := by simp
        have uu0 : IntKind.u64.wrap (nq' : Int) = (nq' : Int) := wrap64_in (by omega)
        have uu1 : IntKind.u64.wrap ((cnt : Int) + (nq' : Int)) = (cn2 : Int) := by rw [wrap64_add (by omega)]; omega
        have hb1 : b0 ≤ all.length := by omega
        have ha1 : all.length ≤ 600 * i + 600 := by omega
        have hc1 : cn2 ≤ 600 * i + 600 := by omega
        have hd1 := hd0
        clear hO hr7 hS0 hnq hnq2 hnq3 hcn2
        skip
        have HNX := Lib.hid (show b0 ≤ all.length ∧ all.length ≤ 600 * i + 600 ∧ all.length - b0 ≤ 512 from ⟨by omega, by omega, by omega⟩)
        have hcx : cn2 ≤ 600 * i + 600 := by omega
        go_wp2
        go_meet
        exact ⟨cn2, rfl, hcx, Lib.hid ⟨all, b0, HNX.out.1, HNX.out.2.1, HNX.out.2.2, HK.out⟩⟩
      · have e1 : decide ((i : Int) < 60) = false := by simp; omega
        have e2 : decide (i < 60) = false := by simp; omega
        have HF := Lib.hid HK.out.below
        have h45 := (Below.refl wr.heap.size wr).alloc (Nat.le_refl _) (.cells #[.bool false, .int .u64 0, .slice none 0 0] 45)
        have hz0 := heap_alloc_new wr (.cells #[.bool false, .int .u64 0, .slice none 0 0] 45)
        have hb47 := (Below.refl (wr.alloc (.cells #[.bool false, .int .u64 0, .slice none 0 0] 45)).heap.size (wr.alloc (.cells #[.bool false, .int .u64 0, .slice none 0 0] 45))).alloc (Nat.le_refl _) (.cells #[.bool false, .int .u64 0] 47)
        have hk0 := heap_alloc_new (wr.alloc (.cells #[.bool false, .int .u64 0, .slice none 0 0] 45)) (.cells #[.bool false, .int .u64 0] 47)
        have HF := Lib.hid (Bto (Bto HF.out h45) hb47)
        have HZ0 := Lib.hid ((hb47.block _ (lt_of_block hz0)).trans hz0)
        have HK0' := Lib.hid hk0
        clear h45 hz0 hb47 hk0
        go_upto_region 28 with fail
        obtain ⟨Y, hY⟩ : ∃ Y, (wr.alloc (.cells #[.bool false, .int .u64 0, .slice none 0 0] 45)).alloc (.cells #[.bool false, .int .u64 0] 47) = Y := ⟨_, rfl⟩
        rw [show (wr.alloc (.cells #[.bool false, .int .u64 0, .slice none 0 0] 45)).heap.size = wr.heap.size + 1 by simp] at HK0'
        rw [hY] at HF HZ0 HK0' ⊢
        clear hY
        have zz := (three_cells HZ0.out).1
        have kk := (two_cells HK0'.out).1
        go_wp2_with fail
        refine (sink_take_nil (w := _) (g := 0)).mono ?_
        rintro e wn ⟨rfl, rfl⟩
        go_wp2_with fail
        refine (sink_take_zero kk).mono ?_
        rintro e wn ⟨rfl, rfl⟩
        go_wp2_with fail
        refine (stream_pending_nil (w := _) (g := 0) (k := 0) (A := none) (n := 0) (c := 0)).mono ?_
        rintro e wn ⟨rfl, rfl⟩
        go_wp2_with fail
        refine (alive_any _).mono ?_
        rintro e wf ⟨rfl, hf⟩
        have zz := (three_cells ((hf.block _ (lt_of_block HZ0.out)).trans HZ0.out)).1
        have HF := Lib.hid (Bto HF.out hf)
        clear hf kk
        go_wp2_with fail
        refine (stream_type_nil (w := _) (g := 0) (k := 0)).mono ?_
        rintro e wn ⟨rfl, rfl⟩
        go_wp2_with fail
        refine (stream_type_zero zz (k := 0)).mono ?_
        rintro e wn ⟨rfl, rfl⟩
        go_wp2_with fail
        refine (stream_ack_nil (w := _) (g := 0) (A := none) (n := 0) (c := 0)).mono ?_
        rintro e wn ⟨rfl, rfl⟩
        go_wp2_with fail
        refine (stream_ack_zero zz (A := none) (n := 0) (c := 0)).mono ?_
        rintro e wn ⟨rfl, rfl⟩
        go_wp2_with fail
        refine (stream_count_nil (w := _) (g := 0) (k := 0) (A := none) (n := 0) (c := 0)).mono ?_
        rintro e wn ⟨rfl, rfl⟩
        go_wp2_with fail
        refine (sink_count_nil (w := _) (g := 0) (k := 0) (A := none) (n := 0) (c := 0)).mono ?_
        rintro e wn ⟨rfl, rfl⟩
        go_wp2
        go_ret
        exact ⟨rfl, HF.out⟩
    · have d1 : decide ((i : Int) < (N : Int)) = false := by simp; omega
      have d2 : decide (i < N) = false := by simp; omega
      have HF := Lib.hid HK.out.below
      have h45 := (Below.refl wr.heap.size wr).alloc (Nat.le_refl _) (.cells #[.bool false, .int .u64 0, .slice none 0 0] 45)
      have hz0 := heap_alloc_new wr (.cells #[.bool false, .int .u64 0, .slice none 0 0] 45)
      have hb47 := (Below.refl (wr.alloc (.cells #[.bool false, .int .u64 0, .slice none 0 0] 45)).heap.size (wr.alloc (.cells #[.bool false, .int .u64 0, .slice none 0 0] 45))).alloc (Nat.le_refl _) (.cells #[.bool false, .int .u64 0] 47)
      have hk0 := heap_alloc_new (wr.alloc (.cells #[.bool false, .int .u64 0, .slice none 0 0] 45)) (.cells #[.bool false, .int .u64 0] 47)
      have HF := Lib.hid (Bto (Bto HF.out h45) hb47)
      have HZ0 := Lib.hid ((hb47.block _ (lt_of_block hz0)).trans hz0)
      have HK0' := Lib.hid hk0
      clear h45 hz0 hb47 hk0
      go_upto_region 28 with fail
      obtain ⟨Y, hY⟩ : ∃ Y, (wr.alloc (.cells #[.bool false, .int .u64 0, .slice none 0 0] 45)).alloc (.cells #[.bool false, .int .u64 0] 47) = Y := ⟨_, rfl⟩
      rw [show (wr.alloc (.cells #[.bool false, .int .u64 0, .slice none 0 0] 45)).heap.size = wr.heap.size + 1 by simp] at HK0'
      rw [hY] at HF HZ0 HK0' ⊢
      clear hY
      have zz := (three_cells HZ0.out).1
      have kk := (two_cells HK0'.out).1
      go_wp2_with fail
      refine (sink_take_nil (w := _) (g := 0)).mono ?_
      rintro e wn ⟨rfl, rfl⟩
      go_wp2_with fail
      refine (sink_take_zero kk).mono ?_
      rintro e wn ⟨rfl, rfl⟩
      go_wp2_with fail
      refine (stream_pending_nil (w := _) (g := 0) (k := 0) (A := none) (n := 0) (c := 0)).mono ?_
      rintro e wn ⟨rfl, rfl⟩
      go_wp2_with fail
      refine (alive_any _).mono ?_
      rintro e wf ⟨rfl, hf⟩
      have zz := (three_cells ((hf.block _ (lt_of_block HZ0.out)).trans HZ0.out)).1
      have HF := Lib.hid (Bto HF.out hf)
      clear hf kk
      go_wp2_with fail
      refine (stream_type_nil (w := _) (g := 0) (k := 0)).mono ?_
      rintro e wn ⟨rfl, rfl⟩
      go_wp2_with fail
      refine (stream_type_zero zz (k := 0)).mono ?_
      rintro e wn ⟨rfl, rfl⟩
      go_wp2_with fail
      refine (stream_ack_nil (w := _) (g := 0) (A := none) (n := 0) (c := 0)).mono ?_
      rintro e wn ⟨rfl, rfl⟩
      go_wp2_with fail
      refine (stream_ack_zero zz (A := none) (n := 0) (c := 0)).mono ?_
      rintro e wn ⟨rfl, rfl⟩
      go_wp2_with fail
      refine (stream_count_nil (w := _) (g := 0) (k := 0) (A := none) (n := 0) (c := 0)).mono ?_
      rintro e wn ⟨rfl, rfl⟩
      go_wp2_with fail
      refine (sink_count_nil (w := _) (g := 0) (k := 0) (A := none) (n := 0) (c := 0)).mono ?_
      rintro e wn ⟨rfl, rfl⟩
      go_wp2
      go_ret
      exact ⟨rfl, HF.out⟩
end Go.Proofs.Ytlppnnehgfpgbaa
