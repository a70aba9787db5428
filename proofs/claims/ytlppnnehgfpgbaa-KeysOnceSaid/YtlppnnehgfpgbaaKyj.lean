/-
  Proved here: KeysOnce.
-/
import Derived.Test.YtlppnnehgfpgbaaKyi
import Derived.Test.YtlppnnehgfpgbaaPlK
import Derived.Deep.CutBlock
set_option linter.unusedSimpArgs false
set_option linter.unusedVariables false
namespace Go.Proofs.Ytlppnnehgfpgbaa
open Go.RowKit
theorem step_app_g {P : Program} {ops : Array Oper} {o : Oper} {a : Act} {W w' : World} {K : Act → World → Prop} {Q : Exit → Act → World → Prop} {E : Prop} {v' : Value} (hw : Region.wanted o (yielded ops a.tmps) = true) (s x : Operand) (t : TypeId)
    (ho : o.op = .call { callee := .builtin .append, args := #[s, x], argTypes := #[t, t] }) (v sx : Value) (hs : a.eval s = v) (hx : a.eval x = sx) (hrun : (Builtin.append_ #[t, t] o.type #[v, sx]).run P W = .ok v' w') (h : K (a.put o.dst v') w') :
    if Region.wanted o (yielded ops a.tmps) = true then Oper.wp P o a W K Q else E := by
  rw [if_pos hw]
  unfold Oper.wp execOp
  simp only [ho, resolve, invoke, builtin, Sem.run_bind, Sem.run_pure, Result.andThen_ok, List.map_toArray, List.map_cons, List.map_nil, hs, hx, hrun]
  exact h
theorem own_at {w : World} {base : Nat} {e : TypeId} {v : Value} {n : Nat} {xs : List Value} (h : w.ownsRow base e 1 v n xs) (hn : 0 < n) : ∃ g cap, v = .slice (some ⟨g, 0, none⟩) n cap ∧ ∀ j, j < n → w.cell? ⟨g, j, none⟩ = xs[j]? := by
  rcases h.2 with ⟨_, h0⟩ | ⟨g, cap, cur, rfl, _⟩
  · omega
  · exact ⟨g, cap, rfl, fun j hj => World.ownsRow.cellAt h j (by omega)⟩
theorem uv_at {fs : List Nat} {j : Nat} (hj : j < fs.length) : (UV fs)[j]? = some (.int .u64 ((fs.getD j 0 : Nat) : Int)) := by simp [UV, List.getD, hj]
theorem ss_at {ss : List Value} {j : Nat} (hj : j < ss.length) : ss[j]? = some (ss.getD j (.bool false)) := by simp [List.getD, hj]
theorem one_cell {w : World} {g : Nat} {a : Value} {t : TypeId} (h : w.heap[g]? = some (.cells #[a] t (0, 0))) : w.cell? ⟨g, 0, none⟩ = some a := by simp [World.cell?, h]
set_option maxRecDepth 100000 in
set_option maxHeartbeats 16000000 in
theorem once_any {A : Option Addr} {N cap : Nat} {l : List KStep} (w : World) (hs : SlKStep w A N cap l) : Calls Try.prog 4 #[.slice A N cap] w fun e w' => e = .returned (.bool true) ∧ Below w.heap.size w w' := by
  have HSL := Lib.hid hs
  have hNm : N ≤ 9223372036854775807 := by have := hs.le; have := hs.max; unfold maxLen at this; omega
  clear hs
  go_enter Try.func4, Try.ntmps4
  go_wp2_with fail
  refine (new_any _).mono ?_
  rintro e w1 ⟨rfl, hs1, hb1⟩
  obtain ⟨g, hg⟩ : ∃ g, w.heap.size = g := ⟨_, rfl⟩
  have HGW := Lib.hid (show w.heap.size ≤ g from Nat.le_of_eq hg)
  have HS1 := Lib.hid (show St w1 g 0 [] from by rw [← hg]; exact hs1)
  have HB1 := Lib.hid hb1
  rw [hg]
  clear hs1 hb1 hg
  go_wp2_with fail
  refine (sink_any _).mono ?_
  rintro e w2 ⟨rfl, hs2, hb2⟩
  obtain ⟨h, hh⟩ : ∃ h, w1.heap.size = h := ⟨_, rfl⟩
  have HGH := Lib.hid (show g < h from by have := HS1.out.lt; omega)
  have HS2 := Lib.hid (show Sk w2 h 0 from by rw [← hh]; exact hs2)
  have HS1 := Lib.hid (HS1.out.below hb2)
  have HB1 := Lib.hid (Bto HB1.out hb2)
  rw [hh]
  clear hs2 hb2 hh
  have HK0 := Lib.hid (KO.start HS1.out HS2.out HGH.out HGW.out HB1.out)
  clear HS1 HS2
  go_wp2
  go_loopw [5, 6, 7, 8, 9] (fun tv kv fv sv iv wr => ∃ (ut uk vf vs : Value) (i : Nat), ut = tv ∧ uk = kv ∧ vf = fv ∧ vs = sv ∧ iv = .int .i64 i ∧ i ≤ N ∧ i ≤ 60 ∧ Hid (RR w g h ut uk vf vs (600 * i) i wr)) (fun _ _ _ _ iv _ => 60 - (intOf iv).toNat)
  case atStart => exact ⟨_, _, _, _, 0, rfl, rfl, rfl, rfl, rfl, by omega, by omega, Lib.hid ⟨[], 0, 0, [], [], by simp, by simp, by simp, by simp, rfl, by simp, HK0.out⟩⟩
  case round =>
    obtain ⟨ut, uk, vf, vs, i, rfl, rfl, rfl, rfl, rfl, hiN, hi60, HR⟩ := hrel
    obtain ⟨all, base, tk, fs, ss, hbt, hta, hla, hld, hfs, hfn, hk⟩ := HR.out
    have HK := Lib.hid hk
    have hdl : (all.drop base).length = all.length - base := by simp
    have HDL := Lib.hid hdl
    have HFS := Lib.hid hfs
    clear HK0 HR hk hdl hfs
    by_cases hin : i < N
    · have d1 : decide ((i : Int) < (N : Int)) = true := by simp; omega
      have d2 : decide (i < N) = true := by simp; omega
      by_cases hi : i < 60
      · have e1 : decide ((i : Int) < 60) = true := by simp; omega
        have e2 : decide (i < 60) = true := by simp; omega
        obtain ⟨bl, off, hA, hbl, hcl⟩ := HSL.out.reads (by rw [HSL.out.len_eq]; omega)
        have hcl := hcl i (by rw [HSL.out.len_eq]; exact hin)
        have hok := HSL.out.ok i (by rw [HSL.out.len_eq]; exact hin)
        obtain ⟨xo, hxo⟩ : ∃ x, atKStep l i = x := ⟨_, rfl⟩
        rw [hxo] at hcl hok
        obtain ⟨dd, sd, bk, cm⟩ := xo
        obtain ⟨q1, q2, q3, A2, c2, q0, sl⟩ := hcl
        obtain ⟨m, hm⟩ : ∃ m, dd.length = m := ⟨_, rfl⟩
        have q0 : w.cell? ⟨bl, off + i * 4, none⟩ = some (.slice A2 m c2) := by rw [← hm]; exact q0
        have hcm : cm < 256 := hok
        have HSD := Lib.hid (show RI .u8 w A2 dd from sl.reads)
        have HSZ := Lib.hid (show A2 = none → c2 = 0 from sl.nil)
        have HDM := Lib.hid hm
        have a0 := (HK.out.below.cell (p := ⟨bl, off + i * 4, none⟩) hbl).trans q0
        have a1 := (HK.out.below.cell (p := ⟨bl, off + i * 4 + 1, none⟩) hbl).trans q1
        have a2 := (HK.out.below.cell (p := ⟨bl, off + i * 4 + 2, none⟩) hbl).trans q2
        have a3 := (HK.out.below.cell (p := ⟨bl, off + i * 4 + 3, none⟩) hbl).trans q3
        have g1 : (0 : Int) ≤ (i : Int) := by omega
        have g2 : (i : Int) < (N : Int) := by omega
        have w1 : IntKind.i64.wrap ((i : Int) + 1) = (i : Int) + 1 := IntWalk.i64_in _ (by omega)
        subst hA
        clear hxo hok q0 q1 q2 q3 sl hm hbl
        have hal := (Below.refl wr.heap.size wr).alloc (Nat.le_refl _) (stepObj A2 m c2 sd bk cm)
        have HB := Lib.hid (show BL (wr.alloc (stepObj A2 m c2 sd bk cm)) (ows g h ut uk vf vs) wr.heap.size (stepObj A2 m c2 sd bk cm) from ⟨heap_alloc_new wr _, HK.out.new _ (Nat.le_refl _)⟩)
        have HK := Lib.hid (HK.out.to hal)
        clear hal
        go_upto_region 9 with fail
        obtain ⟨Z, hZ⟩ : ∃ Z, wr.alloc (stepObj A2 m c2 sd bk cm) = Z := ⟨_, rfl⟩
        obtain ⟨gb, hgb⟩ : ∃ gb, wr.heap.size = gb := ⟨_, rfl⟩
        rw [hZ] at HK HB
        rw [hgb] at HB ⊢
        rw [show wr.alloc (.cells #[.slice A2 m c2, .bool sd, .bool bk, .int .u8 cm] 53) = Z from hZ]
        clear hZ hgb a0 a1 a2 a3
        obtain ⟨z0, z1, z2, z3⟩ := step_cells HB.out.1
        by_cases h600 : 600 < m
        · have k1 : decide ((600 : Int) < (m : Int)) = true := by simp; omega
          have k1n : decide (600 < m) = true := by simp; omega
          have k2 : (600 : Int) < (m : Int) := by omega
          go_wp2_with fail
          refine (alive_any _).mono ?_
          rintro e wf ⟨rfl, hf⟩
          have HF := Lib.hid (Bto HK.out.below hf)
          clear hf
          go_wp2
          go_ret
          exact ⟨rfl, HF.out⟩
        have k1 : decide ((600 : Int) < (m : Int)) = false := by simp; omega
        have k1n : decide (600 < m) = false := by simp; omega
        have k2 : ¬ (600 : Int) < (m : Int) := by omega
        go_upto_region 11 with fail
        go_wp2_with fail
        refine (type_both HK.out.st HDM.out (HSD.out.below HK.out.below) HSZ.out (by rw [HDL.out]; exact hld)).mono ?_
        rintro e wt ⟨kk, rfl, hT⟩
        have HT := Lib.hid hT
        clear hT
        go_upto_if 45 with fail
        go_cut [5] (fun tv wx => ∃ ut', ut' = tv ∧ Hid (RR w g h ut' uk vf vs (600 * i + 600) i wx ∧ BL wx (ows g h ut' uk vf vs) gb (stepObj A2 m c2 sd bk cm)))
        case first =>
          rcases HT.out with ⟨hkk, hfit, hst, hot, hrt⟩ | ⟨hkk, hw⟩
          · have yk : (kk == 0) = true := by simp [hkk]
            rw [HDL.out] at hfit
            have HKs := Lib.hid (HK.out.stream hst hot (hrt _ HK.out.row HK.out.new))
            have HBs := Lib.hid (HB.out.put 0 (some g) (by show 0 < 6; decide) hot.grown (.inl rfl))
            clear hst hrt hkk z0 z1 z2 z3
            obtain ⟨z0, z1, z2, z3⟩ := step_cells HBs.out.1
            obtain ⟨ut', wu, hrun, hou, hgu, hlu⟩ := app_lies (n := all.length) HDM.out c2 (HSD.out.below HKs.out.below) HSZ.out HKs.out.ot (by omega) HKs.out.below.size
            have HRUN := Lib.hid hrun
            have HK2 := Lib.hid (HKs.out.type (ys := dd) hta (by rw [HDM.out]; exact hou) hgu hlu)
            have HB2 := Lib.hid (HBs.out.put 2 ut'.ownBlock (by show 2 < 6; decide) hgu hlu)
            have hall : (all ++ dd).length = all.length + m := by rw [List.length_append, HDM.out]
            have hdr : (all.drop base) ++ dd = (all ++ dd).drop base := by rw [List.drop_append_of_le_length (by omega)]
            rw [hdr] at HK2
            clear hrun hou hgu hlu hot
            have HR2 := Lib.hid (show RR w g h ut' uk vf vs (600 * i + 600) i wu ∧ BL wu (ows g h ut' uk vf vs) gb (stepObj A2 m c2 sd bk cm) from ⟨⟨all ++ dd, base, tk, fs, ss, hbt, by omega, by omega, by omega, HFS.out, hfn, HK2.out⟩, HB2.out⟩)
            clear hall hdr HK2 HB2 HKs HBs HT
            go_wp2_with (first | (at_builtin; refine wpList_app rfl (.tmp 46) (.tmp 48) _ rfl _ _ rfl rfl HRUN.out ?_))
            go_meet
            exact ⟨_, rfl, HR2⟩
          · have yk : (kk == 0) = false := by simp [hkk]
            subst hw
            clear hkk HT
            go_wp2
            go_meet
            exact ⟨_, rfl, Lib.hid ⟨⟨all, base, tk, fs, ss, hbt, hta, by omega, hld, HFS.out, hfn, HK.out⟩, HB.out⟩⟩
        case rest =>
          obtain ⟨ut2, rfl, HR⟩ := hcut
          clear HK HB HT HDL HFS hbt hta hla hld hfn z0 z1 z2 z3
          obtain ⟨hr0, hbl⟩ := HR.out
          obtain ⟨all, base, tk, fs, ss, hbt, hta, hla, hld, hfs, hfn, hk⟩ := hr0
          have HK := Lib.hid hk
          have HB := Lib.hid hbl
          have hdl : (all.drop base).length = all.length - base := by simp
          have HDL := Lib.hid hdl
          have HFS := Lib.hid hfs
          obtain ⟨z0, z1, z2, z3⟩ := step_cells HB.out.1
          clear hbl hk HR hdl hfs
          go_upto_if 51 with fail
          go_cut [7, 8] (fun fv sv wx => ∃ vf' vs' W', vf' = fv ∧ vs' = sv ∧ W' = wx ∧ Hid (RR w g h ut2 uk vf' vs' (600 * i + 600) (i + 1) W' ∧ BL W' (ows g h ut2 uk vf' vs') gb (stepObj A2 m c2 sd bk cm)))
          case first =>
            cases sd
            · go_wp2
              go_meet
              exact ⟨_, _, _, rfl, rfl, rfl, Lib.hid ⟨⟨all, base, tk, fs, ss, hbt, hta, hla, hld, HFS.out, by omega, HK.out⟩, HB.out⟩⟩
            · go_wp2_with fail
              refine (pending_st HK.out.st (by rw [HDL.out]; omega)).mono ?_
              rintro e wp ⟨v8, rfl, hO⟩
              have hfr : ∀ a n c, v8 = .slice (some a) n c → Fr (ows g h ut2 uk vf vs) a.block := fun a n c e => HK.out.new _ (ownBlock_le hO.own _ (by rw [e]; rfl))
              have HKp := Lib.hid (HK.out.to hO.below)
              have HBp := Lib.hid (HB.out.below hO.below)
              have HV := Lib.hid (show BR wp (ows g h ut2 uk vf vs) v8 (all.drop base) from ⟨DV.own hO.own, fun _ => hfr⟩)
              obtain ⟨A8, c8, hv8, _, _⟩ := DV.own hO.own
              obtain ⟨n8, hn8⟩ : ∃ m, (all.drop base).length = m := ⟨_, rfl⟩
              rw [hn8] at hv8
              subst hv8
              clear hfr hO hn8 HK HB
              have hal := (Below.refl wp.heap.size wp).alloc (Nat.le_refl _) (.cells #[.int .u64 base] 29)
              have hnc : (wp.alloc (.cells #[.int .u64 base] 29)).cell? ⟨wp.heap.size, 0, none⟩ = some (.int .u64 base) := one_cell (heap_alloc_new wp _)
              have HK1 := Lib.hid (HKp.out.to hal)
              have HB1 := Lib.hid (HBp.out.below hal)
              have HV1 := Lib.hid (HV.out.below hal)
              obtain ⟨vf', w5, hrun1, ho1, hg1, hl1⟩ := app_base hnc HK1.out.of (by omega) HK1.out.below.size
              have HRUN1 := Lib.hid hrun1
              have HK2 := Lib.hid (HK1.out.from ho1 hg1 hl1)
              have HB2 := Lib.hid (HB1.out.put 4 vf'.ownBlock (by show 4 < 6; decide) hg1 hl1)
              have HV2 := Lib.hid (HV1.out.put (p := 4) (by show 4 < 6; decide) hg1 hl1)
              clear hal hnc hrun1 ho1 hg1 hl1 HKp HBp HV HK1 HB1 HV1
              have hal := (Below.refl w5.heap.size w5).alloc (Nat.le_refl _) (.cells #[.slice A8 n8 c8] 28)
              have hnc : (w5.alloc (.cells #[.slice A8 n8 c8] 28)).cell? ⟨w5.heap.size, 0, none⟩ = some (.slice A8 n8 c8) := one_cell (heap_alloc_new w5 _)
              have HK1 := Lib.hid (HK2.out.to hal)
              have HB1 := Lib.hid (HB2.out.below hal)
              have HV1 := Lib.hid (HV2.out.below hal)
              have hfs := HFS.out
              obtain ⟨vs', w6, hrun1, ho1, hg1, hl1⟩ := app_row hnc HK1.out.os (by omega) HK1.out.below.size
              have HRUN2 := Lib.hid hrun1
              have HK3 := Lib.hid (HK1.out.send hfs (by omega) hld HV1.out ho1 hg1 hl1)
              have HB3 := Lib.hid (HB1.out.put 5 vs'.ownBlock (by show 5 < 6; decide) hg1 hl1)
              have HR2 := Lib.hid (show RR w g h ut2 uk vf' vs' (600 * i + 600) (i + 1) w6 ∧ BL w6 (ows g h ut2 uk vf' vs') gb (stepObj A2 m c2 true bk cm) from ⟨⟨all, base, tk, fs ++ [base], ss ++ [.slice A8 n8 c8], hbt, hta, hla, hld, by simp [hfs], by simp; omega, HK3.out⟩, HB3.out⟩)
              clear hal hnc hrun1 ho1 hg1 hl1 HK1 HB1 HV1 HK2 HB2 HV2 HK3 HB3 hfs
              go_wp2_with (first | (at_builtin; refine wpList_app rfl (.tmp 57) (.tmp 59) _ rfl _ _ rfl rfl HRUN1.out ?_) | (at_builtin; refine wpList_app rfl (.tmp 61) (.tmp 63) _ rfl _ _ rfl rfl HRUN2.out ?_))
              go_meet
              exact ⟨_, _, _, rfl, rfl, rfl, HR2⟩
          case rest =>
            obtain ⟨vf2, vs2, W2, rfl, rfl, rfl, HR⟩ := hcut
            clear HK HB HDL HFS hbt hta hla hld hfn z0 z1 z2 z3
            obtain ⟨hr0, hbl⟩ := HR.out
            obtain ⟨all, base, tk, fs, ss, hbt, hta, hla, hld, hfs, hfn, hk⟩ := hr0
            have HK := Lib.hid hk
            have HB := Lib.hid hbl
            have hdl : (all.drop base).length = all.length - base := by simp
            have HDL := Lib.hid hdl
            have HFS := Lib.hid hfs
            obtain ⟨z0, z1, z2, z3⟩ := step_cells HB.out.1
            clear hbl hk HR hdl hfs
            obtain ⟨As, cs, hvs, hcs, _, hzs⟩ := own_slice HK.out.os
            obtain ⟨ns, hns⟩ : ∃ n, ss.length = n := ⟨_, rfl⟩
            rw [hns] at hvs hcs
            subst hvs
            have HNS := Lib.hid hns
            clear hns
            go_upto_if 67 with fail
            go_cut [6] (fun kv wx => ∃ uk', uk' = kv ∧ Hid (RR w g h ut2 uk' vf2 (.slice As ns cs) (600 * i + 600) (i + 1) wx ∧ BL wx (ows g h ut2 uk' vf2 (.slice As ns cs)) gb (stepObj A2 m c2 sd bk cm)))
            case first =>
              by_cases hn0 : 0 < ns
              · have d3 : decide ((0 : Int) < (ns : Int)) = true := by simp <;> omega
                have d4 : decide (0 < ns) = true := by simp <;> omega
                have d5 : (0 : Int) < (ns : Int) := by omega
                have wc : IntKind.i64.wrap (cm : Int) = (cm : Int) := IntWalk.i64_in _ (by omega)
                obtain ⟨j, hj⟩ : ∃ j : Nat, (cm : Int) % (ns : Int) = (j : Int) := ⟨cm % ns, by simp⟩
                have hjn : j < ns := by have := Int.emod_lt_of_pos (cm : Int) d5; rw [hj] at this; omega
                go_upto_region 18 with fail
                rw [hj]
                obtain ⟨e, he, hf, hle, hbr⟩ := HK.out.sent j (by rw [HNS.out]; exact hjn)
                have hfl : fs.length = ns := HFS.out.symm.trans HNS.out
                obtain ⟨gf, cf, hvf, hcf⟩ := own_at HK.out.of (by omega)
                obtain ⟨gs, cs', hvs, hcs'⟩ := own_at HK.out.os (by have := HNS.out; omega)
                have x1 := (hcf j (by omega)).trans (uv_at (by omega))
                have x2 := (hcs' j (by have := HNS.out; omega)).trans (ss_at (by have := HNS.out; omega))
                rw [HNS.out] at hvs
                rw [hfl] at hvf
                injection hvs with hA _ hC
                subst hA
                subst hC
                subst hvf
                obtain ⟨f0, hf0⟩ : ∃ f, fs.getD j 0 = f := ⟨_, rfl⟩
                obtain ⟨v7, hv7⟩ : ∃ v, ss.getD j (.bool false) = v := ⟨_, rfl⟩
                rw [hf0] at hf hle hbr x1
                rw [hv7] at hbr x2
                obtain ⟨A7, c7, hv7', hr7, h7c, _, h7z⟩ := hbr.1
                obtain ⟨m7, hL7⟩ : ∃ m, ((all.take e).drop f0).length = m := ⟨_, rfl⟩
                have hm7 : m7 ≤ e - f0 := by rw [← hL7]; simp; omega
                rw [hL7] at hv7' h7c
                subst hv7'
                have HKD := Lib.hid (HK.out.to (belowN (Below.refl W2.heap.size W2) 1))
                have HBD := Lib.hid (HB.out.below (belowN (Below.refl W2.heap.size W2) 1))
                have HR7 : Hid (RI .u8 (W2.drewN 1) A7 ((all.take e).drop f0)) := Lib.hid (hr7.below (belowN (Below.refl W2.heap.size W2) 1))
                have y1 : W2.drew.cell? ⟨gf, j, none⟩ = _ := x1
                have y2 : W2.drew.cell? ⟨gs, j, none⟩ = _ := x2
                have j1 : (0 : Int) ≤ (j : Int) := by omega
                have j2 : (j : Int) < (ns : Int) := by omega
                have hq1 : tk < 90000 := by omega
                have hq2 : m7 ≤ 512 := by omega
                have HSK7 : Sk W2.drew h tk := HKD.out.sk
                have HR8 : RI .u8 W2.drew A7 ((all.take e).drop f0) := HR7.out
                have HTK := Lib.hid (take_both HSK7 hq1 he hf hta hL7 hq2 HR8 h7c h7z)
                clear HSK7 HR8 hq1 hq2 hL7 hm7 he hle
                clear hj hbr hr7 hf0 hv7 hcf hcs' HK HB
                refine wp_region_held_drew (S := fun W => Below w.heap.size w W) (by kernel_rfl) HKD.out.below (fun hHeld => ?_)
                refine wpAnyH_take (i := 0) (v := ?_) (by simp; rfl) (by kernel_rfl) (by kernel_rfl) (by kernel_rfl) (by exact fun _ _ _ h => h) (Or.inl ⟨by rfl, fun wx hSx => ?_⟩) hHeld ?_
                rotate_left
                · clear hSx; go_simp; (try with_reducible rfl)
                simp only [Act.put, List.setIfInBounds_toArray, List.set_cons_zero, List.set_cons_succ]
                refine wpAnyH_take (i := 1) (v := ?_) (by simp; rfl) (by kernel_rfl) (by kernel_rfl) (by kernel_rfl) (by exact fun _ _ _ h => h) (Or.inl ⟨by rfl, fun wx hSx => ?_⟩) hHeld ?_
                rotate_left
                · clear hSx; go_simp; (try with_reducible rfl)
                simp only [Act.put, List.setIfInBounds_toArray, List.set_cons_zero, List.set_cons_succ]
                refine wpAnyH_take (i := 2) (v := ?_) (by simp; rfl) (by kernel_rfl) (by kernel_rfl) (by kernel_rfl) (by exact fun _ _ _ h => h) (Or.inl ⟨by rfl, fun wx hSx => ?_⟩) hHeld ?_
                rotate_left
                · clear hSx; go_simp; (try with_reducible rfl)
                simp only [Act.put, List.setIfInBounds_toArray, List.set_cons_zero, List.set_cons_succ]
                refine wpAnyH_take (i := 3) (v := ?_) (by simp; rfl) (by kernel_rfl) (by kernel_rfl) (by kernel_rfl) (by exact fun _ _ _ h => h) (Or.inl ⟨by rfl, fun wx hSx => ?_⟩) hHeld ?_
                rotate_left
                · clear hSx; go_simp; (try with_reducible rfl)
                simp only [Act.put, List.setIfInBounds_toArray, List.set_cons_zero, List.set_cons_succ]
                refine wpAnyH_take (i := 5) (v := ?_) (by simp; rfl) (by kernel_rfl) (by kernel_rfl) (by kernel_rfl) (by exact fun _ _ _ h => h) (Or.inl ⟨by rfl, fun wx hSx => ?_⟩) hHeld ?_
                rotate_left
                · clear hSx; go_simp; (try with_reducible rfl)
                simp only [Act.put, List.setIfInBounds_toArray, List.set_cons_zero, List.set_cons_succ]
                refine wpAnyH_take (i := 6) (v := ?_) (by simp; rfl) (by kernel_rfl) (by kernel_rfl) (by kernel_rfl) (by exact fun _ _ _ h => h) (Or.inl ⟨by rfl, fun wx hSx => ?_⟩) hHeld ?_
                rotate_left
                · clear hSx; go_simp; (try with_reducible rfl)
                simp only [Act.put, List.setIfInBounds_toArray, List.set_cons_zero, List.set_cons_succ]
                refine wpAnyH_take (i := 7) (v := ?_) (by simp; rfl) (by kernel_rfl) (by kernel_rfl) (by kernel_rfl) (by exact fun _ _ _ h => h) (Or.inl ⟨by rfl, fun wx hSx => ?_⟩) hHeld ?_
                rotate_left
                · clear hSx; go_simp; (try with_reducible rfl)
                simp only [Act.put, List.setIfInBounds_toArray, List.set_cons_zero, List.set_cons_succ]
                refine wpAnyH_ready (rs := [4, 8]) (by kernel_rfl) (by simp) ?_
                refine AllReadyH.cons (by simp; rfl) (fun K0 hK0 => ?_) (AllReadyH.cons (by simp; rfl) (fun K0 hK0 => ?_) AllReadyH.nil)
                · go_simp
                  refine hK0.out _ _ hHeld (fun _ => ?_)
                  clear hK0 K0
                  refine wpAnyH_ready (rs := [8]) (by kernel_rfl) (by simp) ?_
                  refine AllReadyH.cons (by simp; rfl) (fun K0 hK0 => ?_) AllReadyH.nil
                  go_simp
                  refine hK0.out _ _ hHeld (fun _ => ?_)
                  clear hK0 K0
                  refine wpAnyH_ready (rs := [9]) (by kernel_rfl) (by simp) ?_
                  refine AllReadyH.cons (by simp; rfl) (fun K0 hK0 => ?_) AllReadyH.nil
                  go_simp
                  refine HTK.out.mono ?_
                  rintro e V1 ⟨v6, n9, q, rfl, h1, h2, hmx, h4, hdv, hql, hst, hot⟩
                  have h5 : q ≤ n9 - tk := by omega
                  have h6 : n9 - tk ≤ q := by omega
                  clear hmx h4
                  have HK1 := Lib.hid (HKD.out.sink h1 hst hot)
                  have HB1 := Lib.hid (HBD.out.put 1 (some h) (by show 1 < 6; decide) hot.grown (.inl rfl))
                  obtain ⟨A6, c6, hv6, hr6, _, _, hz6⟩ := hdv
                  rw [hql] at hv6
                  subst hv6
                  have HR6 := Lib.hid hr6
                  have HZ6 := Lib.hid hz6
                  have HQL := Lib.hid hql
                  clear hst hot hr6 hz6 hql
                  have hHeld1 := HK1.out.below
                  refine hK0.out _ _ hHeld1 (fun _ => ?_)
                  clear hK0 K0 hHeld
                  have hHeld := hHeld1
                  refine wpAnyH_take (i := 10) (v := ?_) (by simp; rfl) (by kernel_rfl) (by kernel_rfl) (by kernel_rfl) (by exact fun _ _ _ h => h) (Or.inl ⟨by rfl, fun wx hSx => ?_⟩) hHeld ?_
                  rotate_left
                  · clear hSx; go_simp; (try with_reducible rfl)
                  simp only [Act.put, List.setIfInBounds_toArray, List.set_cons_zero, List.set_cons_succ]
                  refine wpAnyH_take (i := 11) (v := ?_) (by simp; rfl) (by kernel_rfl) (by kernel_rfl) (by kernel_rfl) (by exact fun _ _ _ h => h) (Or.inl ⟨by rfl, fun wx hSx => ?_⟩) hHeld ?_
                  rotate_left
                  · clear hSx; go_simp; (try with_reducible rfl)
                  simp only [Act.put, List.setIfInBounds_toArray, List.set_cons_zero, List.set_cons_succ]
                  refine wpAnyH_take (i := 12) (v := ?_) (by simp; rfl) (by kernel_rfl) (by kernel_rfl) (by kernel_rfl) (by exact fun _ _ _ h => h) (Or.inl ⟨by rfl, fun wx hSx => ?_⟩) hHeld ?_
                  rotate_left
                  · clear hSx; go_simp; (try with_reducible rfl)
                  simp only [Act.put, List.setIfInBounds_toArray, List.set_cons_zero, List.set_cons_succ]
                  refine wpAnyH_take (i := 13) (v := ?_) (by simp; rfl) (by kernel_rfl) (by kernel_rfl) (by kernel_rfl) (by exact fun _ _ _ h => h) (Or.inl ⟨by rfl, fun wx hSx => ?_⟩) hHeld ?_
                  rotate_left
                  · clear hSx; go_simp; (try with_reducible rfl)
                  simp only [Act.put, List.setIfInBounds_toArray, List.set_cons_zero, List.set_cons_succ]
                  refine wpAnyH_take (i := 14) (v := ?_) (by simp; rfl) (by kernel_rfl) (by kernel_rfl) (by kernel_rfl) (by exact fun _ _ _ h => h) (Or.inl ⟨by rfl, fun wx hSx => ?_⟩) hHeld ?_
                  rotate_left
                  · clear hSx; go_simp; (try with_reducible rfl)
                  simp only [Act.put, List.setIfInBounds_toArray, List.set_cons_zero, List.set_cons_succ]
                  refine wpAnyH_done (by kernel_rfl) ?_ _
                  clear hHeld hHeld1
                  obtain ⟨uk', wu, hrun, hou, hgu, hlu⟩ := app_lies (n := tk) HQL.out c6 HR6.out HZ6.out HK1.out.ok (by omega) HK1.out.below.size
                  have HRUN := Lib.hid hrun
                  have HK2 := Lib.hid (HK1.out.took (tk' := n9) (ys := (all.take n9).drop tk) (by rw [HQL.out]; omega) (took_join h1) (by rw [HQL.out]; exact hou) hgu hlu)
                  have HB2 := Lib.hid (HB1.out.put 3 uk'.ownBlock (by show 3 < 6; decide) hgu hlu)
                  have HR2 := Lib.hid (show RR w g h ut2 uk' (.slice (some ⟨gf, 0, none⟩) ns cf) (.slice (some ⟨gs, 0, none⟩) ns cs) (600 * i + 600) (i + 1) wu ∧ BL wu (ows g h ut2 uk' (.slice (some ⟨gf, 0, none⟩) ns cf) (.slice (some ⟨gs, 0, none⟩) ns cs)) gb (stepObj A2 m c2 sd bk cm) from ⟨⟨all, base, n9, fs, ss, by omega, h2, hla, hld, HFS.out, hfn, HK2.out⟩, HB2.out⟩)
                  clear hrun hou hgu hlu HK1 HB1 HK2 HB2
                  go_wp2_with (first | (at_builtin; refine wpList_app rfl (.tmp 93) (.tmp 94) _ rfl _ _ rfl rfl HRUN.out ?_))
                  go_meet
                  exact ⟨_, rfl, HR2⟩
                · go_simp
                  refine hK0.out _ _ hHeld (fun _ => ?_)
                  clear hK0 K0
                  refine wpAnyH_ready (rs := [4]) (by kernel_rfl) (by simp) ?_
                  refine AllReadyH.cons (by simp; rfl) (fun K0 hK0 => ?_) AllReadyH.nil
                  go_simp
                  refine hK0.out _ _ hHeld (fun _ => ?_)
                  clear hK0 K0
                  refine wpAnyH_ready (rs := [9]) (by kernel_rfl) (by simp) ?_
                  refine AllReadyH.cons (by simp; rfl) (fun K0 hK0 => ?_) AllReadyH.nil
                  go_simp
                  refine HTK.out.mono ?_
                  rintro e V1 ⟨v6, n9, q, rfl, h1, h2, hmx, h4, hdv, hql, hst, hot⟩
                  have h5 : q ≤ n9 - tk := by omega
                  have h6 : n9 - tk ≤ q := by omega
                  clear hmx h4
                  have HK1 := Lib.hid (HKD.out.sink h1 hst hot)
                  have HB1 := Lib.hid (HBD.out.put 1 (some h) (by show 1 < 6; decide) hot.grown (.inl rfl))
                  obtain ⟨A6, c6, hv6, hr6, _, _, hz6⟩ := hdv
                  rw [hql] at hv6
                  subst hv6
                  have HR6 := Lib.hid hr6
                  have HZ6 := Lib.hid hz6
                  have HQL := Lib.hid hql
                  clear hst hot hr6 hz6 hql
                  have hHeld1 := HK1.out.below
                  refine hK0.out _ _ hHeld1 (fun _ => ?_)
                  clear hK0 K0 hHeld
                  have hHeld := hHeld1
                  refine wpAnyH_take (i := 10) (v := ?_) (by simp; rfl) (by kernel_rfl) (by kernel_rfl) (by kernel_rfl) (by exact fun _ _ _ h => h) (Or.inl ⟨by rfl, fun wx hSx => ?_⟩) hHeld ?_
                  rotate_left
                  · clear hSx; go_simp; (try with_reducible rfl)
                  simp only [Act.put, List.setIfInBounds_toArray, List.set_cons_zero, List.set_cons_succ]
                  refine wpAnyH_take (i := 11) (v := ?_) (by simp; rfl) (by kernel_rfl) (by kernel_rfl) (by kernel_rfl) (by exact fun _ _ _ h => h) (Or.inl ⟨by rfl, fun wx hSx => ?_⟩) hHeld ?_
                  rotate_left
                  · clear hSx; go_simp; (try with_reducible rfl)
                  simp only [Act.put, List.setIfInBounds_toArray, List.set_cons_zero, List.set_cons_succ]
                  refine wpAnyH_take (i := 12) (v := ?_) (by simp; rfl) (by kernel_rfl) (by kernel_rfl) (by kernel_rfl) (by exact fun _ _ _ h => h) (Or.inl ⟨by rfl, fun wx hSx => ?_⟩) hHeld ?_
                  rotate_left
                  · clear hSx; go_simp; (try with_reducible rfl)
                  simp only [Act.put, List.setIfInBounds_toArray, List.set_cons_zero, List.set_cons_succ]
                  refine wpAnyH_take (i := 13) (v := ?_) (by simp; rfl) (by kernel_rfl) (by kernel_rfl) (by kernel_rfl) (by exact fun _ _ _ h => h) (Or.inl ⟨by rfl, fun wx hSx => ?_⟩) hHeld ?_
                  rotate_left
                  · clear hSx; go_simp; (try with_reducible rfl)
                  simp only [Act.put, List.setIfInBounds_toArray, List.set_cons_zero, List.set_cons_succ]
                  refine wpAnyH_take (i := 14) (v := ?_) (by simp; rfl) (by kernel_rfl) (by kernel_rfl) (by kernel_rfl) (by exact fun _ _ _ h => h) (Or.inl ⟨by rfl, fun wx hSx => ?_⟩) hHeld ?_
                  rotate_left
                  · clear hSx; go_simp; (try with_reducible rfl)
                  simp only [Act.put, List.setIfInBounds_toArray, List.set_cons_zero, List.set_cons_succ]
                  refine wpAnyH_done (by kernel_rfl) ?_ _
                  clear hHeld hHeld1
                  obtain ⟨uk', wu, hrun, hou, hgu, hlu⟩ := app_lies (n := tk) HQL.out c6 HR6.out HZ6.out HK1.out.ok (by omega) HK1.out.below.size
                  have HRUN := Lib.hid hrun
                  have HK2 := Lib.hid (HK1.out.took (tk' := n9) (ys := (all.take n9).drop tk) (by rw [HQL.out]; omega) (took_join h1) (by rw [HQL.out]; exact hou) hgu hlu)
                  have HB2 := Lib.hid (HB1.out.put 3 uk'.ownBlock (by show 3 < 6; decide) hgu hlu)
                  have HR2 := Lib.hid (show RR w g h ut2 uk' (.slice (some ⟨gf, 0, none⟩) ns cf) (.slice (some ⟨gs, 0, none⟩) ns cs) (600 * i + 600) (i + 1) wu ∧ BL wu (ows g h ut2 uk' (.slice (some ⟨gf, 0, none⟩) ns cf) (.slice (some ⟨gs, 0, none⟩) ns cs)) gb (stepObj A2 m c2 sd bk cm) from ⟨⟨all, base, n9, fs, ss, by omega, h2, hla, hld, HFS.out, hfn, HK2.out⟩, HB2.out⟩)
                  clear hrun hou hgu hlu HK1 HB1 HK2 HB2
                  go_wp2_with (first | (at_builtin; refine wpList_app rfl (.tmp 93) (.tmp 94) _ rfl _ _ rfl rfl HRUN.out ?_))
                  go_meet
                  exact ⟨_, rfl, HR2⟩
              · have d3 : decide ((0 : Int) < (ns : Int)) = false := by simp <;> omega
                have d4 : decide (0 < ns) = false := by simp <;> omega
                have d5 : ¬ (0 : Int) < (ns : Int) := by omega
                go_wp2
                go_meet
                exact ⟨_, rfl, Lib.hid ⟨⟨all, base, tk, fs, ss, hbt, hta, hla, hld, HFS.out, hfn, HK.out⟩, HB.out⟩⟩
            case rest =>
              obtain ⟨uk2, rfl, HR⟩ := hcut
              clear HK HB HDL HFS hbt hta hla hld hfn z0 z1 z2 z3 HNS hcs hzs
              obtain ⟨hr0, hbl⟩ := HR.out
              obtain ⟨all, base, tk, fs, ss, hbt, hta, hla, hld, hfs, hfn, hk⟩ := hr0
              have HK := Lib.hid hk
              have HB := Lib.hid hbl
              have hdl : (all.drop base).length = all.length - base := by simp
              have HDL := Lib.hid hdl
              have HFS := Lib.hid hfs
              obtain ⟨z0, z1, z2, z3⟩ := step_cells HB.out.1
              clear hbl hk HR hdl hfs
              go_upto_region 22 with fail
              go_cut [104] (fun bv wx => ∃ W', bv = .bool false ∧ W' = wx ∧ Hid (RR w g h ut2 uk2 vf2 (.slice As ns cs) (600 * i + 600) (i + 1) W'))
              case first =>
                cases bk
                · go_wp2
                  go_meet
                  exact ⟨_, rfl, rfl, Lib.hid ⟨all, base, tk, fs, ss, hbt, hta, hla, hld, HFS.out, hfn, HK.out⟩⟩
                · go_wp2_with fail
                  refine (count_sk HK.out.sk).mono ?_
                  rintro e wq ⟨rfl, rfl⟩
                  go_wp2_with fail
                  refine (ack_ok HK.out.st (s := all.length) (by rw [HDL.out]; omega) (by omega) (k := tk) hbt hta).mono ?_
                  rintro e wq ⟨rfl, hst, hot, hrt⟩
                  have hdd : (all.drop base).drop (tk - base) = all.drop tk := by rw [List.drop_drop, show base + (tk - base) = tk by omega]
                  rw [hdd] at hst
                  have HK2 := Lib.hid (HK.out.stream hst hot (fun _ => hrt _ HK.out.new))
                  clear hst hot hrt hdd
                  go_wp2
                  go_meet
                  exact ⟨_, rfl, rfl, Lib.hid ⟨all, tk, tk, fs, ss, Nat.le_refl _, hta, hla, by omega, HFS.out, hfn, HK2.out⟩⟩
              case rest =>
                obtain ⟨W3, rfl, rfl, HR⟩ := hcut
                clear HK HB HDL HFS hbt hta hla hld hfn z0 z1 z2 z3
                obtain ⟨all, base, tk, fs, ss, hbt, hta, hla, hld, hfs, hfn, hk⟩ := HR.out
                have HK := Lib.hid hk
                have HFS := Lib.hid hfs
                clear hk hfs HR
                obtain ⟨Au, cu, hu, hcu1, _, hzu⟩ := own_slice HK.out.ot
                obtain ⟨Ak, ck, hk1, hck1, _, hzk⟩ := own_slice HK.out.ok
                obtain ⟨s, hs⟩ : ∃ s, all.length = s := ⟨_, rfl⟩
                have hlt : (all.take tk).length = tk := by simp; omega
                have hru : RI .u8 W3 Au all := by
                  obtain ⟨A', c', e', h'⟩ := DV.own HK.out.ot
                  rw [hu] at e'
                  injection e' with e1 _ _
                  rw [e1]; exact h'.1
                have hrk : RI .u8 W3 Ak (all.take tk) := by
                  obtain ⟨A', c', e', h'⟩ := DV.own (own_cast HK.out.ok hlt.symm rfl)
                  rw [hk1] at e'
                  injection e' with e1 _ _
                  rw [e1]; exact h'.1
                rw [hs] at hu hcu1 hta hla hld
                subst hu
                subst hk1
                obtain ⟨hr9, hrun9⟩ := run_front (A := Au) (n := s) (c := cu) (k := tk) hta hcu1 hzu
                have HCV8 : Hid (∀ m, (convert 28 9 (.slice Au tk cu)).run Try.prog (W3.drewN m) = .ok (.string (strOfNums (all.take tk))) (W3.drewN m)) := Lib.hid (fun m => conv_text hlt cu ((hr9 W3 all hru hs).below (belowN (Below.refl W3.heap.size W3) m)))
                have HCV9 : Hid (∀ m, (convert 28 9 (.slice Ak tk ck)).run Try.prog (W3.drewN m) = .ok (.string (strOfNums (all.take tk))) (W3.drewN m)) := Lib.hid (fun m => conv_text hlt ck (hrk.below (belowN (Below.refl W3.heap.size W3) m)))
                obtain ⟨S, hS⟩ : ∃ S, strOfNums (all.take tk) = S := ⟨_, rfl⟩
                rw [hS] at HCV8 HCV9
                have hcv8 := HCV8.out
                have hcv9 := HCV9.out
                have ss0 : (S.toList == S.toList) = true := by simp
                have HCS := Lib.hid (fun m => count_sk (HK.out.sk.below (belowN (Below.refl W3.heap.size W3) m)))
                have p1 : IntKind.u64.wrap (tk : Int) = (tk : Int) := wrap64_in (by omega)
                have p2 : decide ((s : Int) < (tk : Int)) = false := by simp <;> omega
                have p2n : decide (s < tk) = false := by simp <;> omega
                have p3 : ¬ ((s : Int) < (tk : Int)) := by omega
                have p8 : ((tk : Int) != (tk : Int)) = false := by simp
                have p8n : (tk != tk) = false := by simp
                have HNX := Lib.hid (show base ≤ tk ∧ tk ≤ all.length ∧ all.length ≤ 600 * (i + 1) ∧ all.length - base ≤ 512 ∧ ss.length = fs.length ∧ fs.length ≤ i + 1 from ⟨hbt, by omega, by omega, by omega, HFS.out, hfn⟩)
                clear hs hS hlt hru hrk hr9 hcu1 hck1 hzu hzk
                go_wp2
                go_quiet (first | (go_at_call 21; exact ((HCS.out _).mono fun e w' ⟨he, hw⟩ => ⟨he, _, hw.symm⟩)))
                have HK := Lib.hid (HK.out.to (belowN (Below.refl W3.heap.size W3) nq))
                go_wp2
                go_roundw
                case rel => exact ⟨_, _, _, _, i + 1, rfl, rfl, rfl, rfl, by go_num, by omega, by omega, Lib.hid ⟨all, base, tk, fs, ss, HNX.out.1, HNX.out.2.1, HNX.out.2.2.1, HNX.out.2.2.2.1, HNX.out.2.2.2.2.1, HNX.out.2.2.2.2.2, HK.out⟩⟩
                case measure => simp [intOf]; omega
      · have e1 : decide ((i : Int) < 60) = false := by simp; omega
        have e2 : decide (i < 60) = false := by simp; omega
        go_wp2_with fail
        refine (pending_st HK.out.st (by rw [HDL.out]; omega)).mono ?_
        rintro e wp ⟨v8, rfl, hO⟩
        have HK := Lib.hid (HK.out.to hO.below)
        obtain ⟨A8, c8, hv8, hr8, hc8, _, hz8⟩ := DV.own hO.own
        obtain ⟨n8, hn8⟩ : ∃ m, (all.drop base).length = m := ⟨_, rfl⟩
        have h8 : n8 ≤ 512 := by rw [← hn8, HDL.out]; exact hld
        rw [hn8] at hv8 hc8
        subst hv8
        have hte : all.take all.length = all := List.take_length
        have HTK := Lib.hid (take_both HK.out.sk (by omega) (f := base) (e := all.length) (Nat.le_refl _) hbt hta (m := n8) (by rw [hte]; exact hn8) h8 (by rw [hte]; exact hr8) hc8 hz8)
        clear hO hr8 hc8 hz8 hn8 h8 hte
        go_wp2_with fail
        refine HTK.out.mono ?_
        rintro e wt ⟨v6, n9, q, rfl, h1, h2, hmx, h4, hdv, hql, hst, hot⟩
        have h5 : q ≤ n9 - tk := by omega
        have h6 : n9 - tk ≤ q := by omega
        have h9 : all.length ≤ n9 := by omega
        have HK := Lib.hid (HK.out.sink h1 hst hot)
        obtain ⟨A6, c6, hv6, hr6, _, _, hz6⟩ := hdv
        rw [hql] at hv6
        subst hv6
        have HA9 := Lib.hid (show all.take n9 = all from List.take_of_length_le h9)
        have HL9 := Lib.hid (show (all.take n9).length = n9 by simp; omega)
        have HZ6 := Lib.hid hz6
        have HQL := Lib.hid hql
        have HR6 := Lib.hid (hr6.below (belowN (Below.refl wt.heap.size wt) 1))
        have HKD := Lib.hid (HK.out.to (belowN (Below.refl wt.heap.size wt) 1))
        clear hmx h4 hst hot hr6 hz6 hql HTK
        obtain ⟨Au, cu, hu, _, _, _⟩ := own_slice HK.out.ot
        obtain ⟨Ak, ck, hk1, _, _, _⟩ := own_slice HK.out.ok
        obtain ⟨s, hs⟩ : ∃ s, all.length = s := ⟨_, rfl⟩
        obtain ⟨S, hS⟩ : ∃ S, strOfNums all = S := ⟨_, rfl⟩
        rw [hs] at hu h2 h9
        have h10 : n9 ≤ s := h2
        subst hu
        subst hk1
        have ss0 : (S.toList == S.toList) = true := by simp
        go_upto_region 28 with fail
        refine wp_region_held_drew (S := fun W => Below w.heap.size w W) (by kernel_rfl) HKD.out.below (fun hHeld => ?_)
        refine wpAnyH_ready (rs := [0]) (by kernel_rfl) (by simp) ?_
        refine AllReadyH.cons (by simp; rfl) (fun K0 hK0 => ?_) AllReadyH.nil
        go_simp
        refine (alive_any _).mono ?_
        rintro e V1 ⟨rfl, hbV⟩
        have HK1 := Lib.hid (HKD.out.to hbV)
        have HR61 := Lib.hid (HR6.out.below hbV)
        clear hbV
        obtain ⟨uk9, V2, hrun, hou, hgu, hlu⟩ := app_lies (n := tk) HQL.out c6 HR61.out HZ6.out HK1.out.ok (by omega) HK1.out.below.size
        have HK2 := Lib.hid (HK1.out.took (tk' := n9) (ys := (all.take n9).drop tk) (by rw [HQL.out]; omega) (took_join h1) (by rw [HQL.out]; exact hou) hgu hlu)
        have HRUN := Lib.hid hrun
        clear hrun hou hgu hlu
        obtain ⟨Ar, cr, hr1, _, _, _⟩ := own_slice HK2.out.ok
        have hra : RI .u8 V2 Ar (all.take n9) := by
          obtain ⟨A', c', e', h'⟩ := DV.own (own_cast HK2.out.ok HL9.out.symm rfl)
          rw [hr1] at e'
          injection e' with e1 _ _
          rw [e1]; exact h'.1
        subst hr1
        have hcA := conv_text HL9.out cr hra
        clear hra
        obtain ⟨_, _, e1, hru1, _⟩ := DV.own HK1.out.ot
        rw [hs] at e1
        injection e1 with e1 _ e2
        subst e1
        subst e2
        obtain ⟨_, _, e1, hru2, _⟩ := DV.own HK2.out.ot
        rw [hs] at e1
        injection e1 with e1 _ e2
        subst e1
        subst e2
        have hcT1 := conv_text hs cu hru1
        have hcT2 := conv_text hs cu hru2
        clear hru1 hru2
        rw [show all.take n9 = all from HA9.out, hS] at hcA
        rw [hS] at hcT1 hcT2
        have hHeld1 := HK1.out.below
        refine hK0.out _ _ hHeld1 (fun _ => ?_)
        clear hK0 K0 hHeld
        have hHeld := hHeld1
        refine wpAnyH_take (i := 1) (v := ?_) (by simp; rfl) (by kernel_rfl) (by kernel_rfl) (by kernel_rfl) (by exact fun _ _ _ h => h) (Or.inl ⟨by rfl, fun wx hSx => ?_⟩) hHeld ?_
        rotate_left
        · clear hSx; go_simp; (try with_reducible rfl)
        simp only [Act.put, List.setIfInBounds_toArray, List.set_cons_zero, List.set_cons_succ]
        refine wpAnyH_take (i := 2) (v := ?_) (by simp; rfl) (by kernel_rfl) (by kernel_rfl) (by kernel_rfl) (by exact fun _ _ _ h => h) (Or.inl ⟨by rfl, fun wx hSx => ?_⟩) hHeld ?_
        rotate_left
        · clear hSx; go_simp; (try with_reducible rfl)
        simp only [Act.put, List.setIfInBounds_toArray, List.set_cons_zero, List.set_cons_succ]
        refine wpAnyH_take (i := 3) (v := ?_) (by simp; rfl) (by kernel_rfl) (by kernel_rfl) (by kernel_rfl) (by exact fun _ _ _ h => h) (Or.inl ⟨by rfl, fun wx hSx => ?_⟩) hHeld ?_
        rotate_left
        · clear hSx; go_simp; (try with_reducible rfl)
        simp only [Act.put, List.setIfInBounds_toArray, List.set_cons_zero, List.set_cons_succ]
        refine wpAnyH_take (i := 4) (v := ?_) (by simp; rfl) (by kernel_rfl) (by kernel_rfl) (by kernel_rfl) (by exact fun _ _ _ h => h) (Or.inl ⟨by rfl, fun wx hSx => ?_⟩) hHeld ?_
        rotate_left
        · clear hSx; go_simp; (try with_reducible rfl)
        simp only [Act.put, List.setIfInBounds_toArray, List.set_cons_zero, List.set_cons_succ]
        refine wpAnyH_take (i := 5) (v := ?_) (by simp; rfl) (by kernel_rfl) (by kernel_rfl) (by kernel_rfl) (by exact fun _ _ _ h => h) (Or.inl ⟨by rfl, fun wx hSx => ?_⟩) hHeld ?_
        rotate_left
        · clear hSx; go_simp; (try with_reducible rfl)
        simp only [Act.put, List.setIfInBounds_toArray, List.set_cons_zero, List.set_cons_succ]
        refine wpAnyH_take (i := 6) (v := ?_) (by simp; rfl) (by kernel_rfl) (by kernel_rfl) (by kernel_rfl) (by exact fun _ _ _ h => h) (Or.inl ⟨by rfl, fun wx hSx => ?_⟩) hHeld ?_
        rotate_left
        · clear hSx; go_simp; (try with_reducible rfl)
        simp only [Act.put, List.setIfInBounds_toArray, List.set_cons_zero, List.set_cons_succ]
        refine wpAnyH_take (i := 7) (v := ?_) (by simp; rfl) (by kernel_rfl) (by kernel_rfl) (by kernel_rfl) (by exact fun _ _ _ h => h) (Or.inl ⟨by rfl, fun wx hSx => ?_⟩) hHeld ?_
        rotate_left
        · clear hSx; go_simp; (try with_reducible rfl)
        simp only [Act.put, List.setIfInBounds_toArray, List.set_cons_zero, List.set_cons_succ]
        refine wpAnyH_take (i := 10) (v := ?_) (by simp; rfl) (by kernel_rfl) (by kernel_rfl) (by kernel_rfl) (by exact fun _ _ _ h => h) (Or.inl ⟨by rfl, fun wx hSx => ?_⟩) hHeld ?_
        rotate_left
        · clear hSx; go_simp; (try with_reducible rfl)
        simp only [Act.put, List.setIfInBounds_toArray, List.set_cons_zero, List.set_cons_succ]
        refine wpAnyH_ready (rs := [8, 11]) (by kernel_rfl) (by simp) ?_
        refine AllReadyH.cons (by simp; rfl) (fun K0 hK0 => ?_) (AllReadyH.cons (by simp; rfl) (fun K0 hK0 => ?_) AllReadyH.nil)
        · refine step_app_g (by first | rfl | kernel_rfl | simp [Region.wanted, yielded]) (.tmp 146) (.tmp 147) _ rfl _ _ rfl rfl HRUN.out ?_
          simp only [Act.put, List.setIfInBounds_toArray, List.set_cons_zero, List.set_cons_succ]
          have hHeld2 := HK2.out.below
          refine hK0.out _ _ hHeld2 (fun _ => ?_)
          clear hK0 K0 hHeld
          have hHeld := hHeld2
          refine wpAnyH_ready (rs := [9, 11]) (by kernel_rfl) (by simp) ?_
          refine AllReadyH.cons (by simp; rfl) (fun K0 hK0 => ?_) (AllReadyH.cons (by simp; rfl) (fun K0 hK0 => ?_) AllReadyH.nil)
          · go_simp
            refine hK0.out _ _ hHeld (fun _ => ?_)
            clear hK0 K0
            refine wpAnyH_ready (rs := [11]) (by kernel_rfl) (by simp) ?_
            refine AllReadyH.cons (by simp; rfl) (fun K0 hK0 => ?_) AllReadyH.nil
            go_simp
            refine hK0.out _ _ hHeld (fun _ => ?_)
            clear hK0 K0
            refine wpAnyH_take (i := 12) (v := ?_) (by simp; rfl) (by kernel_rfl) (by kernel_rfl) (by kernel_rfl) (by exact fun _ _ _ h => h) (Or.inl ⟨by rfl, fun wx hSx => ?_⟩) hHeld ?_
            rotate_left
            · clear hSx; go_simp; (try with_reducible rfl)
            simp only [Act.put, List.setIfInBounds_toArray, List.set_cons_zero, List.set_cons_succ]
            refine wpAnyH_take (i := 13) (v := ?_) (by simp; rfl) (by kernel_rfl) (by kernel_rfl) (by kernel_rfl) (by exact fun _ _ _ h => h) (Or.inl ⟨by rfl, fun wx hSx => ?_⟩) hHeld ?_
            rotate_left
            · clear hSx; go_simp; (try with_reducible rfl)
            simp only [Act.put, List.setIfInBounds_toArray, List.set_cons_zero, List.set_cons_succ]
            refine wpAnyH_take (i := 14) (v := ?_) (by simp; rfl) (by kernel_rfl) (by kernel_rfl) (by kernel_rfl) (by exact fun _ _ _ h => h) (Or.inl ⟨by rfl, fun wx hSx => ?_⟩) hHeld ?_
            rotate_left
            · clear hSx; go_simp; (try with_reducible rfl)
            simp only [Act.put, List.setIfInBounds_toArray, List.set_cons_zero, List.set_cons_succ]
            refine wpAnyH_done (by kernel_rfl) ?_ _
            go_wp2
            go_ret
            exact ⟨rfl, hHeld⟩
          · go_simp
            refine hK0.out _ _ hHeld (fun _ => ?_)
            clear hK0 K0
            refine wpAnyH_ready (rs := [9]) (by kernel_rfl) (by simp) ?_
            refine AllReadyH.cons (by simp; rfl) (fun K0 hK0 => ?_) AllReadyH.nil
            go_simp
            refine hK0.out _ _ hHeld (fun _ => ?_)
            clear hK0 K0
            refine wpAnyH_take (i := 12) (v := ?_) (by simp; rfl) (by kernel_rfl) (by kernel_rfl) (by kernel_rfl) (by exact fun _ _ _ h => h) (Or.inl ⟨by rfl, fun wx hSx => ?_⟩) hHeld ?_
            rotate_left
            · clear hSx; go_simp; (try with_reducible rfl)
            simp only [Act.put, List.setIfInBounds_toArray, List.set_cons_zero, List.set_cons_succ]
            refine wpAnyH_take (i := 13) (v := ?_) (by simp; rfl) (by kernel_rfl) (by kernel_rfl) (by kernel_rfl) (by exact fun _ _ _ h => h) (Or.inl ⟨by rfl, fun wx hSx => ?_⟩) hHeld ?_
            rotate_left
            · clear hSx; go_simp; (try with_reducible rfl)
            simp only [Act.put, List.setIfInBounds_toArray, List.set_cons_zero, List.set_cons_succ]
            refine wpAnyH_take (i := 14) (v := ?_) (by simp; rfl) (by kernel_rfl) (by kernel_rfl) (by kernel_rfl) (by exact fun _ _ _ h => h) (Or.inl ⟨by rfl, fun wx hSx => ?_⟩) hHeld ?_
            rotate_left
            · clear hSx; go_simp; (try with_reducible rfl)
            simp only [Act.put, List.setIfInBounds_toArray, List.set_cons_zero, List.set_cons_succ]
            refine wpAnyH_done (by kernel_rfl) ?_ _
            go_wp2
            go_ret
            exact ⟨rfl, hHeld⟩
        · go_simp
          refine hK0.out _ _ hHeld (fun _ => ?_)
          clear hK0 K0
          refine wpAnyH_ready (rs := [8]) (by kernel_rfl) (by simp) ?_
          refine AllReadyH.cons (by simp; rfl) (fun K0 hK0 => ?_) AllReadyH.nil
          refine step_app_g (by first | rfl | kernel_rfl | simp [Region.wanted, yielded]) (.tmp 146) (.tmp 147) _ rfl _ _ rfl rfl HRUN.out ?_
          simp only [Act.put, List.setIfInBounds_toArray, List.set_cons_zero, List.set_cons_succ]
          have hHeld2 := HK2.out.below
          refine hK0.out _ _ hHeld2 (fun _ => ?_)
          clear hK0 K0 hHeld
          have hHeld := hHeld2
          refine wpAnyH_ready (rs := [9]) (by kernel_rfl) (by simp) ?_
          refine AllReadyH.cons (by simp; rfl) (fun K0 hK0 => ?_) AllReadyH.nil
          go_simp
          refine hK0.out _ _ hHeld (fun _ => ?_)
          clear hK0 K0
          refine wpAnyH_take (i := 12) (v := ?_) (by simp; rfl) (by kernel_rfl) (by kernel_rfl) (by kernel_rfl) (by exact fun _ _ _ h => h) (Or.inl ⟨by rfl, fun wx hSx => ?_⟩) hHeld ?_
          rotate_left
          · clear hSx; go_simp; (try with_reducible rfl)
          simp only [Act.put, List.setIfInBounds_toArray, List.set_cons_zero, List.set_cons_succ]
          refine wpAnyH_take (i := 13) (v := ?_) (by simp; rfl) (by kernel_rfl) (by kernel_rfl) (by kernel_rfl) (by exact fun _ _ _ h => h) (Or.inl ⟨by rfl, fun wx hSx => ?_⟩) hHeld ?_
          rotate_left
          · clear hSx; go_simp; (try with_reducible rfl)
          simp only [Act.put, List.setIfInBounds_toArray, List.set_cons_zero, List.set_cons_succ]
          refine wpAnyH_take (i := 14) (v := ?_) (by simp; rfl) (by kernel_rfl) (by kernel_rfl) (by kernel_rfl) (by exact fun _ _ _ h => h) (Or.inl ⟨by rfl, fun wx hSx => ?_⟩) hHeld ?_
          rotate_left
          · clear hSx; go_simp; (try with_reducible rfl)
          simp only [Act.put, List.setIfInBounds_toArray, List.set_cons_zero, List.set_cons_succ]
          refine wpAnyH_done (by kernel_rfl) ?_ _
          go_wp2
          go_ret
          exact ⟨rfl, hHeld⟩
    · have d1 : decide ((i : Int) < (N : Int)) = false := by simp; omega
      have d2 : decide (i < N) = false := by simp; omega
      go_wp2_with fail
      refine (pending_st HK.out.st (by rw [HDL.out]; omega)).mono ?_
      rintro e wp ⟨v8, rfl, hO⟩
      have HK := Lib.hid (HK.out.to hO.below)
      obtain ⟨A8, c8, hv8, hr8, hc8, _, hz8⟩ := DV.own hO.own
      obtain ⟨n8, hn8⟩ : ∃ m, (all.drop base).length = m := ⟨_, rfl⟩
      have h8 : n8 ≤ 512 := by rw [← hn8, HDL.out]; exact hld
      rw [hn8] at hv8 hc8
      subst hv8
      have hte : all.take all.length = all := List.take_length
      have HTK := Lib.hid (take_both HK.out.sk (by omega) (f := base) (e := all.length) (Nat.le_refl _) hbt hta (m := n8) (by rw [hte]; exact hn8) h8 (by rw [hte]; exact hr8) hc8 hz8)
      clear hO hr8 hc8 hz8 hn8 h8 hte
      go_wp2_with fail
      refine HTK.out.mono ?_
      rintro e wt ⟨v6, n9, q, rfl, h1, h2, hmx, h4, hdv, hql, hst, hot⟩
      have h5 : q ≤ n9 - tk := by omega
      have h6 : n9 - tk ≤ q := by omega
      have h9 : all.length ≤ n9 := by omega
      have HK := Lib.hid (HK.out.sink h1 hst hot)
      obtain ⟨A6, c6, hv6, hr6, _, _, hz6⟩ := hdv
      rw [hql] at hv6
      subst hv6
      have HA9 := Lib.hid (show all.take n9 = all from List.take_of_length_le h9)
      have HL9 := Lib.hid (show (all.take n9).length = n9 by simp; omega)
      have HZ6 := Lib.hid hz6
      have HQL := Lib.hid hql
      have HR6 := Lib.hid (hr6.below (belowN (Below.refl wt.heap.size wt) 1))
      have HKD := Lib.hid (HK.out.to (belowN (Below.refl wt.heap.size wt) 1))
      clear hmx h4 hst hot hr6 hz6 hql HTK
      obtain ⟨Au, cu, hu, _, _, _⟩ := own_slice HK.out.ot
      obtain ⟨Ak, ck, hk1, _, _, _⟩ := own_slice HK.out.ok
      obtain ⟨s, hs⟩ : ∃ s, all.length = s := ⟨_, rfl⟩
      obtain ⟨S, hS⟩ : ∃ S, strOfNums all = S := ⟨_, rfl⟩
      rw [hs] at hu h2 h9
      have h10 : n9 ≤ s := h2
      subst hu
      subst hk1
      have ss0 : (S.toList == S.toList) = true := by simp
      go_upto_region 28 with fail
      refine wp_region_held_drew (S := fun W => Below w.heap.size w W) (by kernel_rfl) HKD.out.below (fun hHeld => ?_)
      refine wpAnyH_ready (rs := [0]) (by kernel_rfl) (by simp) ?_
      refine AllReadyH.cons (by simp; rfl) (fun K0 hK0 => ?_) AllReadyH.nil
      go_simp
      refine (alive_any _).mono ?_
      rintro e V1 ⟨rfl, hbV⟩
      have HK1 := Lib.hid (HKD.out.to hbV)
      have HR61 := Lib.hid (HR6.out.below hbV)
      clear hbV
      obtain ⟨uk9, V2, hrun, hou, hgu, hlu⟩ := app_lies (n := tk) HQL.out c6 HR61.out HZ6.out HK1.out.ok (by omega) HK1.out.below.size
      have HK2 := Lib.hid (HK1.out.took (tk' := n9) (ys := (all.take n9).drop tk) (by rw [HQL.out]; omega) (took_join h1) (by rw [HQL.out]; exact hou) hgu hlu)
      have HRUN := Lib.hid hrun
      clear hrun hou hgu hlu
      obtain ⟨Ar, cr, hr1, _, _, _⟩ := own_slice HK2.out.ok
      have hra : RI .u8 V2 Ar (all.take n9) := by
        obtain ⟨A', c', e', h'⟩ := DV.own (own_cast HK2.out.ok HL9.out.symm rfl)
        rw [hr1] at e'
        injection e' with e1 _ _
        rw [e1]; exact h'.1
      subst hr1
      have hcA := conv_text HL9.out cr hra
      clear hra
      obtain ⟨_, _, e1, hru1, _⟩ := DV.own HK1.out.ot
      rw [hs] at e1
      injection e1 with e1 _ e2
      subst e1
      subst e2
      obtain ⟨_, _, e1, hru2, _⟩ := DV.own HK2.out.ot
      rw [hs] at e1
      injection e1 with e1 _ e2
      subst e1
      subst e2
      have hcT1 := conv_text hs cu hru1
      have hcT2 := conv_text hs cu hru2
      clear hru1 hru2
      rw [show all.take n9 = all from HA9.out, hS] at hcA
      rw [hS] at hcT1 hcT2
      have hHeld1 := HK1.out.below
      refine hK0.out _ _ hHeld1 (fun _ => ?_)
      clear hK0 K0 hHeld
      have hHeld := hHeld1
      refine wpAnyH_take (i := 1) (v := ?_) (by simp; rfl) (by kernel_rfl) (by kernel_rfl) (by kernel_rfl) (by exact fun _ _ _ h => h) (Or.inl ⟨by rfl, fun wx hSx => ?_⟩) hHeld ?_
      rotate_left
      · clear hSx; go_simp; (try with_reducible rfl)
      simp only [Act.put, List.setIfInBounds_toArray, List.set_cons_zero, List.set_cons_succ]
      refine wpAnyH_take (i := 2) (v := ?_) (by simp; rfl) (by kernel_rfl) (by kernel_rfl) (by kernel_rfl) (by exact fun _ _ _ h => h) (Or.inl ⟨by rfl, fun wx hSx => ?_⟩) hHeld ?_
      rotate_left
      · clear hSx; go_simp; (try with_reducible rfl)
      simp only [Act.put, List.setIfInBounds_toArray, List.set_cons_zero, List.set_cons_succ]
      refine wpAnyH_take (i := 3) (v := ?_) (by simp; rfl) (by kernel_rfl) (by kernel_rfl) (by kernel_rfl) (by exact fun _ _ _ h => h) (Or.inl ⟨by rfl, fun wx hSx => ?_⟩) hHeld ?_
      rotate_left
      · clear hSx; go_simp; (try with_reducible rfl)
      simp only [Act.put, List.setIfInBounds_toArray, List.set_cons_zero, List.set_cons_succ]
      refine wpAnyH_take (i := 4) (v := ?_) (by simp; rfl) (by kernel_rfl) (by kernel_rfl) (by kernel_rfl) (by exact fun _ _ _ h => h) (Or.inl ⟨by rfl, fun wx hSx => ?_⟩) hHeld ?_
      rotate_left
      · clear hSx; go_simp; (try with_reducible rfl)
      simp only [Act.put, List.setIfInBounds_toArray, List.set_cons_zero, List.set_cons_succ]
      refine wpAnyH_take (i := 5) (v := ?_) (by simp; rfl) (by kernel_rfl) (by kernel_rfl) (by kernel_rfl) (by exact fun _ _ _ h => h) (Or.inl ⟨by rfl, fun wx hSx => ?_⟩) hHeld ?_
      rotate_left
      · clear hSx; go_simp; (try with_reducible rfl)
      simp only [Act.put, List.setIfInBounds_toArray, List.set_cons_zero, List.set_cons_succ]
      refine wpAnyH_take (i := 6) (v := ?_) (by simp; rfl) (by kernel_rfl) (by kernel_rfl) (by kernel_rfl) (by exact fun _ _ _ h => h) (Or.inl ⟨by rfl, fun wx hSx => ?_⟩) hHeld ?_
      rotate_left
      · clear hSx; go_simp; (try with_reducible rfl)
      simp only [Act.put, List.setIfInBounds_toArray, List.set_cons_zero, List.set_cons_succ]
      refine wpAnyH_take (i := 7) (v := ?_) (by simp; rfl) (by kernel_rfl) (by kernel_rfl) (by kernel_rfl) (by exact fun _ _ _ h => h) (Or.inl ⟨by rfl, fun wx hSx => ?_⟩) hHeld ?_
      rotate_left
      · clear hSx; go_simp; (try with_reducible rfl)
      simp only [Act.put, List.setIfInBounds_toArray, List.set_cons_zero, List.set_cons_succ]
      refine wpAnyH_take (i := 10) (v := ?_) (by simp; rfl) (by kernel_rfl) (by kernel_rfl) (by kernel_rfl) (by exact fun _ _ _ h => h) (Or.inl ⟨by rfl, fun wx hSx => ?_⟩) hHeld ?_
      rotate_left
      · clear hSx; go_simp; (try with_reducible rfl)
      simp only [Act.put, List.setIfInBounds_toArray, List.set_cons_zero, List.set_cons_succ]
      refine wpAnyH_ready (rs := [8, 11]) (by kernel_rfl) (by simp) ?_
      refine AllReadyH.cons (by simp; rfl) (fun K0 hK0 => ?_) (AllReadyH.cons (by simp; rfl) (fun K0 hK0 => ?_) AllReadyH.nil)
      · refine step_app_g (by first | rfl | kernel_rfl | simp [Region.wanted, yielded]) (.tmp 146) (.tmp 147) _ rfl _ _ rfl rfl HRUN.out ?_
        simp only [Act.put, List.setIfInBounds_toArray, List.set_cons_zero, List.set_cons_succ]
        have hHeld2 := HK2.out.below
        refine hK0.out _ _ hHeld2 (fun _ => ?_)
        clear hK0 K0 hHeld
        have hHeld := hHeld2
        refine wpAnyH_ready (rs := [9, 11]) (by kernel_rfl) (by simp) ?_
        refine AllReadyH.cons (by simp; rfl) (fun K0 hK0 => ?_) (AllReadyH.cons (by simp; rfl) (fun K0 hK0 => ?_) AllReadyH.nil)
        · go_simp
          refine hK0.out _ _ hHeld (fun _ => ?_)
          clear hK0 K0
          refine wpAnyH_ready (rs := [11]) (by kernel_rfl) (by simp) ?_
          refine AllReadyH.cons (by simp; rfl) (fun K0 hK0 => ?_) AllReadyH.nil
          go_simp
          refine hK0.out _ _ hHeld (fun _ => ?_)
          clear hK0 K0
          refine wpAnyH_take (i := 12) (v := ?_) (by simp; rfl) (by kernel_rfl) (by kernel_rfl) (by kernel_rfl) (by exact fun _ _ _ h => h) (Or.inl ⟨by rfl, fun wx hSx => ?_⟩) hHeld ?_
          rotate_left
          · clear hSx; go_simp; (try with_reducible rfl)
          simp only [Act.put, List.setIfInBounds_toArray, List.set_cons_zero, List.set_cons_succ]
          refine wpAnyH_take (i := 13) (v := ?_) (by simp; rfl) (by kernel_rfl) (by kernel_rfl) (by kernel_rfl) (by exact fun _ _ _ h => h) (Or.inl ⟨by rfl, fun wx hSx => ?_⟩) hHeld ?_
          rotate_left
          · clear hSx; go_simp; (try with_reducible rfl)
          simp only [Act.put, List.setIfInBounds_toArray, List.set_cons_zero, List.set_cons_succ]
          refine wpAnyH_take (i := 14) (v := ?_) (by simp; rfl) (by kernel_rfl) (by kernel_rfl) (by kernel_rfl) (by exact fun _ _ _ h => h) (Or.inl ⟨by rfl, fun wx hSx => ?_⟩) hHeld ?_
          rotate_left
          · clear hSx; go_simp; (try with_reducible rfl)
          simp only [Act.put, List.setIfInBounds_toArray, List.set_cons_zero, List.set_cons_succ]
          refine wpAnyH_done (by kernel_rfl) ?_ _
          go_wp2
          go_ret
          exact ⟨rfl, hHeld⟩
        · go_simp
          refine hK0.out _ _ hHeld (fun _ => ?_)
          clear hK0 K0
          refine wpAnyH_ready (rs := [9]) (by kernel_rfl) (by simp) ?_
          refine AllReadyH.cons (by simp; rfl) (fun K0 hK0 => ?_) AllReadyH.nil
          go_simp
          refine hK0.out _ _ hHeld (fun _ => ?_)
          clear hK0 K0
          refine wpAnyH_take (i := 12) (v := ?_) (by simp; rfl) (by kernel_rfl) (by kernel_rfl) (by kernel_rfl) (by exact fun _ _ _ h => h) (Or.inl ⟨by rfl, fun wx hSx => ?_⟩) hHeld ?_
          rotate_left
          · clear hSx; go_simp; (try with_reducible rfl)
          simp only [Act.put, List.setIfInBounds_toArray, List.set_cons_zero, List.set_cons_succ]
          refine wpAnyH_take (i := 13) (v := ?_) (by simp; rfl) (by kernel_rfl) (by kernel_rfl) (by kernel_rfl) (by exact fun _ _ _ h => h) (Or.inl ⟨by rfl, fun wx hSx => ?_⟩) hHeld ?_
          rotate_left
          · clear hSx; go_simp; (try with_reducible rfl)
          simp only [Act.put, List.setIfInBounds_toArray, List.set_cons_zero, List.set_cons_succ]
          refine wpAnyH_take (i := 14) (v := ?_) (by simp; rfl) (by kernel_rfl) (by kernel_rfl) (by kernel_rfl) (by exact fun _ _ _ h => h) (Or.inl ⟨by rfl, fun wx hSx => ?_⟩) hHeld ?_
          rotate_left
          · clear hSx; go_simp; (try with_reducible rfl)
          simp only [Act.put, List.setIfInBounds_toArray, List.set_cons_zero, List.set_cons_succ]
          refine wpAnyH_done (by kernel_rfl) ?_ _
          go_wp2
          go_ret
          exact ⟨rfl, hHeld⟩
      · go_simp
        refine hK0.out _ _ hHeld (fun _ => ?_)
        clear hK0 K0
        refine wpAnyH_ready (rs := [8]) (by kernel_rfl) (by simp) ?_
        refine AllReadyH.cons (by simp; rfl) (fun K0 hK0 => ?_) AllReadyH.nil
        refine step_app_g (by first | rfl | kernel_rfl | simp [Region.wanted, yielded]) (.tmp 146) (.tmp 147) _ rfl _ _ rfl rfl HRUN.out ?_
        simp only [Act.put, List.setIfInBounds_toArray, List.set_cons_zero, List.set_cons_succ]
        have hHeld2 := HK2.out.below
        refine hK0.out _ _ hHeld2 (fun _ => ?_)
        clear hK0 K0 hHeld
        have hHeld := hHeld2
        refine wpAnyH_ready (rs := [9]) (by kernel_rfl) (by simp) ?_
        refine AllReadyH.cons (by simp; rfl) (fun K0 hK0 => ?_) AllReadyH.nil
        go_simp
        refine hK0.out _ _ hHeld (fun _ => ?_)
        clear hK0 K0
        refine wpAnyH_take (i := 12) (v := ?_) (by simp; rfl) (by kernel_rfl) (by kernel_rfl) (by kernel_rfl) (by exact fun _ _ _ h => h) (Or.inl ⟨by rfl, fun wx hSx => ?_⟩) hHeld ?_
        rotate_left
        · clear hSx; go_simp; (try with_reducible rfl)
        simp only [Act.put, List.setIfInBounds_toArray, List.set_cons_zero, List.set_cons_succ]
        refine wpAnyH_take (i := 13) (v := ?_) (by simp; rfl) (by kernel_rfl) (by kernel_rfl) (by kernel_rfl) (by exact fun _ _ _ h => h) (Or.inl ⟨by rfl, fun wx hSx => ?_⟩) hHeld ?_
        rotate_left
        · clear hSx; go_simp; (try with_reducible rfl)
        simp only [Act.put, List.setIfInBounds_toArray, List.set_cons_zero, List.set_cons_succ]
        refine wpAnyH_take (i := 14) (v := ?_) (by simp; rfl) (by kernel_rfl) (by kernel_rfl) (by kernel_rfl) (by exact fun _ _ _ h => h) (Or.inl ⟨by rfl, fun wx hSx => ?_⟩) hHeld ?_
        rotate_left
        · clear hSx; go_simp; (try with_reducible rfl)
        simp only [Act.put, List.setIfInBounds_toArray, List.set_cons_zero, List.set_cons_succ]
        refine wpAnyH_done (by kernel_rfl) ?_ _
        go_wp2
        go_ret
        exact ⟨rfl, hHeld⟩
end Go.Proofs.Ytlppnnehgfpgbaa
