/-
  Proved here: KeysBound.
-/
import Derived.Test.YtlppnnehgfpgbaaKyd
import Derived.Test.YtlppnnehgfpgbaaPlK
set_option linter.unusedSimpArgs false
set_option linter.unusedVariables false
namespace Go.Proofs.Ytlppnnehgfpgbaa
open Go.RowKit
theorem own_lt {w : World} {base : Nat} {e : TypeId} {size : Nat} {v : Value} {n : Nat} {xs : List Value} (h : w.ownsRow base e size v n xs) {x : Nat} (hx : v.ownBlock = some x) : x < w.heap.size := by
  rcases h.2 with ⟨rfl, _⟩ | ⟨g, cap, cur, rfl, _, hh, _⟩
  · simp [Value.ownBlock] at hx
  · have : g = x := by simpa [Value.ownBlock] using hx
    subst this
    exact lt_of_block hh
theorem St.not_own {w : World} {g base : Nat} {bs : List Int} (h : St w g base bs) {B : Nat} {v : Value} {n : Nat} {xs : List Value} (ho : w.ownsRow B 5 1 v n xs) : some g ≠ v.ownBlock := by
  obtain ⟨A, c, hh, _⟩ := h.ex
  rcases ho.2 with ⟨rfl, _⟩ | ⟨x, cap, cur, rfl, _, hx, _⟩
  · simp [Value.ownBlock]
  · intro e
    have e2 : g = x := by simpa [Value.ownBlock] using e
    subst e2
    rw [hh] at hx
    injection hx with hx
    injection hx with _ ht _
    exact absurd ht (by decide)
theorem Only.grown {g : Nat} {w w' : World} (h : Only g w w') : w.grownBy w' (some g) := ⟨h.os, h.tape, h.output, h.size, fun k hk hne => h.block k hk (fun e => hne (by rw [e]))⟩
theorem St.grown {w w' : World} {g base : Nat} {bs : List Int} {T : Option Nat} (h : St w g base bs) (hg : w.grownBy w' T) (h1 : some g ≠ T) (h2 : 0 < bs.length → Row w g (fun b => some b ≠ T)) : St w' g base bs ∧ w'.cell? ⟨g, 2, none⟩ = w.cell? ⟨g, 2, none⟩ := by
  have hlt := h.lt
  have hbl := hg.block g hlt h1
  have hc : w'.cell? ⟨g, 2, none⟩ = w.cell? ⟨g, 2, none⟩ := World.cell?_of_block hbl
  refine ⟨?_, hc⟩
  obtain ⟨A, c, hh, hr, h3⟩ := h.ex
  refine ⟨A, c, hbl.trans hh, fun hp => ?_, h3⟩
  obtain ⟨b, off, e, hbt, hcl⟩ := hr hp
  subst e
  have hne : some b ≠ T := h2 hp ⟨b, off, none⟩ bs.length c (three_cells hh).2.2
  exact ⟨b, off, rfl, Nat.lt_of_lt_of_le hbt hg.size, fun i hi => (World.cell?_of_block (hg.block b hbt hne)).trans (hcl i hi)⟩
theorem app_lies {W : World} {base : Nat} {v : Value} {n : Nat} {xs : List Int} {A : Option Addr} {ys : List Int} {m : Nat} (hm : ys.length = m) (c : Nat) (hR : RI .u8 W A ys) (hA : A = none → c = 0) (hown : W.ownsRow base 5 1 v n (NV .u8 xs)) (hn : n + m ≤ 100000) (hb : base ≤ W.heap.size) :
    ∃ v' w', (Builtin.append_ #[28, 28] 28 #[v, .slice A m c]).run Try.prog W = .ok v' w' ∧ w'.ownsRow base 5 1 v' (n + m) (NV .u8 (xs ++ ys)) ∧ W.grownBy w' v.ownBlock ∧ (v'.ownBlock = v.ownBlock ∨ v'.ownBlock = some W.heap.size) := by
  subst hm
  obtain ⟨i0, hi, hz0, hz1, hz2⟩ := info_parts info_u8
  rcases A with _ | ad
  · have h0 : ys.length = 0 := by
      rcases Nat.eq_zero_or_pos ys.length with h | h
      · exact h
      · obtain ⟨_, _, h, _⟩ := hR h
        cases h
    obtain rfl : ys = [] := List.eq_nil_of_length_eq_zero h0
    obtain rfl := hA rfl
    exact ⟨_, W, run_append_owned_none (P := Try.prog) (w := W) base 28 28 5 i0 1 Try.underlying28 hi _ n _ hown, by simpa using hown, World.grownBy.refl _ _, .inl rfl⟩
  · obtain ⟨v', w', hr, ho, hg, _, hl⟩ := run_append_own_at (P := Try.prog) W base 28 28 5 i0 _ 1 1 Try.underlying28 hi hz0 hz1 hz2 rfl (by decide) v n (NV .u8 xs) hown ad ys.length c (NV .u8 ys) (by simp [NV]) hR.cells
      (fun u hu => by obtain ⟨x, _, rfl⟩ := List.mem_map.1 hu; rfl) (by unfold maxLen; omega) (by omega) hb
    exact ⟨v', w', hr, own_cast ho rfl (by simp [NV]), hg, hl⟩
/-- The end of a slice. -/
theorem run_from {A : Option Addr} {n c k : Nat} (hk : k ≤ n) (hc : n ≤ c) (hz : A = none → c = 0) :
    ∃ A2 : Option Addr, (∀ W bs, RI .u8 W A bs → bs.length = n → RI .u8 W A2 (bs.drop k)) ∧ ∀ W : World, (Instr.slice 28 (.slice A n c) (some (.int .u64 (k : Int))) none none).run Try.prog W = .ok (.slice A2 (n - k) (c - k)) W := by
  have h1 : (k : Int) ≤ (n : Int) := by omega
  rcases A with _ | ad
  · obtain rfl := hz rfl
    obtain rfl : n = 0 := by omega
    obtain rfl : k = 0 := by omega
    refine ⟨none, fun W bs h hl => ?_, fun W => ?_⟩
    · obtain rfl : bs = [] := List.eq_nil_of_length_eq_zero hl
      exact RI.nothing _ _ _
    · simp [Instr.slice, run_underlying Try.underlying28, Instr.sliceBounds, run_sliceBound]
  · refine ⟨some (if c = k then ad else ad.add k), fun W bs h hl hp => ?_, fun W => ?_⟩
    · obtain ⟨b', off', e, hb, hcl⟩ := h (by simp at hp; omega)
      injection e with e
      subst e
      have ha : (⟨b', off', none⟩ : Addr).add k = ⟨b', off' + k, none⟩ := by unfold Addr.add; split <;> simp_all
      rw [if_neg (by simp at hp; omega), ha]
      refine ⟨b', off' + k, rfl, hb, fun i hi => ?_⟩
      rw [Nat.add_assoc, hcl (k + i) (by simp at hi; omega)]
      simp [List.getD]
    · obtain ⟨i0, hi, _, hz1, _⟩ := info_parts info_u8
      simp [Instr.slice, run_underlying Try.underlying28, Instr.sliceBounds, run_sliceBound, h1, hi, hz1]
      split <;> rfl
/-- What KeysBound holds: the stream with the bytes sb behind its base, and all that was typed. -/
structure KB (w : World) (g : Nat) (u : Value) (base : Nat) (all sb : List Int) (W : World) : Prop where
  st : St W g base sb
  own : W.ownsRow w.heap.size 5 1 u all.length (NV .u8 all)
  below : Below w.heap.size w W
  row : 0 < sb.length → Row W g (fun b => some b ≠ u.ownBlock)
  gw : w.heap.size ≤ g
theorem KB.to {w : World} {g : Nat} {u : Value} {base : Nat} {all sb : List Int} {W W' : World} (h : KB w g u base all sb W) (hb : Below W.heap.size W W') : KB w g u base all sb W' :=
  ⟨h.st.below hb, own_below h.own hb, Bto h.below hb, fun hp => (h.row hp).of (World.cell?_of_block (hb.block g h.st.lt)), h.gw⟩
theorem KB.other {w : World} {g : Nat} {u : Value} {base k : Nat} {all sb sb' : List Int} {W W' : World} (h : KB w g u base all sb W) (hs : St W' g k sb') (ho : Only g W W') (hr : 0 < sb'.length → Row W' g (fun b => some b ≠ u.ownBlock)) : KB w g u k all sb' W' :=
  ⟨hs, h.own.kept ho.grown (by
    have := h.st.not_own h.own
    cases hv : u.ownBlock with
    | none => exact .inl rfl
    | some x => exact .inr fun e => this (by rw [hv]; exact e.symm)), Only.below ho h.below h.gw, hr, h.gw⟩
theorem KB.new {w : World} {g : Nat} {u : Value} {base : Nat} {all sb : List Int} {W : World} (h : KB w g u base all sb W) : ∀ b, W.heap.size ≤ b → some b ≠ u.ownBlock := fun b hb e => by
  have := own_lt h.own e.symm
  omega
theorem KB.app {w : World} {g : Nat} {u u' : Value} {base : Nat} {all sb ys : List Int} {W W' : World} (h : KB w g u base all sb W) (ho : W'.ownsRow w.heap.size 5 1 u' (all.length + ys.length) (NV .u8 (all ++ ys))) (hg : W.grownBy W' u.ownBlock) (hl : u'.ownBlock = u.ownBlock ∨ u'.ownBlock = some W.heap.size) : KB w g u' base (all ++ ys) sb W' := by
  obtain ⟨hs, hc⟩ := h.st.grown hg (h.st.not_own h.own) h.row
  refine ⟨hs, own_cast ho (by simp) rfl, h.below.grown hg h.below.size (ownBlock_le h.own), fun hp a n c e => ?_, h.gw⟩
  rw [hc] at e
  have h1 := h.row hp a n c e
  rcases hl with e1 | e1
  · rw [e1]; exact h1
  · rw [e1]
    obtain ⟨A, c', hh, hr, _⟩ := h.st.ex
    obtain ⟨b, off, hA, hbt, _⟩ := hr hp
    rw [(three_cells hh).2.2] at e
    injection e with e
    injection e with eA _ _
    rw [hA] at eA
    injection eA with eA
    intro e2
    injection e2 with e2
    rw [← eA] at e2
    simp at e2
    omega
theorem drewN_add (w : World) (a b : Nat) : (w.drewN a).drewN b = w.drewN (a + b) := by simp [World.drewN, Nat.add_assoc]
set_option maxRecDepth 100000 in
set_option maxHeartbeats 8000000 in
theorem bound_any {A : Option Addr} {N cap : Nat} {l : List KOp} (w : World) (hs : SlKOp w A N cap l) : Calls Try.prog 5 #[.slice A N cap] w fun e w' => e = .returned (.bool true) ∧ Below w.heap.size w w' := by
  have HSL := Lib.hid hs
  have hNm : N ≤ 9223372036854775807 := by have := hs.le; have := hs.max; unfold maxLen at this; omega
  clear hs
  go_enter Try.func5, Try.ntmps5
  go_wp2_with fail
  refine (new_any _).mono ?_
  rintro e w1 ⟨rfl, hs1, hb1⟩
  obtain ⟨g, hg⟩ : ∃ g, w.heap.size = g := ⟨_, rfl⟩
  have HK0 := Lib.hid (show KB w g (.slice none 0 0) 0 [] [] w1 from ⟨by rw [← hg]; exact hs1, World.ownsRow_nil _ _ _ _, hb1, fun h => absurd h (by simp), by omega⟩)
  rw [hg]
  clear hs1 hb1 hg
  go_wp2
  go_loopw [4, 5, 6] (fun tv bv iv wr => ∃ (u : Value) (i b0 : Nat), u = tv ∧ bv = .int .u64 b0 ∧ iv = .int .i64 i ∧ i ≤ N ∧ i ≤ 60 ∧ Hid (∃ all : List Int, b0 ≤ all.length ∧ all.length ≤ 600 * i ∧ (all.drop b0).length ≤ 512 ∧ KB w g u b0 all (all.drop b0) wr)) (fun _ _ iv _ => 60 - (intOf iv).toNat)
  case atStart => exact ⟨_, 0, 0, rfl, rfl, rfl, by omega, by omega, Lib.hid ⟨[], by simp, by simp, by simp, HK0.out⟩⟩
  case round =>
    obtain ⟨u, i, b0, rfl, rfl, rfl, hiN, hi60, HR⟩ := hrel
    obtain ⟨all, hb0, ha, hd0, hk⟩ := HR.out
    have HK := Lib.hid hk
    clear HK0 HR hk
    by_cases hin : i < N
    · have d1 : decide ((i : Int) < (N : Int)) = true := by simp; omega
      have d2 : decide (i < N) = true := by simp; omega
      by_cases hi : i < 60
      · have e1 : decide ((i : Int) < 60) = true := by simp; omega
        have e2 : decide (i < 60) = true := by simp; omega
        obtain ⟨bl, off, hA, hbl, hcl⟩ := HSL.out.reads (by rw [HSL.out.len_eq]; omega)
        have hcl := hcl i (by rw [HSL.out.len_eq]; exact hin)
        have hok := HSL.out.ok i (by rw [HSL.out.len_eq]; exact hin)
        obtain ⟨x, hx⟩ : ∃ x, atKOp l i = x := ⟨_, rfl⟩
        rw [hx] at hcl hok
        obtain ⟨kd, nn, dd⟩ := x
        obtain ⟨q0, q1, A2, c2, q2, sl⟩ := hcl
        obtain ⟨m, hm⟩ : ∃ m, dd.length = m := ⟨_, rfl⟩
        have q2 : w.cell? ⟨bl, off + i * 3 + 2, none⟩ = some (.slice A2 m c2) := by rw [← hm]; exact q2
        have hnn : nn < 18446744073709551616 := hok.2
        have HSD := Lib.hid (show RI .u8 w A2 dd from sl.reads)
        have HSZ := Lib.hid (show A2 = none → c2 = 0 from sl.nil)
        have HDM := Lib.hid hm
        have a0 := (HK.out.below.cell (p := ⟨bl, off + i * 3, none⟩) hbl).trans q0
        have a1 := (HK.out.below.cell (p := ⟨bl, off + i * 3 + 1, none⟩) hbl).trans q1
        have a2 := (HK.out.below.cell (p := ⟨bl, off + i * 3 + 2, none⟩) hbl).trans q2
        have HQ := Lib.hid (And.intro hbl (And.intro q0 (And.intro q1 q2)))
        have g1 : (0 : Int) ≤ (i : Int) := by omega
        have g2 : (i : Int) < (N : Int) := by omega
        have w1 : IntKind.i64.wrap ((i : Int) + 1) = (i : Int) + 1 := IntWalk.i64_in _ (by omega)
        subst hA
        clear hx hok q0 q1 q2 sl hm hbl
        by_cases h600 : 600 < m
        · have k1 : decide ((600 : Int) < (m : Int)) = true := by simp; omega
          have k2 : (600 : Int) < (m : Int) := by omega
          go_wp2_with fail
          refine (alive_any _).mono ?_
          rintro e wf ⟨rfl, hf⟩
          have HF := Lib.hid (Bto HK.out.below hf)
          clear hf
          go_wp2
          go_ret
          exact ⟨rfl, HF.out⟩
        have k1 : decide ((600 : Int) < (m : Int)) = false := by simp; omega
        have k2 : ¬ (600 : Int) < (m : Int) := by omega
        by_cases hk0 : kd = 0
        · have z0 : (kd == 0) = true := by simp [hk0]
          have z1 : (kd == 1) = false := by simp [hk0]
          clear hk0
          by_cases hfit : m ≤ 512 - (all.drop b0).length
          · go_wp2_with fail
            refine (type_ok HK.out.st HDM.out (HSD.out.below HK.out.below) HSZ.out hd0 hfit).mono ?_
            rintro e wt ⟨rfl, hst, hot, hrt⟩
            have HK := Lib.hid (HK.out.other hst hot (hrt _ HK.out.row HK.out.new))
            clear hst hot hrt a0 a1 a2
            have a0 := (HK.out.below.cell (p := ⟨bl, off + i * 3, none⟩) HQ.out.1).trans HQ.out.2.1
            have a2 := (HK.out.below.cell (p := ⟨bl, off + i * 3 + 2, none⟩) HQ.out.1).trans HQ.out.2.2.2
            obtain ⟨u', wu, hrun, hou, hgu, hlu⟩ := app_lies (n := all.length) HDM.out c2 (HSD.out.below HK.out.below) HSZ.out HK.out.own (by omega) HK.out.below.size
            have HRUN := Lib.hid hrun
            have HK2 := Lib.hid (HK.out.app (ys := dd) (by rw [HDM.out]; exact hou) hgu hlu)
            have hall : (all ++ dd).length = all.length + m := by rw [List.length_append, HDM.out]
            have hdr : (all.drop b0) ++ dd = (all ++ dd).drop b0 := by rw [List.drop_append_of_le_length hb0]
            rw [hdr] at HK2
            have hd2 : ((all ++ dd).drop b0).length ≤ 512 := by rw [← hdr, List.length_append, HDM.out]; omega
            clear hrun hou hgu hlu
            obtain ⟨all2, hall2⟩ : ∃ a, all ++ dd = a := ⟨_, rfl⟩
            rw [hall2] at HK2 hall hd2
            clear hall2 hdr
            have b0' := (HK2.out.below.cell (p := ⟨bl, off + i * 3, none⟩) HQ.out.1).trans HQ.out.2.1
            go_upto_region 13 with (first | (at_builtin; refine wpList_app rfl (.tmp 44) (.tmp 49) _ rfl _ _ rfl rfl HRUN.out ?_))
            have HK := HK2
            have hb1 : b0 ≤ all2.length := by omega
            have ha1 : all2.length ≤ 600 * i + 600 := by omega
            clear a0 a2 b0' HK2 HRUN
            obtain ⟨bz, hbz⟩ : ∃ bz, b0 = bz := ⟨_, rfl⟩
            have hz1 : b0 ≤ bz := by omega
            have hz2 : bz ≤ b0 := by omega
            have hz3 : all2.length - b0 ≤ 512 := by simpa using hd2
            have HK := Lib.hid (show KB w g _ bz all2 (all2.drop bz) _ from by rw [← hbz]; exact HK.out)
            clear hbz
            have hdl : (all2.drop bz).length = all2.length - bz := by simp
            obtain ⟨s, hs⟩ : ∃ s, all2.length = s := ⟨_, rfl⟩
            have HKB := HK
            go_wp2_with fail
            refine (pending_st HK.out.st (by rw [hdl]; omega)).mono ?_
            rintro e wp ⟨v8, rfl, hO⟩
            have HK := Lib.hid (HK.out.to hO.below)
            obtain ⟨A8, c8, hv8, hr8, _⟩ := DV.own hO.own
            obtain ⟨n8, hn8⟩ : ∃ m, (all2.drop bz).length = m := ⟨_, rfl⟩
            rw [hn8] at hv8
            subst hv8
            obtain ⟨Au, cu, hu, hcu1, _, hzu⟩ := own_slice HK.out.own
            rw [hs] at hu hcu1
            have hru : RI .u8 wp Au all2 := by
              obtain ⟨A', c', e', h'⟩ := DV.own HK.out.own
              rw [hu] at e'
              injection e' with e1 _ _
              rw [e1]; exact h'.1
            subst hu
            obtain ⟨A9, hr9, hrun9⟩ := run_from (A := Au) (n := s) (c := cu) (k := bz) (by omega) hcu1 hzu
            have hd9 : s - bz = n8 := by omega
            rw [hd9] at hrun9
            have HCV8 : Hid (∀ m, (convert 28 9 (.slice A8 n8 c8)).run Try.prog (wp.drewN m) = .ok (.string (strOfNums (all2.drop bz))) (wp.drewN m)) := Lib.hid (fun m => conv_text hn8 c8 (hr8.below (belowN (Below.refl wp.heap.size wp) m)))
            have HCV9 : Hid (∀ m, (convert 28 9 (.slice A9 n8 (cu - bz))).run Try.prog (wp.drewN m) = .ok (.string (strOfNums (all2.drop bz))) (wp.drewN m)) := Lib.hid (fun m => conv_text hn8 _ ((hr9 wp all2 hru hs).below (belowN (Below.refl wp.heap.size wp) m)))
            obtain ⟨S, hS⟩ : ∃ S, strOfNums (all2.drop bz) = S := ⟨_, rfl⟩
            rw [hS] at HCV8 HCV9
            have hcv8 := HCV8.out
            have hcv9 := HCV9.out
            have ss : (S.toList == S.toList) = true := by simp
            have HCT := Lib.hid (fun m => count_st (HK.out.st.below (belowN (Below.refl wp.heap.size wp) m)) (s := s) (by rw [hn8]; omega) (by omega))
            have p1 : IntKind.u64.wrap (s : Int) = (s : Int) := wrap64_in (by omega)
            have p2 : decide ((bz : Int) < (b0 : Int)) = false := by simp <;> omega
            have p3 : ¬ ((bz : Int) < (b0 : Int)) := by omega
            have p4 : decide ((s : Int) < (bz : Int)) = false := by simp <;> omega
            have p5 : ¬ (s : Int) < (bz : Int) := by omega
            have p6 : decide ((512 : Int) < (n8 : Int)) = false := by simp <;> omega
            have p7 : ¬ (512 : Int) < (n8 : Int) := by omega
            have p8 : ((s : Int) != (s : Int)) = false := by simp
            have p2n : decide (bz < b0) = false := by simp <;> omega
            have p4n : decide (s < bz) = false := by simp <;> omega
            have p6n : decide (512 < n8) = false := by simp <;> omega
            have p8n : (s != s) = false := by simp
            have HNX := Lib.hid (show bz ≤ all2.length ∧ all2.length ≤ 600 * (i + 1) ∧ (all2.drop bz).length ≤ 512 from ⟨by omega, by omega, by omega⟩)
            clear hO hr8 hr9 hru hs hn8 hS hdl
            go_wp2
            go_quiet ((go_at_call 20; exact ((HCT.out _).mono fun e w' ⟨he, m', hw⟩ => ⟨he, _, hw.trans (drewN_add _ _ _)⟩)))
            have HK := Lib.hid (HK.out.to (belowN (Below.refl wp.heap.size wp) nq))
            go_wp2
            go_roundw
            case rel => exact ⟨_, i + 1, bz, rfl, rfl, by go_num, by omega, by omega, Lib.hid ⟨all2, HNX.out.1, HNX.out.2.1, HNX.out.2.2, HK.out⟩⟩
            case measure => simp [intOf]; omega
          · go_wp2_with fail
            refine (type_full HK.out.st hd0 (by omega)).mono ?_
            rintro e wt ⟨rfl, rfl⟩
            go_upto_region 13 with fail
            clear a0 a1 a2
            obtain ⟨bz, hbz⟩ : ∃ bz, b0 = bz := ⟨_, rfl⟩
            have hz1 : b0 ≤ bz := by omega
            have hz2 : bz ≤ b0 := by omega
            have hz3 : all.length - b0 ≤ 512 := by simpa using hd0
            have HK := Lib.hid (show KB w g _ bz all (all.drop bz) _ from by rw [← hbz]; exact HK.out)
            clear hbz
            have hdl : (all.drop bz).length = all.length - bz := by simp
            obtain ⟨s, hs⟩ : ∃ s, all.length = s := ⟨_, rfl⟩
            have HKB := HK
            go_wp2_with fail
            refine (pending_st HK.out.st (by rw [hdl]; omega)).mono ?_
            rintro e wp ⟨v8, rfl, hO⟩
            have HK := Lib.hid (HK.out.to hO.below)
            obtain ⟨A8, c8, hv8, hr8, _⟩ := DV.own hO.own
            obtain ⟨n8, hn8⟩ : ∃ m, (all.drop bz).length = m := ⟨_, rfl⟩
            rw [hn8] at hv8
            subst hv8
            obtain ⟨Au, cu, hu, hcu1, _, hzu⟩ := own_slice HK.out.own
            rw [hs] at hu hcu1
            have hru : RI .u8 wp Au all := by
              obtain ⟨A', c', e', h'⟩ := DV.own HK.out.own
              rw [hu] at e'
              injection e' with e1 _ _
              rw [e1]; exact h'.1
            subst hu
            obtain ⟨A9, hr9, hrun9⟩ := run_from (A := Au) (n := s) (c := cu) (k := bz) (by omega) hcu1 hzu
            have hd9 : s - bz = n8 := by omega
            rw [hd9] at hrun9
            have HCV8 : Hid (∀ m, (convert 28 9 (.slice A8 n8 c8)).run Try.prog (wp.drewN m) = .ok (.string (strOfNums (all.drop bz))) (wp.drewN m)) := Lib.hid (fun m => conv_text hn8 c8 (hr8.below (belowN (Below.refl wp.heap.size wp) m)))
            have HCV9 : Hid (∀ m, (convert 28 9 (.slice A9 n8 (cu - bz))).run Try.prog (wp.drewN m) = .ok (.string (strOfNums (all.drop bz))) (wp.drewN m)) := Lib.hid (fun m => conv_text hn8 _ ((hr9 wp all hru hs).below (belowN (Below.refl wp.heap.size wp) m)))
            obtain ⟨S, hS⟩ : ∃ S, strOfNums (all.drop bz) = S := ⟨_, rfl⟩
            rw [hS] at HCV8 HCV9
            have hcv8 := HCV8.out
            have hcv9 := HCV9.out
            have ss : (S.toList == S.toList) = true := by simp
            have HCT := Lib.hid (fun m => count_st (HK.out.st.below (belowN (Below.refl wp.heap.size wp) m)) (s := s) (by rw [hn8]; omega) (by omega))
            have p1 : IntKind.u64.wrap (s : Int) = (s : Int) := wrap64_in (by omega)
            have p2 : decide ((bz : Int) < (b0 : Int)) = false := by simp <;> omega
            have p3 : ¬ ((bz : Int) < (b0 : Int)) := by omega
            have p4 : decide ((s : Int) < (bz : Int)) = false := by simp <;> omega
            have p5 : ¬ (s : Int) < (bz : Int) := by omega
            have p6 : decide ((512 : Int) < (n8 : Int)) = false := by simp <;> omega
            have p7 : ¬ (512 : Int) < (n8 : Int) := by omega
            have p8 : ((s : Int) != (s : Int)) = false := by simp
            have p2n : decide (bz < b0) = false := by simp <;> omega
            have p4n : decide (s < bz) = false := by simp <;> omega
            have p6n : decide (512 < n8) = false := by simp <;> omega
            have p8n : (s != s) = false := by simp
            have HNX := Lib.hid (show bz ≤ all.length ∧ all.length ≤ 600 * (i + 1) ∧ (all.drop bz).length ≤ 512 from ⟨by omega, by omega, by omega⟩)
            clear hO hr8 hr9 hru hs hn8 hS hdl
            go_wp2
            go_quiet ((go_at_call 20; exact ((HCT.out _).mono fun e w' ⟨he, m', hw⟩ => ⟨he, _, hw.trans (drewN_add _ _ _)⟩)))
            have HK := Lib.hid (HK.out.to (belowN (Below.refl wp.heap.size wp) nq))
            go_wp2
            go_roundw
            case rel => exact ⟨_, i + 1, bz, rfl, rfl, by go_num, by omega, by omega, Lib.hid ⟨all, HNX.out.1, HNX.out.2.1, HNX.out.2.2, HK.out⟩⟩
            case measure => simp [intOf]; omega
        have z0 : (kd == 0) = false := by simpa using hk0
        by_cases hk1 : kd = 1
        · have z1 : (kd == 1) = true := by simp [hk1]
          clear hk0 hk1
          by_cases hold : nn < b0
          · go_wp2_with fail
            refine (ack_old HK.out.st hold).mono ?_
            rintro e wt ⟨rfl, rfl⟩
            go_upto_region 13 with fail
            clear a0 a1 a2
            obtain ⟨bz, hbz⟩ : ∃ bz, b0 = bz := ⟨_, rfl⟩
            have hz1 : b0 ≤ bz := by omega
            have hz2 : bz ≤ b0 := by omega
            have hz3 : all.length - b0 ≤ 512 := by simpa using hd0
            have HK := Lib.hid (show KB w g _ bz all (all.drop bz) _ from by rw [← hbz]; exact HK.out)
            clear hbz
            have hdl : (all.drop bz).length = all.length - bz := by simp
            obtain ⟨s, hs⟩ : ∃ s, all.length = s := ⟨_, rfl⟩
            have HKB := HK
            go_wp2_with fail
            refine (pending_st HK.out.st (by rw [hdl]; omega)).mono ?_
            rintro e wp ⟨v8, rfl, hO⟩
            have HK := Lib.hid (HK.out.to hO.below)
            obtain ⟨A8, c8, hv8, hr8, _⟩ := DV.own hO.own
            obtain ⟨n8, hn8⟩ : ∃ m, (all.drop bz).length = m := ⟨_, rfl⟩
            rw [hn8] at hv8
            subst hv8
            obtain ⟨Au, cu, hu, hcu1, _, hzu⟩ := own_slice HK.out.own
            rw [hs] at hu hcu1
            have hru : RI .u8 wp Au all := by
              obtain ⟨A', c', e', h'⟩ := DV.own HK.out.own
              rw [hu] at e'
              injection e' with e1 _ _
              rw [e1]; exact h'.1
            subst hu
            obtain ⟨A9, hr9, hrun9⟩ := run_from (A := Au) (n := s) (c := cu) (k := bz) (by omega) hcu1 hzu
            have hd9 : s - bz = n8 := by omega
            rw [hd9] at hrun9
            have HCV8 : Hid (∀ m, (convert 28 9 (.slice A8 n8 c8)).run Try.prog (wp.drewN m) = .ok (.string (strOfNums (all.drop bz))) (wp.drewN m)) := Lib.hid (fun m => conv_text hn8 c8 (hr8.below (belowN (Below.refl wp.heap.size wp) m)))
            have HCV9 : Hid (∀ m, (convert 28 9 (.slice A9 n8 (cu - bz))).run Try.prog (wp.drewN m) = .ok (.string (strOfNums (all.drop bz))) (wp.drewN m)) := Lib.hid (fun m => conv_text hn8 _ ((hr9 wp all hru hs).below (belowN (Below.refl wp.heap.size wp) m)))
            obtain ⟨S, hS⟩ : ∃ S, strOfNums (all.drop bz) = S := ⟨_, rfl⟩
            rw [hS] at HCV8 HCV9
            have hcv8 := HCV8.out
            have hcv9 := HCV9.out
            have ss : (S.toList == S.toList) = true := by simp
            have HCT := Lib.hid (fun m => count_st (HK.out.st.below (belowN (Below.refl wp.heap.size wp) m)) (s := s) (by rw [hn8]; omega) (by omega))
            have p1 : IntKind.u64.wrap (s : Int) = (s : Int) := wrap64_in (by omega)
            have p2 : decide ((bz : Int) < (b0 : Int)) = false := by simp <;> omega
            have p3 : ¬ ((bz : Int) < (b0 : Int)) := by omega
            have p4 : decide ((s : Int) < (bz : Int)) = false := by simp <;> omega
            have p5 : ¬ (s : Int) < (bz : Int) := by omega
            have p6 : decide ((512 : Int) < (n8 : Int)) = false := by simp <;> omega
            have p7 : ¬ (512 : Int) < (n8 : Int) := by omega
            have p8 : ((s : Int) != (s : Int)) = false := by simp
            have p2n : decide (bz < b0) = false := by simp <;> omega
            have p4n : decide (s < bz) = false := by simp <;> omega
            have p6n : decide (512 < n8) = false := by simp <;> omega
            have p8n : (s != s) = false := by simp
            have HNX := Lib.hid (show bz ≤ all.length ∧ all.length ≤ 600 * (i + 1) ∧ (all.drop bz).length ≤ 512 from ⟨by omega, by omega, by omega⟩)
            clear hO hr8 hr9 hru hs hn8 hS hdl
            go_wp2
            go_quiet ((go_at_call 20; exact ((HCT.out _).mono fun e w' ⟨he, m', hw⟩ => ⟨he, _, hw.trans (drewN_add _ _ _)⟩)))
            have HK := Lib.hid (HK.out.to (belowN (Below.refl wp.heap.size wp) nq))
            go_wp2
            go_roundw
            case rel => exact ⟨_, i + 1, bz, rfl, rfl, by go_num, by omega, by omega, Lib.hid ⟨all, HNX.out.1, HNX.out.2.1, HNX.out.2.2, HK.out⟩⟩
            case measure => simp [intOf]; omega
          by_cases harg : all.length < nn
          · go_wp2_with fail
            refine (ack_arg HK.out.st (s := all.length) (by simp; omega) (by omega) harg).mono ?_
            rintro e wt ⟨rfl, mq, rfl⟩
            have HK := Lib.hid (HK.out.to (belowN (Below.refl _ _) mq))
            go_upto_region 13 with fail
            clear a0 a1 a2
            obtain ⟨bz, hbz⟩ : ∃ bz, b0 = bz := ⟨_, rfl⟩
            have hz1 : b0 ≤ bz := by omega
            have hz2 : bz ≤ b0 := by omega
            have hz3 : all.length - b0 ≤ 512 := by simpa using hd0
            have HK := Lib.hid (show KB w g _ bz all (all.drop bz) _ from by rw [← hbz]; exact HK.out)
            clear hbz
            have hdl : (all.drop bz).length = all.length - bz := by simp
            obtain ⟨s, hs⟩ : ∃ s, all.length = s := ⟨_, rfl⟩
            have HKB := HK
            go_wp2_with fail
            refine (pending_st HK.out.st (by rw [hdl]; omega)).mono ?_
            rintro e wp ⟨v8, rfl, hO⟩
            have HK := Lib.hid (HK.out.to hO.below)
            obtain ⟨A8, c8, hv8, hr8, _⟩ := DV.own hO.own
            obtain ⟨n8, hn8⟩ : ∃ m, (all.drop bz).length = m := ⟨_, rfl⟩
            rw [hn8] at hv8
            subst hv8
            obtain ⟨Au, cu, hu, hcu1, _, hzu⟩ := own_slice HK.out.own
            rw [hs] at hu hcu1
            have hru : RI .u8 wp Au all := by
              obtain ⟨A', c', e', h'⟩ := DV.own HK.out.own
              rw [hu] at e'
              injection e' with e1 _ _
              rw [e1]; exact h'.1
            subst hu
            obtain ⟨A9, hr9, hrun9⟩ := run_from (A := Au) (n := s) (c := cu) (k := bz) (by omega) hcu1 hzu
            have hd9 : s - bz = n8 := by omega
            rw [hd9] at hrun9
            have HCV8 : Hid (∀ m, (convert 28 9 (.slice A8 n8 c8)).run Try.prog (wp.drewN m) = .ok (.string (strOfNums (all.drop bz))) (wp.drewN m)) := Lib.hid (fun m => conv_text hn8 c8 (hr8.below (belowN (Below.refl wp.heap.size wp) m)))
            have HCV9 : Hid (∀ m, (convert 28 9 (.slice A9 n8 (cu - bz))).run Try.prog (wp.drewN m) = .ok (.string (strOfNums (all.drop bz))) (wp.drewN m)) := Lib.hid (fun m => conv_text hn8 _ ((hr9 wp all hru hs).below (belowN (Below.refl wp.heap.size wp) m)))
            obtain ⟨S, hS⟩ : ∃ S, strOfNums (all.drop bz) = S := ⟨_, rfl⟩
            rw [hS] at HCV8 HCV9
            have hcv8 := HCV8.out
            have hcv9 := HCV9.out
            have ss : (S.toList == S.toList) = true := by simp
            have HCT := Lib.hid (fun m => count_st (HK.out.st.below (belowN (Below.refl wp.heap.size wp) m)) (s := s) (by rw [hn8]; omega) (by omega))
            have p1 : IntKind.u64.wrap (s : Int) = (s : Int) := wrap64_in (by omega)
            have p2 : decide ((bz : Int) < (b0 : Int)) = false := by simp <;> omega
            have p3 : ¬ ((bz : Int) < (b0 : Int)) := by omega
            have p4 : decide ((s : Int) < (bz : Int)) = false := by simp <;> omega
            have p5 : ¬ (s : Int) < (bz : Int) := by omega
            have p6 : decide ((512 : Int) < (n8 : Int)) = false := by simp <;> omega
            have p7 : ¬ (512 : Int) < (n8 : Int) := by omega
            have p8 : ((s : Int) != (s : Int)) = false := by simp
            have p2n : decide (bz < b0) = false := by simp <;> omega
            have p4n : decide (s < bz) = false := by simp <;> omega
            have p6n : decide (512 < n8) = false := by simp <;> omega
            have p8n : (s != s) = false := by simp
            have HNX := Lib.hid (show bz ≤ all.length ∧ all.length ≤ 600 * (i + 1) ∧ (all.drop bz).length ≤ 512 from ⟨by omega, by omega, by omega⟩)
            clear hO hr8 hr9 hru hs hn8 hS hdl
            go_wp2
            go_quiet ((go_at_call 20; exact ((HCT.out _).mono fun e w' ⟨he, m', hw⟩ => ⟨he, _, hw.trans (drewN_add _ _ _)⟩)))
            have HK := Lib.hid (HK.out.to (belowN (Below.refl wp.heap.size wp) nq))
            go_wp2
            go_roundw
            case rel => exact ⟨_, i + 1, bz, rfl, rfl, by go_num, by omega, by omega, Lib.hid ⟨all, HNX.out.1, HNX.out.2.1, HNX.out.2.2, HK.out⟩⟩
            case measure => simp [intOf]; omega
          · go_wp2_with fail
            refine (ack_ok HK.out.st (s := all.length) (by simp; omega) (by omega) (k := nn) (by omega) (by omega)).mono ?_
            rintro e wt ⟨rfl, hst, hot, hrt⟩
            have hdd : (all.drop b0).drop (nn - b0) = all.drop nn := by rw [List.drop_drop, show b0 + (nn - b0) = nn by omega]
            rw [hdd] at hst
            have HK := Lib.hid (HK.out.other hst hot (fun _ => hrt _ HK.out.new))
            clear hst hot hrt hdd a0 a1 a2
            go_upto_region 13 with fail
            have hz3 : all.length - b0 ≤ 512 := by simpa using hd0
            have hdl : (all.drop nn).length = all.length - nn := by simp
            obtain ⟨s, hs⟩ : ∃ s, all.length = s := ⟨_, rfl⟩
            have HKB := HK
            go_wp2_with fail
            refine (pending_st HK.out.st (by rw [hdl]; omega)).mono ?_
            rintro e wp ⟨v8, rfl, hO⟩
            have HK := Lib.hid (HK.out.to hO.below)
            obtain ⟨A8, c8, hv8, hr8, _⟩ := DV.own hO.own
            obtain ⟨n8, hn8⟩ : ∃ m, (all.drop nn).length = m := ⟨_, rfl⟩
            rw [hn8] at hv8
            subst hv8
            obtain ⟨Au, cu, hu, hcu1, _, hzu⟩ := own_slice HK.out.own
            rw [hs] at hu hcu1
            have hru : RI .u8 wp Au all := by
              obtain ⟨A', c', e', h'⟩ := DV.own HK.out.own
              rw [hu] at e'
              injection e' with e1 _ _
              rw [e1]; exact h'.1
            subst hu
            obtain ⟨A9, hr9, hrun9⟩ := run_from (A := Au) (n := s) (c := cu) (k := nn) (by omega) hcu1 hzu
            have hd9 : s - nn = n8 := by omega
            rw [hd9] at hrun9
            have HCV8 : Hid (∀ m, (convert 28 9 (.slice A8 n8 c8)).run Try.prog (wp.drewN m) = .ok (.string (strOfNums (all.drop nn))) (wp.drewN m)) := Lib.hid (fun m => conv_text hn8 c8 (hr8.below (belowN (Below.refl wp.heap.size wp) m)))
            have HCV9 : Hid (∀ m, (convert 28 9 (.slice A9 n8 (cu - nn))).run Try.prog (wp.drewN m) = .ok (.string (strOfNums (all.drop nn))) (wp.drewN m)) := Lib.hid (fun m => conv_text hn8 _ ((hr9 wp all hru hs).below (belowN (Below.refl wp.heap.size wp) m)))
            obtain ⟨S, hS⟩ : ∃ S, strOfNums (all.drop nn) = S := ⟨_, rfl⟩
            rw [hS] at HCV8 HCV9
            have hcv8 := HCV8.out
            have hcv9 := HCV9.out
            have ss : (S.toList == S.toList) = true := by simp
            have HCT := Lib.hid (fun m => count_st (HK.out.st.below (belowN (Below.refl wp.heap.size wp) m)) (s := s) (by rw [hn8]; omega) (by omega))
            have p1 : IntKind.u64.wrap (s : Int) = (s : Int) := wrap64_in (by omega)
            have p2 : decide ((nn : Int) < (b0 : Int)) = false := by simp <;> omega
            have p3 : ¬ ((nn : Int) < (b0 : Int)) := by omega
            have p4 : decide ((s : Int) < (nn : Int)) = false := by simp <;> omega
            have p5 : ¬ (s : Int) < (nn : Int) := by omega
            have p6 : decide ((512 : Int) < (n8 : Int)) = false := by simp <;> omega
            have p7 : ¬ (512 : Int) < (n8 : Int) := by omega
            have p8 : ((s : Int) != (s : Int)) = false := by simp
            have p2n : decide (nn < b0) = false := by simp <;> omega
            have p4n : decide (s < nn) = false := by simp <;> omega
            have p6n : decide (512 < n8) = false := by simp <;> omega
            have p8n : (s != s) = false := by simp
            have HNX := Lib.hid (show nn ≤ all.length ∧ all.length ≤ 600 * (i + 1) ∧ (all.drop nn).length ≤ 512 from ⟨by omega, by omega, by omega⟩)
            clear hO hr8 hr9 hru hs hn8 hS hdl
            go_wp2
            go_quiet ((go_at_call 20; exact ((HCT.out _).mono fun e w' ⟨he, m', hw⟩ => ⟨he, _, hw.trans (drewN_add _ _ _)⟩)))
            have HK := Lib.hid (HK.out.to (belowN (Below.refl wp.heap.size wp) nq))
            go_wp2
            go_roundw
            case rel => exact ⟨_, i + 1, nn, rfl, rfl, by go_num, by omega, by omega, Lib.hid ⟨all, HNX.out.1, HNX.out.2.1, HNX.out.2.2, HK.out⟩⟩
            case measure => simp [intOf]; omega
        · have z1 : (kd == 1) = false := by simpa using hk1
          clear hk0 hk1
          go_upto_region 13 with fail
          clear a0 a1 a2
          obtain ⟨bz, hbz⟩ : ∃ bz, b0 = bz := ⟨_, rfl⟩
          have hz1 : b0 ≤ bz := by omega
          have hz2 : bz ≤ b0 := by omega
          have hz3 : all.length - b0 ≤ 512 := by simpa using hd0
          have HK := Lib.hid (show KB w g _ bz all (all.drop bz) _ from by rw [← hbz]; exact HK.out)
          clear hbz
          have hdl : (all.drop bz).length = all.length - bz := by simp
          obtain ⟨s, hs⟩ : ∃ s, all.length = s := ⟨_, rfl⟩
          have HKB := HK
          go_wp2_with fail
          refine (pending_st HK.out.st (by rw [hdl]; omega)).mono ?_
          rintro e wp ⟨v8, rfl, hO⟩
          have HK := Lib.hid (HK.out.to hO.below)
          obtain ⟨A8, c8, hv8, hr8, _⟩ := DV.own hO.own
          obtain ⟨n8, hn8⟩ : ∃ m, (all.drop bz).length = m := ⟨_, rfl⟩
          rw [hn8] at hv8
          subst hv8
          obtain ⟨Au, cu, hu, hcu1, _, hzu⟩ := own_slice HK.out.own
          rw [hs] at hu hcu1
          have hru : RI .u8 wp Au all := by
            obtain ⟨A', c', e', h'⟩ := DV.own HK.out.own
            rw [hu] at e'
            injection e' with e1 _ _
            rw [e1]; exact h'.1
          subst hu
          obtain ⟨A9, hr9, hrun9⟩ := run_from (A := Au) (n := s) (c := cu) (k := bz) (by omega) hcu1 hzu
          have hd9 : s - bz = n8 := by omega
          rw [hd9] at hrun9
          have HCV8 : Hid (∀ m, (convert 28 9 (.slice A8 n8 c8)).run Try.prog (wp.drewN m) = .ok (.string (strOfNums (all.drop bz))) (wp.drewN m)) := Lib.hid (fun m => conv_text hn8 c8 (hr8.below (belowN (Below.refl wp.heap.size wp) m)))
          have HCV9 : Hid (∀ m, (convert 28 9 (.slice A9 n8 (cu - bz))).run Try.prog (wp.drewN m) = .ok (.string (strOfNums (all.drop bz))) (wp.drewN m)) := Lib.hid (fun m => conv_text hn8 _ ((hr9 wp all hru hs).below (belowN (Below.refl wp.heap.size wp) m)))
          obtain ⟨S, hS⟩ : ∃ S, strOfNums (all.drop bz) = S := ⟨_, rfl⟩
          rw [hS] at HCV8 HCV9
          have hcv8 := HCV8.out
          have hcv9 := HCV9.out
          have ss : (S.toList == S.toList) = true := by simp
          have HCT := Lib.hid (fun m => count_st (HK.out.st.below (belowN (Below.refl wp.heap.size wp) m)) (s := s) (by rw [hn8]; omega) (by omega))
          have p1 : IntKind.u64.wrap (s : Int) = (s : Int) := wrap64_in (by omega)
          have p2 : decide ((bz : Int) < (b0 : Int)) = false := by simp <;> omega
          have p3 : ¬ ((bz : Int) < (b0 : Int)) := by omega
          have p4 : decide ((s : Int) < (bz : Int)) = false := by simp <;> omega
          have p5 : ¬ (s : Int) < (bz : Int) := by omega
          have p6 : decide ((512 : Int) < (n8 : Int)) = false := by simp <;> omega
          have p7 : ¬ (512 : Int) < (n8 : Int) := by omega
          have p8 : ((s : Int) != (s : Int)) = false := by simp
          have p2n : decide (bz < b0) = false := by simp <;> omega
          have p4n : decide (s < bz) = false := by simp <;> omega
          have p6n : decide (512 < n8) = false := by simp <;> omega
          have p8n : (s != s) = false := by simp
          have HNX := Lib.hid (show bz ≤ all.length ∧ all.length ≤ 600 * (i + 1) ∧ (all.drop bz).length ≤ 512 from ⟨by omega, by omega, by omega⟩)
          clear hO hr8 hr9 hru hs hn8 hS hdl
          go_wp2
          go_quiet ((go_at_call 20; exact ((HCT.out _).mono fun e w' ⟨he, m', hw⟩ => ⟨he, _, hw.trans (drewN_add _ _ _)⟩)))
          have HK := Lib.hid (HK.out.to (belowN (Below.refl wp.heap.size wp) nq))
          go_wp2
          go_roundw
          case rel => exact ⟨_, i + 1, bz, rfl, rfl, by go_num, by omega, by omega, Lib.hid ⟨all, HNX.out.1, HNX.out.2.1, HNX.out.2.2, HK.out⟩⟩
          case measure => simp [intOf]; omega
      · have e1 : decide ((i : Int) < 60) = false := by simp; omega
        have e2 : decide (i < 60) = false := by simp; omega
        go_wp2_with fail
        refine (alive_any _).mono ?_
        rintro e wf ⟨rfl, hf⟩
        have HF := Lib.hid (Bto HK.out.below hf)
        clear hf
        go_wp2
        go_ret
        exact ⟨rfl, HF.out⟩
    · have d1 : decide ((i : Int) < (N : Int)) = false := by simp; omega
      have d2 : decide (i < N) = false := by simp; omega
      go_wp2_with fail
      refine (alive_any _).mono ?_
      rintro e wf ⟨rfl, hf⟩
      have HF := Lib.hid (Bto HK.out.below hf)
      clear hf
      go_wp2
      go_ret
      exact ⟨rfl, HF.out⟩
end Go.Proofs.Ytlppnnehgfpgbaa
