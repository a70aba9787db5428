/-
  Proved here: the program's Read of utf: what a Reader that waits for these bytes answers to those.
-/
import Derived.Test.YtidjcbnjadlbaaaUi
import Derived.WalkMore
set_option linter.unusedSimpArgs false
set_option linter.unusedVariables false
namespace Go.Proofs.Ytidjcbnjadlbaaa
open Go.RowKit
theorem Only.then_below {B g : Nat} {a w w' : World} (h : Only g a w) (hb : Below B w w') (hB : a.heap.size ≤ B) : Only g a w' :=
  ⟨hb.os.trans h.os, hb.tape.trans h.tape, hb.output.trans h.output, Nat.le_trans h.size hb.size, fun k hk hg => (hb.block k (by omega)).trans (h.block k hk hg)⟩
theorem Rd.keep {B g : Nat} {w w' : World} {W N P L H : Int} (h : Rd w g W N P L H) (hb : Below B w w') (hg : g < B) : Rd w' g W N P L H := (hb.block g hg).trans h
/-- A row of points of this call's own; of what was there, block g alone may be another one. -/
structure OwnX (g : Nat) (w : World) (v : Value) (xs : List Int) (W : World) : Prop where
  own : W.ownsRow w.heap.size 21 1 v xs.length (NV .i32 xs)
  only : Only g w W
theorem OwnX.new (g : Nat) (w : World) : OwnX g w (.slice none 0 0) [] w := ⟨World.ownsRow_nil _ _ _ _, Only.refl _ _⟩
theorem OwnX.go {g : Nat} {w W W' : World} {v : Value} {xs : List Int} (h : OwnX g w v xs W) (k : Only g W W') (hg : g < w.heap.size) : OwnX g w v xs W' :=
  ⟨own_far (row := some g) h.own ⟨k.os, k.tape, k.output, k.size, fun i hi hn => k.block i hi (fun e => hn (by rw [e]))⟩ (fun x hx => by injection hx with hx; omega), h.only.trans k⟩
theorem OwnX.app {g : Nat} {w W : World} {v : Value} {xs : List Int} (h : OwnX g w v xs W) (hn : xs.length < 100000) (p : Int) :
    ∃ A c w', (Builtin.append_ #[23, 23] 23 #[v, .slice (some ⟨W.heap.size, 0, none⟩) 1 1]).run Try.prog (W.alloc (.cells #[.int .i32 p] 21)) = .ok (.slice A (xs.length + 1) c) w' ∧ OwnX g w (.slice A (xs.length + 1) c) (xs ++ [p]) w' ∧ Below w.heap.size W w' := by
  have hb := (Below.refl w.heap.size W).alloc h.only.size (.cells #[.int .i32 p] 21)
  have hbW := (Below.refl W.heap.size W).alloc (Nat.le_refl _) (.cells #[.int .i32 p] 21)
  have hs : w.heap.size ≤ (W.alloc (.cells #[.int .i32 p] 21)).heap.size := Nat.le_trans h.only.size hb.size
  obtain ⟨v', w', r, o, gr⟩ := app_i32 (ys := [p]) (m := 1) rfl 1 (RI.one .i32 W p 21) (fun e => by cases e) (own_below h.own hbW) (by omega) hs
  obtain ⟨A, c, rfl, _⟩ := own_slice o
  have hB := hb.grown gr hs (ownBlock_le h.own)
  exact ⟨A, c, w', r, ⟨own_cast o (by simp) rfl, h.only.then_below hB (Nat.le_refl _)⟩, hB⟩
/-- What was read of these bytes behind those that waited. -/
def At (ws bs : List Int) (a : Nat) (xs us : List Int) : Prop := (readS (ws ++ bs.take a)).1 = xs ∧ waitS (ws ++ bs.take a) = us
theorem take_snoc {l : List Int} {i : Nat} (hi : i < l.length) : l.take (i + 1) = l.take i ++ [l.getD i 0] := by
  rw [List.take_add_one]; simp [List.getD, hi]
theorem At.step {ws bs : List Int} {a : Nat} {xs us : List Int} (h : At ws bs a xs us) (ha : a < bs.length) {q : Int} (hq : bs.getD a 0 = q) {ys vs : List Int} (h1 : (readS (us ++ [q])).1 = ys) (h2 : waitS (us ++ [q]) = vs) : At ws bs (a + 1) (xs ++ ys) vs := by
  obtain ⟨k1, k2⟩ := h
  have e : ws ++ bs.take (a + 1) = (ws ++ bs.take a) ++ [q] := by rw [take_snoc ha, hq, List.append_assoc]
  unfold At
  rw [e]
  refine ⟨?_, ?_⟩
  · rw [readS_app, k1, k2, h1]
  · rw [waitS_app, k2, h2]
theorem At.len {ws bs : List Int} {a : Nat} {xs us : List Int} (h : At ws bs a xs us) (hw : ws.length ≤ 3) : xs.length ≤ a + 3 := by
  have := (read_len (ws ++ bs.take a)).1
  rw [h.1, List.length_append, List.length_take] at this
  omega
/-- What the Reader is, and what one more byte makes of it. -/
theorem St.kinds {us : List Int} {W N P L H : Int} (h : St us W N P L H) : (us = [] ∧ W = 0 ∧ N = 0 ∧ P = 0 ∧ L = 0 ∧ H = 0) ∨
    ((1 ≤ W ∧ W ≤ 3) ∧ (1 ≤ N ∧ N ≤ 3) ∧ (0 ≤ P ∧ P < 131072) ∧ 128 ≤ L ∧ H ≤ 191 ∧ ∀ c,
      (L ≤ c ∧ c ≤ H → (N - 1 = 0 → (readS (us ++ [c])).1 = [64 * P + c - 128] ∧ waitS (us ++ [c]) = []) ∧ (N - 1 ≠ 0 → (readS (us ++ [c])).1 = [] ∧ waitS (us ++ [c]) = us ++ [c] ∧ St (us ++ [c]) (W + 1) (N - 1) (64 * P + c - 128) 128 191)) ∧
      (¬ (L ≤ c ∧ c ≤ H) → (readS (us ++ [c])).1 = 65533 :: (readS [c]).1 ∧ waitS (us ++ [c]) = waitS [c])) := by
  cases h with
  | empty => exact .inl ⟨rfl, rfl, rfl, rfl, rfl, rfl⟩
  | some _ f _ i k hl hi hk hik hv hone =>
    refine .inr ⟨by omega, by omega, ⟨hv.1, ?_⟩, ?_, ?_, fun c => ⟨fun hm => ⟨fun h1 => ?_, fun h1 => ?_⟩, fun hm => ?_⟩⟩
    · have : i = 1 ∨ i = 2 ∨ i = 3 := by omega
      rcases this with rfl | rfl | rfl <;> simp at hv <;> omega
    · have := lo1_ge f
      split <;> omega
    · have := hi1_le f
      split <;> omega
    · have := some_done hl hi hk hone (by omega) hm
      exact ⟨by rw [this.1], this.2⟩
    · obtain ⟨e1, e2, e3⟩ := some_more hl hi hk hone hik hv (by omega) hm
      refine ⟨by rw [e1], e2, ?_⟩
      rw [show (i : Int) + 1 = ((i + 1 : Nat) : Int) by omega, show (k : Int) - 1 = ((k - 1 : Nat) : Int) by omega]
      exact e3
    · have := some_bad hl hi hk hone hm
      exact ⟨by rw [this.1], this.2⟩
set_option maxRecDepth 100000 in
set_option maxHeartbeats 2000000 in
theorem read_any {w : World} {g : Nat} {W0 N0 P0 L0 H0 : Int} {ws : List Int} (hr : Rd w g W0 N0 P0 L0 H0) (hs : St ws W0 N0 P0 L0 H0) {A : Option Addr} {n c : Nat} {bs : List Int} (hR : RI .u8 w A bs) (hl : bs.length = n) (hn : n ≤ 10000)
    (hA : 0 < n → ∀ ad, A = some ad → ad.block ≠ g) (hb : ∀ j, j < n → 0 ≤ bs.getD j 0 ∧ bs.getD j 0 < 256) :
    Calls Try.prog 13 #[.pointer (some ⟨g, 0, none⟩), .slice A n c] w fun e w' => ∃ v W N P L H, e = .returned (.tuple #[v, .int .i64 0]) ∧ OwnX g w v (readS (ws ++ bs)).1 w' ∧ Rd w' g W N P L H ∧ St (waitS (ws ++ bs)) W N P L H := by
  have c0 := hr.c0
  have hws : ws.length ≤ 3 := hs.len.1
  have hg := hr.lt
  have HR := Lib.hid hR
  have HL := Lib.hid hl
  have HB := Lib.hid hb
  have HA := Lib.hid hA
  have HO0 := Lib.hid (OwnX.new g w)
  have HH0 := Lib.hid hr
  have HS0 := Lib.hid hs
  have HK0 : Hid (At ws bs 0 [] ws) := Lib.hid (by
    obtain ⟨_, _, e1, e2⟩ := hs.len
    unfold At
    rw [List.take_zero, List.append_nil, e1, e2]
    exact ⟨rfl, rfl⟩)
  clear hr hs hR hl hb hA
  go_enter Try.func13, Try.ntmps13
  go_wp2
  go_step3
  go_wp2_with fail
  refine (none_at g true w c0).mono ?_
  rintro e wx ⟨rfl, rfl⟩
  go_wp2
  go_step3
  go_wp2
  go_loopw [6, 8, 13] (fun ov _ av wr => ∃ (v : Value) (a : Nat) (us xs : List Int) (W N P L H : Int), v = ov ∧ av = .int .i64 a ∧ a ≤ n ∧ Hid (OwnX g w v xs wr) ∧ Hid (Rd wr g W N P L H) ∧ Hid (St us W N P L H) ∧ Hid (At ws bs a xs us)) (fun _ _ av _ => n - (intOf av).toNat)
  case atStart => exact ⟨_, 0, ws, [], W0, N0, P0, L0, H0, rfl, rfl, by omega, HO0, HH0, HS0, HK0⟩
  case round =>
    obtain ⟨v, a, us, xs, W, N, P, L, H, rfl, rfl, ha, HO, HH, HS, HK⟩ := hrel
    clear HO0 HH0 HS0 HK0 c0
    by_cases han : a < n
    · have d1 : decide ((a : Int) < (n : Int)) = true := by simp; omega
      have d2 : decide (a < n) = true := by simp; omega
      have g3 : (0 : Int) ≤ (a : Int) := by omega
      have g4 : (a : Int) < (n : Int) := by omega
      obtain ⟨bl, off, rfl, hbl, hc⟩ := HR.out (by rw [HL.out]; omega)
      have hne := HA.out (by omega) _ rfl
      have e0 := hc a (by rw [HL.out]; exact han)
      obtain ⟨q, hq⟩ : ∃ q, bs.getD a 0 = q := ⟨_, rfl⟩
      rw [hq] at e0
      have hce2 : wr.cell? ⟨bl, off + a, none⟩ = some (.int .u8 q) := (World.cell?_of_block (HO.out.only.block bl hbl hne)).trans e0
      obtain ⟨q0, q1⟩ := HB.out a han
      rw [hq] at q0 q1
      have k1 := HH.out.c1
      have hx := HK.out.len hws
      have HST : Hid (∀ ys vs : List Int, (readS (us ++ [q])).1 = ys → waitS (us ++ [q]) = vs → At ws bs (a + 1) (xs ++ ys) vs) := Lib.hid (fun ys vs h1 h2 => HK.out.step (by rw [HL.out]; exact han) hq h1 h2)
      have hkind : q < 128 ∨ (128 ≤ q ∧ fol q = 0) ∨ (128 ≤ q ∧ fol q ≠ 0) := by
        by_cases h : q < 128
        · exact .inl h
        · by_cases hf : fol q = 0
          · exact .inr (.inl ⟨by omega, hf⟩)
          · exact .inr (.inr ⟨by omega, hf⟩)
      have hst := HS.out.kinds
      clear hc e0 hq HK HS hne
      rcases hst with ⟨rfl, rfl, rfl, rfl, rfl, rfl⟩ | ⟨⟨hW, hW3⟩, ⟨hN, hN3⟩, ⟨hP, hP1⟩, hL, hH, hq⟩
      · have HT : Hid (∀ ys vs : List Int, (readS [q]).1 = ys → waitS [q] = vs → At ws bs (a + 1) (xs ++ ys) vs) := Lib.hid (fun ys vs h1 h2 => HST.out ys vs h1 h2)
        clear HST
        rcases hkind with h1 | ⟨h1, h2⟩ | ⟨h1, h2⟩
        · have hrd := one_low h1
          have HK4 := Lib.hid (HT.out [q] [] (by rw [hrd.1]) hrd.2)
          have d8 : decide (q < 128) = true := by simp; omega
          obtain ⟨A4, c4, w4, hrun, hO4, hb4⟩ := HO.out.app (by (try simp); omega) q
          have HRUN := Lib.hid hrun
          have HO4 := Lib.hid hO4
          have HH4 := Lib.hid (HH.out.keep hb4 hg)
          clear hrun hO4 hb4 hrd HO HH HT
          go_wp2_with (first | (at_builtin; refine wpList_app rfl (.tmp 50) (.tmp 53) _ rfl _ _ rfl rfl HRUN.out ?_))
          go_roundw
          case rel => exact ⟨_, a + 1, [], _, 0, 0, 0, 0, 0, rfl, by simp, by omega, HO4, HH4, Lib.hid St.empty, HK4⟩
          case measure => simp [intOf]; omega
        · have hrd := one_bad (c := q) (by omega) h2
          have HK4 := Lib.hid (HT.out [65533] [] (by rw [hrd.1]) hrd.2)
          have d8 : decide (q < 128) = false := by simp; omega
          obtain ⟨A4, c4, w4, hrun, hO4, hb4⟩ := HO.out.app (by (try simp); omega) 65533
          have HRUN := Lib.hid hrun
          have HO4 := Lib.hid hO4
          have HH4 := Lib.hid (HH.out.keep hb4 hg)
          have HBG := Lib.hid (begin_no g q wr h2)
          clear hrun hO4 hb4 hrd HO HH HT h2
          go_wp2_with fail
          refine HBG.out.mono ?_
          rintro e wy ⟨rfl, rfl⟩
          clear HBG
          go_wp2_with (first | (at_builtin; refine wpList_app rfl (.tmp 44) (.tmp 45) _ rfl _ _ rfl rfl HRUN.out ?_))
          go_roundw
          case rel => exact ⟨_, a + 1, [], _, 0, 0, 0, 0, 0, rfl, by simp, by omega, HO4, HH4, Lib.hid St.empty, HK4⟩
          case measure => simp [intOf]; omega
        · have hrd := one_beg h2
          have HK4 := Lib.hid (HT.out [] [q] (by rw [hrd.1]) hrd.2.1)
          have HS4 := Lib.hid hrd.2.2
          have d8 : decide (q < 128) = false := by simp; omega
          have HBG := Lib.hid (begin_yes g q _ _ _ _ _ wr HH.out h2)
          clear hrd HH HT h2
          go_wp2_with fail
          refine HBG.out.mono ?_
          rintro e w4 ⟨rfl, h4, o4⟩
          have HO4 := Lib.hid (HO.out.go o4 hg)
          have HH4 := Lib.hid h4
          clear HBG h4 o4 HO
          go_wp2
          go_roundw
          case rel => exact ⟨_, a + 1, [q], _, _, _, _, _, _, rfl, by simp, by omega, HO4, HH4, HS4, by simpa using HK4⟩
          case measure => simp [intOf]; omega
      · have d5 : decide (0 < W) = true := by simp; omega
        by_cases hLH : L ≤ q ∧ q ≤ H
        · have HF := Lib.hid (follow_yes g W N P L H q wr HH.out hLH hL hH ⟨by omega, hW3⟩ ⟨hN, hN3⟩ ⟨hP, hP1⟩)
          have HY := Lib.hid ((hq q).1 hLH)
          clear hq hLH hkind HH hL hH
          go_wp2_with fail
          refine HF.out.mono ?_
          rintro e w4 ⟨rfl, h4, o4⟩
          have HO4 := Lib.hid (HO.out.go o4 hg)
          obtain ⟨M, hM⟩ : ∃ M, N - 1 = M := ⟨_, rfl⟩
          obtain ⟨P4, hP4⟩ : ∃ P4, 64 * P + q - 128 = P4 := ⟨_, rfl⟩
          have HY4 : Hid ((M = 0 → (readS (us ++ [q])).1 = [P4] ∧ waitS (us ++ [q]) = []) ∧ (M ≠ 0 → (readS (us ++ [q])).1 = [] ∧ waitS (us ++ [q]) = us ++ [q] ∧ St (us ++ [q]) (W + 1) M P4 128 191)) := Lib.hid (by rw [← hM, ← hP4]; exact HY.out)
          rw [hM, hP4] at h4
          have HH4 := Lib.hid h4
          have k2 := h4.c2
          have k3 := h4.c3
          clear HF h4 o4 HO HY hM hP4 k1
          by_cases hM0 : M = 0
          · obtain ⟨y1, y2⟩ := HY4.out.1 hM0
            have HK5 := Lib.hid (HST.out _ _ y1 y2)
            obtain ⟨A5, c5, w5, hrun, hO5, hb5⟩ := HO4.out.app (by omega) P4
            have HRUN := Lib.hid hrun
            have HO5 := Lib.hid hO5
            have HH5 := Lib.hid (HH4.out.keep hb5 hg)
            subst hM0
            clear hrun hO5 hb5 y1 y2 HY4 HST HO4 HH4
            go_wp2_with (first | (at_builtin; refine wpList_app rfl (.tmp 30) (.tmp 35) _ rfl _ _ rfl rfl HRUN.out ?_))
            refine (drop_rd g _ _ _ _ _ w5 HH5.out).mono ?_
            rintro e w6 ⟨rfl, h6, o6⟩
            have HO6 := Lib.hid (HO5.out.go o6 hg)
            have HH6 := Lib.hid h6
            clear h6 o6 HO5 HH5
            go_wp2
            go_roundw
            case rel => exact ⟨_, a + 1, [], _, 0, 0, 0, 0, 0, rfl, by simp, by omega, HO6, HH6, Lib.hid St.empty, HK5⟩
            case measure => simp [intOf]; omega
          · obtain ⟨y1, y2, y3⟩ := HY4.out.2 hM0
            have HK5 := Lib.hid (HST.out _ _ y1 y2)
            have HS5 := Lib.hid y3
            have z1 : (M == 0) = false := by simpa using hM0
            clear y1 y2 y3 HY4 HST
            go_wp2
            go_roundw
            case rel => exact ⟨_, a + 1, _, _, _, _, _, _, _, rfl, by simp, by omega, HO4, HH4, HS5, by simpa using HK5⟩
            case measure => simp [intOf]; omega
        · have HF := Lib.hid (follow_no g W N P L H q wr HH.out hLH)
          have HT : Hid (∀ ys vs : List Int, (readS [q]).1 = ys → waitS [q] = vs → At ws bs (a + 1) ((xs ++ [65533]) ++ ys) vs) := Lib.hid (fun ys vs h1 h2 => by
            obtain ⟨y1, y2⟩ := (hq q).2 hLH
            rw [List.append_assoc]
            exact HST.out _ _ (by rw [y1, h1]; rfl) (by rw [y2, h2]))
          obtain ⟨A5, c5, w5, hrun, hO5, hb5⟩ := HO.out.app (by omega) 65533
          have HRUN := Lib.hid hrun
          have HO5 := Lib.hid hO5
          have HH5 := Lib.hid (HH.out.keep hb5 hg)
          clear hq hLH HST hL hH hrun hO5 hb5 HO HH
          go_wp2_with fail
          refine HF.out.mono ?_
          rintro e wz ⟨rfl, rfl⟩
          clear HF
          go_wp2_with (first | (at_builtin; refine wpList_app rfl (.tmp 39) (.tmp 40) _ rfl _ _ rfl rfl HRUN.out ?_))
          refine (drop_rd g _ _ _ _ _ w5 HH5.out).mono ?_
          rintro e w6 ⟨rfl, h6, o6⟩
          have HO6 := Lib.hid (HO5.out.go o6 hg)
          have HH6 := Lib.hid h6
          clear h6 o6 HO5 HH5 HRUN hce2 k1
          rcases hkind with h1 | ⟨h1, h2⟩ | ⟨h1, h2⟩
          · have hrd := one_low h1
            have HK4 := Lib.hid (HT.out [q] [] (by rw [hrd.1]) hrd.2)
            have d8 : decide (q < 128) = true := by simp; omega
            obtain ⟨A4, c4, w4, hrun, hO4, hb4⟩ := HO6.out.app (by (try simp); omega) q
            rw [show (xs ++ [65533] : List Int).length = xs.length + 1 from by simp] at hrun hO4
            have HRUN := Lib.hid hrun
            have HO4 := Lib.hid hO4
            have HH4 := Lib.hid (HH6.out.keep hb4 hg)
            clear hrun hO4 hb4 hrd HO6 HH6 HT
            go_wp2_with (first | (at_builtin; refine wpList_app rfl (.tmp 50) (.tmp 53) _ rfl _ _ rfl rfl HRUN.out ?_))
            go_roundw
            case rel => exact ⟨_, a + 1, [], _, 0, 0, 0, 0, 0, rfl, by simp, by omega, HO4, HH4, Lib.hid St.empty, HK4⟩
            case measure => simp [intOf]; omega
          · have hrd := one_bad (c := q) (by omega) h2
            have HK4 := Lib.hid (HT.out [65533] [] (by rw [hrd.1]) hrd.2)
            have d8 : decide (q < 128) = false := by simp; omega
            obtain ⟨A4, c4, w4, hrun, hO4, hb4⟩ := HO6.out.app (by (try simp); omega) 65533
            rw [show (xs ++ [65533] : List Int).length = xs.length + 1 from by simp] at hrun hO4
            have HRUN := Lib.hid hrun
            have HO4 := Lib.hid hO4
            have HH4 := Lib.hid (HH6.out.keep hb4 hg)
            have HBG := Lib.hid (begin_no g q w6 h2)
            clear hrun hO4 hb4 hrd HO6 HH6 HT h2
            go_wp2_with fail
            refine HBG.out.mono ?_
            rintro e wy ⟨rfl, rfl⟩
            clear HBG
            go_wp2_with (first | (at_builtin; refine wpList_app rfl (.tmp 44) (.tmp 45) _ rfl _ _ rfl rfl HRUN.out ?_))
            go_roundw
            case rel => exact ⟨_, a + 1, [], _, 0, 0, 0, 0, 0, rfl, by simp, by omega, HO4, HH4, Lib.hid St.empty, HK4⟩
            case measure => simp [intOf]; omega
          · have hrd := one_beg h2
            have HK4 := Lib.hid (HT.out [] [q] (by rw [hrd.1]) hrd.2.1)
            have HS4 := Lib.hid hrd.2.2
            have d8 : decide (q < 128) = false := by simp; omega
            have HBG := Lib.hid (begin_yes g q _ _ _ _ _ w6 HH6.out h2)
            clear hrd HH6 HT h2
            go_wp2_with fail
            refine HBG.out.mono ?_
            rintro e w4 ⟨rfl, h4, o4⟩
            have HO4 := Lib.hid (HO6.out.go o4 hg)
            have HH4 := Lib.hid h4
            clear HBG h4 o4 HO6
            go_wp2
            go_roundw
            case rel => exact ⟨_, a + 1, [q], _, _, _, _, _, _, rfl, by simp, by omega, HO4, HH4, HS4, by simpa using HK4⟩
            case measure => simp [intOf]; omega
    · have e : a = n := by omega
      have d1 : decide ((a : Int) < (n : Int)) = false := by simp; omega
      have d2 : decide (a < n) = false := by simp; omega
      have hK := HK.out
      subst e
      unfold At at hK
      rw [List.take_of_length_le (by rw [HL.out]; exact Nat.le_refl _)] at hK
      have HKK := Lib.hid hK
      clear hK HK
      go_wp2
      try rw [Exit.noGoto_ret]
      go_returns
      obtain ⟨e1, e2⟩ := HKK.out
      rw [e1, e2]
      exact ⟨v, W, N, P, L, H, rfl, HO.out, HH.out, HS.out⟩
end Go.Proofs.Ytidjcbnjadlbaaa
