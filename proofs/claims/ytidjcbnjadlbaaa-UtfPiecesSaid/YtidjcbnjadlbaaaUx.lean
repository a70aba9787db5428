/-
  Proved here: the law UtfPieces.
-/
import Derived.Test.YtidjcbnjadlbaaaUw
set_option linter.unusedSimpArgs false
set_option linter.unusedVariables false
namespace Go.Proofs.Ytidjcbnjadlbaaa
open Go.RowKit
theorem OwnX.appl {g B : Nat} {w W : World} {v u : Value} {xs ys : List Int} (h : OwnX g w v xs W) (hL : Lies W B u ys) (hn : xs.length + ys.length ≤ 100000) :
    ∃ A c w', (Builtin.append_ #[23, 23] 23 #[v, u]).run Try.prog W = .ok (.slice A (xs.length + ys.length) c) w' ∧ OwnX g w (.slice A (xs.length + ys.length) c) (xs ++ ys) w' ∧ Below w.heap.size W w' ∧ W.grownBy w' v.ownBlock := by
  obtain ⟨v', w', r, o, gr⟩ := app_lies h.own hL hn h.only.size
  obtain ⟨A, c, rfl, _⟩ := own_slice o
  rw [List.length_append] at r o
  have hB := (Below.refl w.heap.size W).grown gr h.only.size (ownBlock_le h.own)
  exact ⟨A, c, w', r, ⟨own_cast o (by simp) rfl, h.only.then_below hB (Nat.le_refl _)⟩, hB, gr⟩
theorem OwnX.applk {g B : Nat} {w W : World} {v u : Value} {xs ys : List Int} (h : OwnX g w v xs W) (hL : Lies W B u ys) (hn : xs.length + ys.length ≤ 100000) (k : Nat) (hk : xs.length + ys.length = k) :
    ∃ A c w', (Builtin.append_ #[23, 23] 23 #[v, u]).run Try.prog W = .ok (.slice A k c) w' ∧ OwnX g w (.slice A k c) (xs ++ ys) w' ∧ Below w.heap.size W w' ∧ W.grownBy w' v.ownBlock := by
  subst hk
  exact h.appl hL hn
theorem RI.take {k : IntKind} {w : World} {A : Option Addr} {L : List Int} (h : RI k w A L) (n : Nat) : RI k w A (L.take n) := fun hp => by
  have hl : (L.take n).length ≤ L.length := by simp; omega
  obtain ⟨b, off, rfl, hb, hc⟩ := h (by omega)
  refine ⟨b, off, rfl, hb, fun i hi => ?_⟩
  rw [List.length_take] at hi
  rw [hc i (by omega)]
  simp [List.getD, show i < n by omega]
theorem RI.drop {k : IntKind} {w : World} {b off : Nat} {L : List Int} (h : RI k w (some ⟨b, off, none⟩) L) (n : Nat) : RI k w (some ⟨b, off + n, none⟩) (L.drop n) := fun hp => by
  rw [List.length_drop] at hp
  obtain ⟨b', off', e, hb, hc⟩ := h (by omega)
  injection e with e
  injection e with e1 e2 _
  subst e1 e2
  refine ⟨b, off + n, rfl, hb, fun i hi => ?_⟩
  rw [List.length_drop] at hi
  have := hc (n + i) (by omega)
  rw [Nat.add_assoc, this]
  simp [List.getD]
theorem RI.only {k : IntKind} {w : World} {A : Option Addr} {L : List Int} (h : RI k w A L) {W : World} (hb : Below w.heap.size w W) : RI k W A L := h.below hb
/-- What was read in pieces. -/
theorem pieces_step {bs : List Int} {a k : Nat} {xs us ys vs : List Int} (h1 : (readS (bs.take a)).1 = xs) (h2 : waitS (bs.take a) = us) (h3 : (readS (us ++ (bs.drop a).take k)).1 = ys) (h4 : waitS (us ++ (bs.drop a).take k) = vs) :
    (readS (bs.take (a + k))).1 = xs ++ ys ∧ waitS (bs.take (a + k)) = vs := by
  have e : bs.take (a + k) = bs.take a ++ (bs.drop a).take k := List.take_add
  rw [e, readS_app, h1, h2, h3, waitS_app, h2, h4]
  exact ⟨rfl, rfl⟩
theorem pieces_last {bs : List Int} {a : Nat} {xs us ys zs : List Int} (h1 : (readS (bs.take a)).1 = xs) (h2 : waitS (bs.take a) = us) (h3 : (readS (us ++ bs.drop a)).1 = ys) (h4 : (if 0 < (waitS (us ++ bs.drop a)).length then [65533] else []) = zs) :
    pointsS bs = (xs ++ ys) ++ zs := by
  have e1 : (readS bs).1 = xs ++ ys := by
    have := readS_app (bs.drop a) (bs.take a)
    rw [List.take_append_drop, h1, h2, h3] at this
    rw [this]
  have e2 : (readS bs).2 = (waitS (us ++ bs.drop a)).length := by
    have := waitS_app (bs.take a) (bs.drop a)
    rw [List.take_append_drop, h2] at this
    rw [← this, waitS_len]
  unfold pointsS
  rw [e1, e2, h4]
/-- At a round: what is left, what was read, what the Reader holds. -/
structure Pc (w w1 : World) (g : Nat) (bs : List Int) (v : Value) (a : Nat) (A : Option Addr) (W : World) : Prop where
  st : ∃ xs us Wt N P L H, OwnX g w1 v xs W ∧ Rd W g Wt N P L H ∧ St us Wt N P L H ∧ (readS (bs.take a)).1 = xs ∧ waitS (bs.take a) = us
  rest : RI .u8 w A (bs.drop a)
  below : Below w.heap.size w W
set_option maxRecDepth 100000 in
set_option maxHeartbeats 1000000 in
theorem pieces_law {w : World} {A B : Option Addr} {n c m d : Nat} {bs cs : List Int} (hs : SlI .u8 w A n c bs) (hs2 : SlI .u8 w B m d cs) :
    Calls Try.prog 4 #[.slice A n c, .slice B m d] w fun e w' => e = .returned (.bool true) ∧ Below w.heap.size w w' := by
  have HR := Lib.hid (sl_ri hs)
  have HL := Lib.hid hs.len_eq
  have HB := Lib.hid (sl_u8 hs)
  have hcap := hs.le
  have HR2 := Lib.hid (sl_ri hs2)
  have HL2 := Lib.hid hs2.len_eq
  have HB2 := Lib.hid (sl_u8 hs2)
  have hmax := hs.max
  clear hs hs2
  by_cases hbig : 2000 < n ∨ 300 < m
  · by_cases h1 : 2000 < n
    · have d1 : decide ((2000 : Int) < (n : Int)) = true := by simp; omega
      have d2 : decide (2000 < n) = true := by simp; omega
      clear hbig
      go_enter Try.func4, Try.ntmps4
      go_wp2_with fail
      refine (alive_any w).mono ?_
      rintro e w1 ⟨rfl, b1⟩
      go_wp2
      go_ret
      exact ⟨rfl, b1⟩
    · have d1 : decide ((2000 : Int) < (n : Int)) = false := by simp; omega
      have d2 : decide (2000 < n) = false := by simp; omega
      have d3 : decide ((300 : Int) < (m : Int)) = true := by simp; omega
      have d4 : decide (300 < m) = true := by simp; omega
      clear hbig h1
      go_enter Try.func4, Try.ntmps4
      go_wp2_with fail
      refine (alive_any w).mono ?_
      rintro e w1 ⟨rfl, b1⟩
      go_wp2
      go_ret
      exact ⟨rfl, b1⟩
  · have d1 : decide ((2000 : Int) < (n : Int)) = false := by simp; omega
    have d2 : decide (2000 < n) = false := by simp; omega
    have d3 : decide ((300 : Int) < (m : Int)) = false := by simp; omega
    have d4 : decide (300 < m) = false := by simp; omega
    have h1 : n ≤ 2000 := by omega
    have h2 : m ≤ 300 := by omega
    have hmx : c ≤ 9223372036854775807 := by unfold maxLen at hmax; omega
    clear hbig hmax
    go_enter Try.func4, Try.ntmps4
    go_wp2_with fail
    refine (new_rd w).mono ?_
    rintro e w1 ⟨rfl, r1, b1, z1⟩
    have HP0 : Hid (Pc w w1 w.heap.size bs (.slice none 0 0) 0 A w1) := Lib.hid ⟨⟨[], [], 0, 0, 0, 0, 0, OwnX.new _ _, r1, St.empty, by rw [List.take_zero]; rfl, by rw [List.take_zero]; rfl⟩, by rw [List.drop_zero]; exact HR.out, b1⟩
    have HZ1 := Lib.hid z1
    have HB1 := Lib.hid b1
    have HN0 : (n : Int) - ((0 : Nat) : Int) = (n : Int) := by omega
    clear r1 b1 z1
    go_wp2
    go_loopw [6, 7, 8, 9, 10, 11] (fun ov rv iv _ _ _ wr => ∃ (v : Value) (A' : Option Addr) (i a l c' : Nat), v = ov ∧ rv = .slice A' l c' ∧ iv = .int .i64 i ∧ i ≤ m ∧ a + l = n ∧ l ≤ c' ∧ c' ≤ 9223372036854775807 ∧ Hid (Pc w w1 w.heap.size bs v a A' wr)) (fun _ _ iv _ _ _ _ => m - (intOf iv).toNat)
    case atStart => exact ⟨_, A, 0, 0, n, c, rfl, rfl, rfl, by omega, by omega, hcap, hmx, HP0⟩
    case round =>
      obtain ⟨v, A', i, a, l, c', rfl, rfl, rfl, hi, hal, hlc, hcm, HP⟩ := hrel
      clear HP0
      by_cases hgo : i < m ∧ 0 < l
      · obtain ⟨him, hl0⟩ := hgo
        have d5 : decide ((i : Int) < (m : Int)) = true := by simp; omega
        have d6 : decide (i < m) = true := by simp; omega
        have d7 : decide ((0 : Int) < (l : Int)) = true := by simp; omega
        have d8 : decide (0 < l) = true := by simp; omega
        obtain ⟨bc, oc, rfl, hbc, hcc⟩ := HR2.out (by rw [HL2.out]; omega)
        have hc0 := hcc i (by rw [HL2.out]; exact him)
        obtain ⟨x, hx⟩ : ∃ x, cs.getD i 0 = x := ⟨_, rfl⟩
        rw [hx] at hc0
        have e0 := (HP.out.below.cell (p := ⟨bc, oc + i, none⟩) hbc).trans hc0
        obtain ⟨x0, x1⟩ := range_at HL2.out HB2.out i him
        rw [hx] at x0 x1
        obtain ⟨q, hq⟩ : ∃ q : Nat, x % 4 = q := ⟨(x % 4).toNat, by omega⟩
        have hq4 : q < 4 := by omega
        have hb3 : bits .and .u8 x 3 = (q : Int) := (bits_mask .u8 8 (by decide) wraps_u8 2 (by decide) x x0 x1).trans hq
        have hdl : (bs.drop a).length = l := by rw [List.length_drop, HL.out]; omega
        obtain ⟨ba, oa, rfl, hba, _⟩ := HP.out.rest (by rw [hdl]; exact hl0)
        have g3 : (0 : Int) ≤ (i : Int) := by omega
        have g4 : (i : Int) < (m : Int) := by omega
        have HDL := Lib.hid hdl
        clear hcc hc0 hx hq hdl x0 x1
        obtain ⟨k, hk⟩ : ∃ k, min q l = k := ⟨_, rfl⟩
        have hkl : k ≤ l := by omega
        obtain ⟨xs, us, Wt, N, P, L, H, o, r, s, t1, t2⟩ := HP.out.st
        have hrun := read_any (c := c') (bs := (bs.drop a).take k) (n := k) r s ((HP.out.rest.below HP.out.below).take k) (by rw [List.length_take, HDL.out]; omega) (by omega) (fun _ ad e => by
          injection e with e
          subst e
          exact Nat.ne_of_lt hba) (range_at (by rw [List.length_take, HDL.out]; omega) (fun y hy => HB.out y (List.mem_of_mem_drop (List.mem_of_mem_take hy))))
        have hxl : xs.length ≤ 2000 := by
          have := (read_len (bs.take a)).1
          rw [t1, List.length_take, HL.out] at this
          omega
        have hyl : ((readS (us ++ (bs.drop a).take k)).1).length ≤ 2003 := by
          have := (read_len (us ++ (bs.drop a).take k)).1
          rw [List.length_append, List.length_take, HDL.out] at this
          have := s.len.1
          omega
        have HRUN := Lib.hid hrun
        have HO := Lib.hid o
        have HRT := Lib.hid HP.out.rest
        have HBL := Lib.hid HP.out.below
        have HST : Hid (∀ ys vs : List Int, (readS (us ++ (bs.drop a).take k)).1 = ys → waitS (us ++ (bs.drop a).take k) = vs → (readS (bs.take (a + k))).1 = xs ++ ys ∧ waitS (bs.take (a + k)) = vs) := Lib.hid (fun ys vs h3 h4 => pieces_step t1 t2 h3 h4)
        have hcase : (q ≤ l ∧ k = q) ∨ (l < q ∧ k = l) := by omega
        clear o r s t1 t2 hrun hk HP
        rcases hcase with ⟨h5, rfl⟩ | ⟨h5, rfl⟩
        · have d9 : decide ((l : Int) < (k : Int)) = false := by simp; omega
          have d10 : decide (l < k) = false := by simp; omega
          have g5 : (0 : Int) ≤ (k : Int) := by omega
          by_cases hkc : k = c'
          · subst hkc
            have HRT2 : Hid (RI .u8 w (some ⟨ba, oa, none⟩) (bs.drop (a + k))) := Lib.hid (by have e : bs.drop (a + k) = [] := List.drop_eq_nil_of_le (by rw [HL.out]; omega); rw [e]; exact RI.nothing _ _ _)
            go_wp2_with fail
            refine HRUN.out.mono ?_
            rintro e w2 ⟨v2, W2, N2, P2, L2, H2, rfl, o2, r2, s2⟩
            obtain ⟨A3, c3, w3, hrun3, o3, b3, _⟩ := (HO.out.go o2.only (by rw [HZ1.out]; omega)).appl o2.lies (by omega)
            obtain ⟨t1, t2⟩ := HST.out _ _ rfl rfl
            have HP3 : Hid (Pc w w1 w.heap.size bs _ (a + k) (some ⟨ba, oa, none⟩) w3) := Lib.hid ⟨⟨_, _, W2, N2, P2, L2, H2, o3, r2.keep b3 (by rw [HZ1.out]; omega), s2, t1, t2⟩, HRT2.out, o3.only.below HB1.out (Nat.le_refl _) (by rw [HZ1.out]; omega)⟩
            have HRUN3 := Lib.hid hrun3
            clear HRUN HST o2 r2 s2 hrun3 o3 b3 t1 t2 HO HRT HRT2 HBL
            go_wp2_with (first | (at_builtin; refine wpList_app rfl (.tmp 60) (.tmp 61) _ rfl _ _ rfl rfl HRUN3.out ?_))
            go_roundw
            case rel => exact ⟨_, _, i + 1, a + k, _, _, rfl, rfl, by go_num, by omega, by omega, by omega, by omega, HP3⟩
            case measure => simp [intOf]; omega
          · have hkc2 : k < c' := by omega
            have HRT2 : Hid (RI .u8 w (some ⟨ba, oa + k, none⟩) (bs.drop (a + k))) := Lib.hid (by rw [← List.drop_drop]; exact HRT.out.drop k)
            go_wp2_with fail
            refine HRUN.out.mono ?_
            rintro e w2 ⟨v2, W2, N2, P2, L2, H2, rfl, o2, r2, s2⟩
            obtain ⟨A3, c3, w3, hrun3, o3, b3, _⟩ := (HO.out.go o2.only (by rw [HZ1.out]; omega)).appl o2.lies (by omega)
            obtain ⟨t1, t2⟩ := HST.out _ _ rfl rfl
            have HP3 : Hid (Pc w w1 w.heap.size bs _ (a + k) (some ⟨ba, oa + k, none⟩) w3) := Lib.hid ⟨⟨_, _, W2, N2, P2, L2, H2, o3, r2.keep b3 (by rw [HZ1.out]; omega), s2, t1, t2⟩, HRT2.out, o3.only.below HB1.out (Nat.le_refl _) (by rw [HZ1.out]; omega)⟩
            have HRUN3 := Lib.hid hrun3
            clear HRUN HST o2 r2 s2 hrun3 o3 b3 t1 t2 HO HRT HRT2 HBL
            go_wp2_with (first | (at_builtin; refine wpList_app rfl (.tmp 60) (.tmp 61) _ rfl _ _ rfl rfl HRUN3.out ?_))
            go_roundw
            case rel => exact ⟨_, _, i + 1, a + k, _, _, rfl, rfl, by go_num, by omega, by omega, by omega, by omega, HP3⟩
            case measure => simp [intOf]; omega
        · have d9 : decide ((k : Int) < (q : Int)) = true := by simp; omega
          have d10 : decide (k < q) = true := by simp; omega
          have g5 : (0 : Int) ≤ (k : Int) := by omega
          by_cases hkc : k = c'
          · subst hkc
            have HRT2 : Hid (RI .u8 w (some ⟨ba, oa, none⟩) (bs.drop (a + k))) := Lib.hid (by have e : bs.drop (a + k) = [] := List.drop_eq_nil_of_le (by rw [HL.out]; omega); rw [e]; exact RI.nothing _ _ _)
            go_wp2_with fail
            refine HRUN.out.mono ?_
            rintro e w2 ⟨v2, W2, N2, P2, L2, H2, rfl, o2, r2, s2⟩
            obtain ⟨A3, c3, w3, hrun3, o3, b3, _⟩ := (HO.out.go o2.only (by rw [HZ1.out]; omega)).appl o2.lies (by omega)
            obtain ⟨t1, t2⟩ := HST.out _ _ rfl rfl
            have HP3 : Hid (Pc w w1 w.heap.size bs _ (a + k) (some ⟨ba, oa, none⟩) w3) := Lib.hid ⟨⟨_, _, W2, N2, P2, L2, H2, o3, r2.keep b3 (by rw [HZ1.out]; omega), s2, t1, t2⟩, HRT2.out, o3.only.below HB1.out (Nat.le_refl _) (by rw [HZ1.out]; omega)⟩
            have HRUN3 := Lib.hid hrun3
            clear HRUN HST o2 r2 s2 hrun3 o3 b3 t1 t2 HO HRT HRT2 HBL
            go_wp2_with (first | (at_builtin; refine wpList_app rfl (.tmp 60) (.tmp 61) _ rfl _ _ rfl rfl HRUN3.out ?_))
            go_roundw
            case rel => exact ⟨_, _, i + 1, a + k, _, _, rfl, rfl, by go_num, by omega, by omega, by omega, by omega, HP3⟩
            case measure => simp [intOf]; omega
          · have hkc2 : k < c' := by omega
            have HRT2 : Hid (RI .u8 w (some ⟨ba, oa + k, none⟩) (bs.drop (a + k))) := Lib.hid (by rw [← List.drop_drop]; exact HRT.out.drop k)
            go_wp2_with fail
            refine HRUN.out.mono ?_
            rintro e w2 ⟨v2, W2, N2, P2, L2, H2, rfl, o2, r2, s2⟩
            obtain ⟨A3, c3, w3, hrun3, o3, b3, _⟩ := (HO.out.go o2.only (by rw [HZ1.out]; omega)).appl o2.lies (by omega)
            obtain ⟨t1, t2⟩ := HST.out _ _ rfl rfl
            have HP3 : Hid (Pc w w1 w.heap.size bs _ (a + k) (some ⟨ba, oa + k, none⟩) w3) := Lib.hid ⟨⟨_, _, W2, N2, P2, L2, H2, o3, r2.keep b3 (by rw [HZ1.out]; omega), s2, t1, t2⟩, HRT2.out, o3.only.below HB1.out (Nat.le_refl _) (by rw [HZ1.out]; omega)⟩
            have HRUN3 := Lib.hid hrun3
            clear HRUN HST o2 r2 s2 hrun3 o3 b3 t1 t2 HO HRT HRT2 HBL
            go_wp2_with (first | (at_builtin; refine wpList_app rfl (.tmp 60) (.tmp 61) _ rfl _ _ rfl rfl HRUN3.out ?_))
            go_roundw
            case rel => exact ⟨_, _, i + 1, a + k, _, _, rfl, rfl, by go_num, by omega, by omega, by omega, by omega, HP3⟩
            case measure => simp [intOf]; omega
      · obtain ⟨xs, us, Wt, N, P, L, H, o, r, s, t1, t2⟩ := HP.out.st
        have hdl : (bs.drop a).length = l := by rw [List.length_drop, HL.out]; omega
        have HRUN := Lib.hid (read_any (c := c') (bs := bs.drop a) (n := l) r s (HP.out.rest.below HP.out.below) hdl (by omega) (fun hp ad e => by
          obtain ⟨b, off, e2, hlt, _⟩ := HP.out.rest (by rw [hdl]; exact hp)
          rw [e2] at e
          injection e with e
          subst e
          exact Nat.ne_of_lt hlt) (range_at hdl (fun y hy => HB.out y (List.mem_of_mem_drop hy))))
        have HO := Lib.hid o
        have HST : Hid (∀ ys zs : List Int, (readS (us ++ bs.drop a)).1 = ys → (if 0 < (waitS (us ++ bs.drop a)).length then [65533] else []) = zs → pointsS bs = (xs ++ ys) ++ zs) := Lib.hid (fun ys zs h3 h4 => pieces_last t1 t2 h3 h4)
        clear o r s t1 t2 hdl HP HR2
        by_cases him : i < m
        · have hl0 : l = 0 := by omega
          have d5 : decide ((i : Int) < (m : Int)) = true := by simp; omega
          have d6 : decide (i < m) = true := by simp; omega
          have d7 : decide ((0 : Int) < (l : Int)) = false := by simp; omega
          have d8 : decide (0 < l) = false := by simp; omega
          clear hgo hl0
          go_wp2_with fail
          refine HRUN.out.mono ?_
          rintro e w2 ⟨v2, W2, N2, P2, L2, H2, rfl, o2, r2, s2⟩
          have hend := end_rd r2 s2
          obtain ⟨ys, hys⟩ : ∃ ys, (readS (us ++ bs.drop a)).1 = ys := ⟨_, rfl⟩
          obtain ⟨zs, hzs⟩ : ∃ zs : List Int, (if 0 < (waitS (us ++ bs.drop a)).length then [65533] else []) = zs := ⟨_, rfl⟩
          have hps := HST.out ys zs hys hzs
          rw [hzs] at hend
          rw [hys] at o2
          have hpl := (points_len bs).1
          rw [hps, HL.out, List.length_append, List.length_append] at hpl
          have HEND := Lib.hid hend
          have HOO := Lib.hid (HO.out.go o2.only (by rw [HZ1.out]; omega))
          have HL2' := Lib.hid o2.lies
          have hsz2 : w.heap.size < wr.heap.size := by have := HO.out.only.size; rw [HZ1.out] at this; omega
          have HPS := Lib.hid hps
          clear HRUN HST o2 r2 s2 hend hys hzs HO hps
          go_wp2_with fail
          refine HEND.out.mono ?_
          rintro e w3 ⟨v3, rfl, l3, o3, r3⟩
          have hO3 := HOO.out.go o3 (by rw [HZ1.out]; omega)
          obtain ⟨k4, hk4⟩ : ∃ k, xs.length + ys.length = k := ⟨_, rfl⟩
          obtain ⟨A4, c4, w4, hrun4, o4, b4, g4⟩ := hO3.applk (HL2'.out.go o3 hsz2) (by omega) k4 hk4
          have l4 := l3.keep g4.size fun k h1 h2 => g4.block k h2 (fun e => by have := (HOO.out.own.lt k e.symm).2; omega)
          obtain ⟨k5, hk5⟩ : ∃ k, (xs ++ ys).length + zs.length = k := ⟨_, rfl⟩
          obtain ⟨A5, c5, w5, hrun5, o5, b5, _⟩ := o4.applk l4 (by rw [List.length_append]; omega) k5 hk5
          have hpk : (pointsS bs).length = k5 := by rw [HPS.out, List.length_append]; exact hk5
          have hk5l : k5 ≤ 2000 := by rw [List.length_append] at hk5; omega
          have HR5 := Lib.hid ((r3.keep b4 (by rw [HZ1.out]; omega)).keep b5 (by rw [HZ1.out]; omega))
          have HO5 := Lib.hid o5
          have HB5 := Lib.hid (o5.only.below HB1.out (Nat.le_refl _) (by rw [HZ1.out]; omega))
          have HPK := Lib.hid hpk
          have HRUN4 := Lib.hid hrun4
          have HRUN5 := Lib.hid hrun5
          clear HEND HOO HL2' l3 o3 r3 hO3 hrun4 o4 b4 g4 l4 hrun5 o5 b5 hpk hk4 hk5 hpl
          go_wp2_with (first | (at_builtin; refine wpList_app rfl (.tmp 77) (.tmp 78) _ rfl _ _ rfl rfl HRUN4.out ?_) | (at_builtin; refine wpList_app rfl (.tmp 79) (.tmp 80) _ rfl _ _ rfl rfl HRUN5.out ?_))
          refine (alive_any _).mono ?_
          rintro e w6 ⟨rfl, b6⟩
          have HB6 := Lib.hid (HB5.out.trans (b6.mono HB5.out.size))
          have HR6 := Lib.hid (HR5.out.below b6)
          have hl5 := HO5.out.lies.to b6
          rw [← HPS.out] at hl5
          obtain ⟨A5', c5', e5, _, hR5, _⟩ := hl5.at_
          injection e5 with e51 e52 e53
          subst e51 e53
          have HR5' := Lib.hid hR5
          have HP6 := Lib.hid (points_sl (c := c) (k := k5) (HR.out.below HB6.out) HL.out (by omega) HB.out rfl HPK.out)
          clear b6 HB5 HR5 HO5 hl5 e52 hR5 HRUN4 HRUN5
          go_wp2_with fail
          refine HP6.out.mono ?_
          rintro e w7 ⟨A7, c7, rfl, r7, _, b7⟩
          have HB7 := Lib.hid (HB6.out.trans (b7.mono HB6.out.size))
          have HR7 := Lib.hid (HR6.out.below b7)
          have HSM := Lib.hid (same_yes (c := c5) (d := c7) (HR5'.out.below b7) r7 HPK.out HPK.out (by omega) rfl)
          clear r7 b7 HP6 HB6 HR6 HR5'
          go_wp2_with fail
          refine HSM.out.mono ?_
          rintro e w8 ⟨rfl, b8⟩
          have HB8 := Lib.hid (HB7.out.trans (b8.mono HB7.out.size))
          have HW8 := Lib.hid (waits_rd _ _ _ _ _ _ w8 (HR7.out.below b8))
          clear b8 HSM HB7 HR7
          go_wp2_with fail
          refine HW8.out.mono ?_
          rintro e w9 ⟨rfl, rfl⟩
          go_wp2
          go_ret
          exact ⟨rfl, HB8.out⟩
        · have d5 : decide ((i : Int) < (m : Int)) = false := by simp; omega
          have d6 : decide (i < m) = false := by simp; omega
          clear hgo
          go_wp2_with fail
          refine HRUN.out.mono ?_
          rintro e w2 ⟨v2, W2, N2, P2, L2, H2, rfl, o2, r2, s2⟩
          have hend := end_rd r2 s2
          obtain ⟨ys, hys⟩ : ∃ ys, (readS (us ++ bs.drop a)).1 = ys := ⟨_, rfl⟩
          obtain ⟨zs, hzs⟩ : ∃ zs : List Int, (if 0 < (waitS (us ++ bs.drop a)).length then [65533] else []) = zs := ⟨_, rfl⟩
          have hps := HST.out ys zs hys hzs
          rw [hzs] at hend
          rw [hys] at o2
          have hpl := (points_len bs).1
          rw [hps, HL.out, List.length_append, List.length_append] at hpl
          have HEND := Lib.hid hend
          have HOO := Lib.hid (HO.out.go o2.only (by rw [HZ1.out]; omega))
          have HL2' := Lib.hid o2.lies
          have hsz2 : w.heap.size < wr.heap.size := by have := HO.out.only.size; rw [HZ1.out] at this; omega
          have HPS := Lib.hid hps
          clear HRUN HST o2 r2 s2 hend hys hzs HO hps
          go_wp2_with fail
          refine HEND.out.mono ?_
          rintro e w3 ⟨v3, rfl, l3, o3, r3⟩
          have hO3 := HOO.out.go o3 (by rw [HZ1.out]; omega)
          obtain ⟨k4, hk4⟩ : ∃ k, xs.length + ys.length = k := ⟨_, rfl⟩
          obtain ⟨A4, c4, w4, hrun4, o4, b4, g4⟩ := hO3.applk (HL2'.out.go o3 hsz2) (by omega) k4 hk4
          have l4 := l3.keep g4.size fun k h1 h2 => g4.block k h2 (fun e => by have := (HOO.out.own.lt k e.symm).2; omega)
          obtain ⟨k5, hk5⟩ : ∃ k, (xs ++ ys).length + zs.length = k := ⟨_, rfl⟩
          obtain ⟨A5, c5, w5, hrun5, o5, b5, _⟩ := o4.applk l4 (by rw [List.length_append]; omega) k5 hk5
          have hpk : (pointsS bs).length = k5 := by rw [HPS.out, List.length_append]; exact hk5
          have hk5l : k5 ≤ 2000 := by rw [List.length_append] at hk5; omega
          have HR5 := Lib.hid ((r3.keep b4 (by rw [HZ1.out]; omega)).keep b5 (by rw [HZ1.out]; omega))
          have HO5 := Lib.hid o5
          have HB5 := Lib.hid (o5.only.below HB1.out (Nat.le_refl _) (by rw [HZ1.out]; omega))
          have HPK := Lib.hid hpk
          have HRUN4 := Lib.hid hrun4
          have HRUN5 := Lib.hid hrun5
          clear HEND HOO HL2' l3 o3 r3 hO3 hrun4 o4 b4 g4 l4 hrun5 o5 b5 hpk hk4 hk5 hpl
          go_wp2_with (first | (at_builtin; refine wpList_app rfl (.tmp 77) (.tmp 78) _ rfl _ _ rfl rfl HRUN4.out ?_) | (at_builtin; refine wpList_app rfl (.tmp 79) (.tmp 80) _ rfl _ _ rfl rfl HRUN5.out ?_))
          refine (alive_any _).mono ?_
          rintro e w6 ⟨rfl, b6⟩
          have HB6 := Lib.hid (HB5.out.trans (b6.mono HB5.out.size))
          have HR6 := Lib.hid (HR5.out.below b6)
          have hl5 := HO5.out.lies.to b6
          rw [← HPS.out] at hl5
          obtain ⟨A5', c5', e5, _, hR5, _⟩ := hl5.at_
          injection e5 with e51 e52 e53
          subst e51 e53
          have HR5' := Lib.hid hR5
          have HP6 := Lib.hid (points_sl (c := c) (k := k5) (HR.out.below HB6.out) HL.out (by omega) HB.out rfl HPK.out)
          clear b6 HB5 HR5 HO5 hl5 e52 hR5 HRUN4 HRUN5
          go_wp2_with fail
          refine HP6.out.mono ?_
          rintro e w7 ⟨A7, c7, rfl, r7, _, b7⟩
          have HB7 := Lib.hid (HB6.out.trans (b7.mono HB6.out.size))
          have HR7 := Lib.hid (HR6.out.below b7)
          have HSM := Lib.hid (same_yes (c := c5) (d := c7) (HR5'.out.below b7) r7 HPK.out HPK.out (by omega) rfl)
          clear r7 b7 HP6 HB6 HR6 HR5'
          go_wp2_with fail
          refine HSM.out.mono ?_
          rintro e w8 ⟨rfl, b8⟩
          have HB8 := Lib.hid (HB7.out.trans (b8.mono HB7.out.size))
          have HW8 := Lib.hid (waits_rd _ _ _ _ _ _ w8 (HR7.out.below b8))
          clear b8 HSM HB7 HR7
          go_wp2_with fail
          refine HW8.out.mono ?_
          rintro e w9 ⟨rfl, rfl⟩
          go_wp2
          go_ret
          exact ⟨rfl, HB8.out⟩
end Go.Proofs.Ytidjcbnjadlbaaa
