/-
  Proved here: the law UtfPlain.
-/
import Derived.Test.YtidjcbnjadlbaaaUv
import Derived.Deep.RegionHeld3
set_option linter.unusedSimpArgs false
set_option linter.unusedVariables false
namespace Go.Proofs.Ytidjcbnjadlbaaa
open Go.RowKit
theorem own_apart {W : World} {b b' : Nat} {e1 e2 : TypeId} {v u : Value} {n m : Nat} {xs ys : List Value} (h : W.ownsRow b e1 1 v n xs) (k : W.ownsRow b' e2 1 u m ys) (he : e1 ≠ e2) : ∀ g, v.ownBlock = some g → u.ownBlock ≠ some g := by
  intro g hg hu
  rcases h.2 with ⟨rfl, _⟩ | ⟨g1, cap1, cur1, rfl, _, hc1, _⟩
  · simp [Value.ownBlock] at hg
  · rcases k.2 with ⟨rfl, _⟩ | ⟨g2, cap2, cur2, rfl, _, hc2, _⟩
    · simp [Value.ownBlock] at hu
    · simp [Value.ownBlock] at hg hu
      subst hg hu
      rw [hc1] at hc2
      injection hc2 with hc2
      injection hc2 with _ hc2 _
      exact he hc2
theorem own_kept {W w' : World} {b b' : Nat} {e1 e2 : TypeId} {v u : Value} {n m : Nat} {xs ys : List Value} (h : W.ownsRow b e1 1 v n xs) (k : W.ownsRow b' e2 1 u m ys) (he : e1 ≠ e2) (hg : W.grownBy w' v.ownBlock) : w'.ownsRow b' e2 1 u m ys :=
  k.kept hg (by
    cases hv : u.ownBlock with
    | none => exact .inl rfl
    | some g => exact .inr fun e => own_apart h k he g e.symm hv)
/-- Two rows of this call's own: bytes and points. -/
structure Two (w : World) (v u : Value) (xs ys : List Int) (W : World) : Prop where
  o8 : W.ownsRow w.heap.size 5 1 v xs.length (NV .u8 xs)
  o32 : W.ownsRow w.heap.size 21 1 u ys.length (NV .i32 ys)
  below : Below w.heap.size w W
theorem Two.to {w W W' : World} {v u : Value} {xs ys : List Int} (h : Two w v u xs ys W) (hb : Below W.heap.size W W') : Two w v u xs ys W' := ⟨own_below h.o8 hb, own_below h.o32 hb, h.below.trans (hb.mono h.below.size)⟩
theorem Two.new (w : World) : Two w (.slice none 0 0) (.slice none 0 0) [] [] w := ⟨World.ownsRow_nil _ _ _ _, World.ownsRow_nil _ _ _ _, Below.refl _ _⟩
theorem Two.app8 {w W : World} {v u : Value} {xs ys : List Int} (h : Two w v u xs ys W) (hn : xs.length < 100000) (x : Int) :
    ∃ A c w', (Builtin.append_ #[22, 22] 22 #[v, .slice (some ⟨W.heap.size, 0, none⟩) 1 1]).run Try.prog (W.alloc (.cells #[.int .u8 x] 5)) = .ok (.slice A (xs.length + 1) c) w' ∧ Two w (.slice A (xs.length + 1) c) u (xs ++ [x]) ys w' := by
  have h1 := h.to ((Below.refl _ _).alloc (Nat.le_refl _) (.cells #[.int .u8 x] 5))
  obtain ⟨v', w', r, o, g⟩ := app_u8 (ys := [x]) (m := 1) rfl 1 (RI.one .u8 W x 5) (fun e => by cases e) h1.o8 (by omega) h1.below.size
  obtain ⟨A, c, rfl, _⟩ := own_slice o
  exact ⟨A, c, w', r, own_cast o (by simp) rfl, own_kept h1.o8 h1.o32 (by decide) g, h1.below.grown g h1.below.size (ownBlock_le h.o8)⟩
theorem Two.app32 {w W : World} {v u : Value} {xs ys : List Int} (h : Two w v u xs ys W) (hn : ys.length < 100000) (x : Int) :
    ∃ A c w', (Builtin.append_ #[23, 23] 23 #[u, .slice (some ⟨W.heap.size, 0, none⟩) 1 1]).run Try.prog (W.alloc (.cells #[.int .i32 x] 21)) = .ok (.slice A (ys.length + 1) c) w' ∧ Two w v (.slice A (ys.length + 1) c) xs (ys ++ [x]) w' := by
  have h1 := h.to ((Below.refl _ _).alloc (Nat.le_refl _) (.cells #[.int .i32 x] 21))
  obtain ⟨v', w', r, o, g⟩ := app_i32 (ys := [x]) (m := 1) rfl 1 (RI.one .i32 W x 21) (fun e => by cases e) h1.o32 (by omega) h1.below.size
  obtain ⟨A, c, rfl, _⟩ := own_slice o
  exact ⟨A, c, w', r, own_kept h1.o32 h1.o8 (by decide) g, own_cast o (by simp) rfl, h1.below.grown g h1.below.size (ownBlock_le h.o32)⟩
theorem Two.own8 {w W : World} {v u : Value} {xs ys : List Int} (h : Two w v u xs ys W) : Own8 w v xs W := ⟨h.o8, h.below⟩
theorem Two.own32 {w W : World} {v u : Value} {xs ys : List Int} (h : Two w v u xs ys W) : Own32 w u ys W := ⟨h.o32, h.below⟩
/-- The low bits of the bytes. -/
def lowL (bs : List Int) : List Int := bs.map fun b => b % 128
theorem lowL_range {bs : List Int} : ∀ x ∈ lowL bs, 0 ≤ x ∧ x < 128 := fun x hx => by
  obtain ⟨b, _, rfl⟩ := List.mem_map.1 hx
  omega
theorem lowL_snoc {bs : List Int} {i : Nat} {q : Int} (hi : i < bs.length) (hq : bs.getD i 0 = q) : lowL (bs.take (i + 1)) = lowL (bs.take i) ++ [q % 128] := by
  rw [take_succ hi, hq]; simp [lowL]
theorem lowL_len (bs : List Int) : (lowL bs).length = bs.length := by simp [lowL]
/-- Points, as a slice that reads. -/
theorem points_sl {w : World} {A : Option Addr} {n c k : Nat} {bs ps : List Int} (hR : RI .u8 w A bs) (hl : bs.length = n) (hn : n ≤ 10000) (hb : ∀ x ∈ bs, 0 ≤ x ∧ x < 256) (hp : pointsS bs = ps) (hk : ps.length = k) :
    Calls Try.prog 18 #[.slice A n c] w fun e w' => ∃ A' c', e = .returned (.slice A' k c') ∧ RI .i32 w' A' ps ∧ k ≤ c' ∧ Below w.heap.size w w' := by
  subst hk hp
  refine (points_any hR hl hn (range_at hl hb)).mono ?_
  rintro e w' ⟨v, rfl, o⟩
  obtain ⟨A', c', rfl, h1, _⟩ := own_slice o.own
  exact ⟨A', c', rfl, o.rd.1, h1, o.below⟩
/-- Bytes, as a slice that reads. -/
theorem pbytes_sl {w : World} {A : Option Addr} {n c k : Nat} {l bs : List Int} (hR : RI .i32 w A l) (hl : l.length = n) (hn : n ≤ 20000) (hp : bytesL l = bs) (hk : bs.length = k) :
    Calls Try.prog 19 #[.slice A n c] w fun e w' => ∃ A' c', e = .returned (.slice A' k c') ∧ RI .u8 w' A' bs ∧ Below w.heap.size w w' := by
  subst hk hp
  refine (pbytes_any hR hl hn).mono ?_
  rintro e w' ⟨v, rfl, o⟩
  obtain ⟨A', c', rfl, _⟩ := own_slice o.own
  exact ⟨A', c', rfl, o.ri.1, o.below⟩
set_option maxRecDepth 100000 in
set_option maxHeartbeats 1000000 in
theorem plain_law {w : World} {A : Option Addr} {n c : Nat} {bs : List Int} (hs : SlI .u8 w A n c bs) (f : Int) (hf : 0 ≤ f ∧ f < 256) :
    Calls Try.prog 6 #[.slice A n c, .int .u8 f] w fun e w' => e = .returned (.bool true) ∧ Below w.heap.size w w' := by
  have HR := Lib.hid (sl_ri hs)
  have HL := Lib.hid hs.len_eq
  have HB := Lib.hid (sl_u8 hs)
  obtain ⟨f0, f1⟩ := hf
  clear hs
  by_cases hbig : 1000 < n
  · have d1 : decide ((1000 : Int) < (n : Int)) = true := by simp; omega
    have d2 : decide (1000 < n) = true := by simp; omega
    go_enter Try.func6, Try.ntmps6
    go_wp2_with fail
    refine (alive_any w).mono ?_
    rintro e w1 ⟨rfl, b1⟩
    go_wp2
    go_ret
    exact ⟨rfl, b1⟩
  · have d1 : decide ((1000 : Int) < (n : Int)) = false := by simp; omega
    have d2 : decide (1000 < n) = false := by simp; omega
    have h1 : n ≤ 1000 := by omega
    have HO0 : Hid (Two w (.slice none 0 0) (.slice none 0 0) (lowL (bs.take 0)) (lowL (bs.take 0)) w) := Lib.hid (Two.new w)
    clear hbig
    go_enter Try.func6, Try.ntmps6
    go_wp2
    go_loopw [5, 6, 7] (fun uv ov iv wr => ∃ (v u : Value) (i : Nat), v = ov ∧ u = uv ∧ iv = .int .i64 i ∧ i ≤ n ∧ Hid (Two w v u (lowL (bs.take i)) (lowL (bs.take i)) wr)) (fun _ _ iv _ => n - (intOf iv).toNat)
    case atStart => exact ⟨_, _, 0, rfl, rfl, rfl, by omega, HO0⟩
    case round =>
      obtain ⟨v, u, i, rfl, rfl, rfl, hi, HO⟩ := hrel
      clear HO0
      by_cases hin : i < n
      · have d5 : decide ((i : Int) < (n : Int)) = true := by simp; omega
        have d6 : decide (i < n) = true := by simp; omega
        obtain ⟨bl, off, rfl, hbl, hc⟩ := HR.out (by rw [HL.out]; omega)
        have hc0 := hc i (by rw [HL.out]; exact hin)
        obtain ⟨q, hq⟩ : ∃ q, bs.getD i 0 = q := ⟨_, rfl⟩
        rw [hq] at hc0
        have e0 := (HO.out.below.cell (p := ⟨bl, off + i, none⟩) hbl).trans hc0
        have hsn := lowL_snoc (bs := bs) (i := i) (by rw [HL.out]; exact hin) hq
        have hlen : (lowL (bs.take i)).length ≤ i := by rw [lowL_len]; simp; omega
        obtain ⟨q0, q1⟩ := range_at HL.out HB.out i hin
        rw [hq] at q0 q1
        have hb127 : bits .and .u8 q 127 = q % 128 := bits_mask .u8 8 (by decide) wraps_u8 7 (by decide) q q0 q1
        have g3 : (0 : Int) ≤ (i : Int) := by omega
        have g4 : (i : Int) < (n : Int) := by omega
        obtain ⟨A4, c4, w4, hrun4, hO4⟩ := HO.out.app8 (by omega) (q % 128)
        obtain ⟨A5, c5, w5, hrun5, hO5⟩ := hO4.app32 (by omega) (q % 128)
        have e4 := (hO4.below.cell (p := ⟨bl, off + i, none⟩) hbl).trans hc0
        rw [← hsn] at hO5
        have HRUN4 := Lib.hid hrun4
        have HRUN5 := Lib.hid hrun5
        have HO5 := Lib.hid hO5
        clear hc hc0 hq hsn hlen hrun4 hrun5 hO4 hO5 HO
        go_wp2_with (first | (at_builtin; refine wpList_app rfl (.tmp 19) (.tmp 25) _ rfl _ _ rfl rfl HRUN4.out ?_) | (at_builtin; refine wpList_app rfl (.tmp 27) (.tmp 34) _ rfl _ _ rfl rfl HRUN5.out ?_))
        go_roundw
        case rel => exact ⟨_, _, i + 1, rfl, rfl, by go_num, by omega, HO5⟩
        case measure => simp [intOf]; omega
      · have e : i = n := by omega
        have d5 : decide ((i : Int) < (n : Int)) = false := by simp; omega
        have d6 : decide (i < n) = false := by simp; omega
        have hO := HO.out
        rw [List.take_of_length_le (by rw [HL.out]; omega)] at hO
        have hlen := lowL_len bs
        rw [HL.out] at hlen
        obtain ⟨zs, hzs⟩ : ∃ zs, lowL bs = zs := ⟨_, rfl⟩
        rw [hzs] at hO hlen
        have hrg : ∀ x ∈ zs, 0 ≤ x ∧ x < 128 := by rw [← hzs]; exact lowL_range
        have HO4 := Lib.hid hO
        have HZ := Lib.hid hlen
        have HRG := Lib.hid hrg
        have ho8 := hO.o8
        have ho9 := hO.o32
        rw [hlen] at ho8 ho9
        obtain ⟨A8, c8, rfl, _⟩ := own_slice ho8
        obtain ⟨A9, c9, rfl, _⟩ := own_slice ho9
        clear ho8 ho9
        have HD := show Below wr.heap.size wr wr.drew from belowN (Below.refl _ _) 1
        clear hO HO e hlen hzs hrg HR
        obtain ⟨S, hS⟩ : ∃ S, strOfNums zs = S := ⟨_, rfl⟩
        have sS : (S.toList == S.toList) = true := by simp
        have HCV := Lib.hid (fun (W : World) (A : Option Addr) (c : Nat) (hR : RI .u8 W A zs) => hS ▸ convS_nums HZ.out c hR)
        have HCA := Lib.hid (fun (W : World) (hb : Below wr.heap.size wr W) => HCV.out W A8 c8 (RI.below HO4.out.own8.ri.1 hb))
        have hZP : pointsS zs = zs := points_plain (fun x hx => (HRG.out x hx).2)
        have hZB : bytesL zs = zs := bytesL_plain zs HRG.out
        have hr256 : ∀ x ∈ zs, 0 ≤ x ∧ x < 256 := fun x hx => by have := HRG.out x hx; omega
        have HPT := Lib.hid (fun (W : World) (hb : Below wr.heap.size wr W) => points_sl (c := c8) (RI.below HO4.out.own8.ri.1 hb) HZ.out (by omega) hr256 hZP HZ.out)
        have HPB := Lib.hid (fun (W : World) (hb : Below wr.heap.size wr W) => pbytes_sl (c := c9) (RI.below HO4.out.own32.rd.1 hb) HZ.out (by omega) hZB HZ.out)
        have HSM := Lib.hid (fun (W : World) (A' : Option Addr) (c' : Nat) (hb : Below wr.heap.size wr W) (hR : RI .i32 W A' zs) => same_yes (c := c') (d := c9) hR (RI.below HO4.out.own32.rd.1 hb) HZ.out HZ.out (by omega) rfl)
        clear hZP hZB hS
        by_cases hf : f < 128
        · have d7 : decide (f < 128) = true := by simp; omega
          go_wp2
          go_region_with (first | (go_at_call 11; refine (alive_any _).mono ?_; rintro e wy ⟨rfl, hby⟩; have hBy := HD.trans (hby.mono HD.size); have hcv := HCA.out _ hBy) | (go_at_call 18; refine (HPT.out _ hBy).mono ?_; rintro e wz ⟨Az, cz, rfl, rz, _, bz⟩; have hbz := hBy.trans (bz.mono hBy.size)) | (go_at_call 15; refine (HSM.out _ _ _ hbz rz).mono ?_; rintro e wt ⟨rfl, hbt⟩; have hBt := hbz.trans (hbt.mono hbz.size); have hcv := HCA.out _ hBt) | (go_at_call 19; refine (HPB.out _ hBt).mono ?_; rintro e wv ⟨Av, cv, rfl, rv, bv⟩; have hBv := hBt.trans (bv.mono hBt.size); have hcv := HCA.out _ hBv; have hcw := HCV.out _ _ cv rv))
          all_goals go_wp2
          all_goals go_ret
          all_goals exact ⟨rfl, HO4.out.below.trans (hBv.mono HO4.out.below.size)⟩
        · have d7 : decide (f < 128) = false := by simp; omega
          by_cases hn0 : n = 0
          · have d8 : ((n : Int) == 0) = true := by simp; omega
            have d9 : (n == 0) = true := by simp; omega
            clear hn0
            go_wp2
            go_region_with (first | (go_at_call 11; refine (alive_any _).mono ?_; rintro e wy ⟨rfl, hby⟩; have hBy := HD.trans (hby.mono HD.size); have hcv := HCA.out _ hBy) | (go_at_call 18; refine (HPT.out _ hBy).mono ?_; rintro e wz ⟨Az, cz, rfl, rz, _, bz⟩; have hbz := hBy.trans (bz.mono hBy.size)) | (go_at_call 15; refine (HSM.out _ _ _ hbz rz).mono ?_; rintro e wt ⟨rfl, hbt⟩; have hBt := hbz.trans (hbt.mono hbz.size); have hcv := HCA.out _ hBt) | (go_at_call 19; refine (HPB.out _ hBt).mono ?_; rintro e wv ⟨Av, cv, rfl, rv, bv⟩; have hBv := hBt.trans (bv.mono hBt.size); have hcv := HCA.out _ hBv; have hcw := HCV.out _ _ cv rv))
            all_goals go_wp2
            all_goals go_ret
            all_goals exact ⟨rfl, HO4.out.below.trans (hBv.mono HO4.out.below.size)⟩
          · have d8 : ((n : Int) == 0) = false := by simp; omega
            have d9 : (n == 0) = false := by simp; omega
            have hF : pointsS (f :: zs) = 65533 :: zs := points_front (by omega) (fun e => hn0 (by rw [← HZ.out, e]; rfl)) (fun x hx => (HRG.out x hx).2)
            have hbl := (Below.refl wr.heap.size wr).alloc (Nat.le_refl _) (.cells #[.int .u8 f] 5)
            have hol := World.ownsRow_lit (e := 5) (size := 1) (base := wr.heap.size) wr #[.int .u8 f] 1 (Nat.le_refl _) (by unfold maxLen; omega) rfl
            have hA8 : A8 = none → c8 = 0 := by have := own_slice HO4.out.o8; obtain ⟨A', c', e, _, _, h⟩ := this; injection e with e1 e2 e3; subst e1 e3; exact h
            obtain ⟨v7, w7, hrun7, hown7, hgr7⟩ := app_u8 (xs := [f]) (ys := zs) HZ.out c8 (RI.below HO4.out.own8.ri.1 hbl) hA8 hol (by omega) hbl.size
            obtain ⟨k, hk⟩ : ∃ k, n + 1 = k := ⟨_, rfl⟩
            rw [show 1 + n = k by omega] at hown7
            obtain ⟨A7, c7, rfl, _⟩ := own_slice hown7
            have hb7 : Below wr.heap.size wr w7 := hbl.grown hgr7 hbl.size (ownBlock_le hol)
            have ho7 : Own8 wr (.slice A7 k c7) (f :: zs) w7 := ⟨own_cast hown7 (by simp [HZ.out]; omega) rfl, hb7⟩
            have HP7 := Lib.hid (points_sl (c := c7) (k := k) ho7.ri.1 (by simp [HZ.out]; omega) (by omega) (by intro x hx; rcases List.mem_cons.1 hx with rfl | hx; exact ⟨f0, f1⟩; exact hr256 x hx) hF (by simp [HZ.out]; omega))
            have HB7 := Lib.hid hb7
            have HRUN7 := Lib.hid hrun7
            clear hF hbl hol hA8 hrun7 hown7 hgr7 ho7 hb7 HPT HPB HSM HCA HCV
            go_wp2_with (first | (at_builtin; refine wpList_app rfl (.tmp 59) (.tmp 60) _ rfl _ _ rfl rfl HRUN7.out ?_))
            refine HP7.out.mono ?_
            rintro e w8 ⟨A9', c9', rfl, r8, hc8, b8⟩
            have HR8 := Lib.hid r8
            have HB8 := Lib.hid (HB7.out.trans (b8.mono HB7.out.size))
            clear r8 b8 HP7 HB7 HRUN7
            go_wp2_with fail
            refine (alive_any _).mono ?_
            rintro e w9 ⟨rfl, b9⟩
            have r9 := HR8.out.below b9
            have HB9 := Lib.hid (HB8.out.trans (b9.mono HB8.out.size))
            obtain ⟨bx, ox, rfl, hbx, hcx⟩ := r9 (by simp)
            have e0 := hcx 0 (by simp)
            rw [Nat.add_zero] at e0
            simp only [List.getD_cons_zero] at e0
            have hx1 : RI .i32 w9 (some ⟨bx, ox + 1, none⟩) zs := fun _ => ⟨bx, ox + 1, rfl, hbx, fun i hi => by
              have := hcx (i + 1) (by simp; exact hi)
              simpa [Nat.add_assoc, Nat.add_comm 1 i] using this⟩
            have HX1 := Lib.hid hx1
            have x1 : ((k : Int) == (n : Int) + 1) = true := by simp; omega
            have x2 : (k : Int) - 1 = (n : Int) := by omega
            have x3 : k - 1 = n := by omega
            have x4 : (k == n + 1) = true := by simp; omega
            have x5 : (0 : Int) < (k : Int) := by omega
            clear hcx hx1 HR8 HB8 b9
            go_wp2_with fail
            refine (same_yes HX1.out (RI.below HO4.out.own32.rd.1 HB9.out) HZ.out HZ.out (by omega) rfl).mono ?_
            rintro e wa ⟨rfl, ba⟩
            have HBA := Lib.hid (HB9.out.trans (ba.mono HB9.out.size))
            clear ba
            go_wp2
            go_ret
            exact ⟨rfl, HO4.out.below.trans (HBA.out.mono HO4.out.below.size)⟩
end Go.Proofs.Ytidjcbnjadlbaaa
