/-
  Proved here: the law BaseBack.
-/
import Derived.Test.YtidjcbnjadlbaaaBk
set_option linter.unusedSimpArgs false
set_option linter.unusedVariables false
namespace Go.Proofs.Ytidjcbnjadlbaaa
open Go.RowKit
/-- Two slices of bytes, behind one another in a new row. -/
theorem two_rows {W : World} {A B : Option Addr} {n c m d : Nat} {bs cs : List Int} (hR : RI .u8 W A bs) (hl : bs.length = n) (hA : A = none → c = 0) (hR2 : RI .u8 W B cs) (hl2 : cs.length = m) (hB : B = none → d = 0) (hn : n + m ≤ 10000) :
    ∃ (v : Value) (W2 : World) (A3 : Option Addr) (c3 : Nat) (W3 : World), (Builtin.append_ #[22, 22] 22 #[.slice (some ⟨W.heap.size, 0, none⟩) 0 0, .slice A n c]).run Try.prog (W.alloc (.cells #[] 5)) = .ok v W2 ∧
      (Builtin.append_ #[22, 22] 22 #[v, .slice B m d]).run Try.prog W2 = .ok (.slice A3 (n + m) c3) W3 ∧ Own8 W (.slice A3 (n + m) c3) (bs ++ cs) W3 := by
  have hbl := (Below.refl W.heap.size W).alloc (Nat.le_refl _) (.cells #[] 5)
  have hol := World.ownsRow_lit (e := 5) (size := 1) (base := W.heap.size) W #[] 0 (Nat.le_refl _) (by unfold maxLen; omega) rfl
  obtain ⟨v, W2, r1, o1, g1⟩ := app_u8 (xs := []) hl c (hR.below hbl) hA hol (by omega) hbl.size
  have hb2 : Below W.heap.size W W2 := hbl.grown g1 hbl.size (ownBlock_le hol)
  obtain ⟨v3, W3, r2, o2, g2⟩ := app_u8 (xs := bs) hl2 d (hR2.below hb2) hB (own_cast o1 (by omega) (by simp)) (n := n) (by omega) hb2.size
  have hb3 : Below W.heap.size W W3 := hb2.grown g2 hb2.size (ownBlock_le o1)
  obtain ⟨A3, c3, rfl, _⟩ := own_slice o2
  exact ⟨v, W2, A3, c3, W3, r1, r2, own_cast o2 (by rw [List.length_append, hl, hl2]) rfl, hb3⟩
theorem wpList_appG {P : Program} {ops : Array Oper} {rest : List Oper} {o : Oper} {a : Act} {W w' : World} {Q : Exit → Act → World → Prop} {v' : Value} (hgd : Region.wanted o (yielded ops a.tmps) = true) (s x : Operand) (t : TypeId)
    (ho : o.op = .call { callee := .builtin .append, args := #[s, x], argTypes := #[t, t] }) (v sx : Value) (hs : a.eval s = v) (hx : a.eval x = sx) (hrun : (Builtin.append_ #[t, t] o.type #[v, sx]).run P W = .ok v' w') (h : wpList P ops Q rest (a.put o.dst v') w') :
    wpList P ops Q (o :: rest) a W := by
  refine wpList_step fun K hK => ?_
  rw [if_pos hgd]
  unfold Oper.wp execOp
  simp only [ho, resolve, invoke, builtin, Sem.run_bind, Sem.run_pure, Result.andThen_ok, List.map_toArray, List.map_cons, List.map_nil, hs, hx, hrun]
  exact hK _ _ h
structure Ag (W : World) (A : Option Addr) (n c : Nat) (bs : List Int) : Prop where
  r : RI .u8 W A bs
  l : bs.length = n
  b : IsBytes bs
  z : A = none → c = 0
  cap : n ≤ c
  max : c ≤ 9223372036854775807
theorem Ag.to {W W' : World} {A : Option Addr} {n c : Nat} {bs : List Int} (h : Ag W A n c bs) (hb : Below W.heap.size W W') : Ag W' A n c bs := ⟨h.r.below hb, h.l, h.b, h.z, h.cap, h.max⟩
theorem Ag.of {w : World} {A : Option Addr} {n c : Nat} {bs : List Int} (h : SlI .u8 w A n c bs) : Ag w A n c bs := ⟨sl_ri h, h.len_eq, sl_bytes h, h.nil, h.le, by have := h.max; unfold maxLen at this; omega⟩
set_option maxRecDepth 100000 in
set_option maxHeartbeats 1000000 in
/-- What stands behind the tests. -/
theorem back_in {w : World} {A B : Option Addr} {n c m d : Nat} {bs cs : List Int} (hA : Ag w A n c bs) (hB : Ag w B m d cs) (s : ByteArray) (hn : n ≤ 3000) (hm : m ≤ 3000) (hs : s.size ≤ 4000) :
    Calls Try.prog 9 #[.slice A n c, .slice B m d, .string s] w fun e w' => e = .returned (.bool true) ∧ Below w.heap.size w w' := by
  have HA := Lib.hid hA
  have HB := Lib.hid hB
  obtain ⟨k, hk⟩ : ∃ k, s.size = k := ⟨_, rfl⟩
  rw [hk] at hs
  obtain ⟨t, ht⟩ : ∃ t, numsOf s = t := ⟨_, rfl⟩
  have hst : strOfNums t = s := by rw [← ht]; exact (str_list s).symm
  have HT : Hid (IsBytes t) := Lib.hid (by rw [← ht]; exact str_bytes s)
  have hl : t.length = k := by rw [← strOfNums_size t, hst]; exact hk
  have HL := Lib.hid hl
  have HST := Lib.hid hst
  have d1 : decide ((3000 : Int) < (n : Int)) = false := by simp; omega
  have d2 : decide (3000 < n) = false := by simp; omega
  have d3 : decide ((3000 : Int) < (m : Int)) = false := by simp; omega
  have d4 : decide (3000 < m) = false := by simp; omega
  have d5 : decide ((4000 : Int) < (k : Int)) = false := by simp; omega
  have d6 : decide (4000 < k) = false := by simp; omega
  obtain ⟨S, hS⟩ : ∃ S, strOfNums (writeS bs) = S := ⟨_, rfl⟩
  obtain ⟨S2, hS2⟩ : ∃ S2, strOfNums (writeS cs) = S2 := ⟨_, rfl⟩
  obtain ⟨Sb, hSb⟩ : ∃ Sb, strOfNums bs = Sb := ⟨_, rfl⟩
  obtain ⟨S3, hS3⟩ : ∃ S3, strOfNums (writeS (bs ++ cs)) = S3 := ⟨_, rfl⟩
  have sS : (Sb.toList != Sb.toList) = false := by simp
  have sS3 : (S3.toList == S3.toList) = true := by simp
  have sST : (s.toList != s.toList) = false := by simp
  have HWB := Lib.hid (fun (W : World) (hb : Below w.heap.size w W) => write_c (c := c) (HA.out.r.below hb) HA.out.l (by omega) HA.out.b HA.out.cap HA.out.max hS)
  have HWC := Lib.hid (fun (W : World) (hb : Below w.heap.size w W) => write_c (c := d) (HB.out.r.below hb) HB.out.l (by omega) HB.out.b HB.out.cap HB.out.max hS2)
  have HW3 := Lib.hid (fun (W : World) (A3 : Option Addr) (q c3 : Nat) (hq : (bs ++ cs).length = q) (h1 : RI .u8 W A3 (bs ++ cs)) (h2 : q ≤ c3) (h3 : c3 ≤ 9223372036854775807) => write_c (c := c3) h1 hq (by rw [List.length_append, HA.out.l, HB.out.l] at hq; omega) (fun x hx => by rcases List.mem_append.1 hx with hx | hx; exact HA.out.b x hx; exact HB.out.b x hx) h2 h3 hS3)
  have hgw := good_write bs HA.out.b
  have hwl : (writeS bs).length ≤ 90000 := by rw [write_len, HA.out.l]; omega
  have hwb : IsBytes (writeS bs) := write_bytes bs HA.out.b
  have HRW := Lib.hid (fun (W : World) => read_okc (w := W) hwb hwl hgw.1 hgw.2 HA.out.l hS)
  have HCB := Lib.hid (fun (W : World) (A' : Option Addr) (c' : Nat) (h : RI .u8 W A' bs) => conv_c (w := W) HA.out.l c' h hSb)
  have HCA := Lib.hid (fun (h0 : n % 3 = 0) => show Op.stringOp .add S S2 = pure (.string S3) by
    rw [← hS, ← hS2, ← hS3, write_app bs cs (by rw [HA.out.l]; exact h0)]
    refine cat_run _ _ ?_
    rw [write_len, write_len, HA.out.l, HB.out.l]; omega)
  have HS3 := Lib.hid (fun (W : World) (hb : Below w.heap.size w W) => two_rows (c := c) (d := d) (HA.out.r.below hb) HA.out.l HA.out.z (HB.out.r.below hb) HB.out.l HB.out.z (by omega))
  have HLL : Hid ((bs ++ cs).length = n + m) := Lib.hid (by rw [List.length_append, HA.out.l, HB.out.l])
  clear hS hS2 hSb hS3 ht hst hl hA hB hgw hwl hwb
  cases hg : goodB t
  · have HRD := Lib.hid (fun W : World => read_badc (w := W) HT.out (by have := HL.out; omega) hg HST.out)
    clear hg
    by_cases h3 : n % 3 = 0
    · have f1 : ((n : Int) % 3 == 0) = true := by simp; omega
      have f2 : ((n : Int) % 3 != 0) = false := by simp; omega
      have HC := Lib.hid (HCA.out h3)
      clear HCA h3
      go_enter Try.func9, Try.ntmps9
      go_wp2_with fail
      refine (HWB.out w (Below.refl _ _)).mono ?_
      rintro e w1 ⟨rfl, b1⟩
      have HB1 := Lib.hid b1
      clear b1
      go_wp2_with fail
      refine (HRW.out _).mono ?_
      rintro e w2 ⟨A2, rfl, r2, b2⟩
      have HB2 := Lib.hid (HB1.out.trans (b2.mono HB1.out.size))
      have HR2 := Lib.hid r2
      clear b2 r2 HB1
      go_wp2_with fail
      refine (HRD.out _).mono ?_
      rintro e w3 ⟨rfl, b3⟩
      have HB3 := Lib.hid (HB2.out.trans (b3.mono HB2.out.size))
      have hcv := HCB.out w3 A2 n (HR2.out.below b3)
      have hcw := HCB.out w3 A c (HA.out.r.below HB3.out)
      clear b3 HB2 HR2
      go_wp2_with fail
      clear hcv hcw
      refine (alive_any _).mono ?_
      rintro e w5 ⟨rfl, b5⟩
      have HB5 := Lib.hid (HB3.out.trans (b5.mono HB3.out.size))
      have HWB5 := Lib.hid (HWB.out _ HB5.out)
      clear b5 HB3
      go_wp2_with fail
      refine HWB5.out.mono ?_
      rintro e w6 ⟨rfl, b6⟩
      have HB6 := Lib.hid (HB5.out.trans (b6.mono HB5.out.size))
      have HWC6 := Lib.hid (HWC.out _ HB6.out)
      clear b6 HB5 HWB5
      go_wp2_with fail
      refine HWC6.out.mono ?_
      rintro e w7 ⟨rfl, b7⟩
      have HB7 := Lib.hid (HB6.out.trans (b7.mono HB6.out.size))
      clear b7 HB6 HWC6
      obtain ⟨v8, w8, A9, c9, w9, hrun8, hrun9, o9⟩ := HS3.out _ HB7.out
      have HRUN8 := Lib.hid hrun8
      have HRUN9 := Lib.hid hrun9
      have HB9 := Lib.hid (HB7.out.trans (o9.below.mono HB7.out.size))
      obtain ⟨A9', c9', e9, hq9, hm9, _⟩ := own_slice o9.own
      injection e9 with e91 e92 e93
      subst e91 e93
      unfold maxLen at hm9
      have HW9 := Lib.hid (HW3.out w9 A9 (n + m) c9 HLL.out o9.ri.1 (by omega) (by omega))
      have hcat := HC.out
      clear hrun8 hrun9 o9 hq9 hm9 e92 HB7
      go_wp2_with (first | (at_builtin; refine wpList_appG (by rfl) (.tmp 67) (.tmp 68) _ rfl _ _ rfl rfl HRUN8.out ?_) | (at_builtin; refine wpList_appG (by rfl) (.tmp 69) (.tmp 70) _ rfl _ _ rfl rfl HRUN9.out ?_))
      refine HW9.out.mono ?_
      rintro e w10 ⟨rfl, b10⟩
      have HB10 := Lib.hid (HB9.out.trans (b10.mono HB9.out.size))
      clear b10 HB9 HW9 HRUN8 HRUN9
      go_wp2
      go_ret
      exact ⟨rfl, HB10.out⟩
    · have f1 : ((n : Int) % 3 == 0) = false := by simp; omega
      have f2 : ((n : Int) % 3 != 0) = true := by simp; omega
      clear HCA h3
      go_enter Try.func9, Try.ntmps9
      go_wp2_with fail
      refine (HWB.out w (Below.refl _ _)).mono ?_
      rintro e w1 ⟨rfl, b1⟩
      have HB1 := Lib.hid b1
      clear b1
      go_wp2_with fail
      refine (HRW.out _).mono ?_
      rintro e w2 ⟨A2, rfl, r2, b2⟩
      have HB2 := Lib.hid (HB1.out.trans (b2.mono HB1.out.size))
      have HR2 := Lib.hid r2
      clear b2 r2 HB1
      go_wp2_with fail
      refine (HRD.out _).mono ?_
      rintro e w3 ⟨rfl, b3⟩
      have HB3 := Lib.hid (HB2.out.trans (b3.mono HB2.out.size))
      have hcv := HCB.out w3 A2 n (HR2.out.below b3)
      have hcw := HCB.out w3 A c (HA.out.r.below HB3.out)
      clear b3 HB2 HR2
      go_wp2_with fail
      clear hcv hcw
      refine (alive_any _).mono ?_
      rintro e w5 ⟨rfl, b5⟩
      have HB5 := Lib.hid (HB3.out.trans (b5.mono HB3.out.size))
      clear b5 HB3
      go_wp2
      go_ret
      exact ⟨rfl, HB5.out⟩
  · obtain ⟨D, hD⟩ : ∃ D, decB t = D := ⟨_, rfl⟩
    obtain ⟨q, hq⟩ : ∃ q, D.length = q := ⟨_, rfl⟩
    have hwd := write_dec t hg
    rw [hD] at hwd
    have hqb : q ≤ 4000 := by
      have h := write_len D
      rw [hwd.1, HL.out, hq] at h; omega
    have HRD := Lib.hid (fun W : World => read_okc (w := W) HT.out (by have := HL.out; omega) hg hD hq HST.out)
    have HWD := Lib.hid (fun (W : World) (A' : Option Addr) (h1 : RI .u8 W A' D) => write_c (c := q) h1 hq (by omega) hwd.2 (Nat.le_refl _) (by omega) (by rw [hwd.1, HST.out]))
    clear hg hD hq hwd
    by_cases h3 : n % 3 = 0
    · have f1 : ((n : Int) % 3 == 0) = true := by simp; omega
      have f2 : ((n : Int) % 3 != 0) = false := by simp; omega
      have HC := Lib.hid (HCA.out h3)
      clear HCA h3
      go_enter Try.func9, Try.ntmps9
      go_wp2_with fail
      refine (HWB.out w (Below.refl _ _)).mono ?_
      rintro e w1 ⟨rfl, b1⟩
      have HB1 := Lib.hid b1
      clear b1
      go_wp2_with fail
      refine (HRW.out _).mono ?_
      rintro e w2 ⟨A2, rfl, r2, b2⟩
      have HB2 := Lib.hid (HB1.out.trans (b2.mono HB1.out.size))
      have HR2 := Lib.hid r2
      clear b2 r2 HB1
      go_wp2_with fail
      refine (HRD.out _).mono ?_
      rintro e w3 ⟨A3, rfl, r3, b3⟩
      have HB3' := Lib.hid (HB2.out.trans (b3.mono HB2.out.size))
      have hcv := HCB.out w3 A2 n (HR2.out.below b3)
      have hcw := HCB.out w3 A c (HA.out.r.below HB3'.out)
      have HWD3 := Lib.hid (HWD.out w3 A3 r3)
      clear b3 r3 HB2 HR2
      go_wp2_with fail
      refine HWD3.out.mono ?_
      rintro e w4 ⟨rfl, b4⟩
      have HB3 := Lib.hid (HB3'.out.trans (b4.mono HB3'.out.size))
      clear b4 HB3' HWD3 hcv hcw
      go_wp2_with fail
      refine (alive_any _).mono ?_
      rintro e w5 ⟨rfl, b5⟩
      have HB5 := Lib.hid (HB3.out.trans (b5.mono HB3.out.size))
      have HWB5 := Lib.hid (HWB.out _ HB5.out)
      clear b5 HB3
      go_wp2_with fail
      refine HWB5.out.mono ?_
      rintro e w6 ⟨rfl, b6⟩
      have HB6 := Lib.hid (HB5.out.trans (b6.mono HB5.out.size))
      have HWC6 := Lib.hid (HWC.out _ HB6.out)
      clear b6 HB5 HWB5
      go_wp2_with fail
      refine HWC6.out.mono ?_
      rintro e w7 ⟨rfl, b7⟩
      have HB7 := Lib.hid (HB6.out.trans (b7.mono HB6.out.size))
      clear b7 HB6 HWC6
      obtain ⟨v8, w8, A9, c9, w9, hrun8, hrun9, o9⟩ := HS3.out _ HB7.out
      have HRUN8 := Lib.hid hrun8
      have HRUN9 := Lib.hid hrun9
      have HB9 := Lib.hid (HB7.out.trans (o9.below.mono HB7.out.size))
      obtain ⟨A9', c9', e9, hq9, hm9, _⟩ := own_slice o9.own
      injection e9 with e91 e92 e93
      subst e91 e93
      unfold maxLen at hm9
      have HW9 := Lib.hid (HW3.out w9 A9 (n + m) c9 HLL.out o9.ri.1 (by omega) (by omega))
      have hcat := HC.out
      clear hrun8 hrun9 o9 hq9 hm9 e92 HB7
      go_wp2_with (first | (at_builtin; refine wpList_appG (by rfl) (.tmp 67) (.tmp 68) _ rfl _ _ rfl rfl HRUN8.out ?_) | (at_builtin; refine wpList_appG (by rfl) (.tmp 69) (.tmp 70) _ rfl _ _ rfl rfl HRUN9.out ?_))
      refine HW9.out.mono ?_
      rintro e w10 ⟨rfl, b10⟩
      have HB10 := Lib.hid (HB9.out.trans (b10.mono HB9.out.size))
      clear b10 HB9 HW9 HRUN8 HRUN9
      go_wp2
      go_ret
      exact ⟨rfl, HB10.out⟩
    · have f1 : ((n : Int) % 3 == 0) = false := by simp; omega
      have f2 : ((n : Int) % 3 != 0) = true := by simp; omega
      clear HCA h3
      go_enter Try.func9, Try.ntmps9
      go_wp2_with fail
      refine (HWB.out w (Below.refl _ _)).mono ?_
      rintro e w1 ⟨rfl, b1⟩
      have HB1 := Lib.hid b1
      clear b1
      go_wp2_with fail
      refine (HRW.out _).mono ?_
      rintro e w2 ⟨A2, rfl, r2, b2⟩
      have HB2 := Lib.hid (HB1.out.trans (b2.mono HB1.out.size))
      have HR2 := Lib.hid r2
      clear b2 r2 HB1
      go_wp2_with fail
      refine (HRD.out _).mono ?_
      rintro e w3 ⟨A3, rfl, r3, b3⟩
      have HB3' := Lib.hid (HB2.out.trans (b3.mono HB2.out.size))
      have hcv := HCB.out w3 A2 n (HR2.out.below b3)
      have hcw := HCB.out w3 A c (HA.out.r.below HB3'.out)
      have HWD3 := Lib.hid (HWD.out w3 A3 r3)
      clear b3 r3 HB2 HR2
      go_wp2_with fail
      refine HWD3.out.mono ?_
      rintro e w4 ⟨rfl, b4⟩
      have HB3 := Lib.hid (HB3'.out.trans (b4.mono HB3'.out.size))
      clear b4 HB3' HWD3 hcv hcw
      go_wp2_with fail
      refine (alive_any _).mono ?_
      rintro e w5 ⟨rfl, b5⟩
      have HB5 := Lib.hid (HB3.out.trans (b5.mono HB3.out.size))
      clear b5 HB3
      go_wp2
      go_ret
      exact ⟨rfl, HB5.out⟩
set_option maxRecDepth 100000 in
set_option maxHeartbeats 1000000 in
theorem back14_law {w : World} {A B : Option Addr} {n c m d : Nat} {bs cs : List Int} (hs : SlI .u8 w A n c bs) (hs2 : SlI .u8 w B m d cs) (s : ByteArray) (hsm : s.size ≤ 9223372036854775807) :
    Calls Try.prog 9 #[.slice A n c, .slice B m d, .string s] w fun e w' => e = .returned (.bool true) ∧ Below w.heap.size w w' := by
  by_cases h1 : 3000 < n
  · have d1 : decide ((3000 : Int) < (n : Int)) = true := by simp; omega
    have d2 : decide (3000 < n) = true := by simp; omega
    go_enter Try.func9, Try.ntmps9
    go_wp2_with fail
    refine (alive_any w).mono ?_
    rintro e w1 ⟨rfl, b1⟩
    go_wp2
    go_ret
    exact ⟨rfl, b1⟩
  by_cases h2 : 3000 < m
  · have d1 : decide ((3000 : Int) < (n : Int)) = false := by simp; omega
    have d2 : decide (3000 < n) = false := by simp; omega
    have d3 : decide ((3000 : Int) < (m : Int)) = true := by simp; omega
    have d4 : decide (3000 < m) = true := by simp; omega
    clear h1
    go_enter Try.func9, Try.ntmps9
    go_wp2_with fail
    refine (alive_any w).mono ?_
    rintro e w1 ⟨rfl, b1⟩
    go_wp2
    go_ret
    exact ⟨rfl, b1⟩
  by_cases h3 : 4000 < s.size
  · have d1 : decide ((3000 : Int) < (n : Int)) = false := by simp; omega
    have d2 : decide (3000 < n) = false := by simp; omega
    have d3 : decide ((3000 : Int) < (m : Int)) = false := by simp; omega
    have d4 : decide (3000 < m) = false := by simp; omega
    have d5 : decide ((4000 : Int) < (s.size : Int)) = true := by simp; omega
    have d6 : decide (4000 < s.size) = true := by simp; omega
    clear h1 h2
    go_enter Try.func9, Try.ntmps9
    go_wp2_with fail
    refine (alive_any w).mono ?_
    rintro e w1 ⟨rfl, b1⟩
    go_wp2
    go_ret
    exact ⟨rfl, b1⟩
  · exact back_in (Ag.of hs) (Ag.of hs2) s (by omega) (by omega) (by omega)
end Go.Proofs.Ytidjcbnjadlbaaa
