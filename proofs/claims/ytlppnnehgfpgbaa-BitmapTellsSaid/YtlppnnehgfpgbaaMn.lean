/-
  Proved here: of the laws of bitmap: same, of a map and its list; of the document's maps: Read.
-/
import Derived.Test.YtlppnnehgfpgbaaMm
import Derived.Lib.Bytes
set_option linter.unusedSimpArgs false
set_option linter.unusedVariables false
namespace Go.Proofs.Ytlppnnehgfpgbaa
open Go.RowKit
theorem str_eq {X Y : List Int} (hX : isB8 X) (hY : isB8 Y) : ((strOfNums X).toList == (strOfNums Y).toList) = decide (X = Y) := by
  rw [Lib.strOfNums_toList, Lib.strOfNums_toList, Bool.eq_iff_iff, beq_iff_eq, decide_eq_true_iff]
  refine ⟨fun h => ?_, fun h => by rw [h]⟩
  have hl : X.length = Y.length := by have := congrArg List.length h; rwa [Lib.bytesOf_length, Lib.bytesOf_length] at this
  apply List.ext_getElem hl
  intro i h1 h2
  have e := congrArg (fun l => l[i]?) h
  simp [Lib.bytesOf, h1, h2] at e
  have a := hX i
  have b := hY i
  rw [show X.getD i 0 = X[i] by simp [List.getD, h1]] at a
  rw [show Y.getD i 0 = Y[i] by simp [List.getD, h2]] at b
  have e2 := congrArg UInt8.toNat e
  simp at e2
  omega
set_option maxRecDepth 100000 in

theorem heldMono {P : Program} {md : Region.Mode} {ops : Array Oper} {Q : Exit → Act → World → Prop} {S S' : World → Prop} (h : ∀ w, S' w → S w) :
    ∀ (fuel : Nat) (listed : Array Bool) (a : Act) (w : World), wpAnyH P md ops Q S' fuel listed a w → wpAnyH P md ops Q S fuel listed a w
  | 0, _, _, _, x => x
  | fuel + 1, _, _, _, x => ⟨x.1, fun i hi => wpOp_mono (fun a' w' h' => ⟨h _ h'.1, heldMono h fuel _ a' w' h'.2⟩) (x.2 i hi)⟩
abbrev SQ (U : World) (g : Nat) (n B : Int) (bl o : Nat) (x : Bool) (W : World) : Prop := W.cell? ⟨g, 0, none⟩ = some (.int .i64 n) ∧ W.cell? ⟨g, 1, none⟩ = some (.int .u64 B) ∧ W.cell? ⟨bl, o, none⟩ = some (.bool x) ∧ Hid (Below U.heap.size U W)
theorem SQ.of {U : World} {g bl o : Nat} {n B : Int} {x : Bool} {W : World} (hm : Hid (MB U g n B)) (hc : Hid (bl < U.heap.size ∧ U.cell? ⟨bl, o, none⟩ = some (.bool x))) (h : Hid (Below U.heap.size U W)) : SQ U g n B bl o x W :=
  ⟨(hm.out.below h.out).c0, (hm.out.below h.out).c1, (h.out.cell (p := ⟨bl, o, none⟩) hc.out.1).trans hc.out.2, h⟩
theorem SQ.last {U : World} {g bl o : Nat} {n B : Int} {x : Bool} {W : World} (h : SQ U g n B bl o x W) : Below U.heap.size U W := h.2.2.2.out
theorem SQ.to {U : World} {g bl o : Nat} {n B : Int} {x : Bool} {W W' : World} (hm : Hid (MB U g n B)) (hc : Hid (bl < U.heap.size ∧ U.cell? ⟨bl, o, none⟩ = some (.bool x))) (hb : Below W.heap.size W W') (h : SQ U g n B bl o x W) : SQ U g n B bl o x W' := SQ.of hm hc (Lib.hid (h.last.trans (hb.mono h.last.size)))
set_option maxHeartbeats 1000000 in
theorem same_true {n b : Nat} (hr : rB n b = true) {A : Option Addr} {c : Nat} (w : World) (hT : TI w A (bitsL n b)) : Calls Try.prog 32 #[mV n b, .slice A n c] w fun e w' => e = .returned (.bool true) ∧ Below w.heap.size w w' := by
  have HT := Lib.hid hT
  have hn := (rB_parts hr).1
  have HU := Lib.hid (MB.new w n b)
  have HB := Lib.hid ((Below.refl _ w).alloc (Nat.le_refl _) (.cells #[.int .i64 n, .int .u64 b] 56))
  have HHB := Lib.hid (fun (i : Nat) (h : i < n) => hB_in hr h)
  have HH := Lib.hid (fun (i : Nat) W => has_any n (rB_lt hr) i W)
  unfold mV at HH ⊢
  have q0 : ((n : Int) != (n : Int)) = false := by simp
  clear hr hT
  go_enter Try.func32, Try.ntmps32
  go_upto_region 1 with fail
  obtain ⟨U, hU⟩ : ∃ U, w.alloc (.cells #[.int .i64 n, .int .u64 b] 56) = U := ⟨_, rfl⟩
  rw [hU] at HU HB ⊢
  clear hU
  have c0 := HU.out.c0
  go_wp2
  go_loopw [5] (fun iv wr => ∃ j : Nat, iv = .int .i64 j ∧ j ≤ n ∧ Hid (Below U.heap.size U wr)) (fun iv _ => n - (intOf iv).toNat)
  case atStart => exact ⟨0, rfl, by omega, Lib.hid (Below.refl _ _)⟩
  case round =>
    obtain ⟨j, rfl, hj, HBS⟩ := hrel
    clear c0
    obtain ⟨R1, hR1⟩ : ∃ R1, wr = R1 := ⟨_, rfl⟩
    rw [hR1] at HBS ⊢
    clear hR1
    have HMM := Lib.hid (HU.out.below HBS.out)
    by_cases hjn : j < n
    · have d1 : decide ((j : Int) < (n : Int)) = true := by simp; omega
      have d2 : decide (j < n) = true := by simp; omega
      have g1 : (0 : Int) ≤ (j : Int) := by omega
      have g2 : (j : Int) < (n : Int) := by omega
      have w1 : IntKind.i64.wrap ((j : Int) + 1) = (j : Int) + 1 := IntWalk.i64_in _ (by omega)
      obtain ⟨bl, off, hA, hbl, hc⟩ := HT.out (by rw [bitsL_len]; omega)
      subst hA
      have hb2 := HB.out.trans (HBS.out.mono HB.out.size)
      have hcc := (hb2.cell (p := ⟨bl, off + j, none⟩) hbl).trans (hc j (by rw [bitsL_len]; exact hjn))
      rw [bitsL_at hjn] at hcc
      have HI := Lib.hid (HH.out j)
      rw [HHB.out j hjn] at HI
      have hlt : bl < R1.heap.size := Nat.lt_of_lt_of_le hbl hb2.size
      obtain ⟨x, hx⟩ : ∃ x, b.testBit j = x := ⟨_, rfl⟩
      rw [hx] at HI hcc
      have HCC := Lib.hid (And.intro hlt hcc)
      have HUD := Lib.hid (belowN (Below.refl R1.heap.size R1) 1)
      clear hx hcc hc hb2 hlt
      go_wp2
      cases x
      · go_region_held3 (SQ R1 w.heap.size n b bl (off + j) false)
          (first | exact SQ.of HMM HCC HUD | assumption | exact SQ.to HMM HCC (by assumption) (by assumption))
          (first | (go_at_call 30; refine (HI.out _).mono ?_; rintro e wy ⟨rfl, hby⟩))
        have hyy : Below R1.heap.size R1 wy := SQ.last (x := false) (W := wy) (by assumption)
        have HBS2 := Lib.hid (Bto HBS.out hyy)
        clear hby hyy
        go_wp2
        go_roundw
        case rel => exact ⟨j + 1, by go_num, by omega, HBS2⟩
        case measure => simp [intOf]; omega
      · go_region_held3 (SQ R1 w.heap.size n b bl (off + j) true)
          (first | exact SQ.of HMM HCC HUD | assumption | exact SQ.to HMM HCC (by assumption) (by assumption))
          (first | (go_at_call 30; refine (HI.out _).mono ?_; rintro e wy ⟨rfl, hby⟩))
        have hyy : Below R1.heap.size R1 wy := SQ.last (x := true) (W := wy) (by assumption)
        have HBS2 := Lib.hid (Bto HBS.out hyy)
        clear hby hyy
        go_wp2
        go_roundw
        case rel => exact ⟨j + 1, by go_num, by omega, HBS2⟩
        case measure => simp [intOf]; omega
    · have d1 : decide ((j : Int) < (n : Int)) = false := by simp; omega
      have d2 : decide (j < n) = false := by simp; omega
      have HF := Lib.hid (HB.out.trans (HBS.out.mono HB.out.size))
      go_wp2
      go_ret
      exact ⟨rfl, HF.out⟩
theorem no_big {bs : List Int} {x : Nat} (hx : bs.getD 0 0 = x) (h : 64 < x) (n b : Nat) : ¬ isMap bs n b := fun hm => by
  have e := hm.2
  subst e
  have : (wrB n b).getD 0 0 = n := rfl
  have := (rB_parts hm.1).1
  omega
/-- What the document's Read answers: the list of the map that bytes are, or that they are none. -/
def RRPost (bs : List Int) (w : World) (e : Ending) (w' : World) : Prop :=
  Below w.heap.size w w' ∧ ((∃ (n b : Nat) (v : Value), isMap bs n b ∧ e = .returned (.tuple #[v, .bool true]) ∧ OwnB w v (bitsL n b) w') ∨ ((∀ n b, ¬ isMap bs n b) ∧ ∃ v : Value, e = .returned (.tuple #[v, .bool false])))
theorem rread_empty (A : Option Addr) (cap : Nat) (w : World) : Calls Try.prog 35 #[.slice A 0 cap] w (RRPost [] w) := by
  have HP := Lib.hid (fun w' (h : Below w.heap.size w w') => show RRPost [] w (.returned (.tuple #[.slice none 0 0, .bool false])) w' from ⟨h, .inr ⟨no_empty, _, rfl⟩⟩)
  obtain ⟨Q, hQ⟩ : ∃ Q, RRPost [] w = Q := ⟨_, rfl⟩
  rw [hQ] at HP ⊢
  clear hQ
  go_enter Try.func35, Try.ntmps35
  go_wp2
  exact HP.out _ (Below.refl _ _)
theorem bitsL_mod (n b : Nat) : bitsL n (b % 2 ^ n) = bitsL n b := by
  refine List.ext_getElem (by simp [bitsL]) fun i h1 h2 => ?_
  have hi : i < n := by simpa [bitsL] using h1
  simp [bitsL, Nat.testBit_mod_two_pow, hi]
theorem acc_bit {bs : List Int} (hb : isB8 bs) {i m : Nat} (h1 : i / 8 < m) (h2 : i < 64) : (acR m (bs.drop 1)).testBit i = (bs.getD (1 + i / 8) 0).toNat.testBit (i % 8) := by
  have hd : isB8 (bs.drop 1) := fun t => by have := hb (t + 1); simpa [List.getD, Nat.add_comm] using this
  rw [acR_bit hd, decide_eq_true (show i < 8 * m by omega), decide_eq_true h2]
  simp [List.getD, Nat.add_comm]
theorem u8_half (c : Nat) (h : c < 256) : ((c : Int)).tdiv 2 = ((c / 2 : Nat) : Int) := by rw [Int.tdiv_eq_ediv_of_nonneg (by omega)]; omega
theorem map_iff {bs : List Int} (hb : isB8 bs) {x N : Nat} (hx : bs.getD 0 0 = x) (hx64 : x ≤ 64) (hl : bs.length = N) (hN : sizeB x + 1 ≤ N) : (wrB x (acR (N - 1) (bs.drop 1) % 2 ^ x) = bs ↔ isMap bs x (acR (N - 1) (bs.drop 1) % 2 ^ x)) ∧ ((∃ n b, isMap bs n b) → isMap bs x (acR (N - 1) (bs.drop 1) % 2 ^ x)) := by
  have hr : rB x (acR (N - 1) (bs.drop 1) % 2 ^ x) = true := by
    rw [rB_in hx64]; exact decide_eq_true (Nat.mod_lt _ (Nat.two_pow_pos _))
  refine ⟨⟨fun h => ⟨hr, h.symm⟩, fun h => h.2.symm⟩, fun ⟨n, b, hm⟩ => ?_⟩
  obtain ⟨h1, h2⟩ := rB_parts hm.1
  have e := hm.2
  have e0 : (wrB n b).getD 0 0 = n := rfl
  rw [← e, hx] at e0
  obtain rfl : n = x := by omega
  have hN2 : N - 1 = sizeB n := by rw [← hl, e, wrB_len]; omega
  have e2 : bs.drop 1 = byR (sizeB n) b := by rw [e]; rfl
  rw [hN2, e2, acR_byR h1 h2, Nat.mod_eq_of_lt h2]
  exact hm
set_option maxRecDepth 100000 in
set_option maxHeartbeats 4000000 in
theorem rread_some {bs : List Int} (hb : isB8 bs) {A : Option Addr} {N cap : Nat} (hl : bs.length = N) (hN : N ≤ 100000) (hp : 0 < N) (w : World) (hR : RI .u8 w A bs) : Calls Try.prog 35 #[.slice A N cap] w (RRPost bs w) := by
  obtain ⟨bl, off, rfl, hbl, hcell⟩ := hR (by omega)
  obtain ⟨x, hx⟩ : ∃ x : Nat, bs.getD 0 0 = x := ⟨(bs.getD 0 0).toNat, by have := hb 0; omega⟩
  have hx256 : x < 256 := by have := hb 0; omega
  have c0 := hcell 0 (by omega)
  rw [hx, Nat.add_zero] at c0
  have HRI := Lib.hid hR
  have HBS := Lib.hid hb
  have HL := Lib.hid hl
  have HX := Lib.hid (fun (_ : Unit) => hx)
  have HCE := Lib.hid hcell
  have HBL := Lib.hid hbl
  have e0 : ((N : Int) == 0) = false := by simp; omega
  have g0 : (0 : Int) < (N : Int) := by omega
  have w1 : IntKind.i64.wrap (x : Int) = (x : Int) := IntWalk.i64_in _ (by omega)
  have HP := Lib.hid (fun (hno : ∀ n b, ¬ isMap bs n b) (v : Value) w' (h : Below w.heap.size w w') => show RRPost bs w (.returned (.tuple #[v, .bool false])) w' from ⟨h, .inr ⟨hno, _, rfl⟩⟩)
  have HPY := Lib.hid (fun (n b : Nat) (hy : isMap bs n b) (v : Value) w' (h : OwnB w v (bitsL n b) w') => show RRPost bs w (.returned (.tuple #[v, .bool true])) w' from ⟨h.below, .inl ⟨n, b, v, hy, rfl, h⟩⟩)
  obtain ⟨Q, hQ⟩ : ∃ Q, RRPost bs w = Q := ⟨_, rfl⟩
  rw [hQ] at HP HPY ⊢
  clear hQ hb hl hR hcell hbl
  by_cases h64 : 64 < x
  · have d1 : decide ((64 : Int) < (x : Int)) = true := by simp; omega
    have d2 : (64 : Int) < (x : Int) := by omega
    have HF := Lib.hid (HP.out (no_big hx h64))
    clear HP HPY hx
    go_enter Try.func35, Try.ntmps35
    go_wp2
    exact HF.out _ _ (Below.refl _ _)
  have d1 : decide ((64 : Int) < (x : Int)) = false := by simp; omega
  have d2 : ¬ (64 : Int) < (x : Int) := by omega
  obtain ⟨V, hV⟩ : ∃ V, acR (N - 1) (bs.drop 1) = V := ⟨_, rfl⟩
  have HV := Lib.hid (fun (_ : Unit) => hV)
  clear hV hx
  go_enter Try.func35, Try.ntmps35
  go_wp2
  go_loopw [4, 5] (fun ov iv wr => ∃ (u : Value) (i : Nat), u = ov ∧ iv = .int .i64 i ∧ i ≤ x ∧ Hid (sizeB i + 1 ≤ N) ∧ Hid (OwnB w u (bitsL i V) wr)) (fun _ iv _ => x - (intOf iv).toNat)
  case atStart => exact ⟨_, 0, rfl, rfl, by omega, Lib.hid (by unfold sizeB; omega), Lib.hid (OwnB.new w)⟩
  case round =>
    obtain ⟨u, i, rfl, rfl, hi, HSZ, HO⟩ := hrel
    have a0 := (HO.out.below.cell (p := ⟨bl, off, none⟩) HBL.out).trans c0
    clear c0
    by_cases hin : i < x
    · have k1 : decide ((i : Int) < (x : Int)) = true := by simp; omega
      have k2 : decide (i < x) = true := by simp; omega
      obtain ⟨q, hq⟩ : ∃ q, i / 8 = q := ⟨_, rfl⟩
      have w2 : ((i : Int)).tdiv 8 = (q : Int) := by rw [Int.tdiv_eq_ediv_of_nonneg (by omega)]; omega
      have w3 : IntKind.i64.wrap (q : Int) = (q : Int) := IntWalk.i64_in _ (by omega)
      have w4 : IntKind.i64.wrap (1 + (q : Int)) = ((1 + q : Nat) : Int) := by rw [IntWalk.i64_in _ (by omega)]; omega
      obtain ⟨p, hp1⟩ : ∃ p, 1 + q = p := ⟨_, rfl⟩
      rw [hp1] at w4
      by_cases hpN : N ≤ p
      · have k3 : decide ((N : Int) ≤ (p : Int)) = true := by simp; omega
        have k4 : (N : Int) ≤ (p : Int) := by omega
        have HF := Lib.hid (HP.out (no_len (HX.out ()) (by rw [HL.out]; unfold sizeB; omega)))
        have HBO := Lib.hid HO.out.below
        clear HP HPY hq hp1
        go_wp2
        exact HF.out _ _ HBO.out
      · have k3 : decide ((N : Int) ≤ (p : Int)) = false := by simp; omega
        have k4 : ¬ (N : Int) ≤ (p : Int) := by omega
        have k5 : (p : Int) < (N : Int) := by omega
        have k6 : (0 : Int) ≤ (p : Int) := by omega
        obtain ⟨c, hc⟩ : ∃ c : Nat, bs.getD p 0 = c := ⟨(bs.getD p 0).toNat, by have := HBS.out p; omega⟩
        have hc256 : c < 256 := by have := HBS.out p; omega
        have a1 := (HO.out.below.cell (p := ⟨bl, off + p, none⟩) HBL.out).trans (HCE.out p (by rw [HL.out]; omega))
        rw [hc] at a1
        obtain ⟨r, hr⟩ : ∃ r, i % 8 = r := ⟨_, rfl⟩
        have w5 : ((i : Int)).tmod 8 = (r : Int) := by rw [Int.tmod_eq_emod_of_nonneg (by omega)]; omega
        have w6 : IntKind.i64.wrap (r : Int) = (r : Int) := IntWalk.i64_in _ (by omega)
        have w7 : IntKind.i64.wrap ((i : Int) + 1) = (i : Int) + 1 := IntWalk.i64_in _ (by omega)
        have HSZ2 := Lib.hid (show sizeB (i + 1) + 1 ≤ N from by unfold sizeB; omega)
        have HBI := Lib.hid (show V.testBit i = c.testBit r from by
          rw [← HV.out (), acc_bit HBS.out (by omega) (by omega), show 1 + i / 8 = p by omega, hc, hr]
          rfl)
        have hr8 : r < 8 := by omega
        clear hq hp1 hpN hc hr
        obtain ⟨wA, hwA⟩ : ∃ W, wr = W := ⟨_, rfl⟩
        rw [hwA] at HO a0 a1 ⊢
        clear hwA
        go_wp2
        go_loopw [6, 7] (fun cv kv wx => ∃ k y : Nat, cv = .int .u8 y ∧ kv = .int .i64 k ∧ k ≤ r ∧ y < 256 ∧ Hid (c / 2 ^ k = y) ∧ wA = wx) (fun _ kv _ => r - (intOf kv).toNat)
        case atStart => exact ⟨0, c, rfl, rfl, by omega, hc256, Lib.hid (by simp), rfl⟩
        case round =>
          obtain ⟨k, y, rfl, rfl, hk, hy256, HY, rfl⟩ := hrel
          by_cases hkr : k < r
          · have m1 : decide ((k : Int) < (r : Int)) = true := by simp; omega
            have m2 : decide (k < r) = true := by simp; omega
            have m3 := u8_half y hy256
            obtain ⟨z, hz⟩ : ∃ z, y / 2 = z := ⟨_, rfl⟩
            rw [hz] at m3
            have hz256 : z < 256 := by omega
            have m4 : IntKind.u8.wrap (z : Int) = (z : Int) := IntWalk.u8_in _ (by omega)
            have m5 : IntKind.i64.wrap ((k : Int) + 1) = (k : Int) + 1 := IntWalk.i64_in _ (by omega)
            have HZ := Lib.hid (show c / 2 ^ (k + 1) = z from by rw [← hz, ← HY.out, Nat.div_div_eq_div_mul, ← Nat.pow_succ])
            clear hz
            go_wp2
            go_roundw
            case rel => exact ⟨k + 1, z, rfl, by go_num, by omega, hz256, HZ, by first | trivial | rfl⟩
            case measure => simp [intOf]; omega
          · have m1 : decide ((k : Int) < (r : Int)) = false := by simp; omega
            have m2 : decide (k < r) = false := by simp; omega
            obtain rfl : k = r := by omega
            obtain ⟨t, ht⟩ : ∃ t, V.testBit i = t := ⟨_, rfl⟩
            have hbm := bit_mod c k
            rw [HY.out, ← HBI.out, ht] at hbm
            have m3 : ((y : Int)).tmod 2 = ((y % 2 : Nat) : Int) := by rw [Int.tmod_eq_emod_of_nonneg (by omega)]; omega
            obtain ⟨z, hz⟩ : ∃ z, y % 2 = z := ⟨_, rfl⟩
            rw [m3, hz] at hbm
            rw [hz] at m3
            have m4 : IntKind.u8.wrap (z : Int) = (z : Int) := IntWalk.u8_in _ (by omega)
            obtain ⟨A2, cc, w2', hrun, hO2⟩ := HO.out.app (by rw [bitsL_len]; omega) t
            rw [← ht, ← bitsL_succ] at hO2
            rw [bitsL_len] at hrun hO2
            have HRUN := Lib.hid hrun
            have HO2 := Lib.hid hO2
            clear ht hz hrun hO2 HY HBI
            go_wp2_with (first | (at_builtin; refine wpList_app rfl (.tmp 45) (.tmp 49) _ rfl _ _ rfl rfl HRUN.out ?_))
            go_roundw
            case rel => exact ⟨_, i + 1, rfl, by go_num, by omega, HSZ2, HO2⟩
            case measure => simp [intOf]; omega
    · have k1 : decide ((i : Int) < (x : Int)) = false := by simp; omega
      have k2 : decide (i < x) = false := by simp; omega
      obtain rfl : i = x := by omega
      obtain ⟨Z, hZ⟩ : ∃ W, wr = W := ⟨_, rfl⟩
      rw [hZ] at HO a0 ⊢
      clear hZ
      obtain ⟨Y, hY⟩ : ∃ Y, V % 2 ^ i = Y := ⟨_, rfl⟩
      have hYlt : Y < 2 ^ i := by rw [← hY]; exact Nat.mod_lt _ (Nat.two_pow_pos _)
      have HO2 := Lib.hid (show OwnB w u (bitsL i Y) Z from by rw [← hY, bitsL_mod]; exact HO.out)
      have hmap := map_iff HBS.out (HX.out ()) (by omega) HL.out HSZ.out
      rw [HV.out (), hY] at hmap
      obtain ⟨Au, cu, hu, _, hti⟩ := HO2.out.ti
      rw [bitsL_len] at hu
      subst hu
      have HTI := Lib.hid hti
      have HWR := Lib.hid (fun W (hT : TI W Au (bitsL i Y)) => rwrite_any (c := cu) (by omega) hYlt W hT)
      obtain ⟨X, hX⟩ : ∃ X, wrB i Y = X := ⟨_, rfl⟩
      have hX8 : isB8 X := by
        rw [← hX]
        intro t
        match t with
        | 0 => exact ⟨by show (0 : Int) ≤ (i : Int); omega, by show (i : Int) < 256; omega⟩
        | t + 1 => have := byR_b8 (sizeB i) Y t; simpa [wrB, List.getD] using this
      rw [hX] at HWR hmap
      obtain ⟨nX, hnX⟩ : ∃ m, X.length = m := ⟨_, rfl⟩
      have HNX := Lib.hid hnX
      have hse := str_eq hX8 HBS.out
      obtain ⟨G, hG⟩ : ∃ G, decide (X = bs) = G := ⟨_, rfl⟩
      rw [hG] at hse
      have HCB : Hid (∀ wx : World, Below Z.heap.size Z wx → (convert 28 9 (.slice (some ⟨bl, off, none⟩) N cap)).run Try.prog wx = .ok (.string (strOfNums bs)) wx) := Lib.hid (fun wx hbz => conv_text HL.out cap (HRI.out.below (HO.out.below.trans (hbz.mono HO.out.below.size))))
      obtain ⟨S1, hS1⟩ : ∃ S, strOfNums X = S := ⟨_, rfl⟩
      obtain ⟨S2, hS2⟩ : ∃ S, strOfNums bs = S := ⟨_, rfl⟩
      have HS1 := Lib.hid hS1
      rw [hS2] at HCB hse
      rw [hS1] at hse
      have HEND : Hid (∀ w', Below Z.heap.size Z w' → Q (.returned (.tuple #[.slice Au i cu, .bool G])) w') := Lib.hid (fun w' hbz => by
        cases G
        · exact HP.out (fun n b hm => (of_decide_eq_false hG) (hmap.1.2 (hmap.2 ⟨n, b, hm⟩))) _ _ (HO2.out.below.trans (hbz.mono HO2.out.below.size))
        · exact HPY.out i Y (hmap.1.1 (of_decide_eq_true hG)) _ _ (HO2.out.to hbz))
      clear hY hYlt hmap hti hX hX8 hnX hG hS1 hS2 HP HPY HO
      go_wp2
      refine wp_region_held_drew (S := fun W => Below Z.heap.size Z W) (by kernel_rfl) (belowN (Below.refl Z.heap.size Z) 1) (fun hHeld => ?_)
      refine wpAnyH_take (i := 0) (v := ?_) (by simp; rfl) (by kernel_rfl) (by kernel_rfl) (by kernel_rfl) (by exact fun _ _ _ h => h) (Or.inl ⟨by rfl, fun wx hSx => ?_⟩) hHeld ?_
      rotate_left
      · clear hSx; go_simp; (try with_reducible rfl)
      simp only [Act.put, List.setIfInBounds_toArray, List.set_cons_zero, List.set_cons_succ]
      refine wpAnyH_take (i := 1) (v := ?_) (by simp; rfl) (by kernel_rfl) (by kernel_rfl) (by kernel_rfl) (by exact fun _ _ _ h => h) (Or.inl ⟨by rfl, fun wx hSx => ?_⟩) hHeld ?_
      rotate_left
      · clear hSx; go_simp; (try with_reducible rfl)
      simp only [Act.put, List.setIfInBounds_toArray, List.set_cons_zero, List.set_cons_succ]
      refine wpAnyH_take (i := 4) (v := ?_) (by simp; rfl) (by kernel_rfl) (by kernel_rfl) (by kernel_rfl) (by exact fun _ _ _ h => h) (Or.inl ⟨by rfl, fun wx hSx => ?_⟩) hHeld ?_
      rotate_left
      · clear hSx; go_simp; (try with_reducible rfl)
      simp only [Act.put, List.setIfInBounds_toArray, List.set_cons_zero, List.set_cons_succ]
      refine wpAnyH_take (i := 5) (v := ?_) (by simp; rfl) (by kernel_rfl) (by kernel_rfl) (by kernel_rfl) (by exact fun _ _ _ h => h) (Or.inl ⟨by rfl, fun wx hSx => ?_⟩) hHeld ?_
      rotate_left
      · have e0 := HCB.out _ hSx; clear hSx; go_simp; (try with_reducible rfl)
      simp only [Act.put, List.setIfInBounds_toArray, List.set_cons_zero, List.set_cons_succ]
      refine wpAnyH_ready (rs := [2]) (by kernel_rfl) (by simp) ?_
      refine AllReadyH.cons (by simp; rfl) (fun K0 hK0 => ?_) AllReadyH.nil
      go_simp
      refine (HWR.out _ (HTI.out.below hHeld)).mono ?_
      rintro e V1 ⟨v1, rfl, hO⟩
      obtain ⟨A1, c1, rfl, _, _, r1⟩ := own8 hO
      rw [HNX.out]
      have hcv := fun (wx : World) (hb : Below V1.heap.size V1 wx) => conv_text (n := nX) HNX.out c1 (r1.below hb)
      rw [HS1.out] at hcv
      have HCV := Lib.hid hcv
      have hb1 := hO.below
      have HBV := Lib.hid (Below.trans hHeld (hb1.mono hHeld.size))
      refine hK0.out _ _ HBV.out (fun _ => ?_)
      clear hK0 K0 hHeld hcv r1 hO hb1
      refine heldMono (S' := fun W => Below V1.heap.size V1 W) (fun _ h => HBV.out.trans (h.mono HBV.out.size)) _ _ _ _ ?_
      have hHeld := Below.refl V1.heap.size V1
      refine wpAnyH_take (i := 3) (v := ?_) (by simp; rfl) (by kernel_rfl) (by kernel_rfl) (by kernel_rfl) (by exact fun _ _ _ h => h) (Or.inl ⟨by rfl, fun wx hSx => ?_⟩) hHeld ?_
      rotate_left
      · have e0 := HCV.out _ hSx; clear hSx; go_simp; (try with_reducible rfl)
      simp only [Act.put, List.setIfInBounds_toArray, List.set_cons_zero, List.set_cons_succ]
      refine wpAnyH_take (i := 6) (v := ?_) (by simp; rfl) (by kernel_rfl) (by kernel_rfl) (by kernel_rfl) (by exact fun _ _ _ h => h) (Or.inl ⟨by rfl, fun wx hSx => ?_⟩) hHeld ?_
      rotate_left
      · clear hSx; go_simp; (try with_reducible rfl)
      simp only [Act.put, List.setIfInBounds_toArray, List.set_cons_zero, List.set_cons_succ]
      refine wpAnyH_take (i := 7) (v := ?_) (by simp; rfl) (by kernel_rfl) (by kernel_rfl) (by kernel_rfl) (by exact fun _ _ _ h => h) (Or.inl ⟨by rfl, fun wx hSx => ?_⟩) hHeld ?_
      rotate_left
      · clear hSx; go_simp; (try with_reducible rfl)
      simp only [Act.put, List.setIfInBounds_toArray, List.set_cons_zero, List.set_cons_succ]
      refine wpAnyH_take (i := 8) (v := ?_) (by simp; rfl) (by kernel_rfl) (by kernel_rfl) (by kernel_rfl) (by exact fun _ _ _ h => h) (Or.inl ⟨by rfl, fun wx hSx => ?_⟩) hHeld ?_
      rotate_left
      · clear hSx; go_simp; (try with_reducible rfl)
      simp only [Act.put, List.setIfInBounds_toArray, List.set_cons_zero, List.set_cons_succ]
      refine wpAnyH_done (by kernel_rfl) ?_ _
      go_wp2
      exact HEND.out _ HBV.out
/-- The document's Read, of any bytes. -/
theorem rread_any {bs : List Int} (hb : isB8 bs) {A : Option Addr} {N cap : Nat} (hl : bs.length = N) (hN : N ≤ 100000) (w : World) (hR : RI .u8 w A bs) : Calls Try.prog 35 #[.slice A N cap] w (RRPost bs w) := by
  rcases Nat.eq_zero_or_pos N with h | h
  · subst h
    obtain rfl : bs = [] := List.eq_nil_of_length_eq_zero hl
    exact rread_empty A cap w
  · exact rread_some hb hl hN h w hR
end Go.Proofs.Ytlppnnehgfpgbaa
