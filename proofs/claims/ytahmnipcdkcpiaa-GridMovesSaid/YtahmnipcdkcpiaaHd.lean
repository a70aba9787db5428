/-
  Proved here: of the document's grids: Fill.
-/
import Derived.Test.YtahmnipcdkcpiaaHc
set_option linter.unusedSimpArgs false
set_option linter.unusedVariables false
namespace Go.Proofs.Ytahmnipcdkcpiaa
open Go.RowKit
/-- Cells that are put one behind the other since U. -/
structure FL (U : World) (L : List Ce) (v : Value) (W : World) : Prop where
  own : W.ownsRow U.heap.size 49 11 v L.length (flatY L)
  below : Below U.heap.size U W
section
variable {U W : World} {L : List Ce} {v : Value}
theorem FL.nil (U : World) : FL U [] (.slice none 0 0) U := ⟨World.ownsRow_nil _ _ _ _, Below.refl _ _⟩
theorem FL.next (H : FL U L v W) {W' : World} (hb : Below W.heap.size W W') : FL U L v W' :=
  ⟨H.own.kept ⟨hb.os, hb.tape, hb.output, hb.size, fun k hk _ => hb.block k hk⟩ (.inr (show v.ownBlock ≠ some W.heap.size from fun e => by have := (H.own.lt _ e).2; omega)), H.below.trans (hb.mono H.below.size)⟩
theorem FL.app (H : FL U L v W) (hL : L.length ≤ 100000) {fb : Nat} {c : Ce} (hblk : W.heap[fb]? = some (.cells (yC c).toArray 49 (0, 0))) :
    ∃ v' W2, (Builtin.append_ #[27, 27] 27 #[v, .slice (some ⟨fb, 0, none⟩) 1 1]).run Try.prog W = .ok v' W2 ∧ FL U (L ++ [c]) v' W2 := by
  obtain ⟨v', W2, hr, ho, hgr, hat⟩ := app_y H.own hblk hL H.below.size
  exact ⟨v', W2, hr, by rw [List.length_append]; exact ho, H.below.grown hgr H.below.size (fun k e => (H.own.lt k e).1)⟩
end
theorem tdiv_nat (i C : Nat) : ((i : Int)).tdiv (C : Int) = ((i / C : Nat) : Int) := by rw [Int.tdiv_eq_ediv_of_nonneg (by omega)]; rfl
theorem tmod_nat (i C : Nat) : ((i : Int)).tmod (C : Int) = ((i % C : Nat) : Int) := by rw [Int.tmod_eq_emod_of_nonneg (by omega)]; rfl
set_option maxRecDepth 100000 in
set_option maxHeartbeats 16000000 in
theorem rfill_yes {R C b n cap : Nat} {L : List Ce} {w : World} (h : YR w b L) (hn : L.length = n) (hn1 : 1 ≤ n) (hm : n ≤ 1000) (hC1 : 1 ≤ C) (hC : C ≤ 1000) {r0 : Nat} (hq : hasC R C (r0 : Int) 0 = true) (x y : Int) (c : Ce) : Calls Try.prog 34 #[XV R C b n cap, .int .i64 r0, .int .i64 x, .int .i64 y, yV c] w (XPost w R C n (genL n (dfillF C L r0 x y c)) (fun x => .tuple #[x, .int .i64 0])) := by
  obtain ⟨cp, c0, c1, c2, c3, c4, c5, c6, c7, cg, cb, hc⟩ := yC_form c
  have HU0 := Bx.new w R C (.slice (some ⟨b, 0, none⟩) n cap) c _ (congrArg List.toArray hc).symm
  have hyv : yV c = .agg #[.int .i32 cp, .bool c0, .bool c1, .bool c2, .bool c3, .bool c4, .bool c5, .bool c6, .bool c7, .int .u32 cg, .int .u32 cb] := by unfold yV; rw [hc]
  rw [hyv]
  have Hc := Lib.hid (fun (_ : Unit) => hc)
  have hC0 : ¬ (C : Int) = 0 := by omega
  have hC0' : ¬ C = 0 := by omega
  have hC0'' : ((C : Int) == 0) = false := by simp; omega
  have HN := Lib.hid hn
  clear hc hyv hn
  go_enter Try.func34, Try.ntmps34
  go_upto_region 1 with fail
  generalize (((w.alloc (.cells #[.int .i64 R, .int .i64 C, .slice (some ⟨b, 0, none⟩) n cap] 29)).alloc (.cells #[.int .i32 cp, .bool c0, .bool c1, .bool c2, .bool c3, .bool c4, .bool c5, .bool c6, .bool c7, .int .u32 cg, .int .u32 cb] 49)).alloc (.cells #[.int .i64 0, .int .i64 0, .slice none 0 0] 29)) = U at HU0 ⊢
  have hYU := h.below HU0.b
  have HU := Lib.hid HU0
  obtain ⟨x0, x1, x2⟩ := HU0.three
  clear HU0 h
  go_wp2_with fail
  refine (rhas_any _ _ _ _ _ _ _ _).mono ?_
  rintro e w3 ⟨rfl, hb3⟩
  rw [hq]
  have HX := Lib.hid (HU.out.next hb3)
  have HY := Lib.hid (hYU.below hb3)
  obtain ⟨z0, z1, z2⟩ := HX.out.three
  clear HU hYU hb3 x0 x1 x2
  go_wp2
  go_loopw [12, 13] (fun lv iv wr => ∃ (i : Nat) (v : Value), lv = v ∧ iv = .int .i64 i ∧ i ≤ n ∧ Hid (FL w3 (genL i (dfillF C L r0 x y c)) v wr)) (fun _ iv _ => n - (intOf iv).toNat)
  case atStart => exact ⟨0, _, rfl, rfl, by omega, Lib.hid (FL.nil _)⟩
  case round =>
    obtain ⟨i, v, rfl, rfl, hi, HS⟩ := hrel
    clear z0 z1 z2
    have HXR := Lib.hid (HX.out.next HS.out.below)
    obtain ⟨z0, z1, z2⟩ := HXR.out.three
    by_cases hin : i < n
    · have d5 : decide ((i : Int) < (n : Int)) = true := by simp; omega
      have e5 : decide (i < n) = true := by simp; omega
      have g1 : (0 : Int) ≤ (i : Int) := by omega
      have g2 : (i : Int) < (n : Int) := by omega
      have w1 : IntKind.i64.wrap ((i : Int) + 1) = (i : Int) + 1 := IntWalk.i64_in _ (by omega)
      obtain ⟨xp, x0, x1, x2, x3, x4, x5, x6, x7, xg, xb, hx⟩ := yC_form (ceAt L i)
      obtain ⟨y0, y1, y2, y3, y4, y5, y6, y7, y8, y9, y10⟩ := ((HY.out.below HS.out.below)).eleven (k := i) (by rw [HN.out]; exact hin) hx
      have Hx := Lib.hid (fun (_ : Unit) => hx)
      obtain ⟨a, ha⟩ : ∃ a, i / C = a := ⟨_, rfl⟩
      obtain ⟨r, hr0⟩ : ∃ a, i % C = a := ⟨_, rfl⟩
      have t1 : (i : Int).tdiv (C : Int) = (a : Int) := by rw [tdiv_nat, ha]
      have t2 : (i : Int).tmod (C : Int) = (r : Int) := by rw [tmod_nat, hr0]
      have hale : a ≤ i := by rw [← ha]; exact Nat.div_le_self _ _
      have hrlt : r < C := by rw [← hr0]; exact Nat.mod_lt _ hC1
      have t3 : IntKind.i64.wrap (a : Int) = (a : Int) := IntWalk.i64_in _ (by omega)
      have t4 : IntKind.i64.wrap (r : Int) = (r : Int) := IntWalk.i64_in _ (by omega)
      clear hx
      by_cases cc6 : a = r0
      · have p1 : ((a : Int) == (r0 : Int)) = true := by simp; omega
        have p2 : decide (a = r0) = true := by simp; omega
        have p3 : (a == r0) = true := by simp; omega
        by_cases cc8 : x ≤ (r : Int)
        · have p4 : decide (x ≤ (r : Int)) = true := by simpa using cc8
          have p4b : decide ((r : Int) ≥ x) = true := p4
          by_cases cc10 : (r : Int) < y
          · have p5 : decide ((r : Int) < y) = true := by simpa using cc10
            have HFE : Hid ((fun (_ : Unit) => (dfillF C L r0 x y c) i) = fun _ => c) := Lib.hid (by funext _; unfold dfillF; rw [ha, hr0]; exact if_pos ⟨cc6, cc8, cc10⟩)
            clear ha hr0 hale hrlt cc6 cc8 cc10
            have hb1 := (Below.refl wr.heap.size wr).alloc (Nat.le_refl _) (.cells #[.int .i32 xp, .bool x0, .bool x1, .bool x2, .bool x3, .bool x4, .bool x5, .bool x6, .bool x7, .int .u32 xg, .int .u32 xb] 49)
            obtain ⟨q0, q1, q2⟩ := (HXR.out.next hb1).three
            have hcc := (HXR.out.next hb1).c
            rw [Hc.out ()] at hcc
            obtain ⟨k0, k1, k2, k3, k4, k5, k6, k7, k8, k9, k10⟩ := cells11 hcc
            clear hcc hb1
            have hbt := (Below.refl (wr.alloc (.cells #[.int .i32 cp, .bool c0, .bool c1, .bool c2, .bool c3, .bool c4, .bool c5, .bool c6, .bool c7, .int .u32 cg, .int .u32 cb] 49)).heap.size (wr.alloc (.cells #[.int .i32 cp, .bool c0, .bool c1, .bool c2, .bool c3, .bool c4, .bool c5, .bool c6, .bool c7, .int .u32 cg, .int .u32 cb] 49))).alloc (Nat.le_refl _) (.cells #[.int .i32 cp, .bool c0, .bool c1, .bool c2, .bool c3, .bool c4, .bool c5, .bool c6, .bool c7, .int .u32 cg, .int .u32 cb] 49)
            obtain ⟨v2, W2, hr, H2⟩ := ((HS.out.next ((Below.refl wr.heap.size wr).alloc (Nat.le_refl _) (.cells #[.int .i32 cp, .bool c0, .bool c1, .bool c2, .bool c3, .bool c4, .bool c5, .bool c6, .bool c7, .int .u32 cg, .int .u32 cb] 49))).next hbt).app (by rw [genL_len]; omega) (fb := wr.heap.size + 1) (c := c) (by rw [Hc.out ()]; have hz := heap_alloc_new (wr.alloc (.cells #[.int .i32 cp, .bool c0, .bool c1, .bool c2, .bool c3, .bool c4, .bool c5, .bool c6, .bool c7, .int .u32 cg, .int .u32 cb] 49)) (.cells #[.int .i32 cp, .bool c0, .bool c1, .bool c2, .bool c3, .bool c4, .bool c5, .bool c6, .bool c7, .int .u32 cg, .int .u32 cb] 49); simpa using hz)
            have HS2 := Lib.hid H2
            clear H2 hbt
            go_wp2_with (first | (at_builtin; refine wpList_appY rfl (.tmp 55) (.tmp 57) _ rfl _ _ rfl rfl hr ?_))
            go_roundw
            case rel => exact ⟨i + 1, v2, rfl, by go_num, by omega, Lib.hid (by rw [genL_succ, congrFun HFE.out ()]; exact HS2.out)⟩
            case measure => simp [intOf]; omega
          · have p5 : decide ((r : Int) < y) = false := by simpa using cc10
            have HFE : Hid ((fun (_ : Unit) => (dfillF C L r0 x y c) i) = fun _ => ceAt L i) := Lib.hid (by funext _; unfold dfillF; rw [ha, hr0]; exact if_neg (fun e => cc10 e.2.2))
            clear ha hr0 hale hrlt cc6 cc8 cc10
            have hb1 := (Below.refl wr.heap.size wr).alloc (Nat.le_refl _) (.cells #[.int .i32 xp, .bool x0, .bool x1, .bool x2, .bool x3, .bool x4, .bool x5, .bool x6, .bool x7, .int .u32 xg, .int .u32 xb] 49)
            obtain ⟨q0, q1, q2⟩ := (HXR.out.next hb1).three
            have hcc := (HXR.out.next hb1).c
            rw [Hc.out ()] at hcc
            obtain ⟨k0, k1, k2, k3, k4, k5, k6, k7, k8, k9, k10⟩ := cells11 hcc
            clear hcc hb1
            have hbt := (Below.refl (wr.alloc (.cells #[.int .i32 xp, .bool x0, .bool x1, .bool x2, .bool x3, .bool x4, .bool x5, .bool x6, .bool x7, .int .u32 xg, .int .u32 xb] 49)).heap.size (wr.alloc (.cells #[.int .i32 xp, .bool x0, .bool x1, .bool x2, .bool x3, .bool x4, .bool x5, .bool x6, .bool x7, .int .u32 xg, .int .u32 xb] 49))).alloc (Nat.le_refl _) (.cells #[.int .i32 xp, .bool x0, .bool x1, .bool x2, .bool x3, .bool x4, .bool x5, .bool x6, .bool x7, .int .u32 xg, .int .u32 xb] 49)
            obtain ⟨v2, W2, hr, H2⟩ := ((HS.out.next ((Below.refl wr.heap.size wr).alloc (Nat.le_refl _) (.cells #[.int .i32 xp, .bool x0, .bool x1, .bool x2, .bool x3, .bool x4, .bool x5, .bool x6, .bool x7, .int .u32 xg, .int .u32 xb] 49))).next hbt).app (by rw [genL_len]; omega) (fb := wr.heap.size + 1) (c := (ceAt L i)) (by rw [Hx.out ()]; have hz := heap_alloc_new (wr.alloc (.cells #[.int .i32 xp, .bool x0, .bool x1, .bool x2, .bool x3, .bool x4, .bool x5, .bool x6, .bool x7, .int .u32 xg, .int .u32 xb] 49)) (.cells #[.int .i32 xp, .bool x0, .bool x1, .bool x2, .bool x3, .bool x4, .bool x5, .bool x6, .bool x7, .int .u32 xg, .int .u32 xb] 49); simpa using hz)
            have HS2 := Lib.hid H2
            clear H2 hbt
            go_wp2_with (first | (at_builtin; refine wpList_appY rfl (.tmp 55) (.tmp 57) _ rfl _ _ rfl rfl hr ?_))
            go_roundw
            case rel => exact ⟨i + 1, v2, rfl, by go_num, by omega, Lib.hid (by rw [genL_succ, congrFun HFE.out ()]; exact HS2.out)⟩
            case measure => simp [intOf]; omega
        · have p4 : decide (x ≤ (r : Int)) = false := by simpa using cc8
          have p4b : decide ((r : Int) ≥ x) = false := p4
          have HFE : Hid ((fun (_ : Unit) => (dfillF C L r0 x y c) i) = fun _ => ceAt L i) := Lib.hid (by funext _; unfold dfillF; rw [ha, hr0]; exact if_neg (fun e => cc8 e.2.1))
          clear ha hr0 hale hrlt cc6 cc8
          have hb1 := (Below.refl wr.heap.size wr).alloc (Nat.le_refl _) (.cells #[.int .i32 xp, .bool x0, .bool x1, .bool x2, .bool x3, .bool x4, .bool x5, .bool x6, .bool x7, .int .u32 xg, .int .u32 xb] 49)
          obtain ⟨q0, q1, q2⟩ := (HXR.out.next hb1).three
          have hcc := (HXR.out.next hb1).c
          rw [Hc.out ()] at hcc
          obtain ⟨k0, k1, k2, k3, k4, k5, k6, k7, k8, k9, k10⟩ := cells11 hcc
          clear hcc hb1
          have hbt := (Below.refl (wr.alloc (.cells #[.int .i32 xp, .bool x0, .bool x1, .bool x2, .bool x3, .bool x4, .bool x5, .bool x6, .bool x7, .int .u32 xg, .int .u32 xb] 49)).heap.size (wr.alloc (.cells #[.int .i32 xp, .bool x0, .bool x1, .bool x2, .bool x3, .bool x4, .bool x5, .bool x6, .bool x7, .int .u32 xg, .int .u32 xb] 49))).alloc (Nat.le_refl _) (.cells #[.int .i32 xp, .bool x0, .bool x1, .bool x2, .bool x3, .bool x4, .bool x5, .bool x6, .bool x7, .int .u32 xg, .int .u32 xb] 49)
          obtain ⟨v2, W2, hr, H2⟩ := ((HS.out.next ((Below.refl wr.heap.size wr).alloc (Nat.le_refl _) (.cells #[.int .i32 xp, .bool x0, .bool x1, .bool x2, .bool x3, .bool x4, .bool x5, .bool x6, .bool x7, .int .u32 xg, .int .u32 xb] 49))).next hbt).app (by rw [genL_len]; omega) (fb := wr.heap.size + 1) (c := (ceAt L i)) (by rw [Hx.out ()]; have hz := heap_alloc_new (wr.alloc (.cells #[.int .i32 xp, .bool x0, .bool x1, .bool x2, .bool x3, .bool x4, .bool x5, .bool x6, .bool x7, .int .u32 xg, .int .u32 xb] 49)) (.cells #[.int .i32 xp, .bool x0, .bool x1, .bool x2, .bool x3, .bool x4, .bool x5, .bool x6, .bool x7, .int .u32 xg, .int .u32 xb] 49); simpa using hz)
          have HS2 := Lib.hid H2
          clear H2 hbt
          go_wp2_with (first | (at_builtin; refine wpList_appY rfl (.tmp 55) (.tmp 57) _ rfl _ _ rfl rfl hr ?_))
          go_roundw
          case rel => exact ⟨i + 1, v2, rfl, by go_num, by omega, Lib.hid (by rw [genL_succ, congrFun HFE.out ()]; exact HS2.out)⟩
          case measure => simp [intOf]; omega
      · have p1 : ((a : Int) == (r0 : Int)) = false := by simp; omega
        have p2 : decide (a = r0) = false := by simp; omega
        have p3 : (a == r0) = false := by simp; omega
        have HFE : Hid ((fun (_ : Unit) => (dfillF C L r0 x y c) i) = fun _ => ceAt L i) := Lib.hid (by funext _; unfold dfillF; rw [ha, hr0]; exact if_neg (fun e => cc6 e.1))
        clear ha hr0 hale hrlt cc6
        have hb1 := (Below.refl wr.heap.size wr).alloc (Nat.le_refl _) (.cells #[.int .i32 xp, .bool x0, .bool x1, .bool x2, .bool x3, .bool x4, .bool x5, .bool x6, .bool x7, .int .u32 xg, .int .u32 xb] 49)
        obtain ⟨q0, q1, q2⟩ := (HXR.out.next hb1).three
        have hcc := (HXR.out.next hb1).c
        rw [Hc.out ()] at hcc
        obtain ⟨k0, k1, k2, k3, k4, k5, k6, k7, k8, k9, k10⟩ := cells11 hcc
        clear hcc hb1
        have hbt := (Below.refl (wr.alloc (.cells #[.int .i32 xp, .bool x0, .bool x1, .bool x2, .bool x3, .bool x4, .bool x5, .bool x6, .bool x7, .int .u32 xg, .int .u32 xb] 49)).heap.size (wr.alloc (.cells #[.int .i32 xp, .bool x0, .bool x1, .bool x2, .bool x3, .bool x4, .bool x5, .bool x6, .bool x7, .int .u32 xg, .int .u32 xb] 49))).alloc (Nat.le_refl _) (.cells #[.int .i32 xp, .bool x0, .bool x1, .bool x2, .bool x3, .bool x4, .bool x5, .bool x6, .bool x7, .int .u32 xg, .int .u32 xb] 49)
        obtain ⟨v2, W2, hr, H2⟩ := ((HS.out.next ((Below.refl wr.heap.size wr).alloc (Nat.le_refl _) (.cells #[.int .i32 xp, .bool x0, .bool x1, .bool x2, .bool x3, .bool x4, .bool x5, .bool x6, .bool x7, .int .u32 xg, .int .u32 xb] 49))).next hbt).app (by rw [genL_len]; omega) (fb := wr.heap.size + 1) (c := (ceAt L i)) (by rw [Hx.out ()]; have hz := heap_alloc_new (wr.alloc (.cells #[.int .i32 xp, .bool x0, .bool x1, .bool x2, .bool x3, .bool x4, .bool x5, .bool x6, .bool x7, .int .u32 xg, .int .u32 xb] 49)) (.cells #[.int .i32 xp, .bool x0, .bool x1, .bool x2, .bool x3, .bool x4, .bool x5, .bool x6, .bool x7, .int .u32 xg, .int .u32 xb] 49); simpa using hz)
        have HS2 := Lib.hid H2
        clear H2 hbt
        go_wp2_with (first | (at_builtin; refine wpList_appY rfl (.tmp 55) (.tmp 57) _ rfl _ _ rfl rfl hr ?_))
        go_roundw
        case rel => exact ⟨i + 1, v2, rfl, by go_num, by omega, Lib.hid (by rw [genL_succ, congrFun HFE.out ()]; exact HS2.out)⟩
        case measure => simp [intOf]; omega
    · have d5 : decide ((i : Int) < (n : Int)) = false := by simp; omega
      have e5 : decide (i < n) = false := by simp; omega
      have hiK : i = n := by omega
      have hs0 := HS.out
      rw [hiK] at hs0
      have ho := hs0.own
      rw [genL_len] at ho
      obtain ⟨b2, cap2, rfl, hR, hnl, hB2⟩ := RowY.of_own ho hn1
      have HR := Lib.hid hR
      have HB2 := Lib.hid (show w.heap.size + 3 ≤ b2 from by have := lt_of_block HX.out.z; omega)
      clear ho hR hB2 hiK hs0 HS hi hin hnl
      go_wp2_with fail
      refine (rwith_any _ _ _ _ _ _ _ _ _).mono ?_
      rintro e w5 ⟨rfl, hb5⟩
      have HZ := Lib.hid (HXR.out.next hb5).z
      have HE := Lib.hid ((HXR.out.next hb5).end_ #[.int .i64 R, .int .i64 C, .slice (some ⟨b2, 0, none⟩) n cap2])
      have HQ := Lib.hid (show XPost w R C n (genL n (dfillF C L r0 x y c)) (fun x => .tuple #[x, .int .i64 0]) (.returned ((fun x => .tuple #[x, .int .i64 0]) (XV R C b2 n cap2))) (w5.setRow (w.heap.size + 2) #[.int .i64 R, .int .i64 C, .slice (some ⟨b2, 0, none⟩) n cap2]) from
        ⟨b2, cap2, rfl, by have := HB2.out; omega, (HR.out.below hb5).grown (grown_setRow _ _ _) (fun e => by injection e; have := HB2.out; omega), HE.out.2⟩)
      clear hb5 z0 z1 z2 HXR HX
      go_wp2_with (refine wpList_store_row rfl 29 (.tmp 10) (.tmp 61) rfl (w.heap.size + 2) #[.int .i64 R, .int .i64 C, .slice (some ⟨b2, 0, none⟩) n cap2] rfl rfl 29 _ HZ.out gy_info rfl (gy_one R C rfl) ?_)
      exact bodyPost_ret (results_cell_tmp Try.results34 _ _ (w.heap.size + 2) 29 _ (0, 0) _ (.int .i64 0) rfl rfl HE.out.1 Try.underlying29 rfl gy_info) rfl HQ.out
end Go.Proofs.Ytahmnipcdkcpiaa
