/-
  Proved here: of the program's views: Read.
-/
import Derived.Test.YtcblohmenfdafaaDoorIg
set_option linter.unusedSimpArgs false
set_option linter.unusedVariables false
namespace Go.Proofs.YtcblohmenfdafaaDoor
open Go.RowKit
/-- What Read answers: the view whose bytes these are, or that it is none's. -/
def RdV (bs : List Int) (w : World) (e : Ending) (w' : World) : Prop :=
  (∃ R C row col vis L A1 n1 c1, isView bs R C row col vis L ∧ e = .returned (.tuple #[vV R C A1 n1 c1 row col vis, .int .i64 0]) ∧ n1 = L.length ∧ CR w' A1 L ∧ Below w.heap.size w w') ∨
  ((∀ R C row col vis L, ¬ isView bs R C row col vis L) ∧ e = .returned (.tuple #[.agg #[.int .i64 0, .int .i64 0, .slice none 0 0, .int .i64 0, .int .i64 0, .bool false], .int .i64 3]) ∧ Below w.heap.size w w')
theorem RdV.no {bs : List Int} {w w' : World} (h : ∀ R C row col vis L, ¬ isView bs R C row col vis L) (hb : Below w.heap.size w w') : RdV bs w (.returned (.tuple #[.agg #[.int .i64 0, .int .i64 0, .slice none 0 0, .int .i64 0, .int .i64 0, .bool false], .int .i64 3])) w' := .inr ⟨h, rfl, hb⟩
theorem VS.cr_set {w : World} {hb : Nat} {R C row col : Int} {vis : Bool} {M : List Ce} {A : Option Addr} {n c rb : Nat} {W : World} (H : VS w hb R C row col vis M (.slice A n c) W) (hr : w.heap.size = rb) (cs : Array Value) : CR (W.setRow rb cs) A M := by
  have hg := grown_setRow W rb cs
  have hne : (Value.slice A n c).ownBlock ≠ some rb := fun e => by have := ownBlock_le H.own rb e; have := H.gt; omega
  have hz := (hg.block w.heap.size (lt_of_block H.zero))
  intro hp
  obtain ⟨b, off, rfl, hlt, hc⟩ := H.cr hp
  have hb2 : b ≠ rb := fun e => hne (by subst e; rfl)
  have hbk := hg.block b hlt (by intro e; injection e with e; exact hb2 e)
  exact ⟨b, off, rfl, Nat.lt_of_lt_of_le hlt hg.size, fun i hi j u hu => (World.cell?_of_block (a := ⟨b, off + i * 4 + j, none⟩) hbk).trans (hc i hi j u hu)⟩
/-- From the first five bytes on. -/
theorem isView_of {bs : List Int} {R C row col x : Int} {vis : Bool} {N : Nat} (h0 : bs.getD 0 0 = R) (h1 : bs.getD 1 0 = C) (h2 : bs.getD 2 0 = row) (h3 : bs.getD 3 0 = col) (h4 : bs.getD 4 0 = x) (hN : R * C = N)
    (h : ∀ L, LOk L → L.length = N → bs = [R, C, row, col, x] ++ runsB 0 L → False) : ∀ R C row col vis L, ¬ isView bs R C row col vis L := by
  intro R2 C2 row2 col2 vis2 L hv
  obtain ⟨_, a1, a2, a3, a4, a5, _⟩ := isView_head hv
  obtain ⟨r1, r2, r3⟩ := hv
  have hl := (rightW_parts r1).2.1
  rw [h0] at a1; rw [h1] at a2; rw [h2] at a3; rw [h3] at a4; rw [h4] at a5
  subst a1 a2 a3 a4
  refine h L r2 (by omega) ?_
  rw [← a5]; exact r3
set_option maxRecDepth 100000 in
set_option maxHeartbeats 32000000 in
theorem p_viewread {w : World} {A : Option Addr} {bs : List Int} {n cap : Nat} (hR : RB w w.heap.size A bs) (hl : bs.length = n) (hn : n ≤ 100000) (hcap : n ≤ cap) (hm : cap ≤ maxLen) (hB : Bytes bs) (hT : Tab w) :
    Calls Tryd.prog 10 #[.slice A n cap] w (RdV bs w) := by
  have HB0 := (Below.refl w.heap.size w).alloc (Nat.le_refl _) (.cells #[.int .i64 0, .int .i64 0, .slice none 0 0, .int .i64 0, .int .i64 0, .bool false] 24)
  have HC0 := heap_alloc_new w (.cells #[.int .i64 0, .int .i64 0, .slice none 0 0, .int .i64 0, .int .i64 0, .bool false] 24)
  obtain ⟨rb, hrb⟩ : ∃ r, w.heap.size = r := ⟨_, rfl⟩
  have HRB := Lib.hid (show w.heap.size ≤ rb by omega)
  have HRBE := Lib.hid hrb
  have HB := Lib.hid hB
  have HL := Lib.hid hl
  have HRR := Lib.hid (fun (W : World) (hb : Below w.heap.size w W) => (hR.below hb).keep' hb.size)
  have HGT := Lib.hid (fun (W : World) (hb : Below w.heap.size w W) (p : Int) (r : Int × Int × Int) (hr : getS bs p = r) => pget_in (W := W) hR hl hcap hm hB hT hb p hr)
  have HGC := Lib.hid (fun (W : World) (hb : Below w.heap.size w W) (p : Int) => p_getcell (p := p) ((hR.below hb).keep' hb.size) hl hn hcap hm hB (hT.below hb hT.big))
  cases hh : headR bs with
  | false =>
    have HNO := Lib.hid (show ∀ R C row col vis L, ¬ isView bs R C row col vis L from fun R C row col vis L hv => by have := (isView_head hv).1; rw [hh] at this; cases this)
    have HRH := Lib.hid (fun (W : World) (hb : Below w.heap.size w W) => p_readhead_no ((hR.below hb).keep' hb.size) hl hcap hm hh)
    clear hR hl hn hcap hm hB hT hh
    go_enter Tryd.func10, Tryd.ntmps10
    go_upto_region 1 with fail
    go_step3
    simp only [hrb] at HC0 ⊢
    generalize (w.alloc (.cells #[.int .i64 0, .int .i64 0, .slice none 0 0, .int .i64 0, .int .i64 0, .bool false] 24)) = U at HB0 HC0 ⊢
    have HU := Lib.hid HB0
    have HZ0 := Lib.hid HC0
    clear HB0 HC0 hrb
    go_wp2_with fail
    refine (HRH.out _ HU.out).mono ?_
    rintro e w1 ⟨rfl, b1⟩
    have hba := (Below.refl w1.heap.size w1).alloc (Nat.le_refl _) (.cells #[.int .i64 0, .int .i64 0, .slice none 0 0, .int .i64 0, .int .i64 0, .bool false] 24)
    have HVB := Lib.hid (HU.out.trans ((b1.trans (hba.mono b1.size)).mono HU.out.size))
    have h1 := (b1.block _ (lt_of_block HZ0.out)).trans HZ0.out
    have HZR := Lib.hid ((hba.block _ (lt_of_block h1)).trans h1)
    clear b1 hba h1
    go_upto_region 2 with fail
    generalize (w1.alloc (.cells #[.int .i64 0, .int .i64 0, .slice none 0 0, .int .i64 0, .int .i64 0, .bool false] 24)) = V at HVB HZR ⊢
    go_wp2_with (refine wpList_store_row rfl 24 (.tmp 2) (.tmp 19) rfl rb #[.int .i64 0, .int .i64 0, .slice none 0 0, .int .i64 0, .int .i64 0, .bool false] rfl rfl 24 _ HZR.out info_view rfl (by simp [Value.oneCell']) ?_)
    try rw [Exit.noGoto_ret]
    exact bodyPost_ret (results_cell_tmp Tryd.results10 _ _ rb 24 #[.int .i64 0, .int .i64 0, .slice none 0 0, .int .i64 0, .int .i64 0, .bool false] (0, 0) _ (.int .i64 3) rfl rfl (setRow_heap _ _ _ #[.int .i64 0, .int .i64 0, .slice none 0 0, .int .i64 0, .int .i64 0, .bool false] _ _ HZR.out) Tryd.underlying24 rfl info_view) rfl (RdV.no HNO.out (below_setRow HVB.out HRB.out #[.int .i64 0, .int .i64 0, .slice none 0 0, .int .i64 0, .int .i64 0, .bool false]))
  | true =>
    have h5 : 5 ≤ n ∧ bs.getD 4 0 ≤ 1 := by
      unfold headR at hh
      rw [Bool.and_eq_true] at hh
      exact ⟨by have := of_decide_eq_true hh.1; omega, of_decide_eq_true hh.2⟩
    obtain ⟨R, h0⟩ : ∃ x, bs.getD 0 0 = x := ⟨_, rfl⟩
    obtain ⟨C, h1⟩ : ∃ x, bs.getD 1 0 = x := ⟨_, rfl⟩
    obtain ⟨row, h2⟩ : ∃ x, bs.getD 2 0 = x := ⟨_, rfl⟩
    obtain ⟨col, h3⟩ : ∃ x, bs.getD 3 0 = x := ⟨_, rfl⟩
    obtain ⟨x, h4⟩ : ∃ x, bs.getD 4 0 = x := ⟨_, rfl⟩
    obtain ⟨vis, hvis⟩ : ∃ q, (x == 1) = q := ⟨_, rfl⟩
    have hx4 : x = if vis = true then 1 else 0 := by
      have := hB 4
      rw [h4] at this h5
      rw [← hvis]
      by_cases hx : x = 1
      · simp [hx]
      · rw [if_neg (by simpa using hx)]; omega
    rw [h4] at h5
    have HRH := Lib.hid (fun (W : World) (hb : Below w.heap.size w W) => p_readhead ((hR.below hb).keep' hb.size) hl hcap hm hB h5.1 h0 h1 h2 h3 h4 h5.2 hvis)
    have HT5 := Lib.hid (show bs.take 5 = [R, C, row, col, x] from by rw [take_five (by omega), h0, h1, h2, h3, h4])
    have H5 := Lib.hid h5.1
    obtain ⟨a, ha⟩ : ∃ a, headB R C row col = a := ⟨_, rfl⟩
    rw [ha] at HRH
    have HNV := Lib.hid (fun (N : Nat) (hN : R * C = N) (h : ∀ L, LOk L → L.length = N → bs = [R, C, row, col, x] ++ runsB 0 L → False) => isView_of (vis := vis) h0 h1 h2 h3 h4 hN h)
    have HNH := Lib.hid (fun (hf : a = false) => (show ∀ R C row col vis L, ¬ isView bs R C row col vis L from fun R2 C2 row2 col2 vis2 L hv => by
      obtain ⟨_, a1, a2, a3, a4, _, a6⟩ := isView_head hv
      rw [a1, a2, a3, a4, h0, h1, h2, h3, ha, hf] at a6
      cases a6))
    have HX4 := Lib.hid hx4
    have HA := Lib.hid ha
    clear hR hl hn hcap hm hB hT hh h0 h1 h2 h3 h4 h5 hvis hx4 ha
    go_enter Tryd.func10, Tryd.ntmps10
    go_upto_region 1 with fail
    go_step3
    simp only [hrb] at HC0 ⊢
    generalize (w.alloc (.cells #[.int .i64 0, .int .i64 0, .slice none 0 0, .int .i64 0, .int .i64 0, .bool false] 24)) = U at HB0 HC0 ⊢
    have HU := Lib.hid HB0
    have HZ0 := Lib.hid HC0
    clear HB0 HC0 hrb
    go_wp2_with fail
    refine (HRH.out _ HU.out).mono ?_
    rintro e w1 ⟨rfl, b1⟩
    have hba := (Below.refl w1.heap.size w1).alloc (Nat.le_refl _) (.cells #[.int .i64 R, .int .i64 C, .slice none 0 0, .int .i64 row, .int .i64 col, .bool vis] 24)
    have hvb := HU.out.trans ((b1.trans (hba.mono b1.size)).mono HU.out.size)
    have h1 := (b1.block _ (lt_of_block HZ0.out)).trans HZ0.out
    have hz := (hba.block _ (lt_of_block h1)).trans h1
    obtain ⟨hb, hhb⟩ : ∃ g, w1.heap.size = g := ⟨_, rfl⟩
    have HV0 : Hid (VS w hb R C row col vis [] (.slice none 0 0) (w1.alloc (.cells #[.int .i64 R, .int .i64 C, .slice none 0 0, .int .i64 row, .int .i64 col, .bool vis] 24))) := Lib.hid (by
      have hn := heap_alloc_new w1 (.cells #[.int .i64 R, .int .i64 C, .slice none 0 0, .int .i64 row, .int .i64 col, .bool vis] 24)
      rw [hhb] at hn
      exact ⟨hn, World.ownsRow_nil _ _ _ _, by rw [HRBE.out]; exact hz, hvb, by rw [HRBE.out]; have := lt_of_block h1; omega⟩)
    clear b1 hba hvb h1 hz HRH HZ0 HU
    go_upto_region 2 with fail
    try simp only [hhb]
    generalize (w1.alloc (.cells #[.int .i64 R, .int .i64 C, .slice none 0 0, .int .i64 row, .int .i64 col, .bool vis] 24)) = V at HV0 ⊢
    clear hhb
    cases a with
    | false =>
      have HNO := Lib.hid (HNH.out rfl)
      have HZR := Lib.hid (show _ = _ from HRBE.out ▸ HV0.out.zero)
      have HVB := Lib.hid HV0.out.below
      go_wp2_with (refine wpList_store_row rfl 24 (.tmp 2) (.tmp 19) rfl rb #[.int .i64 0, .int .i64 0, .slice none 0 0, .int .i64 0, .int .i64 0, .bool false] rfl rfl 24 _ HZR.out info_view rfl (by simp [Value.oneCell']) ?_)
      try rw [Exit.noGoto_ret]
      exact bodyPost_ret (results_cell_tmp Tryd.results10 _ _ rb 24 #[.int .i64 0, .int .i64 0, .slice none 0 0, .int .i64 0, .int .i64 0, .bool false] (0, 0) _ (.int .i64 3) rfl rfl (setRow_heap _ _ _ #[.int .i64 0, .int .i64 0, .slice none 0 0, .int .i64 0, .int .i64 0, .bool false] _ _ HZR.out) Tryd.underlying24 rfl info_view) rfl (RdV.no HNO.out (below_setRow HVB.out HRB.out #[.int .i64 0, .int .i64 0, .slice none 0 0, .int .i64 0, .int .i64 0, .bool false]))
    | true =>
      have hh := HA.out
      have hhd : 1 ≤ R ∧ R ≤ 12 ∧ 1 ≤ C ∧ C ≤ 40 := by unfold headB at hh; simp at hh; omega
      obtain ⟨N, hN⟩ : ∃ N : Nat, R * C = N := ⟨(R * C).toNat, by have := Int.mul_nonneg (show 0 ≤ R by omega) (show 0 ≤ C by omega); omega⟩
      have hN4 : N ≤ 480 ∧ 1 ≤ N := by
        have h2 := Int.mul_le_mul hhd.2.1 hhd.2.2.2 (by omega) (by omega)
        have h3 := Int.mul_le_mul hhd.1 hhd.2.2.1 (by omega) (by omega)
        omega
      have hwN : IntKind.i64.wrap (R * C) = (N : Int) := by rw [hN]; exact IntWalk.i64_in _ (by omega)
      have HNN := Lib.hid (And.intro hN hN4)
      have HNV2 := Lib.hid (HNV.out N hN)
      have HI0 : Hid (RdI bs [R, C, row, col, x] N 5 N []) := Lib.hid (RdI.start HT5.out (by rw [HL.out]; exact H5.out))
      clear hh hhd hN hN4 HNV HNH HT5
      go_upto_region 4 with fail
      obtain ⟨s0, s1, s2, s3, s4, s5⟩ := six_cells HV0.out.blk
      go_wp2
      go_step3
      go_wp2
      go_loopw [6, 7] (fun pv rv wr => ∃ (p0 room : Nat) (M : List Ce) (A1 : Option Addr) (n1 c1 : Nat), pv = .int .i64 p0 ∧ rv = .int .i64 room ∧ Hid (VS w hb R C row col vis M (.slice A1 n1 c1) wr) ∧ Hid (RdI bs [R, C, row, col, x] N p0 room M) ∧ Hid (M.length = n1)) (fun _ rv _ => (intOf rv).toNat)
      case atStart => exact ⟨5, N, [], none, 0, 0, rfl, rfl, HV0, HI0, Lib.hid rfl⟩
      case round =>
        obtain ⟨p0, room, M, A1, n1, c1, rfl, rfl, HVS, HI, HNL⟩ := hrel
        clear s0 s1 s2 s3 s4 s5 HV0 HI0
        have hrm := HI.out.rm
        have HRM := Lib.hid hrm
        by_cases hr0 : 0 < room
        · have d1 : decide (0 < (room : Int)) = true := by simp; omega
          have d1' : decide (0 < room) = true := by simp; omega
          have d1'' : decide ((room : Int) > 0) = true := d1
          have HR0 := Lib.hid hr0
          have wrm : IntKind.u64.wrap (room : Int) = (room : Int) := IntWalk.u64_in _ (by have := HNN.out; omega)
          clear hr0
          obtain ⟨⟨q, j, z⟩, hq⟩ : ∃ r, getS bs (p0 : Int) = r := ⟨_, rfl⟩
          have HQ := Lib.hid hq
          have HG := Lib.hid (fun (W : World) (hb : Below w.heap.size w W) => HGT.out W hb (p0 : Int) _ hq)
          clear hq
          go_wp2_with fail
          refine (HG.out _ HVS.out.below).mono ?_
          rintro e wx ⟨rfl, rfl⟩
          clear HG
          by_cases hz : z = 0
          · subst hz
            have hq0 : 0 ≤ q := by
              have := getS_ok HB.out (p := p0) (by rw [HQ.out])
              rw [HQ.out] at this
              exact this.1
            by_cases hq1 : q = 0
            · subst hq1
              have HNO := Lib.hid (HNV2.out (fun L a b c => HI.out.no HNN.out.2.1 HR0.out (by rw [HQ.out]; exact .inr (.inl rfl)) a b c))
              clear hrm hq0
              obtain ⟨s0, s1, s2, s3, s4, s5⟩ := six_cells HVS.out.blk
              have HZR := Lib.hid (show _ = _ from HRBE.out ▸ HVS.out.zero)
              have HVB := Lib.hid HVS.out.below
              have zz : ((n1 : Int) != (N : Int)) = true := by have := HNL.out; have := HRM.out; have := HR0.out; simp; omega
              go_wp2_with (refine wpList_store_row rfl 24 (.tmp 2) (.tmp 102) rfl rb #[.int .i64 0, .int .i64 0, .slice none 0 0, .int .i64 0, .int .i64 0, .bool false] rfl rfl 24 _ HZR.out info_view rfl (by simp [Value.oneCell']) ?_)
              try rw [Exit.noGoto_ret]
              exact bodyPost_ret (results_cell_tmp Tryd.results10 _ _ rb 24 #[.int .i64 0, .int .i64 0, .slice none 0 0, .int .i64 0, .int .i64 0, .bool false] (0, 0) _ (.int .i64 3) rfl rfl (setRow_heap _ _ _ #[.int .i64 0, .int .i64 0, .slice none 0 0, .int .i64 0, .int .i64 0, .bool false] _ _ HZR.out) Tryd.underlying24 rfl info_view) rfl (RdV.no HNO.out (below_setRow HVB.out HRB.out #[.int .i64 0, .int .i64 0, .slice none 0 0, .int .i64 0, .int .i64 0, .bool false]))
            · have z1 : (q == 0) = false := by simpa using hq1
              have z1' : decide (q = 0) = false := by simpa using hq1
              by_cases hq2 : (room : Int) < q
              · have e2 : decide ((room : Int) < q) = true := by simpa using hq2
                have e2' : decide (q > (room : Int)) = true := e2
                have HNO := Lib.hid (HNV2.out (fun L a b c => HI.out.no HNN.out.2.1 HR0.out (by rw [HQ.out]; exact .inr (.inr hq2)) a b c))
                clear hrm hq0 hq1 hq2
                obtain ⟨s0, s1, s2, s3, s4, s5⟩ := six_cells HVS.out.blk
                have HZR := Lib.hid (show _ = _ from HRBE.out ▸ HVS.out.zero)
                have HVB := Lib.hid HVS.out.below
                have zz : ((n1 : Int) != (N : Int)) = true := by have := HNL.out; have := HRM.out; have := HR0.out; simp; omega
                go_wp2_with (refine wpList_store_row rfl 24 (.tmp 2) (.tmp 102) rfl rb #[.int .i64 0, .int .i64 0, .slice none 0 0, .int .i64 0, .int .i64 0, .bool false] rfl rfl 24 _ HZR.out info_view rfl (by simp [Value.oneCell']) ?_)
                try rw [Exit.noGoto_ret]
                exact bodyPost_ret (results_cell_tmp Tryd.results10 _ _ rb 24 #[.int .i64 0, .int .i64 0, .slice none 0 0, .int .i64 0, .int .i64 0, .bool false] (0, 0) _ (.int .i64 3) rfl rfl (setRow_heap _ _ _ #[.int .i64 0, .int .i64 0, .slice none 0 0, .int .i64 0, .int .i64 0, .bool false] _ _ HZR.out) Tryd.underlying24 rfl info_view) rfl (RdV.no HNO.out (below_setRow HVB.out HRB.out #[.int .i64 0, .int .i64 0, .slice none 0 0, .int .i64 0, .int .i64 0, .bool false]))
              · have e2 : decide ((room : Int) < q) = false := by simpa using hq2
                have e2' : decide (q > (room : Int)) = false := e2
                obtain ⟨k, rfl⟩ : ∃ k : Nat, q = k := ⟨q.toNat, by omega⟩
                have HKK := Lib.hid (show 1 ≤ k ∧ k ≤ 1000 from ⟨by omega, by have := HNN.out; omega⟩)
                have HKR := Lib.hid (show k ≤ room by omega)
                have e2n : decide (room < k) = false := by have := HKR.out; simp; omega
                have z1n : (k == 0) = false := by have := HKK.out; simp; omega
                have z1m : decide (k = 0) = false := by have := HKK.out; simp; omega
                have wk1 : IntKind.i64.wrap (k : Int) = (k : Int) := IntWalk.i64_in _ (by have := HKK.out; omega)
                have wk2 : IntKind.i64.wrap ((room : Int) - (k : Int)) = ((room - k : Nat) : Int) := by rw [show ((room - k : Nat) : Int) = (room : Int) - (k : Int) by have := HKR.out; omega]; exact IntWalk.i64_in _ (by have := HNN.out; omega)
                obtain ⟨⟨c, m, z2⟩, hc⟩ : ∃ r, getC bs j = r := ⟨_, rfl⟩
                have HCQ := Lib.hid hc
                have HG2 := Lib.hid (fun (W : World) (hb : Below w.heap.size w W) => hc ▸ HGC.out W hb j)
                obtain ⟨p, f, gg, bb⟩ := c
                unfold GetCP at HG2
                dsimp only [cV] at HG2
                clear hc hq1 hq2 hq0 hrm
                go_wp2_with fail
                refine (HG2.out _ HVS.out.below).mono ?_
                rintro e w2 ⟨rfl, b2⟩
                have hba := (Below.refl w2.heap.size w2).alloc (Nat.le_refl _) (.cells #[.int .i32 p, .int .u8 f, .int .u32 gg, .int .u32 bb] 50)
                have HVX := Lib.hid ((HVS.out.next b2).next hba)
                have HTX := Lib.hid (heap_alloc_new w2 (.cells #[.int .i32 p, .int .u8 f, .int .u32 gg, .int .u32 bb] 50))
                obtain ⟨tb, htb⟩ : ∃ t, w2.heap.size = t := ⟨_, rfl⟩
                clear b2 hba HG2 HVS
                go_upto_region 10 with fail
                simp only [htb] at HTX ⊢
                generalize (w2.alloc (.cells #[.int .i32 p, .int .u8 f, .int .u32 gg, .int .u32 bb] 50)) = X at HVX HTX ⊢
                clear htb
                have HVD := Lib.hid (HVX.out.next (Below.refl X.heap.size X).drew)
                have HTD := Lib.hid (((Below.refl X.heap.size X).drew.block _ (lt_of_block HTX.out)).trans HTX.out)
                obtain ⟨s0, s1, s2, s3, s4, s5⟩ := six_cells HVD.out.blk
                obtain ⟨k0, k1, k2, k3⟩ := four_at HTD.out
                clear HVX HTX
                have HVS := HVD
                have HT := HTD
                clear HVD HTD
                by_cases hz2 : z2 = 0
                · subst hz2
                  have zz2 : ((0 : Int) != 0) = false := rfl
                  by_cases hn0 : n1 = 0
                  · have e3 : decide (0 < (n1 : Int)) = false := by simp; omega
                    have e3' : decide (0 < n1) = false := by simp; omega
                    have HNE := Lib.hid (show M = [] ∨ M.getLast? ≠ some ⟨p, f, gg, bb⟩ from .inl (List.eq_nil_of_length_eq_zero (by rw [HNL.out]; exact hn0)))
                    clear hn0
                    go_wp2
                    go_big_region
                    have HRN := HI.out.next HNN.out.2.1 HB.out HQ.out (by have := HKK.out; omega) (by have := HKR.out; omega) HCQ.out HNE.out
                    obtain ⟨k', m', hk', hm', _, _, _, _, hI2⟩ := HRN
                    obtain rfl : k = k' := by omega
                    have HI2 := Lib.hid hI2
                    have HML := Lib.hid (show n1 ≤ 480 from by have := HNL.out; have := HRM.out; have := HNN.out; omega)
                    have HNL2 := Lib.hid (show (M ++ rep k ⟨p, f, gg, bb⟩).length = n1 + k from by rw [List.length_append, rep_len, HNL.out])
                    have HN1 := HNL
                    subst hm'
                    clear hI2 hk'
                    clear k0 k1 k2 k3 s0 s1 s2 s3 s4 s5
                    go_upto_region 11 with fail
                    refine wp_region_held_drew (S := fun W => Below w.heap.size w W) (by kernel_rfl) (HVS.out.next (Below.refl _ _).drew).below (fun hHeld => ?_)
                    have HVE := Lib.hid (HVS.out.next (Below.refl X.drew.heap.size X.drew).drew)
                    have HTE := Lib.hid (((Below.refl X.drew.heap.size X.drew).drew.block _ (lt_of_block HT.out)).trans HT.out)
                    clear HVS HT
                    obtain ⟨Y, hY⟩ : ∃ Y, X.drew.drew = Y := ⟨_, rfl⟩
                    simp only [hY] at hHeld HVE HTE ⊢
                    have HVS := HVE
                    have HT := HTE
                    clear HVE HTE hY
                    refine wpAnyH_take (i := 0) (v := ?_) (by simp; rfl) (by kernel_rfl) (by kernel_rfl) (by kernel_rfl) (by exact fun _ _ _ h => h) (Or.inl ⟨by rfl, fun wx hSx => ?_⟩) hHeld ?_
                    rotate_left
                    · clear hSx; go_simp; (try with_reducible rfl)
                    simp only [Act.put, List.setIfInBounds_toArray, List.set_cons_zero, List.set_cons_succ]
                    refine wpAnyH_take (i := 4) (v := ?_) (by simp; rfl) (by kernel_rfl) (by kernel_rfl) (by kernel_rfl) (by exact fun _ _ _ h => h) (Or.inl ⟨by rfl, fun wx hSx => ?_⟩) hHeld ?_
                    rotate_left
                    · clear hSx; go_simp; (try with_reducible rfl)
                    simp only [Act.put, List.setIfInBounds_toArray, List.set_cons_zero, List.set_cons_succ]
                    refine wpAnyH_take (i := 5) (v := ?_) (by simp; rfl) (by kernel_rfl) (by kernel_rfl) (by kernel_rfl) (by exact fun _ _ _ h => h) (Or.inl ⟨by rfl, fun wx hSx => ?_⟩) hHeld ?_
                    rotate_left
                    · clear hSx; go_simp; (try with_reducible rfl)
                    simp only [Act.put, List.setIfInBounds_toArray, List.set_cons_zero, List.set_cons_succ]
                    refine wpAnyH_ready (rs := [1, 2]) (by kernel_rfl) (by simp) ?_
                    refine AllReadyH.cons (by simp; rfl) (fun K0 hK0 => ?_) (AllReadyH.cons (by simp; rfl) (fun K0 hK0 => ?_) AllReadyH.nil)
                    · obtain ⟨s0, s1, s2, s3, s4, s5⟩ := six_cells HVS.out.blk
                      go_simp
                      refine hK0.out _ _ HVS.out.below (fun _ => ?_)
                      clear hK0 K0 s0 s1 s2 s3 s4 s5
                      refine wpAnyH_ready (rs := [2]) (by kernel_rfl) (by simp) ?_
                      refine AllReadyH.cons (by simp; rfl) (fun K0 hK0 => ?_) AllReadyH.nil
                      obtain ⟨k0, k1, k2, k3⟩ := four_at HT.out
                      go_simp
                      refine hK0.out _ _ HVS.out.below (fun _ => ?_)
                      clear hK0 K0 k0 k1 k2 k3
                      refine wpAnyH_ready (rs := [3]) (by kernel_rfl) (by simp) ?_
                      refine AllReadyH.cons (by simp; rfl) (fun K0 hK0 => ?_) AllReadyH.nil
                      go_simp
                      have HV2 := Lib.hid (HVS.out.next ((Below.refl Y.heap.size Y).alloc (Nat.le_refl _) (.cells #[.int .i32 p, .int .u8 f, .int .u32 gg, .int .u32 bb] 50)))
                      have HBK := Lib.hid (heap_alloc_new Y (.cells #[.int .i32 p, .int .u8 f, .int .u32 gg, .int .u32 bb] 50))
                      clear HVS HT
                      have HVS := HV2
                      clear HV2
                      obtain ⟨fb, hfb⟩ : ∃ g, Y.heap.size = g := ⟨_, rfl⟩
                      rw [hfb] at HBK ⊢
                      clear hfb
                      generalize (Y.alloc (.cells #[.int .i32 p, .int .u8 f, .int .u32 gg, .int .u32 bb] 50)) = b2 at HVS HBK ⊢
                      refine hK0.out _ _ HVS.out.below (fun _ => ?_)
                      clear hK0 K0 hHeld
                      have hHeld := HVS.out.below
                      refine wpAnyH_ready (rs := [6]) (by kernel_rfl) (by simp) ?_
                      refine AllReadyH.cons (by simp; rfl) (fun K0 hK0 => ?_) AllReadyH.nil
                      go_simp
                      refine (repeat_any (c := ⟨p, f, gg, bb⟩) (lt_of_block HBK.out) (fun j v hv => by unfold World.cell?; simp only [HBK.out]; simpa [gC] using hv) HKK.out.1 HKK.out.2).mono ?_
                      rintro e r3 ⟨eb, rfl, hge, hrow, hbV⟩
                      have HRW := Lib.hid hrow
                      have HV2 := Lib.hid (HVS.out.next hbV)
                      clear HVS HBK hge hrow hbV
                      have HVS := HV2
                      clear HV2
                      refine hK0.out _ _ HVS.out.below (fun _ => ?_)
                      clear hK0 K0 hHeld
                      have hHeld := HVS.out.below
                      refine wpAnyH_ready (rs := [7]) (by kernel_rfl) (by simp) ?_
                      refine AllReadyH.cons (by simp; rfl) (fun K0 hK0 => ?_) AllReadyH.nil
                      have how := HVS.out.own
                      rw [HN1.out] at how
                      obtain ⟨v2, W2, hrun, ho, hg, hat⟩ := app_c how HRW.out (rep_len k ⟨p, f, gg, bb⟩) (by have := HML.out; have := HKK.out; omega) (by have := lt_of_block HVS.out.blk; omega)
                      refine step_app rfl (.tmp 74) (.tmp 79) _ rfl _ _ rfl rfl hrun ?_
                      simp only [Act.put, List.setIfInBounds_toArray, List.set_cons_zero, List.set_cons_succ]
                      obtain ⟨A2, c2, hv2, _⟩ := own_slice ho
                      subst hv2
                      have HPV := Lib.hid (HVS.out.put hg ho (by rw [List.length_append, rep_len, HN1.out]))
                      have q0 := Lib.hid ((hg.block hb (lt_of_block HVS.out.blk) (by intro e; have := ownBlock_le HVS.out.own hb e.symm; omega)).trans HVS.out.blk)
                      have HB3 := Lib.hid (HVS.out.below.grown hg HVS.out.below.size (fun k hk => by have := ownBlock_le HVS.out.own k hk; have := HVS.out.gt; omega))
                      clear hrun ho hg hat how
                      refine hK0.out _ _ HB3.out (fun _ => ?_)
                      clear hK0 K0 hHeld
                      have hHeld := HB3.out
                      refine wpAnyH_take (i := 8) (v := ?_) (by simp; rfl) (by kernel_rfl) (by kernel_rfl) (by kernel_rfl) (by exact fun _ _ _ h => h) (Or.inl ⟨by rfl, fun wx hSx => ?_⟩) hHeld ?_
                      rotate_left
                      · clear hSx; go_simp; (try with_reducible rfl)
                      simp only [Act.put, List.setIfInBounds_toArray, List.set_cons_zero, List.set_cons_succ]
                      refine wpAnyH_ready (rs := [9]) (by kernel_rfl) (by simp) ?_
                      refine AllReadyH.cons (by simp; rfl) (fun K0 hK0 => ?_) AllReadyH.nil
                      obtain ⟨s0, s1, s2, s3, s4, s5⟩ := six_cells q0.out
                      have q1 := frozen_of_row W2 hb 2 _ _ q0.out
                      go_simp
                      refine hK0.out _ _ HPV.out.below (fun _ => ?_)
                      clear hK0 K0 hHeld s0 s1 s2 s3 s4 s5 q1
                      have hHeld := HPV.out.below
                      refine wpAnyH_done (by kernel_rfl) ?_ _
                      generalize (W2.setCell ⟨hb, 2, none⟩ (.slice A2 (n1 + k) c2)) = W3 at HPV ⊢
                      go_wp2
                      go_roundw
                      case rel => exact ⟨_, _, _, _, _, _, by go_num, by go_num, HPV, HI2, HNL2⟩
                      case measure => have := HRM.out; have := HKK.out; simp [intOf]; omega
                    · obtain ⟨k0, k1, k2, k3⟩ := four_at HT.out
                      go_simp
                      refine hK0.out _ _ HVS.out.below (fun _ => ?_)
                      clear hK0 K0 k0 k1 k2 k3
                      refine wpAnyH_ready (rs := [1, 3]) (by kernel_rfl) (by simp) ?_
                      refine AllReadyH.cons (by simp; rfl) (fun K0 hK0 => ?_) (AllReadyH.cons (by simp; rfl) (fun K0 hK0 => ?_) AllReadyH.nil)
                      · obtain ⟨s0, s1, s2, s3, s4, s5⟩ := six_cells HVS.out.blk
                        go_simp
                        refine hK0.out _ _ HVS.out.below (fun _ => ?_)
                        clear hK0 K0 s0 s1 s2 s3 s4 s5
                        refine wpAnyH_ready (rs := [3]) (by kernel_rfl) (by simp) ?_
                        refine AllReadyH.cons (by simp; rfl) (fun K0 hK0 => ?_) AllReadyH.nil
                        go_simp
                        have HV2 := Lib.hid (HVS.out.next ((Below.refl Y.heap.size Y).alloc (Nat.le_refl _) (.cells #[.int .i32 p, .int .u8 f, .int .u32 gg, .int .u32 bb] 50)))
                        have HBK := Lib.hid (heap_alloc_new Y (.cells #[.int .i32 p, .int .u8 f, .int .u32 gg, .int .u32 bb] 50))
                        clear HVS HT
                        have HVS := HV2
                        clear HV2
                        obtain ⟨fb, hfb⟩ : ∃ g, Y.heap.size = g := ⟨_, rfl⟩
                        rw [hfb] at HBK ⊢
                        clear hfb
                        generalize (Y.alloc (.cells #[.int .i32 p, .int .u8 f, .int .u32 gg, .int .u32 bb] 50)) = b2 at HVS HBK ⊢
                        refine hK0.out _ _ HVS.out.below (fun _ => ?_)
                        clear hK0 K0 hHeld
                        have hHeld := HVS.out.below
                        refine wpAnyH_ready (rs := [6]) (by kernel_rfl) (by simp) ?_
                        refine AllReadyH.cons (by simp; rfl) (fun K0 hK0 => ?_) AllReadyH.nil
                        go_simp
                        refine (repeat_any (c := ⟨p, f, gg, bb⟩) (lt_of_block HBK.out) (fun j v hv => by unfold World.cell?; simp only [HBK.out]; simpa [gC] using hv) HKK.out.1 HKK.out.2).mono ?_
                        rintro e r3 ⟨eb, rfl, hge, hrow, hbV⟩
                        have HRW := Lib.hid hrow
                        have HV2 := Lib.hid (HVS.out.next hbV)
                        clear HVS HBK hge hrow hbV
                        have HVS := HV2
                        clear HV2
                        refine hK0.out _ _ HVS.out.below (fun _ => ?_)
                        clear hK0 K0 hHeld
                        have hHeld := HVS.out.below
                        refine wpAnyH_ready (rs := [7]) (by kernel_rfl) (by simp) ?_
                        refine AllReadyH.cons (by simp; rfl) (fun K0 hK0 => ?_) AllReadyH.nil
                        have how := HVS.out.own
                        rw [HN1.out] at how
                        obtain ⟨v2, W2, hrun, ho, hg, hat⟩ := app_c how HRW.out (rep_len k ⟨p, f, gg, bb⟩) (by have := HML.out; have := HKK.out; omega) (by have := lt_of_block HVS.out.blk; omega)
                        refine step_app rfl (.tmp 74) (.tmp 79) _ rfl _ _ rfl rfl hrun ?_
                        simp only [Act.put, List.setIfInBounds_toArray, List.set_cons_zero, List.set_cons_succ]
                        obtain ⟨A2, c2, hv2, _⟩ := own_slice ho
                        subst hv2
                        have HPV := Lib.hid (HVS.out.put hg ho (by rw [List.length_append, rep_len, HN1.out]))
                        have q0 := Lib.hid ((hg.block hb (lt_of_block HVS.out.blk) (by intro e; have := ownBlock_le HVS.out.own hb e.symm; omega)).trans HVS.out.blk)
                        have HB3 := Lib.hid (HVS.out.below.grown hg HVS.out.below.size (fun k hk => by have := ownBlock_le HVS.out.own k hk; have := HVS.out.gt; omega))
                        clear hrun ho hg hat how
                        refine hK0.out _ _ HB3.out (fun _ => ?_)
                        clear hK0 K0 hHeld
                        have hHeld := HB3.out
                        refine wpAnyH_take (i := 8) (v := ?_) (by simp; rfl) (by kernel_rfl) (by kernel_rfl) (by kernel_rfl) (by exact fun _ _ _ h => h) (Or.inl ⟨by rfl, fun wx hSx => ?_⟩) hHeld ?_
                        rotate_left
                        · clear hSx; go_simp; (try with_reducible rfl)
                        simp only [Act.put, List.setIfInBounds_toArray, List.set_cons_zero, List.set_cons_succ]
                        refine wpAnyH_ready (rs := [9]) (by kernel_rfl) (by simp) ?_
                        refine AllReadyH.cons (by simp; rfl) (fun K0 hK0 => ?_) AllReadyH.nil
                        obtain ⟨s0, s1, s2, s3, s4, s5⟩ := six_cells q0.out
                        have q1 := frozen_of_row W2 hb 2 _ _ q0.out
                        go_simp
                        refine hK0.out _ _ HPV.out.below (fun _ => ?_)
                        clear hK0 K0 hHeld s0 s1 s2 s3 s4 s5 q1
                        have hHeld := HPV.out.below
                        refine wpAnyH_done (by kernel_rfl) ?_ _
                        generalize (W2.setCell ⟨hb, 2, none⟩ (.slice A2 (n1 + k) c2)) = W3 at HPV ⊢
                        go_wp2
                        go_roundw
                        case rel => exact ⟨_, _, _, _, _, _, by go_num, by go_num, HPV, HI2, HNL2⟩
                        case measure => have := HRM.out; have := HKK.out; simp [intOf]; omega
                      · go_simp
                        have HV2 := Lib.hid (HVS.out.next ((Below.refl Y.heap.size Y).alloc (Nat.le_refl _) (.cells #[.int .i32 p, .int .u8 f, .int .u32 gg, .int .u32 bb] 50)))
                        have HBK := Lib.hid (heap_alloc_new Y (.cells #[.int .i32 p, .int .u8 f, .int .u32 gg, .int .u32 bb] 50))
                        clear HVS HT
                        have HVS := HV2
                        clear HV2
                        obtain ⟨fb, hfb⟩ : ∃ g, Y.heap.size = g := ⟨_, rfl⟩
                        rw [hfb] at HBK ⊢
                        clear hfb
                        generalize (Y.alloc (.cells #[.int .i32 p, .int .u8 f, .int .u32 gg, .int .u32 bb] 50)) = b1 at HVS HBK ⊢
                        refine hK0.out _ _ HVS.out.below (fun _ => ?_)
                        clear hK0 K0 hHeld
                        have hHeld := HVS.out.below
                        refine wpAnyH_ready (rs := [1, 6]) (by kernel_rfl) (by simp) ?_
                        refine AllReadyH.cons (by simp; rfl) (fun K0 hK0 => ?_) (AllReadyH.cons (by simp; rfl) (fun K0 hK0 => ?_) AllReadyH.nil)
                        · obtain ⟨s0, s1, s2, s3, s4, s5⟩ := six_cells HVS.out.blk
                          go_simp
                          refine hK0.out _ _ HVS.out.below (fun _ => ?_)
                          clear hK0 K0 s0 s1 s2 s3 s4 s5
                          refine wpAnyH_ready (rs := [6]) (by kernel_rfl) (by simp) ?_
                          refine AllReadyH.cons (by simp; rfl) (fun K0 hK0 => ?_) AllReadyH.nil
                          go_simp
                          refine (repeat_any (c := ⟨p, f, gg, bb⟩) (lt_of_block HBK.out) (fun j v hv => by unfold World.cell?; simp only [HBK.out]; simpa [gC] using hv) HKK.out.1 HKK.out.2).mono ?_
                          rintro e r3 ⟨eb, rfl, hge, hrow, hbV⟩
                          have HRW := Lib.hid hrow
                          have HV2 := Lib.hid (HVS.out.next hbV)
                          clear HVS HBK hge hrow hbV
                          have HVS := HV2
                          clear HV2
                          refine hK0.out _ _ HVS.out.below (fun _ => ?_)
                          clear hK0 K0 hHeld
                          have hHeld := HVS.out.below
                          refine wpAnyH_ready (rs := [7]) (by kernel_rfl) (by simp) ?_
                          refine AllReadyH.cons (by simp; rfl) (fun K0 hK0 => ?_) AllReadyH.nil
                          have how := HVS.out.own
                          rw [HN1.out] at how
                          obtain ⟨v2, W2, hrun, ho, hg, hat⟩ := app_c how HRW.out (rep_len k ⟨p, f, gg, bb⟩) (by have := HML.out; have := HKK.out; omega) (by have := lt_of_block HVS.out.blk; omega)
                          refine step_app rfl (.tmp 74) (.tmp 79) _ rfl _ _ rfl rfl hrun ?_
                          simp only [Act.put, List.setIfInBounds_toArray, List.set_cons_zero, List.set_cons_succ]
                          obtain ⟨A2, c2, hv2, _⟩ := own_slice ho
                          subst hv2
                          have HPV := Lib.hid (HVS.out.put hg ho (by rw [List.length_append, rep_len, HN1.out]))
                          have q0 := Lib.hid ((hg.block hb (lt_of_block HVS.out.blk) (by intro e; have := ownBlock_le HVS.out.own hb e.symm; omega)).trans HVS.out.blk)
                          have HB3 := Lib.hid (HVS.out.below.grown hg HVS.out.below.size (fun k hk => by have := ownBlock_le HVS.out.own k hk; have := HVS.out.gt; omega))
                          clear hrun ho hg hat how
                          refine hK0.out _ _ HB3.out (fun _ => ?_)
                          clear hK0 K0 hHeld
                          have hHeld := HB3.out
                          refine wpAnyH_take (i := 8) (v := ?_) (by simp; rfl) (by kernel_rfl) (by kernel_rfl) (by kernel_rfl) (by exact fun _ _ _ h => h) (Or.inl ⟨by rfl, fun wx hSx => ?_⟩) hHeld ?_
                          rotate_left
                          · clear hSx; go_simp; (try with_reducible rfl)
                          simp only [Act.put, List.setIfInBounds_toArray, List.set_cons_zero, List.set_cons_succ]
                          refine wpAnyH_ready (rs := [9]) (by kernel_rfl) (by simp) ?_
                          refine AllReadyH.cons (by simp; rfl) (fun K0 hK0 => ?_) AllReadyH.nil
                          obtain ⟨s0, s1, s2, s3, s4, s5⟩ := six_cells q0.out
                          have q1 := frozen_of_row W2 hb 2 _ _ q0.out
                          go_simp
                          refine hK0.out _ _ HPV.out.below (fun _ => ?_)
                          clear hK0 K0 hHeld s0 s1 s2 s3 s4 s5 q1
                          have hHeld := HPV.out.below
                          refine wpAnyH_done (by kernel_rfl) ?_ _
                          generalize (W2.setCell ⟨hb, 2, none⟩ (.slice A2 (n1 + k) c2)) = W3 at HPV ⊢
                          go_wp2
                          go_roundw
                          case rel => exact ⟨_, _, _, _, _, _, by go_num, by go_num, HPV, HI2, HNL2⟩
                          case measure => have := HRM.out; have := HKK.out; simp [intOf]; omega
                        · go_simp
                          refine (repeat_any (c := ⟨p, f, gg, bb⟩) (lt_of_block HBK.out) (fun j v hv => by unfold World.cell?; simp only [HBK.out]; simpa [gC] using hv) HKK.out.1 HKK.out.2).mono ?_
                          rintro e r2 ⟨eb, rfl, hge, hrow, hbV⟩
                          have HRW := Lib.hid hrow
                          have HV2 := Lib.hid (HVS.out.next hbV)
                          clear HVS HBK hge hrow hbV
                          have HVS := HV2
                          clear HV2
                          refine hK0.out _ _ HVS.out.below (fun _ => ?_)
                          clear hK0 K0 hHeld
                          have hHeld := HVS.out.below
                          refine wpAnyH_ready (rs := [1]) (by kernel_rfl) (by simp) ?_
                          refine AllReadyH.cons (by simp; rfl) (fun K0 hK0 => ?_) AllReadyH.nil
                          obtain ⟨s0, s1, s2, s3, s4, s5⟩ := six_cells HVS.out.blk
                          go_simp
                          refine hK0.out _ _ HVS.out.below (fun _ => ?_)
                          clear hK0 K0 s0 s1 s2 s3 s4 s5
                          refine wpAnyH_ready (rs := [7]) (by kernel_rfl) (by simp) ?_
                          refine AllReadyH.cons (by simp; rfl) (fun K0 hK0 => ?_) AllReadyH.nil
                          have how := HVS.out.own
                          rw [HN1.out] at how
                          obtain ⟨v2, W2, hrun, ho, hg, hat⟩ := app_c how HRW.out (rep_len k ⟨p, f, gg, bb⟩) (by have := HML.out; have := HKK.out; omega) (by have := lt_of_block HVS.out.blk; omega)
                          refine step_app rfl (.tmp 74) (.tmp 79) _ rfl _ _ rfl rfl hrun ?_
                          simp only [Act.put, List.setIfInBounds_toArray, List.set_cons_zero, List.set_cons_succ]
                          obtain ⟨A2, c2, hv2, _⟩ := own_slice ho
                          subst hv2
                          have HPV := Lib.hid (HVS.out.put hg ho (by rw [List.length_append, rep_len, HN1.out]))
                          have q0 := Lib.hid ((hg.block hb (lt_of_block HVS.out.blk) (by intro e; have := ownBlock_le HVS.out.own hb e.symm; omega)).trans HVS.out.blk)
                          have HB3 := Lib.hid (HVS.out.below.grown hg HVS.out.below.size (fun k hk => by have := ownBlock_le HVS.out.own k hk; have := HVS.out.gt; omega))
                          clear hrun ho hg hat how
                          refine hK0.out _ _ HB3.out (fun _ => ?_)
                          clear hK0 K0 hHeld
                          have hHeld := HB3.out
                          refine wpAnyH_take (i := 8) (v := ?_) (by simp; rfl) (by kernel_rfl) (by kernel_rfl) (by kernel_rfl) (by exact fun _ _ _ h => h) (Or.inl ⟨by rfl, fun wx hSx => ?_⟩) hHeld ?_
                          rotate_left
                          · clear hSx; go_simp; (try with_reducible rfl)
                          simp only [Act.put, List.setIfInBounds_toArray, List.set_cons_zero, List.set_cons_succ]
                          refine wpAnyH_ready (rs := [9]) (by kernel_rfl) (by simp) ?_
                          refine AllReadyH.cons (by simp; rfl) (fun K0 hK0 => ?_) AllReadyH.nil
                          obtain ⟨s0, s1, s2, s3, s4, s5⟩ := six_cells q0.out
                          have q1 := frozen_of_row W2 hb 2 _ _ q0.out
                          go_simp
                          refine hK0.out _ _ HPV.out.below (fun _ => ?_)
                          clear hK0 K0 hHeld s0 s1 s2 s3 s4 s5 q1
                          have hHeld := HPV.out.below
                          refine wpAnyH_done (by kernel_rfl) ?_ _
                          generalize (W2.setCell ⟨hb, 2, none⟩ (.slice A2 (n1 + k) c2)) = W3 at HPV ⊢
                          go_wp2
                          go_roundw
                          case rel => exact ⟨_, _, _, _, _, _, by go_num, by go_num, HPV, HI2, HNL2⟩
                          case measure => have := HRM.out; have := HKK.out; simp [intOf]; omega
                  · have e3 : decide (0 < (n1 : Int)) = true := by simp; omega
                    have e3' : decide (0 < n1) = true := by simp; omega
                    have wn1 : IntKind.i64.wrap ((n1 : Int) - 1) = (n1 : Int) - 1 := IntWalk.i64_in _ (by have := HRM.out; have := HNL.out; have := HNN.out; omega)
                    have tn : ((n1 : Int) - 1).toNat = n1 - 1 := by omega
                    have g3 : (0 : Int) ≤ (n1 : Int) - 1 := by omega
                    have g4 : (n1 : Int) - 1 < (n1 : Int) := by omega
                    obtain ⟨gb, goff, rfl, hgl, hgc⟩ := HVS.out.cr (by have := HNL.out; omega)
                    have hlast : M.getLast? = some (ceAt M (n1 - 1)) := by
                      have hl := HNL.out
                      rw [List.getLast?_eq_getElem?, hl]
                      simp [ceAt, List.getD, show n1 - 1 < M.length by omega]
                    have hcel := hgc (n1 - 1) (by have := HNL.out; omega)
                    obtain ⟨⟨p', f', gg', bb'⟩, hce⟩ : ∃ c, ceAt M (n1 - 1) = c := ⟨_, rfl⟩
                    rw [hce] at hcel hlast
                    obtain ⟨y0, y1, y2, y3⟩ := ce_four hcel
                    have HEC := fun W => eq_ce p f gg bb p' f' gg' bb' W
                    have HLA := Lib.hid hlast
                    clear hlast hcel hce hgc hgl
                    have HN0 := Lib.hid hn0
                    clear hn0
                    by_cases he : (⟨p, f, gg, bb⟩ : Ce) = ⟨p', f', gg', bb'⟩
                    · have HNO := Lib.hid (HNV2.out (fun L a b c => HI.out.no2 HNN.out.2.1 HR0.out HQ.out (by rw [HCQ.out]; exact .inr ⟨fun e => HN0.out (by rw [← HNL.out, e]; rfl), by rw [HLA.out, he]⟩) a b c))
                      simp only [decide_eq_true he] at HEC
                      clear he
                      go_wp2
                      go_big_region
                      clear HEC y0 y1 y2 y3 k0 k1 k2 k3 s0 s1 s2 s3 s4 s5
                      obtain ⟨s0, s1, s2, s3, s4, s5⟩ := six_cells HVS.out.blk
                      have HZR := Lib.hid (show _ = _ from HRBE.out ▸ HVS.out.zero)
                      have HVB := Lib.hid HVS.out.below
                      have zz : ((n1 : Int) != (N : Int)) = true := by have := HNL.out; have := HRM.out; have := HR0.out; simp; omega
                      go_wp2_with (refine wpList_store_row rfl 24 (.tmp 2) (.tmp 102) rfl rb #[.int .i64 0, .int .i64 0, .slice none 0 0, .int .i64 0, .int .i64 0, .bool false] rfl rfl 24 _ HZR.out info_view rfl (by simp [Value.oneCell']) ?_)
                      try rw [Exit.noGoto_ret]
                      exact bodyPost_ret (results_cell_tmp Tryd.results10 _ _ rb 24 #[.int .i64 0, .int .i64 0, .slice none 0 0, .int .i64 0, .int .i64 0, .bool false] (0, 0) _ (.int .i64 3) rfl rfl (setRow_heap _ _ _ #[.int .i64 0, .int .i64 0, .slice none 0 0, .int .i64 0, .int .i64 0, .bool false] _ _ HZR.out) Tryd.underlying24 rfl info_view) rfl (RdV.no HNO.out (below_setRow HVB.out HRB.out #[.int .i64 0, .int .i64 0, .slice none 0 0, .int .i64 0, .int .i64 0, .bool false]))
                    · have HNE := Lib.hid (show M = [] ∨ M.getLast? ≠ some ⟨p, f, gg, bb⟩ from .inr (by rw [HLA.out]; intro h; exact he (by injection h with h; exact h.symm)))
                      simp only [decide_eq_false he] at HEC
                      clear he
                      go_wp2
                      go_big_region
                      clear HEC y0 y1 y2 y3
                      have HRN := HI.out.next HNN.out.2.1 HB.out HQ.out (by have := HKK.out; omega) (by have := HKR.out; omega) HCQ.out HNE.out
                      obtain ⟨k', m', hk', hm', _, _, _, _, hI2⟩ := HRN
                      obtain rfl : k = k' := by omega
                      have HI2 := Lib.hid hI2
                      have HML := Lib.hid (show n1 ≤ 480 from by have := HNL.out; have := HRM.out; have := HNN.out; omega)
                      have HNL2 := Lib.hid (show (M ++ rep k ⟨p, f, gg, bb⟩).length = n1 + k from by rw [List.length_append, rep_len, HNL.out])
                      have HN1 := HNL
                      subst hm'
                      clear hI2 hk'
                      clear k0 k1 k2 k3 s0 s1 s2 s3 s4 s5
                      go_upto_region 11 with fail
                      refine wp_region_held_drew (S := fun W => Below w.heap.size w W) (by kernel_rfl) (HVS.out.next (Below.refl _ _).drew).below (fun hHeld => ?_)
                      have HVE := Lib.hid (HVS.out.next (Below.refl X.drew.heap.size X.drew).drew)
                      have HTE := Lib.hid (((Below.refl X.drew.heap.size X.drew).drew.block _ (lt_of_block HT.out)).trans HT.out)
                      clear HVS HT
                      obtain ⟨Y, hY⟩ : ∃ Y, X.drew.drew = Y := ⟨_, rfl⟩
                      simp only [hY] at hHeld HVE HTE ⊢
                      have HVS := HVE
                      have HT := HTE
                      clear HVE HTE hY
                      refine wpAnyH_take (i := 0) (v := ?_) (by simp; rfl) (by kernel_rfl) (by kernel_rfl) (by kernel_rfl) (by exact fun _ _ _ h => h) (Or.inl ⟨by rfl, fun wx hSx => ?_⟩) hHeld ?_
                      rotate_left
                      · clear hSx; go_simp; (try with_reducible rfl)
                      simp only [Act.put, List.setIfInBounds_toArray, List.set_cons_zero, List.set_cons_succ]
                      refine wpAnyH_take (i := 4) (v := ?_) (by simp; rfl) (by kernel_rfl) (by kernel_rfl) (by kernel_rfl) (by exact fun _ _ _ h => h) (Or.inl ⟨by rfl, fun wx hSx => ?_⟩) hHeld ?_
                      rotate_left
                      · clear hSx; go_simp; (try with_reducible rfl)
                      simp only [Act.put, List.setIfInBounds_toArray, List.set_cons_zero, List.set_cons_succ]
                      refine wpAnyH_take (i := 5) (v := ?_) (by simp; rfl) (by kernel_rfl) (by kernel_rfl) (by kernel_rfl) (by exact fun _ _ _ h => h) (Or.inl ⟨by rfl, fun wx hSx => ?_⟩) hHeld ?_
                      rotate_left
                      · clear hSx; go_simp; (try with_reducible rfl)
                      simp only [Act.put, List.setIfInBounds_toArray, List.set_cons_zero, List.set_cons_succ]
                      refine wpAnyH_ready (rs := [1, 2]) (by kernel_rfl) (by simp) ?_
                      refine AllReadyH.cons (by simp; rfl) (fun K0 hK0 => ?_) (AllReadyH.cons (by simp; rfl) (fun K0 hK0 => ?_) AllReadyH.nil)
                      · obtain ⟨s0, s1, s2, s3, s4, s5⟩ := six_cells HVS.out.blk
                        go_simp
                        refine hK0.out _ _ HVS.out.below (fun _ => ?_)
                        clear hK0 K0 s0 s1 s2 s3 s4 s5
                        refine wpAnyH_ready (rs := [2]) (by kernel_rfl) (by simp) ?_
                        refine AllReadyH.cons (by simp; rfl) (fun K0 hK0 => ?_) AllReadyH.nil
                        obtain ⟨k0, k1, k2, k3⟩ := four_at HT.out
                        go_simp
                        refine hK0.out _ _ HVS.out.below (fun _ => ?_)
                        clear hK0 K0 k0 k1 k2 k3
                        refine wpAnyH_ready (rs := [3]) (by kernel_rfl) (by simp) ?_
                        refine AllReadyH.cons (by simp; rfl) (fun K0 hK0 => ?_) AllReadyH.nil
                        go_simp
                        have HV2 := Lib.hid (HVS.out.next ((Below.refl Y.heap.size Y).alloc (Nat.le_refl _) (.cells #[.int .i32 p, .int .u8 f, .int .u32 gg, .int .u32 bb] 50)))
                        have HBK := Lib.hid (heap_alloc_new Y (.cells #[.int .i32 p, .int .u8 f, .int .u32 gg, .int .u32 bb] 50))
                        clear HVS HT
                        have HVS := HV2
                        clear HV2
                        obtain ⟨fb, hfb⟩ : ∃ g, Y.heap.size = g := ⟨_, rfl⟩
                        rw [hfb] at HBK ⊢
                        clear hfb
                        generalize (Y.alloc (.cells #[.int .i32 p, .int .u8 f, .int .u32 gg, .int .u32 bb] 50)) = b2 at HVS HBK ⊢
                        refine hK0.out _ _ HVS.out.below (fun _ => ?_)
                        clear hK0 K0 hHeld
                        have hHeld := HVS.out.below
                        refine wpAnyH_ready (rs := [6]) (by kernel_rfl) (by simp) ?_
                        refine AllReadyH.cons (by simp; rfl) (fun K0 hK0 => ?_) AllReadyH.nil
                        go_simp
                        refine (repeat_any (c := ⟨p, f, gg, bb⟩) (lt_of_block HBK.out) (fun j v hv => by unfold World.cell?; simp only [HBK.out]; simpa [gC] using hv) HKK.out.1 HKK.out.2).mono ?_
                        rintro e r3 ⟨eb, rfl, hge, hrow, hbV⟩
                        have HRW := Lib.hid hrow
                        have HV2 := Lib.hid (HVS.out.next hbV)
                        clear HVS HBK hge hrow hbV
                        have HVS := HV2
                        clear HV2
                        refine hK0.out _ _ HVS.out.below (fun _ => ?_)
                        clear hK0 K0 hHeld
                        have hHeld := HVS.out.below
                        refine wpAnyH_ready (rs := [7]) (by kernel_rfl) (by simp) ?_
                        refine AllReadyH.cons (by simp; rfl) (fun K0 hK0 => ?_) AllReadyH.nil
                        have how := HVS.out.own
                        rw [HN1.out] at how
                        obtain ⟨v2, W2, hrun, ho, hg, hat⟩ := app_c how HRW.out (rep_len k ⟨p, f, gg, bb⟩) (by have := HML.out; have := HKK.out; omega) (by have := lt_of_block HVS.out.blk; omega)
                        refine step_app rfl (.tmp 74) (.tmp 79) _ rfl _ _ rfl rfl hrun ?_
                        simp only [Act.put, List.setIfInBounds_toArray, List.set_cons_zero, List.set_cons_succ]
                        obtain ⟨A2, c2, hv2, _⟩ := own_slice ho
                        subst hv2
                        have HPV := Lib.hid (HVS.out.put hg ho (by rw [List.length_append, rep_len, HN1.out]))
                        have q0 := Lib.hid ((hg.block hb (lt_of_block HVS.out.blk) (by intro e; have := ownBlock_le HVS.out.own hb e.symm; omega)).trans HVS.out.blk)
                        have HB3 := Lib.hid (HVS.out.below.grown hg HVS.out.below.size (fun k hk => by have := ownBlock_le HVS.out.own k hk; have := HVS.out.gt; omega))
                        clear hrun ho hg hat how
                        refine hK0.out _ _ HB3.out (fun _ => ?_)
                        clear hK0 K0 hHeld
                        have hHeld := HB3.out
                        refine wpAnyH_take (i := 8) (v := ?_) (by simp; rfl) (by kernel_rfl) (by kernel_rfl) (by kernel_rfl) (by exact fun _ _ _ h => h) (Or.inl ⟨by rfl, fun wx hSx => ?_⟩) hHeld ?_
                        rotate_left
                        · clear hSx; go_simp; (try with_reducible rfl)
                        simp only [Act.put, List.setIfInBounds_toArray, List.set_cons_zero, List.set_cons_succ]
                        refine wpAnyH_ready (rs := [9]) (by kernel_rfl) (by simp) ?_
                        refine AllReadyH.cons (by simp; rfl) (fun K0 hK0 => ?_) AllReadyH.nil
                        obtain ⟨s0, s1, s2, s3, s4, s5⟩ := six_cells q0.out
                        have q1 := frozen_of_row W2 hb 2 _ _ q0.out
                        go_simp
                        refine hK0.out _ _ HPV.out.below (fun _ => ?_)
                        clear hK0 K0 hHeld s0 s1 s2 s3 s4 s5 q1
                        have hHeld := HPV.out.below
                        refine wpAnyH_done (by kernel_rfl) ?_ _
                        generalize (W2.setCell ⟨hb, 2, none⟩ (.slice A2 (n1 + k) c2)) = W3 at HPV ⊢
                        go_wp2
                        go_roundw
                        case rel => exact ⟨_, _, _, _, _, _, by go_num, by go_num, HPV, HI2, HNL2⟩
                        case measure => have := HRM.out; have := HKK.out; simp [intOf]; omega
                      · obtain ⟨k0, k1, k2, k3⟩ := four_at HT.out
                        go_simp
                        refine hK0.out _ _ HVS.out.below (fun _ => ?_)
                        clear hK0 K0 k0 k1 k2 k3
                        refine wpAnyH_ready (rs := [1, 3]) (by kernel_rfl) (by simp) ?_
                        refine AllReadyH.cons (by simp; rfl) (fun K0 hK0 => ?_) (AllReadyH.cons (by simp; rfl) (fun K0 hK0 => ?_) AllReadyH.nil)
                        · obtain ⟨s0, s1, s2, s3, s4, s5⟩ := six_cells HVS.out.blk
                          go_simp
                          refine hK0.out _ _ HVS.out.below (fun _ => ?_)
                          clear hK0 K0 s0 s1 s2 s3 s4 s5
                          refine wpAnyH_ready (rs := [3]) (by kernel_rfl) (by simp) ?_
                          refine AllReadyH.cons (by simp; rfl) (fun K0 hK0 => ?_) AllReadyH.nil
                          go_simp
                          have HV2 := Lib.hid (HVS.out.next ((Below.refl Y.heap.size Y).alloc (Nat.le_refl _) (.cells #[.int .i32 p, .int .u8 f, .int .u32 gg, .int .u32 bb] 50)))
                          have HBK := Lib.hid (heap_alloc_new Y (.cells #[.int .i32 p, .int .u8 f, .int .u32 gg, .int .u32 bb] 50))
                          clear HVS HT
                          have HVS := HV2
                          clear HV2
                          obtain ⟨fb, hfb⟩ : ∃ g, Y.heap.size = g := ⟨_, rfl⟩
                          rw [hfb] at HBK ⊢
                          clear hfb
                          generalize (Y.alloc (.cells #[.int .i32 p, .int .u8 f, .int .u32 gg, .int .u32 bb] 50)) = b2 at HVS HBK ⊢
                          refine hK0.out _ _ HVS.out.below (fun _ => ?_)
                          clear hK0 K0 hHeld
                          have hHeld := HVS.out.below
                          refine wpAnyH_ready (rs := [6]) (by kernel_rfl) (by simp) ?_
                          refine AllReadyH.cons (by simp; rfl) (fun K0 hK0 => ?_) AllReadyH.nil
                          go_simp
                          refine (repeat_any (c := ⟨p, f, gg, bb⟩) (lt_of_block HBK.out) (fun j v hv => by unfold World.cell?; simp only [HBK.out]; simpa [gC] using hv) HKK.out.1 HKK.out.2).mono ?_
                          rintro e r3 ⟨eb, rfl, hge, hrow, hbV⟩
                          have HRW := Lib.hid hrow
                          have HV2 := Lib.hid (HVS.out.next hbV)
                          clear HVS HBK hge hrow hbV
                          have HVS := HV2
                          clear HV2
                          refine hK0.out _ _ HVS.out.below (fun _ => ?_)
                          clear hK0 K0 hHeld
                          have hHeld := HVS.out.below
                          refine wpAnyH_ready (rs := [7]) (by kernel_rfl) (by simp) ?_
                          refine AllReadyH.cons (by simp; rfl) (fun K0 hK0 => ?_) AllReadyH.nil
                          have how := HVS.out.own
                          rw [HN1.out] at how
                          obtain ⟨v2, W2, hrun, ho, hg, hat⟩ := app_c how HRW.out (rep_len k ⟨p, f, gg, bb⟩) (by have := HML.out; have := HKK.out; omega) (by have := lt_of_block HVS.out.blk; omega)
                          refine step_app rfl (.tmp 74) (.tmp 79) _ rfl _ _ rfl rfl hrun ?_
                          simp only [Act.put, List.setIfInBounds_toArray, List.set_cons_zero, List.set_cons_succ]
                          obtain ⟨A2, c2, hv2, _⟩ := own_slice ho
                          subst hv2
                          have HPV := Lib.hid (HVS.out.put hg ho (by rw [List.length_append, rep_len, HN1.out]))
                          have q0 := Lib.hid ((hg.block hb (lt_of_block HVS.out.blk) (by intro e; have := ownBlock_le HVS.out.own hb e.symm; omega)).trans HVS.out.blk)
                          have HB3 := Lib.hid (HVS.out.below.grown hg HVS.out.below.size (fun k hk => by have := ownBlock_le HVS.out.own k hk; have := HVS.out.gt; omega))
                          clear hrun ho hg hat how
                          refine hK0.out _ _ HB3.out (fun _ => ?_)
                          clear hK0 K0 hHeld
                          have hHeld := HB3.out
                          refine wpAnyH_take (i := 8) (v := ?_) (by simp; rfl) (by kernel_rfl) (by kernel_rfl) (by kernel_rfl) (by exact fun _ _ _ h => h) (Or.inl ⟨by rfl, fun wx hSx => ?_⟩) hHeld ?_
                          rotate_left
                          · clear hSx; go_simp; (try with_reducible rfl)
                          simp only [Act.put, List.setIfInBounds_toArray, List.set_cons_zero, List.set_cons_succ]
                          refine wpAnyH_ready (rs := [9]) (by kernel_rfl) (by simp) ?_
                          refine AllReadyH.cons (by simp; rfl) (fun K0 hK0 => ?_) AllReadyH.nil
                          obtain ⟨s0, s1, s2, s3, s4, s5⟩ := six_cells q0.out
                          have q1 := frozen_of_row W2 hb 2 _ _ q0.out
                          go_simp
                          refine hK0.out _ _ HPV.out.below (fun _ => ?_)
                          clear hK0 K0 hHeld s0 s1 s2 s3 s4 s5 q1
                          have hHeld := HPV.out.below
                          refine wpAnyH_done (by kernel_rfl) ?_ _
                          generalize (W2.setCell ⟨hb, 2, none⟩ (.slice A2 (n1 + k) c2)) = W3 at HPV ⊢
                          go_wp2
                          go_roundw
                          case rel => exact ⟨_, _, _, _, _, _, by go_num, by go_num, HPV, HI2, HNL2⟩
                          case measure => have := HRM.out; have := HKK.out; simp [intOf]; omega
                        · go_simp
                          have HV2 := Lib.hid (HVS.out.next ((Below.refl Y.heap.size Y).alloc (Nat.le_refl _) (.cells #[.int .i32 p, .int .u8 f, .int .u32 gg, .int .u32 bb] 50)))
                          have HBK := Lib.hid (heap_alloc_new Y (.cells #[.int .i32 p, .int .u8 f, .int .u32 gg, .int .u32 bb] 50))
                          clear HVS HT
                          have HVS := HV2
                          clear HV2
                          obtain ⟨fb, hfb⟩ : ∃ g, Y.heap.size = g := ⟨_, rfl⟩
                          rw [hfb] at HBK ⊢
                          clear hfb
                          generalize (Y.alloc (.cells #[.int .i32 p, .int .u8 f, .int .u32 gg, .int .u32 bb] 50)) = b1 at HVS HBK ⊢
                          refine hK0.out _ _ HVS.out.below (fun _ => ?_)
                          clear hK0 K0 hHeld
                          have hHeld := HVS.out.below
                          refine wpAnyH_ready (rs := [1, 6]) (by kernel_rfl) (by simp) ?_
                          refine AllReadyH.cons (by simp; rfl) (fun K0 hK0 => ?_) (AllReadyH.cons (by simp; rfl) (fun K0 hK0 => ?_) AllReadyH.nil)
                          · obtain ⟨s0, s1, s2, s3, s4, s5⟩ := six_cells HVS.out.blk
                            go_simp
                            refine hK0.out _ _ HVS.out.below (fun _ => ?_)
                            clear hK0 K0 s0 s1 s2 s3 s4 s5
                            refine wpAnyH_ready (rs := [6]) (by kernel_rfl) (by simp) ?_
                            refine AllReadyH.cons (by simp; rfl) (fun K0 hK0 => ?_) AllReadyH.nil
                            go_simp
                            refine (repeat_any (c := ⟨p, f, gg, bb⟩) (lt_of_block HBK.out) (fun j v hv => by unfold World.cell?; simp only [HBK.out]; simpa [gC] using hv) HKK.out.1 HKK.out.2).mono ?_
                            rintro e r3 ⟨eb, rfl, hge, hrow, hbV⟩
                            have HRW := Lib.hid hrow
                            have HV2 := Lib.hid (HVS.out.next hbV)
                            clear HVS HBK hge hrow hbV
                            have HVS := HV2
                            clear HV2
                            refine hK0.out _ _ HVS.out.below (fun _ => ?_)
                            clear hK0 K0 hHeld
                            have hHeld := HVS.out.below
                            refine wpAnyH_ready (rs := [7]) (by kernel_rfl) (by simp) ?_
                            refine AllReadyH.cons (by simp; rfl) (fun K0 hK0 => ?_) AllReadyH.nil
                            have how := HVS.out.own
                            rw [HN1.out] at how
                            obtain ⟨v2, W2, hrun, ho, hg, hat⟩ := app_c how HRW.out (rep_len k ⟨p, f, gg, bb⟩) (by have := HML.out; have := HKK.out; omega) (by have := lt_of_block HVS.out.blk; omega)
                            refine step_app rfl (.tmp 74) (.tmp 79) _ rfl _ _ rfl rfl hrun ?_
                            simp only [Act.put, List.setIfInBounds_toArray, List.set_cons_zero, List.set_cons_succ]
                            obtain ⟨A2, c2, hv2, _⟩ := own_slice ho
                            subst hv2
                            have HPV := Lib.hid (HVS.out.put hg ho (by rw [List.length_append, rep_len, HN1.out]))
                            have q0 := Lib.hid ((hg.block hb (lt_of_block HVS.out.blk) (by intro e; have := ownBlock_le HVS.out.own hb e.symm; omega)).trans HVS.out.blk)
                            have HB3 := Lib.hid (HVS.out.below.grown hg HVS.out.below.size (fun k hk => by have := ownBlock_le HVS.out.own k hk; have := HVS.out.gt; omega))
                            clear hrun ho hg hat how
                            refine hK0.out _ _ HB3.out (fun _ => ?_)
                            clear hK0 K0 hHeld
                            have hHeld := HB3.out
                            refine wpAnyH_take (i := 8) (v := ?_) (by simp; rfl) (by kernel_rfl) (by kernel_rfl) (by kernel_rfl) (by exact fun _ _ _ h => h) (Or.inl ⟨by rfl, fun wx hSx => ?_⟩) hHeld ?_
                            rotate_left
                            · clear hSx; go_simp; (try with_reducible rfl)
                            simp only [Act.put, List.setIfInBounds_toArray, List.set_cons_zero, List.set_cons_succ]
                            refine wpAnyH_ready (rs := [9]) (by kernel_rfl) (by simp) ?_
                            refine AllReadyH.cons (by simp; rfl) (fun K0 hK0 => ?_) AllReadyH.nil
                            obtain ⟨s0, s1, s2, s3, s4, s5⟩ := six_cells q0.out
                            have q1 := frozen_of_row W2 hb 2 _ _ q0.out
                            go_simp
                            refine hK0.out _ _ HPV.out.below (fun _ => ?_)
                            clear hK0 K0 hHeld s0 s1 s2 s3 s4 s5 q1
                            have hHeld := HPV.out.below
                            refine wpAnyH_done (by kernel_rfl) ?_ _
                            generalize (W2.setCell ⟨hb, 2, none⟩ (.slice A2 (n1 + k) c2)) = W3 at HPV ⊢
                            go_wp2
                            go_roundw
                            case rel => exact ⟨_, _, _, _, _, _, by go_num, by go_num, HPV, HI2, HNL2⟩
                            case measure => have := HRM.out; have := HKK.out; simp [intOf]; omega
                          · go_simp
                            refine (repeat_any (c := ⟨p, f, gg, bb⟩) (lt_of_block HBK.out) (fun j v hv => by unfold World.cell?; simp only [HBK.out]; simpa [gC] using hv) HKK.out.1 HKK.out.2).mono ?_
                            rintro e r2 ⟨eb, rfl, hge, hrow, hbV⟩
                            have HRW := Lib.hid hrow
                            have HV2 := Lib.hid (HVS.out.next hbV)
                            clear HVS HBK hge hrow hbV
                            have HVS := HV2
                            clear HV2
                            refine hK0.out _ _ HVS.out.below (fun _ => ?_)
                            clear hK0 K0 hHeld
                            have hHeld := HVS.out.below
                            refine wpAnyH_ready (rs := [1]) (by kernel_rfl) (by simp) ?_
                            refine AllReadyH.cons (by simp; rfl) (fun K0 hK0 => ?_) AllReadyH.nil
                            obtain ⟨s0, s1, s2, s3, s4, s5⟩ := six_cells HVS.out.blk
                            go_simp
                            refine hK0.out _ _ HVS.out.below (fun _ => ?_)
                            clear hK0 K0 s0 s1 s2 s3 s4 s5
                            refine wpAnyH_ready (rs := [7]) (by kernel_rfl) (by simp) ?_
                            refine AllReadyH.cons (by simp; rfl) (fun K0 hK0 => ?_) AllReadyH.nil
                            have how := HVS.out.own
                            rw [HN1.out] at how
                            obtain ⟨v2, W2, hrun, ho, hg, hat⟩ := app_c how HRW.out (rep_len k ⟨p, f, gg, bb⟩) (by have := HML.out; have := HKK.out; omega) (by have := lt_of_block HVS.out.blk; omega)
                            refine step_app rfl (.tmp 74) (.tmp 79) _ rfl _ _ rfl rfl hrun ?_
                            simp only [Act.put, List.setIfInBounds_toArray, List.set_cons_zero, List.set_cons_succ]
                            obtain ⟨A2, c2, hv2, _⟩ := own_slice ho
                            subst hv2
                            have HPV := Lib.hid (HVS.out.put hg ho (by rw [List.length_append, rep_len, HN1.out]))
                            have q0 := Lib.hid ((hg.block hb (lt_of_block HVS.out.blk) (by intro e; have := ownBlock_le HVS.out.own hb e.symm; omega)).trans HVS.out.blk)
                            have HB3 := Lib.hid (HVS.out.below.grown hg HVS.out.below.size (fun k hk => by have := ownBlock_le HVS.out.own k hk; have := HVS.out.gt; omega))
                            clear hrun ho hg hat how
                            refine hK0.out _ _ HB3.out (fun _ => ?_)
                            clear hK0 K0 hHeld
                            have hHeld := HB3.out
                            refine wpAnyH_take (i := 8) (v := ?_) (by simp; rfl) (by kernel_rfl) (by kernel_rfl) (by kernel_rfl) (by exact fun _ _ _ h => h) (Or.inl ⟨by rfl, fun wx hSx => ?_⟩) hHeld ?_
                            rotate_left
                            · clear hSx; go_simp; (try with_reducible rfl)
                            simp only [Act.put, List.setIfInBounds_toArray, List.set_cons_zero, List.set_cons_succ]
                            refine wpAnyH_ready (rs := [9]) (by kernel_rfl) (by simp) ?_
                            refine AllReadyH.cons (by simp; rfl) (fun K0 hK0 => ?_) AllReadyH.nil
                            obtain ⟨s0, s1, s2, s3, s4, s5⟩ := six_cells q0.out
                            have q1 := frozen_of_row W2 hb 2 _ _ q0.out
                            go_simp
                            refine hK0.out _ _ HPV.out.below (fun _ => ?_)
                            clear hK0 K0 hHeld s0 s1 s2 s3 s4 s5 q1
                            have hHeld := HPV.out.below
                            refine wpAnyH_done (by kernel_rfl) ?_ _
                            generalize (W2.setCell ⟨hb, 2, none⟩ (.slice A2 (n1 + k) c2)) = W3 at HPV ⊢
                            go_wp2
                            go_roundw
                            case rel => exact ⟨_, _, _, _, _, _, by go_num, by go_num, HPV, HI2, HNL2⟩
                            case measure => have := HRM.out; have := HKK.out; simp [intOf]; omega
                · have zz2 : (z2 != 0) = true := by simpa using hz2
                  have HNO := Lib.hid (HNV2.out (fun L a b c => HI.out.no2 HNN.out.2.1 HR0.out HQ.out (by rw [HCQ.out]; exact .inl hz2) a b c))
                  clear hz2
                  go_wp2
                  go_big_region
                  clear k0 k1 k2 k3 s0 s1 s2 s3 s4 s5
                  obtain ⟨s0, s1, s2, s3, s4, s5⟩ := six_cells HVS.out.blk
                  have HZR := Lib.hid (show _ = _ from HRBE.out ▸ HVS.out.zero)
                  have HVB := Lib.hid HVS.out.below
                  have zz : ((n1 : Int) != (N : Int)) = true := by have := HNL.out; have := HRM.out; have := HR0.out; simp; omega
                  go_wp2_with (refine wpList_store_row rfl 24 (.tmp 2) (.tmp 102) rfl rb #[.int .i64 0, .int .i64 0, .slice none 0 0, .int .i64 0, .int .i64 0, .bool false] rfl rfl 24 _ HZR.out info_view rfl (by simp [Value.oneCell']) ?_)
                  try rw [Exit.noGoto_ret]
                  exact bodyPost_ret (results_cell_tmp Tryd.results10 _ _ rb 24 #[.int .i64 0, .int .i64 0, .slice none 0 0, .int .i64 0, .int .i64 0, .bool false] (0, 0) _ (.int .i64 3) rfl rfl (setRow_heap _ _ _ #[.int .i64 0, .int .i64 0, .slice none 0 0, .int .i64 0, .int .i64 0, .bool false] _ _ HZR.out) Tryd.underlying24 rfl info_view) rfl (RdV.no HNO.out (below_setRow HVB.out HRB.out #[.int .i64 0, .int .i64 0, .slice none 0 0, .int .i64 0, .int .i64 0, .bool false]))
          · have zz0 : (z != 0) = true := by simpa using hz
            have HNO := Lib.hid (HNV2.out (fun L a b c => HI.out.no HNN.out.2.1 HR0.out (by rw [HQ.out]; exact .inl hz) a b c))
            clear hrm hz
            obtain ⟨s0, s1, s2, s3, s4, s5⟩ := six_cells HVS.out.blk
            have HZR := Lib.hid (show _ = _ from HRBE.out ▸ HVS.out.zero)
            have HVB := Lib.hid HVS.out.below
            have zz : ((n1 : Int) != (N : Int)) = true := by have := HNL.out; have := HRM.out; have := HR0.out; simp; omega
            go_wp2_with (refine wpList_store_row rfl 24 (.tmp 2) (.tmp 102) rfl rb #[.int .i64 0, .int .i64 0, .slice none 0 0, .int .i64 0, .int .i64 0, .bool false] rfl rfl 24 _ HZR.out info_view rfl (by simp [Value.oneCell']) ?_)
            try rw [Exit.noGoto_ret]
            exact bodyPost_ret (results_cell_tmp Tryd.results10 _ _ rb 24 #[.int .i64 0, .int .i64 0, .slice none 0 0, .int .i64 0, .int .i64 0, .bool false] (0, 0) _ (.int .i64 3) rfl rfl (setRow_heap _ _ _ #[.int .i64 0, .int .i64 0, .slice none 0 0, .int .i64 0, .int .i64 0, .bool false] _ _ HZR.out) Tryd.underlying24 rfl info_view) rfl (RdV.no HNO.out (below_setRow HVB.out HRB.out #[.int .i64 0, .int .i64 0, .slice none 0 0, .int .i64 0, .int .i64 0, .bool false]))
        · have d1 : decide (0 < (room : Int)) = false := by simp; omega
          have d1' : decide (0 < room) = false := by simp; omega
          have d1'' : decide ((room : Int) > 0) = false := d1
          obtain rfl : room = 0 := by omega
          obtain ⟨s0, s1, s2, s3, s4, s5⟩ := six_cells HVS.out.blk
          have hnN : n1 = N := by have := HNL.out; omega
          subst hnN
          have zz : ((n1 : Int) != (n1 : Int)) = false := by simp
          have HZR := Lib.hid (show _ = _ from HRBE.out ▸ HVS.out.zero)
          have HVB := Lib.hid HVS.out.below
          clear hrm hr0
          by_cases hp : p0 = n
          · have zp : ((p0 : Int) != (n : Int)) = false := by simp; omega
            have HV := Lib.hid (show isView bs R C row col vis M from by
              have hd := HI.out.done (by rw [HL.out]; exact hp)
              refine ⟨?_, HI.out.ok, ?_⟩
              · unfold rightW
                rw [HA.out, Bool.true_and, Bool.and_eq_true, List.all_eq_true]
                exact ⟨decide_eq_true (by rw [HNN.out.1, HNL.out]), fun c hc => (HI.out.ok c hc).2⟩
              · unfold viewB
                rw [← HX4.out]; exact hd)
            clear hp
            go_wp2_with (refine wpList_store_row rfl 24 (.tmp 2) (.tmp 103) rfl rb #[.int .i64 R, .int .i64 C, .slice A1 n1 c1, .int .i64 row, .int .i64 col, .bool vis] rfl rfl 24 _ HZR.out info_view rfl (by simp [Value.oneCell']) ?_)
            try rw [Exit.noGoto_ret]
            exact bodyPost_ret (results_cell_tmp Tryd.results10 _ _ rb 24 #[.int .i64 R, .int .i64 C, .slice A1 n1 c1, .int .i64 row, .int .i64 col, .bool vis] (0, 0) _ (.int .i64 0) rfl rfl (setRow_heap _ _ _ #[.int .i64 R, .int .i64 C, .slice A1 n1 c1, .int .i64 row, .int .i64 col, .bool vis] _ _ HZR.out) Tryd.underlying24 rfl info_view) rfl
              (.inl ⟨R, C, row, col, vis, M, A1, n1, c1, HV.out, rfl, HNL.out.symm, HVS.out.cr_set HRBE.out _, below_setRow HVB.out HRB.out _⟩)
          · have zp : ((p0 : Int) != (n : Int)) = true := by simp; omega
            have HNO := Lib.hid (HNV2.out (fun L a b c => HI.out.no3 (by rw [HL.out]; exact hp) a b c))
            clear hp
            go_wp2_with (refine wpList_store_row rfl 24 (.tmp 2) (.tmp 102) rfl rb #[.int .i64 0, .int .i64 0, .slice none 0 0, .int .i64 0, .int .i64 0, .bool false] rfl rfl 24 _ HZR.out info_view rfl (by simp [Value.oneCell']) ?_)
            try rw [Exit.noGoto_ret]
            exact bodyPost_ret (results_cell_tmp Tryd.results10 _ _ rb 24 #[.int .i64 0, .int .i64 0, .slice none 0 0, .int .i64 0, .int .i64 0, .bool false] (0, 0) _ (.int .i64 3) rfl rfl (setRow_heap _ _ _ #[.int .i64 0, .int .i64 0, .slice none 0 0, .int .i64 0, .int .i64 0, .bool false] _ _ HZR.out) Tryd.underlying24 rfl info_view) rfl (RdV.no HNO.out (below_setRow HVB.out HRB.out #[.int .i64 0, .int .i64 0, .slice none 0 0, .int .i64 0, .int .i64 0, .bool false]))
end Go.Proofs.YtcblohmenfdafaaDoor
