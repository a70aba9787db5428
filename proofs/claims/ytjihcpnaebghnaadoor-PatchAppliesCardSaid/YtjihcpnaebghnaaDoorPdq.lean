/-
  Proved here: of the document's patches: Apply.
-/
import Derived.Test.YtjihcpnaebghnaaDoorPdp
import Derived.Deep.DeepCutAuto
set_option linter.unusedSimpArgs false
set_option linter.unusedVariables false
namespace Go.Proofs.YtjihcpnaebghnaaDoor
open Go.RowKit
theorem AP.start2 {bs hd : List Int} {O : List Ce} (hp : hd.length ≤ bs.length) (hr : ∃ j, RunsP bs (hd.length : Int) j) : AP bs hd O hd.length [] :=
  ⟨hp, Nat.le_refl _, Nat.zero_le _, fun c hc => absurd hc (by simp), hr, fun L _ _ hb => ⟨L, rfl, by
    have : bs.take hd.length = hd := by conv => lhs; rw [hb, List.take_left' rfl]
    rw [this]; exact hb⟩⟩
theorem cellsL_cons {k : Nat} {bs : List Int} {p : Int} {B : List Ce} {q : Int} (h : cellsL (k + 1) bs p = some (B, q)) : ∃ e m Br, getC bs p = (e, m, 0) ∧ B = e :: Br ∧ cellsL k bs m = some (Br, q) := by
  unfold cellsL at h
  split at h
  · rename_i hz
    obtain ⟨⟨e, m, z⟩, hg⟩ : ∃ r, getC bs p = r := ⟨_, rfl⟩
    rw [hg] at hz h
    dsimp only at hz h
    subst hz
    obtain ⟨⟨B', m'⟩, hr, he⟩ := Option.map_eq_some_iff.1 h
    obtain ⟨rfl, rfl⟩ : e :: B' = B ∧ m' = q := by simpa using he
    exact ⟨e, m, B', hg, rfl, hr⟩
  · cases h
set_option maxRecDepth 100000 in
set_option maxHeartbeats 64000000 in
theorem r_apply {w : World} {X A : Option Addr} {bs : List Int} {n cap na ca : Nat} {La : List Ce} (hX : CY w X La) (hla : La.length = na) (hca : na ≤ ca) (hna : na ≤ 1000) (hoa : ∀ c ∈ La, CeOk c) (Ra Ca rowa cola : Int) (visa : Bool) (hR : RB w w.heap.size A bs) (hl : bs.length = n) (hn : n ≤ 100000) (hB : Bytes bs) :
    Calls Tryd.prog 8 #[.agg #[.int .i64 Ra, .int .i64 Ca, .slice X na ca, .int .i64 rowa, .int .i64 cola, .bool visa], .slice A n cap] w fun e w' =>
      (∃ R C row col vis L A1 n1 c1, isPatch Ra Ca rowa cola La bs R C row col vis L ∧ e = .returned (.tuple #[.agg #[.int .i64 R, .int .i64 C, .slice A1 n1 c1, .int .i64 row, .int .i64 col, .bool vis], .bool true]) ∧ L.length = n1 ∧ CY w' A1 L ∧ Below w.heap.size w w') ∨
      ((∀ R' C' row' col' vis' L', ¬ isPatch Ra Ca rowa cola La bs R' C' row' col' vis' L') ∧ e = .returned (.tuple #[.agg #[.int .i64 0, .int .i64 0, .slice none 0 0, .int .i64 0, .int .i64 0, .bool false], .bool false]) ∧ Below w.heap.size w w') := by
  have hba := (Below.refl w.heap.size w).alloc (Nat.le_refl _) (.cells #[.int .i64 Ra, .int .i64 Ca, .slice X na ca, .int .i64 rowa, .int .i64 cola, .bool visa] 34)
  have hbb := (Below.refl (w.alloc (.cells #[.int .i64 Ra, .int .i64 Ca, .slice X na ca, .int .i64 rowa, .int .i64 cola, .bool visa] 34)).heap.size (w.alloc (.cells #[.int .i64 Ra, .int .i64 Ca, .slice X na ca, .int .i64 rowa, .int .i64 cola, .bool visa] 34))).alloc (Nat.le_refl _) (.cells #[.int .i64 0, .int .i64 0, .slice none 0 0, .int .i64 0, .int .i64 0, .bool false] 34)
  have HB0 := hba.trans (hbb.mono hba.size)
  have HA0 := (hbb.block w.heap.size (by simp)).trans (heap_alloc_new w (.cells #[.int .i64 Ra, .int .i64 Ca, .slice X na ca, .int .i64 rowa, .int .i64 cola, .bool visa] 34))
  have HC0 := heap_alloc_new (w.alloc (.cells #[.int .i64 Ra, .int .i64 Ca, .slice X na ca, .int .i64 rowa, .int .i64 cola, .bool visa] 34)) (.cells #[.int .i64 0, .int .i64 0, .slice none 0 0, .int .i64 0, .int .i64 0, .bool false] 34)
  rw [show (w.alloc (.cells #[.int .i64 Ra, .int .i64 Ca, .slice X na ca, .int .i64 rowa, .int .i64 cola, .bool visa] 34)).heap.size = w.heap.size + 1 by simp] at HC0
  obtain ⟨za, hza⟩ : ∃ z, rightW Ra Ca rowa cola La = z := ⟨_, rfl⟩
  have HZA := Lib.hid hza
  have HRU := Lib.hid (fun (W : World) (hb : Below w.heap.size w W) => r_runs (cap := cap) ((hR.below hb).keep' hb.size) hl hn hB)
  have HRT := Lib.hid (fun (W : World) (hb : Below w.heap.size w W) => hza ▸ r_viewright (cap := ca) (hX.below hb) hla hna hoa Ra Ca rowa cola visa)
  have HGS := Lib.hid (fun (W : World) (hb : Below w.heap.size w W) (p : Int) => rget_in hR hl hn hB hb cap p)
  have HGC := Lib.hid (fun (W : World) (hb : Below w.heap.size w W) (p : Int) => r_getcell (cap := cap) ((hR.below hb).keep' hb.size) hl hn hB p)
  unfold GetCY at HGC
  have HBA := Lib.hid (fun (W : World) (hb : Below w.heap.size w W) {R C : Nat} (hp : 1 ≤ R ∧ R ≤ 12 ∧ 1 ≤ C ∧ C ≤ 40) => r_base2 (hX.below hb) hla hca Ra Ca rowa cola visa hp)
  have HDF := Lib.hid (fun (W : World) (hb : Below w.heap.size w W) {Y : Option Addr} {nb cb : Nat} {L : List Ce} {R C row col : Int} {vis : Bool} (hY : CY W Y L) (hlb : L.length = nb) (hob : ∀ c ∈ L, CeOk c) (hrb : rightW R C row col L = true) (hra : rightW Ra Ca rowa cola La = true) => r_diff (ca := ca) (cb := cb) (hX.below hb) hY hla hlb hoa hob Ra Ca rowa cola visa R C row col vis hra hrb)
  have HLA := Lib.hid (And.intro hla hoa)
  have HB := Lib.hid hB
  have HL := Lib.hid (And.intro hl hn)
  have HRI := Lib.hid (show RI .u8 w A bs from hR)
  have HRR := Lib.hid hR
  obtain ⟨va, hva⟩ : ∃ r, w.heap.size = r := ⟨_, rfl⟩
  obtain ⟨rb, hrb⟩ : ∃ r, va + 1 = r := ⟨_, rfl⟩
  rw [hva] at HA0
  rw [hva, hrb] at HC0
  have HRB := Lib.hid (show w.heap.size ≤ rb ∧ va < rb by omega)
  clear hX hla hca hna hoa hR hl hn hB hba hbb hza
  go_enter Tryd.func8, Tryd.ntmps8
  go_upto_region 1 with fail
  try simp only [hva, hrb]
  generalize ((w.alloc (.cells #[.int .i64 Ra, .int .i64 Ca, .slice X na ca, .int .i64 rowa, .int .i64 cola, .bool visa] 34)).alloc (.cells #[.int .i64 0, .int .i64 0, .slice none 0 0, .int .i64 0, .int .i64 0, .bool false] 34)) = U0 at HB0 HA0 HC0 ⊢
  have HU0 := Lib.hid HB0
  have HA1 := Lib.hid HA0
  have HZ1 := Lib.hid HC0
  clear HB0 HA0 HC0 hva hrb
  go_wp2_with fail
  refine (HRU.out _ HU0.out).mono ?_
  rintro e w1 ⟨hrr, b1⟩
  have HVB := Lib.hid (HU0.out.trans (b1.mono HU0.out.size))
  have HZR := Lib.hid ((b1.block _ (lt_of_block HZ1.out)).trans HZ1.out)
  have HA2 := Lib.hid ((b1.block _ (lt_of_block HA1.out)).trans HA1.out)
  clear b1 HU0 HA1 HZ1 HRU
  rcases hrr with ⟨k0, hk0, rfl⟩ | ⟨hno, rfl⟩
  rotate_left
  · have HNO := Lib.hid (show ∀ R' C' row' col' vis' L', ¬ isPatch Ra Ca rowa cola La bs R' C' row' col' vis' L' from fun R' C' row' col' vis' L' h => by
      obtain ⟨nr, q1, _⟩ := patch_runs (vis := vis') h.1 h.2.1 (fun c hc => (h.2.2.1 c hc).1)
      rw [← h.2.2.2] at q1
      exact hno nr q1)
    clear hno
    have HFB := Lib.hid (below_setRow HVB.out HRB.out.1 #[.int .i64 0, .int .i64 0, .slice none 0 0, .int .i64 0, .int .i64 0, .bool false])
    go_wp2_with (refine wpList_store_row rfl 34 (.tmp 4) (.tmp 57) rfl rb #[.int .i64 0, .int .i64 0, .slice none 0 0, .int .i64 0, .int .i64 0, .bool false] rfl rfl 34 _ HZR.out info_wview rfl (by simp [Value.oneCell']) ?_)
    refine bodyPost_ret (results_cell_tmp Tryd.results8 _ _ rb 34 #[.int .i64 0, .int .i64 0, .slice none 0 0, .int .i64 0, .int .i64 0, .bool false] (0, 0) _ (.bool false) rfl rfl (setRow_heap _ _ _ #[.int .i64 0, .int .i64 0, .slice none 0 0, .int .i64 0, .int .i64 0, .bool false] _ _ HZR.out) Tryd.underlying34 rfl info_wview) rfl ?_
    exact .inr ⟨HNO.out, by rfl, HFB.out⟩
  have HK0 := Lib.hid hk0
  clear hk0
  obtain ⟨x0, x1, x2, x3, x4, x5⟩ := six_cells HA2.out
  have h5 : 5 ≤ n := by have := HK0.out.1; have := HL.out.1; omega
  obtain ⟨R, h0⟩ : ∃ x, bs.getD 0 0 = x := ⟨_, rfl⟩
  obtain ⟨C, h1⟩ : ∃ x, bs.getD 1 0 = x := ⟨_, rfl⟩
  obtain ⟨row, h2⟩ : ∃ x, bs.getD 2 0 = x := ⟨_, rfl⟩
  obtain ⟨col, h3⟩ : ∃ x, bs.getD 3 0 = x := ⟨_, rfl⟩
  obtain ⟨x, h4⟩ : ∃ x, bs.getD 4 0 = x := ⟨_, rfl⟩
  obtain ⟨bb, off, rfl, hbl, hc⟩ := HRR.out (by have := HL.out.1; omega)
  have HBY0 := Lib.hid (fun (W : World) (hW : Below w.heap.size w W) =>
    (show W.cell? ⟨bb, off, none⟩ = some (.int .u8 R) ∧ W.cell? ⟨bb, off + 1, none⟩ = some (.int .u8 C) ∧ W.cell? ⟨bb, off + 2, none⟩ = some (.int .u8 row) ∧ W.cell? ⟨bb, off + 3, none⟩ = some (.int .u8 col) ∧ W.cell? ⟨bb, off + 4, none⟩ = some (.int .u8 x) from
      ⟨(hW.cell (p := ⟨bb, off + 0, none⟩) hbl).trans (h0 ▸ hc 0 (by have := HL.out.1; omega)), (hW.cell (p := ⟨bb, off + 1, none⟩) hbl).trans (h1 ▸ hc 1 (by have := HL.out.1; omega)), (hW.cell (p := ⟨bb, off + 2, none⟩) hbl).trans (h2 ▸ hc 2 (by have := HL.out.1; omega)), (hW.cell (p := ⟨bb, off + 3, none⟩) hbl).trans (h3 ▸ hc 3 (by have := HL.out.1; omega)), (hW.cell (p := ⟨bb, off + 4, none⟩) hbl).trans (h4 ▸ hc 4 (by have := HL.out.1; omega))⟩))
  have HHB := Lib.hid (show 0 ≤ R ∧ R < 256 ∧ 0 ≤ C ∧ C < 256 ∧ 0 ≤ row ∧ row < 256 ∧ 0 ≤ col ∧ col < 256 ∧ 0 ≤ x ∧ x < 256 from by
    have e0 := HB.out 0; have e1 := HB.out 1; have e2 := HB.out 2; have e3 := HB.out 3; have e4 := HB.out 4
    rw [h0] at e0; rw [h1] at e1; rw [h2] at e2; rw [h3] at e3; rw [h4] at e4
    omega)
  have HGD := Lib.hid (And.intro h0 (And.intro h1 (And.intro h2 (And.intro h3 h4))))
  have HDIM := Lib.hid (fun (h : R < 1 ∨ 12 < R ∨ C < 1 ∨ 40 < C) => show ∀ R' C' row' col' vis' L', ¬ isPatch Ra Ca rowa cola La bs R' C' row' col' vis' L' from fun R' C' row' col' vis' L' hp => by
    obtain ⟨_, q0, q1, _⟩ := isPatch_head hp
    obtain ⟨_, _, _, _, _, q6⟩ := rightW_parts hp.2.1
    rw [HGD.out.1] at q0
    rw [HGD.out.2.1] at q1
    omega)
  have g0' : 0 < n := by omega
  have g1' : 1 < n := by omega
  have g2' : 2 < n := by omega
  have g3' : 3 < n := by omega
  have g4' : 4 < n := by omega
  have g0 : (0 : Int) < (n : Int) := by omega
  have g1 : (1 : Int) < (n : Int) := by omega
  have g2 : (2 : Int) < (n : Int) := by omega
  have g3 : (3 : Int) < (n : Int) := by omega
  have g4 : (4 : Int) < (n : Int) := by omega
  clear hbl hc h0 h1 h2 h3 h4 h5
  go_wp2_with fail
  refine (HRT.out _ HVB.out).mono ?_
  rintro e U ⟨rfl, b2⟩
  have HU := Lib.hid (HVB.out.trans (b2.mono HVB.out.size))
  have HZ0 := Lib.hid ((b2.block _ (lt_of_block HZR.out)).trans HZR.out)
  have HVA := Lib.hid ((b2.block _ (lt_of_block HA2.out)).trans HA2.out)
  clear b2 HVB HZR HA2 HRT x0 x1 x2 x3 x4 x5
  obtain ⟨b0, b1, b2, b3, b4⟩ := HBY0.out U HU.out
  have HZR := HZ0
  have HVB := HU
  cases za with
  | false =>
    have HNO := Lib.hid (show ∀ R' C' row' col' vis' L', ¬ isPatch Ra Ca rowa cola La bs R' C' row' col' vis' L' from fun R' C' row' col' vis' L' h => by have := HZA.out; rw [h.1] at this; cases this)
    have HFB := Lib.hid (below_setRow HVB.out HRB.out.1 #[.int .i64 0, .int .i64 0, .slice none 0 0, .int .i64 0, .int .i64 0, .bool false])
    go_wp2_with (refine wpList_store_row rfl 34 (.tmp 4) (.tmp 57) rfl rb #[.int .i64 0, .int .i64 0, .slice none 0 0, .int .i64 0, .int .i64 0, .bool false] rfl rfl 34 _ HZR.out info_wview rfl (by simp [Value.oneCell']) ?_)
    refine bodyPost_ret (results_cell_tmp Tryd.results8 _ _ rb 34 #[.int .i64 0, .int .i64 0, .slice none 0 0, .int .i64 0, .int .i64 0, .bool false] (0, 0) _ (.bool false) rfl rfl (setRow_heap _ _ _ #[.int .i64 0, .int .i64 0, .slice none 0 0, .int .i64 0, .int .i64 0, .bool false] _ _ HZR.out) Tryd.underlying34 rfl info_wview) rfl ?_
    exact .inr ⟨HNO.out, by rfl, HFB.out⟩
  | true =>
    by_cases hd1 : R < 1
    · have d1 : decide (R < 1) = true := by simpa using hd1
      have HNO := Lib.hid (HDIM.out (.inl hd1))
      clear hd1
      have HFB := Lib.hid (below_setRow HVB.out HRB.out.1 #[.int .i64 0, .int .i64 0, .slice none 0 0, .int .i64 0, .int .i64 0, .bool false])
      go_wp2_with (refine wpList_store_row rfl 34 (.tmp 4) (.tmp 57) rfl rb #[.int .i64 0, .int .i64 0, .slice none 0 0, .int .i64 0, .int .i64 0, .bool false] rfl rfl 34 _ HZR.out info_wview rfl (by simp [Value.oneCell']) ?_)
      refine bodyPost_ret (results_cell_tmp Tryd.results8 _ _ rb 34 #[.int .i64 0, .int .i64 0, .slice none 0 0, .int .i64 0, .int .i64 0, .bool false] (0, 0) _ (.bool false) rfl rfl (setRow_heap _ _ _ #[.int .i64 0, .int .i64 0, .slice none 0 0, .int .i64 0, .int .i64 0, .bool false] _ _ HZR.out) Tryd.underlying34 rfl info_wview) rfl ?_
      exact .inr ⟨HNO.out, by rfl, HFB.out⟩
    have d1 : decide (R < 1) = false := by simpa using hd1
    by_cases hd2 : 12 < R
    · have d2 : decide (12 < R) = true := by simpa using hd2
      have d2' : decide (R > 12) = true := d2
      have HNO := Lib.hid (HDIM.out (.inr (.inl hd2)))
      clear hd1 hd2
      have HFB := Lib.hid (below_setRow HVB.out HRB.out.1 #[.int .i64 0, .int .i64 0, .slice none 0 0, .int .i64 0, .int .i64 0, .bool false])
      go_wp2_with (refine wpList_store_row rfl 34 (.tmp 4) (.tmp 57) rfl rb #[.int .i64 0, .int .i64 0, .slice none 0 0, .int .i64 0, .int .i64 0, .bool false] rfl rfl 34 _ HZR.out info_wview rfl (by simp [Value.oneCell']) ?_)
      refine bodyPost_ret (results_cell_tmp Tryd.results8 _ _ rb 34 #[.int .i64 0, .int .i64 0, .slice none 0 0, .int .i64 0, .int .i64 0, .bool false] (0, 0) _ (.bool false) rfl rfl (setRow_heap _ _ _ #[.int .i64 0, .int .i64 0, .slice none 0 0, .int .i64 0, .int .i64 0, .bool false] _ _ HZR.out) Tryd.underlying34 rfl info_wview) rfl ?_
      exact .inr ⟨HNO.out, by rfl, HFB.out⟩
    have d2 : decide (12 < R) = false := by simpa using hd2
    have d2' : decide (R > 12) = false := d2
    by_cases hd3 : C < 1
    · have d3 : decide (C < 1) = true := by simpa using hd3
      have HNO := Lib.hid (HDIM.out (.inr (.inr (.inl hd3))))
      clear hd1 hd2 hd3
      have HFB := Lib.hid (below_setRow HVB.out HRB.out.1 #[.int .i64 0, .int .i64 0, .slice none 0 0, .int .i64 0, .int .i64 0, .bool false])
      go_wp2_with (refine wpList_store_row rfl 34 (.tmp 4) (.tmp 57) rfl rb #[.int .i64 0, .int .i64 0, .slice none 0 0, .int .i64 0, .int .i64 0, .bool false] rfl rfl 34 _ HZR.out info_wview rfl (by simp [Value.oneCell']) ?_)
      refine bodyPost_ret (results_cell_tmp Tryd.results8 _ _ rb 34 #[.int .i64 0, .int .i64 0, .slice none 0 0, .int .i64 0, .int .i64 0, .bool false] (0, 0) _ (.bool false) rfl rfl (setRow_heap _ _ _ #[.int .i64 0, .int .i64 0, .slice none 0 0, .int .i64 0, .int .i64 0, .bool false] _ _ HZR.out) Tryd.underlying34 rfl info_wview) rfl ?_
      exact .inr ⟨HNO.out, by rfl, HFB.out⟩
    have d3 : decide (C < 1) = false := by simpa using hd3
    by_cases hd4 : 40 < C
    · have d4 : decide (40 < C) = true := by simpa using hd4
      have d4' : decide (C > 40) = true := d4
      have HNO := Lib.hid (HDIM.out (.inr (.inr (.inr hd4))))
      clear hd1 hd2 hd3 hd4
      have HFB := Lib.hid (below_setRow HVB.out HRB.out.1 #[.int .i64 0, .int .i64 0, .slice none 0 0, .int .i64 0, .int .i64 0, .bool false])
      go_wp2_with (refine wpList_store_row rfl 34 (.tmp 4) (.tmp 57) rfl rb #[.int .i64 0, .int .i64 0, .slice none 0 0, .int .i64 0, .int .i64 0, .bool false] rfl rfl 34 _ HZR.out info_wview rfl (by simp [Value.oneCell']) ?_)
      refine bodyPost_ret (results_cell_tmp Tryd.results8 _ _ rb 34 #[.int .i64 0, .int .i64 0, .slice none 0 0, .int .i64 0, .int .i64 0, .bool false] (0, 0) _ (.bool false) rfl rfl (setRow_heap _ _ _ #[.int .i64 0, .int .i64 0, .slice none 0 0, .int .i64 0, .int .i64 0, .bool false] _ _ HZR.out) Tryd.underlying34 rfl info_wview) rfl ?_
      exact .inr ⟨HNO.out, by rfl, HFB.out⟩
    have d4 : decide (40 < C) = false := by simpa using hd4
    have d4' : decide (C > 40) = false := d4
    clear HZR HVB
    obtain ⟨Rn, rfl⟩ : ∃ k : Nat, R = k := ⟨R.toNat, by omega⟩
    obtain ⟨Cn, rfl⟩ : ∃ k : Nat, C = k := ⟨C.toNat, by omega⟩
    have HP := Lib.hid (show 1 ≤ Rn ∧ Rn ≤ 12 ∧ 1 ≤ Cn ∧ Cn ≤ 40 by omega)
    obtain ⟨vis, hvis⟩ : ∃ q, (x == 1) = q := ⟨_, rfl⟩
    have u0 : IntKind.i64.wrap (Rn : Int) = (Rn : Int) := IntWalk.i64_in _ (by omega)
    have u1 : IntKind.i64.wrap (Cn : Int) = (Cn : Int) := IntWalk.i64_in _ (by omega)
    have u2 : IntKind.i64.wrap row = row := IntWalk.i64_in _ (by have := HHB.out; omega)
    have u3 : IntKind.i64.wrap col = col := IntWalk.i64_in _ (by have := HHB.out; omega)
    have HVI := Lib.hid hvis
    clear hd1 hd2 hd3 hd4
    go_upto_region 4 with fail
    clear b0 b1 b2 b3 b4
    refine wp_region_held_drew (S := fun W => Below U.drew.heap.size U.drew W) (by kernel_rfl) (Below.refl _ _) (fun hHeld => ?_)
    have HD0 := Lib.hid (Below.refl U.heap.size U).drew
    obtain ⟨D0, hD0⟩ : ∃ D, U.drew = D := ⟨_, rfl⟩
    simp only [hD0] at hHeld HD0 ⊢
    clear hD0
    have HD := Lib.hid (Below.refl D0.heap.size D0)
    have HBY := Lib.hid (fun (W : World) (hW : Below D0.heap.size D0 W) => HBY0.out W (HU.out.trans ((HD0.out.trans (hW.mono HD0.out.size)).mono HU.out.size)))
    refine wpAnyH_take (i := 0) (v := ?_) (by simp; rfl) (by kernel_rfl) (by kernel_rfl) (by kernel_rfl) (by exact fun _ _ _ h => h) (Or.inl ⟨by rfl, fun wx hSx => ?_⟩) hHeld ?_
    rotate_left
    · clear hSx; go_simp; (try with_reducible rfl)
    simp only [Act.put, List.setIfInBounds_toArray, List.set_cons_zero, List.set_cons_succ]
    refine wpAnyH_take (i := 1) (v := ?_) (by simp; rfl) (by kernel_rfl) (by kernel_rfl) (by kernel_rfl) (by exact fun _ _ _ h => h) (Or.inl ⟨by rfl, fun wx hSx => ?_⟩) hHeld ?_
    rotate_left
    · clear hSx; go_simp; (try with_reducible rfl)
    simp only [Act.put, List.setIfInBounds_toArray, List.set_cons_zero, List.set_cons_succ]
    refine wpAnyH_take (i := 2) (v := ?_) (by simp; rfl) (by kernel_rfl) (by kernel_rfl) (by kernel_rfl) (by exact fun _ _ _ h => h) (Or.inl ⟨by rfl, fun wx hSx => ?_⟩) hHeld ?_
    rotate_left
    · have q := HBY.out wx hSx; obtain ⟨b0, b1, b2, b3, b4⟩ := q; clear hSx; go_simp; (try with_reducible rfl)
    simp only [Act.put, List.setIfInBounds_toArray, List.set_cons_zero, List.set_cons_succ]
    refine wpAnyH_take (i := 3) (v := ?_) (by simp; rfl) (by kernel_rfl) (by kernel_rfl) (by kernel_rfl) (by exact fun _ _ _ h => h) (Or.inl ⟨by rfl, fun wx hSx => ?_⟩) hHeld ?_
    rotate_left
    · clear hSx; go_simp; (try with_reducible rfl)
    simp only [Act.put, List.setIfInBounds_toArray, List.set_cons_zero, List.set_cons_succ]
    refine wpAnyH_take (i := 4) (v := ?_) (by simp; rfl) (by kernel_rfl) (by kernel_rfl) (by kernel_rfl) (by exact fun _ _ _ h => h) (Or.inl ⟨by rfl, fun wx hSx => ?_⟩) hHeld ?_
    rotate_left
    · clear hSx; go_simp; (try with_reducible rfl)
    simp only [Act.put, List.setIfInBounds_toArray, List.set_cons_zero, List.set_cons_succ]
    refine wpAnyH_take (i := 5) (v := ?_) (by simp; rfl) (by kernel_rfl) (by kernel_rfl) (by kernel_rfl) (by exact fun _ _ _ h => h) (Or.inl ⟨by rfl, fun wx hSx => ?_⟩) hHeld ?_
    rotate_left
    · clear hSx; go_simp; (try with_reducible rfl)
    simp only [Act.put, List.setIfInBounds_toArray, List.set_cons_zero, List.set_cons_succ]
    refine wpAnyH_take (i := 6) (v := ?_) (by simp; rfl) (by kernel_rfl) (by kernel_rfl) (by kernel_rfl) (by exact fun _ _ _ h => h) (Or.inl ⟨by rfl, fun wx hSx => ?_⟩) hHeld ?_
    rotate_left
    · have q := HBY.out wx hSx; obtain ⟨b0, b1, b2, b3, b4⟩ := q; clear hSx; go_simp; (try with_reducible rfl)
    simp only [Act.put, List.setIfInBounds_toArray, List.set_cons_zero, List.set_cons_succ]
    refine wpAnyH_take (i := 7) (v := ?_) (by simp; rfl) (by kernel_rfl) (by kernel_rfl) (by kernel_rfl) (by exact fun _ _ _ h => h) (Or.inl ⟨by rfl, fun wx hSx => ?_⟩) hHeld ?_
    rotate_left
    · clear hSx; go_simp; (try with_reducible rfl)
    simp only [Act.put, List.setIfInBounds_toArray, List.set_cons_zero, List.set_cons_succ]
    refine wpAnyH_take (i := 8) (v := ?_) (by simp; rfl) (by kernel_rfl) (by kernel_rfl) (by kernel_rfl) (by exact fun _ _ _ h => h) (Or.inl ⟨by rfl, fun wx hSx => ?_⟩) hHeld ?_
    rotate_left
    · clear hSx; go_simp; (try with_reducible rfl)
    simp only [Act.put, List.setIfInBounds_toArray, List.set_cons_zero, List.set_cons_succ]
    refine wpAnyH_take (i := 9) (v := ?_) (by simp; rfl) (by kernel_rfl) (by kernel_rfl) (by kernel_rfl) (by exact fun _ _ _ h => h) (Or.inl ⟨by rfl, fun wx hSx => ?_⟩) hHeld ?_
    rotate_left
    · clear hSx; go_simp; (try with_reducible rfl)
    simp only [Act.put, List.setIfInBounds_toArray, List.set_cons_zero, List.set_cons_succ]
    refine wpAnyH_take (i := 10) (v := ?_) (by simp; rfl) (by kernel_rfl) (by kernel_rfl) (by kernel_rfl) (by exact fun _ _ _ h => h) (Or.inl ⟨by rfl, fun wx hSx => ?_⟩) hHeld ?_
    rotate_left
    · clear hSx; go_simp; (try with_reducible rfl)
    simp only [Act.put, List.setIfInBounds_toArray, List.set_cons_zero, List.set_cons_succ]
    refine wpAnyH_take (i := 11) (v := ?_) (by simp; rfl) (by kernel_rfl) (by kernel_rfl) (by kernel_rfl) (by exact fun _ _ _ h => h) (Or.inl ⟨by rfl, fun wx hSx => ?_⟩) hHeld ?_
    rotate_left
    · have q := HBY.out wx hSx; obtain ⟨b0, b1, b2, b3, b4⟩ := q; clear hSx; go_simp; (try with_reducible rfl)
    simp only [Act.put, List.setIfInBounds_toArray, List.set_cons_zero, List.set_cons_succ]
    refine wpAnyH_take (i := 12) (v := ?_) (by simp; rfl) (by kernel_rfl) (by kernel_rfl) (by kernel_rfl) (by exact fun _ _ _ h => h) (Or.inl ⟨by rfl, fun wx hSx => ?_⟩) hHeld ?_
    rotate_left
    · clear hSx; go_simp; (try with_reducible rfl)
    simp only [Act.put, List.setIfInBounds_toArray, List.set_cons_zero, List.set_cons_succ]
    refine wpAnyH_take (i := 13) (v := ?_) (by simp; rfl) (by kernel_rfl) (by kernel_rfl) (by kernel_rfl) (by exact fun _ _ _ h => h) (Or.inl ⟨by rfl, fun wx hSx => ?_⟩) hHeld ?_
    rotate_left
    · clear hSx; go_simp; (try with_reducible rfl)
    simp only [Act.put, List.setIfInBounds_toArray, List.set_cons_zero, List.set_cons_succ]
    refine wpAnyH_take (i := 14) (v := ?_) (by simp; rfl) (by kernel_rfl) (by kernel_rfl) (by kernel_rfl) (by exact fun _ _ _ h => h) (Or.inl ⟨by rfl, fun wx hSx => ?_⟩) hHeld ?_
    rotate_left
    · clear hSx; go_simp; (try with_reducible rfl)
    simp only [Act.put, List.setIfInBounds_toArray, List.set_cons_zero, List.set_cons_succ]
    refine wpAnyH_take (i := 15) (v := ?_) (by simp; rfl) (by kernel_rfl) (by kernel_rfl) (by kernel_rfl) (by exact fun _ _ _ h => h) (Or.inl ⟨by rfl, fun wx hSx => ?_⟩) hHeld ?_
    rotate_left
    · have q := HBY.out wx hSx; obtain ⟨b0, b1, b2, b3, b4⟩ := q; clear hSx; go_simp; (try with_reducible rfl)
    simp only [Act.put, List.setIfInBounds_toArray, List.set_cons_zero, List.set_cons_succ]
    refine wpAnyH_take (i := 16) (v := ?_) (by simp; rfl) (by kernel_rfl) (by kernel_rfl) (by kernel_rfl) (by exact fun _ _ _ h => h) (Or.inl ⟨by rfl, fun wx hSx => ?_⟩) hHeld ?_
    rotate_left
    · clear hSx; go_simp; (try with_reducible rfl)
    simp only [Act.put, List.setIfInBounds_toArray, List.set_cons_zero, List.set_cons_succ]
    refine wpAnyH_take (i := 17) (v := ?_) (by simp; rfl) (by kernel_rfl) (by kernel_rfl) (by kernel_rfl) (by exact fun _ _ _ h => h) (Or.inl ⟨by rfl, fun wx hSx => ?_⟩) hHeld ?_
    rotate_left
    · clear hSx; go_simp; (try with_reducible rfl)
    simp only [Act.put, List.setIfInBounds_toArray, List.set_cons_zero, List.set_cons_succ]
    refine wpAnyH_take (i := 18) (v := ?_) (by simp; rfl) (by kernel_rfl) (by kernel_rfl) (by kernel_rfl) (by exact fun _ _ _ h => h) (Or.inl ⟨by rfl, fun wx hSx => ?_⟩) hHeld ?_
    rotate_left
    · clear hSx; go_simp; (try with_reducible rfl)
    simp only [Act.put, List.setIfInBounds_toArray, List.set_cons_zero, List.set_cons_succ]
    refine wpAnyH_take (i := 19) (v := ?_) (by simp; rfl) (by kernel_rfl) (by kernel_rfl) (by kernel_rfl) (by exact fun _ _ _ h => h) (Or.inl ⟨by rfl, fun wx hSx => ?_⟩) hHeld ?_
    rotate_left
    · have q := HBY.out wx hSx; obtain ⟨b0, b1, b2, b3, b4⟩ := q; clear hSx; go_simp; (try with_reducible rfl)
    simp only [Act.put, List.setIfInBounds_toArray, List.set_cons_zero, List.set_cons_succ]
    refine wpAnyH_take (i := 20) (v := ?_) (by simp; rfl) (by kernel_rfl) (by kernel_rfl) (by kernel_rfl) (by exact fun _ _ _ h => h) (Or.inl ⟨by rfl, fun wx hSx => ?_⟩) hHeld ?_
    rotate_left
    · clear hSx; go_simp; (try with_reducible rfl)
    simp only [Act.put, List.setIfInBounds_toArray, List.set_cons_zero, List.set_cons_succ]
    refine wpAnyH_take (i := 21) (v := ?_) (by simp; rfl) (by kernel_rfl) (by kernel_rfl) (by kernel_rfl) (by exact fun _ _ _ h => h) (Or.inl ⟨by rfl, fun wx hSx => ?_⟩) hHeld ?_
    rotate_left
    · clear hSx; go_simp; (try with_reducible rfl)
    simp only [Act.put, List.setIfInBounds_toArray, List.set_cons_zero, List.set_cons_succ]
    refine wpAnyH_ready (rs := [22]) (by kernel_rfl) (by simp) ?_
    refine AllReadyH.cons (by simp; rfl) (fun K0 hK0 => ?_) AllReadyH.nil
    go_simp
    have hbV : Below D0.heap.size D0 (D0.alloc (.cells #[.int .i64 0, .int .i64 0, .slice none 0 0, .int .i64 0, .int .i64 0, .bool false] 34)) := (Below.refl _ _).alloc (Nat.le_refl _) _
    have HV := Lib.hid (heap_alloc_new D0 (.cells #[.int .i64 0, .int .i64 0, .slice none 0 0, .int .i64 0, .int .i64 0, .bool false] 34))
    have hle := HD.out.size
    have HB2 := Lib.hid (HD.out.trans (hbV.mono HD.out.size))
    clear HD hbV
    have HD := HB2
    clear HB2
    obtain ⟨hb, hhb⟩ : ∃ g, D0.heap.size = g := ⟨_, rfl⟩
    have HLE := Lib.hid (show D0.heap.size ≤ hb from by rw [← hhb]; exact hle)
    rw [hhb] at HV ⊢
    clear hhb hle
    generalize (D0.alloc (.cells #[.int .i64 0, .int .i64 0, .slice none 0 0, .int .i64 0, .int .i64 0, .bool false] 34)) = V at HV HD ⊢
    refine hK0.out _ _ HD.out (fun _ => ?_)
    clear hK0 K0 hHeld
    have hHeld := HD.out
    refine wpAnyH_ready (rs := [23]) (by kernel_rfl) (by simp) ?_
    refine AllReadyH.cons (by simp; rfl) (fun K0 hK0 => ?_) AllReadyH.nil
    have hrow := HV.out
    refine step_store_row rfl 34 (.tmp 8) (.tmp 79) rfl hb #[.int .i64 (Rn : Int), .int .i64 (Cn : Int), .slice none 0 0, .int .i64 row, .int .i64 col, .bool vis] rfl rfl 34 _ hrow info_wview rfl (by simp [Value.oneCell']) ?_
    simp only [Act.put, List.setIfInBounds_toArray, List.set_cons_zero, List.set_cons_succ]
    have HSB := below_setRow HD.out HLE.out #[.int .i64 (Rn : Int), .int .i64 (Cn : Int), .slice none 0 0, .int .i64 row, .int .i64 col, .bool vis]
    have HEND := Lib.hid (And.intro (setRow_heap _ _ _ #[.int .i64 (Rn : Int), .int .i64 (Cn : Int), .slice none 0 0, .int .i64 row, .int .i64 col, .bool vis] _ _ hrow) HSB)
    refine hK0.out _ _ HSB (fun _ => ?_)
    clear hK0 K0 hHeld hrow HV
    have hHeld := HSB
    refine wpAnyH_done (by kernel_rfl) ?_ _
    have HV0 : Hid (VY U hb (Rn : Int) (Cn : Int) row col vis [] (.slice none 0 0) (V.setRow hb #[.int .i64 (Rn : Int), .int .i64 (Cn : Int), .slice none 0 0, .int .i64 row, .int .i64 col, .bool vis])) := Lib.hid ⟨HEND.out.1, World.ownsRow_nil _ _ _ _, HD0.out.trans (HEND.out.2.mono HD0.out.size), Nat.le_trans HD0.out.size HLE.out⟩
    generalize (V.setRow hb #[.int .i64 (Rn : Int), .int .i64 (Cn : Int), .slice none 0 0, .int .i64 row, .int .i64 col, .bool vis]) = V1 at HV0 ⊢
    clear hHeld HD HBY HEND HLE HD0
    go_upto_region 5 with fail
    have hd := (Below.refl V1.heap.size V1).drew
    have HVX := Lib.hid (HV0.out.next hd)
    refine wp_region_held_drew (S := fun W => Below V1.drew.heap.size V1.drew W) (by kernel_rfl) (Below.refl _ _) (fun hHeld => ?_)
    obtain ⟨X9, hX9⟩ : ∃ X, V1.drew = X := ⟨_, rfl⟩
    simp only [hX9] at hHeld HVX ⊢
    clear hX9 hd HV0
    have HAX := Lib.hid ((HVX.out.below.block _ (lt_of_block HVA.out)).trans HVA.out)
    have HWX := Lib.hid (HU.out.trans (HVX.out.below.mono HU.out.size))
    have HBYX := Lib.hid (fun (W : World) (hW : Below X9.heap.size X9 W) => HBY0.out W (HWX.out.trans (hW.mono HWX.out.size)))
    have HBS := Lib.hid (fun (W : World) (hW : Below w.heap.size w W) => HBA.out W hW HP.out)
    refine wpAnyH_take (i := 0) (v := ?_) (by simp; rfl) (by kernel_rfl) (by kernel_rfl) (by kernel_rfl) (by exact fun _ _ _ h => h) (Or.inl ⟨by rfl, fun wx hSx => ?_⟩) hHeld ?_
    rotate_left
    · obtain ⟨s0, s1, s2, s3, s4, s5⟩ := six_cells ((hSx.block _ (lt_of_block HAX.out)).trans HAX.out); clear hSx; go_simp; (try with_reducible rfl)
    simp only [Act.put, List.setIfInBounds_toArray, List.set_cons_zero, List.set_cons_succ]
    refine wpAnyH_take (i := 1) (v := ?_) (by simp; rfl) (by kernel_rfl) (by kernel_rfl) (by kernel_rfl) (by exact fun _ _ _ h => h) (Or.inl ⟨by rfl, fun wx hSx => ?_⟩) hHeld ?_
    rotate_left
    · clear hSx; go_simp; (try with_reducible rfl)
    simp only [Act.put, List.setIfInBounds_toArray, List.set_cons_zero, List.set_cons_succ]
    refine wpAnyH_take (i := 2) (v := ?_) (by simp; rfl) (by kernel_rfl) (by kernel_rfl) (by kernel_rfl) (by exact fun _ _ _ h => h) (Or.inl ⟨by rfl, fun wx hSx => ?_⟩) hHeld ?_
    rotate_left
    · clear hSx; go_simp; (try with_reducible rfl)
    simp only [Act.put, List.setIfInBounds_toArray, List.set_cons_zero, List.set_cons_succ]
    refine wpAnyH_take (i := 3) (v := ?_) (by simp; rfl) (by kernel_rfl) (by kernel_rfl) (by kernel_rfl) (by exact fun _ _ _ h => h) (Or.inl ⟨by rfl, fun wx hSx => ?_⟩) hHeld ?_
    rotate_left
    · have q := HBYX.out wx hSx; obtain ⟨b0, b1, b2, b3, b4⟩ := q; clear hSx; go_simp; (try with_reducible rfl)
    simp only [Act.put, List.setIfInBounds_toArray, List.set_cons_zero, List.set_cons_succ]
    refine wpAnyH_take (i := 4) (v := ?_) (by simp; rfl) (by kernel_rfl) (by kernel_rfl) (by kernel_rfl) (by exact fun _ _ _ h => h) (Or.inl ⟨by rfl, fun wx hSx => ?_⟩) hHeld ?_
    rotate_left
    · clear hSx; go_simp; (try with_reducible rfl)
    simp only [Act.put, List.setIfInBounds_toArray, List.set_cons_zero, List.set_cons_succ]
    refine wpAnyH_take (i := 5) (v := ?_) (by simp; rfl) (by kernel_rfl) (by kernel_rfl) (by kernel_rfl) (by exact fun _ _ _ h => h) (Or.inl ⟨by rfl, fun wx hSx => ?_⟩) hHeld ?_
    rotate_left
    · clear hSx; go_simp; (try with_reducible rfl)
    simp only [Act.put, List.setIfInBounds_toArray, List.set_cons_zero, List.set_cons_succ]
    refine wpAnyH_take (i := 6) (v := ?_) (by simp; rfl) (by kernel_rfl) (by kernel_rfl) (by kernel_rfl) (by exact fun _ _ _ h => h) (Or.inl ⟨by rfl, fun wx hSx => ?_⟩) hHeld ?_
    rotate_left
    · clear hSx; go_simp; (try with_reducible rfl)
    simp only [Act.put, List.setIfInBounds_toArray, List.set_cons_zero, List.set_cons_succ]
    refine wpAnyH_take (i := 7) (v := ?_) (by simp; rfl) (by kernel_rfl) (by kernel_rfl) (by kernel_rfl) (by exact fun _ _ _ h => h) (Or.inl ⟨by rfl, fun wx hSx => ?_⟩) hHeld ?_
    rotate_left
    · have q := HBYX.out wx hSx; obtain ⟨b0, b1, b2, b3, b4⟩ := q; clear hSx; go_simp; (try with_reducible rfl)
    simp only [Act.put, List.setIfInBounds_toArray, List.set_cons_zero, List.set_cons_succ]
    refine wpAnyH_take (i := 8) (v := ?_) (by simp; rfl) (by kernel_rfl) (by kernel_rfl) (by kernel_rfl) (by exact fun _ _ _ h => h) (Or.inl ⟨by rfl, fun wx hSx => ?_⟩) hHeld ?_
    rotate_left
    · clear hSx; go_simp; (try with_reducible rfl)
    simp only [Act.put, List.setIfInBounds_toArray, List.set_cons_zero, List.set_cons_succ]
    refine wpAnyH_ready (rs := [9]) (by kernel_rfl) (by simp) ?_
    refine AllReadyH.cons (by simp; rfl) (fun K0 hK0 => ?_) AllReadyH.nil
    go_simp
    refine (HBS.out _ HWX.out).mono ?_
    rintro e Y1 ⟨AO, N, cO, rfl, g3, gc, g2, hb1⟩
    refine hK0.out _ _ hb1 (fun _ => ?_)
    clear hK0 K0 hHeld
    have hHeld := hb1
    refine wpAnyH_take (i := 10) (v := ?_) (by simp; rfl) (by kernel_rfl) (by kernel_rfl) (by kernel_rfl) (by exact fun _ _ _ h => h) (Or.inl ⟨by rfl, fun wx hSx => ?_⟩) hHeld ?_
    rotate_left
    · clear hSx; go_simp; (try with_reducible rfl)
    simp only [Act.put, List.setIfInBounds_toArray, List.set_cons_zero, List.set_cons_succ]
    refine wpAnyH_done (by kernel_rfl) ?_ _
    obtain ⟨O, hO⟩ : ∃ O, baseL Ra Ca La Rn Cn = O := ⟨_, rfl⟩
    rw [hO] at g3 g2
    have HNP := Lib.hid (no_patch (O := O) HZA.out HGD.out.1 HGD.out.2.1 HGD.out.2.2.1 HGD.out.2.2.2.1 HGD.out.2.2.2.2 HVI.out (by rw [Int.toNat_natCast, Int.toNat_natCast]; exact hO))
    have HOO := Lib.hid (show LOk O from by rw [← hO]; exact base_mem (fun c hc => ⟨HLA.out.2 c hc, (rightW_parts HZA.out).2.2.1 c hc⟩))
    have HN48 : Hid (O.length = N ∧ N ≤ 480 ∧ 1 ≤ N ∧ N ≤ cO) := Lib.hid (by
      have hle : O.length ≤ 480 ∧ 1 ≤ O.length := by
        rw [← hO]
        unfold baseL
        obtain ⟨_, _, _, q4, q5, _⟩ := rightW_parts HZA.out
        split
        · exact ⟨q4, q5⟩
        · rw [rep_len]
          have a1 := Nat.mul_le_mul HP.out.2.1 HP.out.2.2.2
          have a2 := Nat.mul_le_mul HP.out.1 HP.out.2.2.1
          omega
      exact ⟨g3, by omega, by omega, gc⟩)
    obtain ⟨ob, rfl, hyo⟩ := g2 (by have := HN48.out; omega)
    have HV2 := Lib.hid (HVX.out.next hb1)
    have HYO0 := Lib.hid (show YR Y1 ob O ∧ ∀ k, (Value.slice none 0 0).ownBlock = some k → k ≠ ob from ⟨hyo, fun k hk => by cases hk⟩)
    have HOB := Lib.hid (show ob ≠ hb from by
      intro e
      subst e
      obtain ⟨p, hp0⟩ : ∃ p, (flatY O)[0]? = some (.int .i32 p) := by
        match O, HN48.out with
        | [], h => have h1 := h.1; have h2 := h.2.2.1; rw [List.length_nil] at h1; omega
        | c :: L, _ => exact ⟨c.p, rfl⟩
      have h1 := hyo.2 0 _ hp0
      have h2 := HV2.out.blk
      unfold World.cell? at h1
      simp only [h2] at h1
      simp at h1)
    obtain ⟨hd, hhd⟩ : ∃ l : List Int, [(Rn : Int), (Cn : Int), row, col, if vis = true then 1 else 0] = l := ⟨_, rfl⟩
    rw [hhd] at HNP
    have HHD := Lib.hid hhd
    have HH5 := Lib.hid (show hd.length = 5 from by rw [← hhd]; rfl)
    have HAP0 := Lib.hid (show AP bs hd O 5 [] from by
      have := AP.start2 (bs := bs) (hd := hd) (O := O) (by rw [HH5.out]; exact HK0.out.1) (by rw [HH5.out]; exact ⟨_, HK0.out.2⟩)
      rwa [HH5.out] at this)
    have HPB := Lib.hid (fun (M : List Ce) => show patchB Ra Ca La (Rn : Int) (Cn : Int) row col vis M = hd ++ dB 0 [] O M from by unfold patchB; rw [Int.toNat_natCast, Int.toNat_natCast, hO, hhd])
    clear hHeld hb1 hyo g3 gc hO hhd HAX HWX HBYX HBS HVX HBY0 g0 g1 g0' g1' g2' g3' g4'
    go_wp2
    go_loopw [10] (fun pv wr => ∃ (p0 : Nat) (M : List Ce) (A1 : Option Addr) (n1 c1 : Nat), pv = .int .i64 p0 ∧ Hid (VY U hb (Rn : Int) (Cn : Int) row col vis M (.slice A1 n1 c1) wr) ∧ Hid (AP bs hd O p0 M) ∧ Hid (M.length = n1) ∧ Hid (YR wr ob O ∧ ∀ k, (Value.slice A1 n1 c1).ownBlock = some k → k ≠ ob)) (fun pv _ => n - (intOf pv).toNat)
    case atStart => exact ⟨5, [], none, 0, 0, rfl, HV2, HAP0, Lib.hid rfl, HYO0⟩
    case round =>
      obtain ⟨p0, M, A1, n1, c1, rfl, HVY, HI, HNL, HYO⟩ := hrel
      clear HV2 HAP0 HYO0
      have HVB := Lib.hid (HU.out.trans (HVY.out.below.mono HU.out.size))
      have HML := Lib.hid (show n1 ≤ N from by have := HI.out.ml; have := HNL.out; have := HN48.out; omega)
      have HZR := Lib.hid ((HVY.out.below.block _ (lt_of_block HZ0.out)).trans HZ0.out)
      by_cases hp : p0 < n
      · have e1 : decide ((p0 : Int) < (n : Int)) = true := by simp; omega
        have e1' : decide (p0 < n) = true := by simp; omega
        obtain ⟨g, c, m, r, q, Bl, s1, s2, hc1, hg62, hc62, hm, hr, hrl, s3, hpq, hql, hBl, hBo, hrr, htk, hrq⟩ := HI.out.step HB.out (by rw [HL.out.1]; exact hp)
        have HMU := Lib.hid (fun (L : List Ce) (hL : LOk L) (hl : L.length = O.length) (hb : bs = hd ++ dB 0 [] O L) => (HI.out.must (by have := HN48.out; omega) HB.out (by rw [HL.out.1]; exact hp) s1 s2 s3 htk hql hL hl hb).1)
        have HNX := Lib.hid (fun (hle : M.length + g + c ≤ O.length) => HI.out.next HOO.out (by have := HN48.out; omega) HB.out (by rw [HL.out.1]; exact hp) s1 s2 s3 htk hpq hql hBl hBo hrr hle)
        have HS3 := Lib.hid (And.intro s3 (And.intro hBl hBo))
        have HPQ := Lib.hid (show p0 < q ∧ q ≤ n ∧ p0 < n ∧ r ≤ n ∧ 1 ≤ c from ⟨hpq, by rw [← HL.out.1]; exact hql, hp, by rw [← HL.out.1]; exact hrl, hc1⟩)
        have HG1 := Lib.hid (s1 ▸ HGS.out wr HVB.out (p0 : Int))
        have HG2 := Lib.hid (s2 ▸ HGS.out wr HVB.out (m : Int))
        have HG62 := Lib.hid (And.intro hg62 hc62)
        clear s1 s2 hc1 hg62 hc62 hm hr hrl s3 hpq hql hBl hBo hrr htk hrq hp
        go_wp2_with fail
        refine HG1.out.mono ?_
        rintro e wx ⟨rfl, rfl⟩
        clear HG1
        go_wp2_with fail
        refine HG2.out.mono ?_
        rintro e wx ⟨rfl, rfl⟩
        clear HG2
        by_cases k1 : 480 < g
        · have f1 : decide ((480 : Int) < (g : Int)) = true := by simp; omega
          have f1' : decide ((g : Int) > 480) = true := f1
          have f1n : decide (480 < g) = true := by simp; omega
          have HNO := Lib.hid (HNP.out (fun L hL hl hb _ => by have := HMU.out L hL hl hb; have := HN48.out; omega))
          clear k1
          go_upto_region 11 with fail
          have HFB := Lib.hid (below_setRow HVB.out HRB.out.1 #[.int .i64 0, .int .i64 0, .slice none 0 0, .int .i64 0, .int .i64 0, .bool false])
          go_wp2_with (refine wpList_store_row rfl 34 (.tmp 4) (.tmp 129) rfl rb #[.int .i64 0, .int .i64 0, .slice none 0 0, .int .i64 0, .int .i64 0, .bool false] rfl rfl 34 _ HZR.out info_wview rfl (by simp [Value.oneCell']) ?_)
          refine bodyPost_ret (results_cell_tmp Tryd.results8 _ _ rb 34 #[.int .i64 0, .int .i64 0, .slice none 0 0, .int .i64 0, .int .i64 0, .bool false] (0, 0) _ (.bool false) rfl rfl (setRow_heap _ _ _ #[.int .i64 0, .int .i64 0, .slice none 0 0, .int .i64 0, .int .i64 0, .bool false] _ _ HZR.out) Tryd.underlying34 rfl info_wview) rfl ?_
          exact .inr ⟨HNO.out, by rfl, HFB.out⟩
        have f1 : decide ((480 : Int) < (g : Int)) = false := by simp; omega
        have f1' : decide ((g : Int) > 480) = false := f1
        have f1n : decide (480 < g) = false := by simp; omega
        by_cases k2 : 480 < c
        · have f2 : decide ((480 : Int) < (c : Int)) = true := by simp; omega
          have f2' : decide ((c : Int) > 480) = true := f2
          have f2n : decide (480 < c) = true := by simp; omega
          have HNO := Lib.hid (HNP.out (fun L hL hl hb _ => by have := HMU.out L hL hl hb; have := HN48.out; omega))
          clear k1 k2
          go_upto_region 11 with fail
          have HFB := Lib.hid (below_setRow HVB.out HRB.out.1 #[.int .i64 0, .int .i64 0, .slice none 0 0, .int .i64 0, .int .i64 0, .bool false])
          go_wp2_with (refine wpList_store_row rfl 34 (.tmp 4) (.tmp 129) rfl rb #[.int .i64 0, .int .i64 0, .slice none 0 0, .int .i64 0, .int .i64 0, .bool false] rfl rfl 34 _ HZR.out info_wview rfl (by simp [Value.oneCell']) ?_)
          refine bodyPost_ret (results_cell_tmp Tryd.results8 _ _ rb 34 #[.int .i64 0, .int .i64 0, .slice none 0 0, .int .i64 0, .int .i64 0, .bool false] (0, 0) _ (.bool false) rfl rfl (setRow_heap _ _ _ #[.int .i64 0, .int .i64 0, .slice none 0 0, .int .i64 0, .int .i64 0, .bool false] _ _ HZR.out) Tryd.underlying34 rfl info_wview) rfl ?_
          exact .inr ⟨HNO.out, by rfl, HFB.out⟩
        have f2 : decide ((480 : Int) < (c : Int)) = false := by simp; omega
        have f2' : decide ((c : Int) > 480) = false := f2
        have f2n : decide (480 < c) = false := by simp; omega
        have v1 : IntKind.i64.wrap (g : Int) = (g : Int) := IntWalk.i64_in _ (by omega)
        have v2 : IntKind.i64.wrap (c : Int) = (c : Int) := IntWalk.i64_in _ (by omega)
        have v3 : IntKind.i64.wrap ((n1 : Int) + (g : Int)) = ((n1 + g : Nat) : Int) := by rw [← Int.natCast_add]; exact IntWalk.i64_in _ (by have := HML.out; have := HN48.out; omega)
        obtain ⟨ng, hng⟩ : ∃ t, n1 + g = t := ⟨_, rfl⟩
        rw [hng] at v3
        have v4 : IntKind.i64.wrap ((ng : Int) + (c : Int)) = ((ng + c : Nat) : Int) := by rw [← Int.natCast_add]; exact IntWalk.i64_in _ (by have := HML.out; have := HN48.out; omega)
        obtain ⟨nt, hnt⟩ : ∃ t, ng + c = t := ⟨_, rfl⟩
        rw [hnt] at v4
        have HNG := Lib.hid (And.intro hng hnt)
        obtain ⟨s0, s1, s2, s3, s4, s5⟩ := six_cells HVY.out.blk
        by_cases k3 : N < nt
        · have f3 : decide ((N : Int) < (nt : Int)) = true := by simp; omega
          have f3' : decide ((nt : Int) > (N : Int)) = true := f3
          have f3n : decide (N < nt) = true := by simp; omega
          have HNO := Lib.hid (HNP.out (fun L hL hl hb _ => by have := HMU.out L hL hl hb; have := HN48.out; have := HNL.out; omega))
          clear k1 k2 k3
          go_upto_region 11 with fail
          have HFB := Lib.hid (below_setRow HVB.out HRB.out.1 #[.int .i64 0, .int .i64 0, .slice none 0 0, .int .i64 0, .int .i64 0, .bool false])
          go_wp2_with (refine wpList_store_row rfl 34 (.tmp 4) (.tmp 129) rfl rb #[.int .i64 0, .int .i64 0, .slice none 0 0, .int .i64 0, .int .i64 0, .bool false] rfl rfl 34 _ HZR.out info_wview rfl (by simp [Value.oneCell']) ?_)
          refine bodyPost_ret (results_cell_tmp Tryd.results8 _ _ rb 34 #[.int .i64 0, .int .i64 0, .slice none 0 0, .int .i64 0, .int .i64 0, .bool false] (0, 0) _ (.bool false) rfl rfl (setRow_heap _ _ _ #[.int .i64 0, .int .i64 0, .slice none 0 0, .int .i64 0, .int .i64 0, .bool false] _ _ HZR.out) Tryd.underlying34 rfl info_wview) rfl ?_
          exact .inr ⟨HNO.out, by rfl, HFB.out⟩
        have f3 : decide ((N : Int) < (nt : Int)) = false := by simp; omega
        have f3' : decide ((nt : Int) > (N : Int)) = false := f3
        have f3n : decide (N < nt) = false := by simp; omega
        have HSEG := Lib.hid (show n1 + g ≤ O.length ∧ n1 + g ≤ 480 ∧ n1 + g + c ≤ N ∧ g ≤ 480 ∧ c ≤ 480 from by have := HN48.out; omega)
        have HSGL := Lib.hid (show ((O.drop n1).take g).length = g from by rw [List.length_take, List.length_drop]; have := HSEG.out; omega)
        have HAP1 := Lib.hid (HNX.out (by rw [HNL.out]; have := HSEG.out; have := HN48.out; omega))
        have hsl := fun W => slice_segY (b := ob) (n := N) (cap := cO) (f := n1) (q := g) (by have := HSEG.out; have := HN48.out; omega) W
        obtain ⟨ad, had⟩ : ∃ ad, (if cO = n1 then (⟨ob, 0, none⟩ : Addr) else ⟨ob, n1 * 11, none⟩) = ad := ⟨_, rfl⟩
        obtain ⟨cq, hcq⟩ : ∃ t, cO - n1 = t := ⟨_, rfl⟩
        rw [had, hcq, hng] at hsl
        have HAD := Lib.hid (fun (h : 0 < g) => show ad = ⟨ob, n1 * 11, none⟩ from by rw [← had, if_neg (by have := HSEG.out; have := HN48.out; omega)])
        clear k1 k2 k3 hng hnt had hcq HMU HNX
        go_upto_region 12 with fail
        go_cut [146] (fun a wx => ∃ A2 c2, a = .slice A2 (n1 + g) c2 ∧ Hid (VY U hb (Rn : Int) (Cn : Int) row col vis (M ++ (O.drop n1).take g) (.slice A2 (n1 + g) c2) wx) ∧ Hid (YR wx ob O ∧ ∀ k, (Value.slice A2 (n1 + g) c2).ownBlock = some k → k ≠ ob))
        case first =>
          as_aux_lemma =>
            have hd := (Below.refl wr.heap.size wr).drew
            have HVX := Lib.hid (HVY.out.next hd)
            have HYX := Lib.hid (show YR wr.drew ob O from HYO.out.1.below hd)
            obtain ⟨X0, hX0⟩ : ∃ X, wr.drew = X := ⟨_, rfl⟩
            have how := HVX.out.own
            rw [HNL.out] at how
            obtain ⟨v2, W2, hrun, ho, hg, hat⟩ := app_yseg (c := cq) how HYX.out (s := n1) (m := g) (by have := HSEG.out; omega) HAD.out (by have := HSEG.out; omega) (by have := lt_of_block HVX.out.blk; omega)
            obtain ⟨A2, c2, hv2, _⟩ := own_slice ho
            subst hv2
            have HRUN := Lib.hid hrun
            have HPV := Lib.hid (HVX.out.put hg ho (by rw [List.length_append, HNL.out, HSGL.out]))
            have HQ0 := Lib.hid ((hg.block hb (lt_of_block HVX.out.blk) (by intro e; have := ownBlock_le HVX.out.own hb e.symm; omega)).trans HVX.out.blk)
            have HBW2 := Lib.hid (HVX.out.below.grown hg HVX.out.below.size (fun k hk => by have := ownBlock_le HVX.out.own k hk; have := HVX.out.gt; omega))
            have HYW := Lib.hid (show YR (W2.setCell ⟨hb, 2, none⟩ (.slice A2 (n1 + g) c2)) ob O ∧ ∀ k, (Value.slice A2 (n1 + g) c2).ownBlock = some k → k ≠ ob from ⟨by
              have h1 := HYX.out.grown hg (fun e => HYO.out.2 ob e.symm rfl)
              refine ⟨by rw [World.size_setCell]; exact h1.1, fun j v hv => ?_⟩
              rw [World.cell?_setCell_far _ _ _ _ (by show hb ≠ ob; exact HOB.out.symm)]
              exact h1.2 j v hv, fun k hk e => by
              rcases hat with h | h
              · rw [hk] at h; exact HYO.out.2 k h.symm e
              · rw [hk] at h; injection h with h; have := HYX.out.1; omega⟩)
            clear hrun ho hg hat how
            refine wp_region_held_drew (S := fun W => Below U.heap.size U W) (by kernel_rfl) HVX.out.below (fun hHeld => ?_)
            simp only [hX0] at hHeld HVX HRUN ⊢
            clear hX0 hd
            refine wpAnyH_take (i := 0) (v := ?_) (by simp; rfl) (by kernel_rfl) (by kernel_rfl) (by kernel_rfl) (by exact fun _ _ _ h => h) (Or.inl ⟨by rfl, fun wx hSx => ?_⟩) hHeld ?_
            rotate_left
            · clear hSx; go_simp; (try with_reducible rfl)
            simp only [Act.put, List.setIfInBounds_toArray, List.set_cons_zero, List.set_cons_succ]
            refine wpAnyH_take (i := 1) (v := ?_) (by simp; rfl) (by kernel_rfl) (by kernel_rfl) (by kernel_rfl) (by exact fun _ _ _ h => h) (Or.inl ⟨by rfl, fun wx hSx => ?_⟩) hHeld ?_
            rotate_left
            · clear hSx; go_simp; (try with_reducible rfl)
            simp only [Act.put, List.setIfInBounds_toArray, List.set_cons_zero, List.set_cons_succ]
            refine wpAnyH_take (i := 3) (v := ?_) (by simp; rfl) (by kernel_rfl) (by kernel_rfl) (by kernel_rfl) (by exact fun _ _ _ h => h) (Or.inl ⟨by rfl, fun wx hSx => ?_⟩) hHeld ?_
            rotate_left
            · clear hSx; go_simp; (try with_reducible rfl)
            simp only [Act.put, List.setIfInBounds_toArray, List.set_cons_zero, List.set_cons_succ]
            refine wpAnyH_take (i := 4) (v := ?_) (by simp; rfl) (by kernel_rfl) (by kernel_rfl) (by kernel_rfl) (by exact fun _ _ _ h => h) (Or.inl ⟨by rfl, fun wx hSx => ?_⟩) hHeld ?_
            rotate_left
            · clear hSx; go_simp; (try with_reducible rfl)
            simp only [Act.put, List.setIfInBounds_toArray, List.set_cons_zero, List.set_cons_succ]
            refine wpAnyH_take (i := 5) (v := ?_) (by simp; rfl) (by kernel_rfl) (by kernel_rfl) (by kernel_rfl) (by exact fun _ _ _ h => h) (Or.inl ⟨by rfl, fun wx hSx => ?_⟩) hHeld ?_
            rotate_left
            · clear hSx; go_simp; (try with_reducible rfl)
            simp only [Act.put, List.setIfInBounds_toArray, List.set_cons_zero, List.set_cons_succ]
            refine wpAnyH_take (i := 8) (v := ?_) (by simp; rfl) (by kernel_rfl) (by kernel_rfl) (by kernel_rfl) (by exact fun _ _ _ h => h) (Or.inl ⟨by rfl, fun wx hSx => ?_⟩) hHeld ?_
            rotate_left
            · clear hSx; go_simp; (try with_reducible rfl)
            simp only [Act.put, List.setIfInBounds_toArray, List.set_cons_zero, List.set_cons_succ]
            refine wpAnyH_take (i := 9) (v := ?_) (by simp; rfl) (by kernel_rfl) (by kernel_rfl) (by kernel_rfl) (by exact fun _ _ _ h => h) (Or.inl ⟨by rfl, fun wx hSx => ?_⟩) hHeld ?_
            rotate_left
            · clear hSx; go_simp; (try with_reducible rfl)
            simp only [Act.put, List.setIfInBounds_toArray, List.set_cons_zero, List.set_cons_succ]
            refine wpAnyH_take (i := 12) (v := ?_) (by simp; rfl) (by kernel_rfl) (by kernel_rfl) (by kernel_rfl) (by exact fun _ _ _ h => h) (Or.inl ⟨by rfl, fun wx hSx => ?_⟩) hHeld ?_
            rotate_left
            · clear hSx; go_simp; (try with_reducible rfl)
            simp only [Act.put, List.setIfInBounds_toArray, List.set_cons_zero, List.set_cons_succ]
            refine wpAnyH_take (i := 13) (v := ?_) (by simp; rfl) (by kernel_rfl) (by kernel_rfl) (by kernel_rfl) (by exact fun _ _ _ h => h) (Or.inl ⟨by rfl, fun wx hSx => ?_⟩) hHeld ?_
            rotate_left
            · clear hSx; go_simp; (try with_reducible rfl)
            simp only [Act.put, List.setIfInBounds_toArray, List.set_cons_zero, List.set_cons_succ]
            refine wpAnyH_ready (rs := [2, 6, 10]) (by kernel_rfl) (by simp) ?_
            refine AllReadyH.cons (by simp; rfl) (fun K0 hK0 => ?_) (AllReadyH.cons (by simp; rfl) (fun K0 hK0 => ?_) (AllReadyH.cons (by simp; rfl) (fun K0 hK0 => ?_) AllReadyH.nil))
            · obtain ⟨s0, s1, s2, s3, s4, s5⟩ := six_cells HVX.out.blk
              go_simp
              refine hK0.out _ _ HVX.out.below (fun _ => ?_)
              clear hK0 K0 hHeld s0 s1 s2 s3 s4 s5
              have hHeld := HVX.out.below
              refine wpAnyH_ready (rs := [6, 10]) (by kernel_rfl) (by simp) ?_
              refine AllReadyH.cons (by simp; rfl) (fun K0 hK0 => ?_) (AllReadyH.cons (by simp; rfl) (fun K0 hK0 => ?_) AllReadyH.nil)
              · obtain ⟨s0, s1, s2, s3, s4, s5⟩ := six_cells HVX.out.blk
                go_simp
                refine hK0.out _ _ HVX.out.below (fun _ => ?_)
                clear hK0 K0 hHeld s0 s1 s2 s3 s4 s5
                have hHeld := HVX.out.below
                refine wpAnyH_take (i := 7) (v := ?_) (by simp; rfl) (by kernel_rfl) (by kernel_rfl) (by kernel_rfl) (by exact fun _ _ _ h => h) (Or.inl ⟨by rfl, fun wx hSx => ?_⟩) hHeld ?_
                rotate_left
                · clear hSx; go_simp; (try with_reducible rfl)
                simp only [Act.put, List.setIfInBounds_toArray, List.set_cons_zero, List.set_cons_succ]
                refine wpAnyH_ready (rs := [10]) (by kernel_rfl) (by simp) ?_
                refine AllReadyH.cons (by simp; rfl) (fun K0 hK0 => ?_) AllReadyH.nil
                obtain ⟨s0, s1, s2, s3, s4, s5⟩ := six_cells HVX.out.blk
                go_simp
                refine hK0.out _ _ HVX.out.below (fun _ => ?_)
                clear hK0 K0 hHeld s0 s1 s2 s3 s4 s5
                have hHeld := HVX.out.below
                refine wpAnyH_take (i := 11) (v := ?_) (by simp; rfl) (by kernel_rfl) (by kernel_rfl) (by kernel_rfl) (by exact fun _ _ _ h => h) (Or.inl ⟨by rfl, fun wx hSx => ?_⟩) hHeld ?_
                rotate_left
                · clear hSx; go_simp; (try with_reducible rfl)
                simp only [Act.put, List.setIfInBounds_toArray, List.set_cons_zero, List.set_cons_succ]
                refine wpAnyH_take (i := 14) (v := ?_) (by simp; rfl) (by kernel_rfl) (by kernel_rfl) (by kernel_rfl) (by exact fun _ _ _ h => h) (Or.inl ⟨by rfl, fun wx hSx => ?_⟩) hHeld ?_
                rotate_left
                · clear hSx; go_simp; (try with_reducible rfl)
                simp only [Act.put, List.setIfInBounds_toArray, List.set_cons_zero, List.set_cons_succ]
                refine wpAnyH_take (i := 15) (v := ?_) (by simp; rfl) (by kernel_rfl) (by kernel_rfl) (by kernel_rfl) (by exact fun _ _ _ h => h) (Or.inl ⟨by rfl, fun wx hSx => ?_⟩) hHeld ?_
                rotate_left
                · have hs2 := hsl wx; clear hSx; go_simp; (try with_reducible rfl)
                simp only [Act.put, List.setIfInBounds_toArray, List.set_cons_zero, List.set_cons_succ]
                refine wpAnyH_ready (rs := [16]) (by kernel_rfl) (by simp) ?_
                refine AllReadyH.cons (by simp; rfl) (fun K0 hK0 => ?_) AllReadyH.nil
                refine step_app rfl (.tmp 132) (.tmp 145) _ rfl _ _ rfl rfl HRUN.out ?_
                simp only [Act.put, List.setIfInBounds_toArray, List.set_cons_zero, List.set_cons_succ]
                refine hK0.out _ _ HBW2.out (fun _ => ?_)
                clear hK0 K0 hHeld
                have hHeld := HBW2.out
                refine wpAnyH_take (i := 17) (v := ?_) (by simp; rfl) (by kernel_rfl) (by kernel_rfl) (by kernel_rfl) (by exact fun _ _ _ h => h) (Or.inl ⟨by rfl, fun wx hSx => ?_⟩) hHeld ?_
                rotate_left
                · clear hSx; go_simp; (try with_reducible rfl)
                simp only [Act.put, List.setIfInBounds_toArray, List.set_cons_zero, List.set_cons_succ]
                refine wpAnyH_take (i := 18) (v := ?_) (by simp; rfl) (by kernel_rfl) (by kernel_rfl) (by kernel_rfl) (by exact fun _ _ _ h => h) (Or.inl ⟨by rfl, fun wx hSx => ?_⟩) hHeld ?_
                rotate_left
                · clear hSx; go_simp; (try with_reducible rfl)
                simp only [Act.put, List.setIfInBounds_toArray, List.set_cons_zero, List.set_cons_succ]
                refine wpAnyH_ready (rs := [19]) (by kernel_rfl) (by simp) ?_
                refine AllReadyH.cons (by simp; rfl) (fun K0 hK0 => ?_) AllReadyH.nil
                obtain ⟨s0, s1, s2, s3, s4, s5⟩ := six_cells HQ0.out
                have q1 := frozen_of_row W2 hb 2 _ _ HQ0.out
                go_simp
                refine hK0.out _ _ HPV.out.below (fun _ => ?_)
                clear hK0 K0 hHeld s0 s1 s2 s3 s4 s5 q1
                have hHeld := HPV.out.below
                refine wpAnyH_done (by kernel_rfl) ?_ _
                generalize (W2.setCell ⟨hb, 2, none⟩ (.slice A2 (n1 + g) c2)) = W3 at HPV HYW ⊢
                go_wp2
                go_meet
                exact ⟨A2, c2, rfl, HPV, HYW⟩
              · obtain ⟨s0, s1, s2, s3, s4, s5⟩ := six_cells HVX.out.blk
                go_simp
                refine hK0.out _ _ HVX.out.below (fun _ => ?_)
                clear hK0 K0 hHeld s0 s1 s2 s3 s4 s5
                have hHeld := HVX.out.below
                refine wpAnyH_take (i := 11) (v := ?_) (by simp; rfl) (by kernel_rfl) (by kernel_rfl) (by kernel_rfl) (by exact fun _ _ _ h => h) (Or.inl ⟨by rfl, fun wx hSx => ?_⟩) hHeld ?_
                rotate_left
                · clear hSx; go_simp; (try with_reducible rfl)
                simp only [Act.put, List.setIfInBounds_toArray, List.set_cons_zero, List.set_cons_succ]
                refine wpAnyH_take (i := 14) (v := ?_) (by simp; rfl) (by kernel_rfl) (by kernel_rfl) (by kernel_rfl) (by exact fun _ _ _ h => h) (Or.inl ⟨by rfl, fun wx hSx => ?_⟩) hHeld ?_
                rotate_left
                · clear hSx; go_simp; (try with_reducible rfl)
                simp only [Act.put, List.setIfInBounds_toArray, List.set_cons_zero, List.set_cons_succ]
                refine wpAnyH_ready (rs := [6]) (by kernel_rfl) (by simp) ?_
                refine AllReadyH.cons (by simp; rfl) (fun K0 hK0 => ?_) AllReadyH.nil
                obtain ⟨s0, s1, s2, s3, s4, s5⟩ := six_cells HVX.out.blk
                go_simp
                refine hK0.out _ _ HVX.out.below (fun _ => ?_)
                clear hK0 K0 hHeld s0 s1 s2 s3 s4 s5
                have hHeld := HVX.out.below
                refine wpAnyH_take (i := 7) (v := ?_) (by simp; rfl) (by kernel_rfl) (by kernel_rfl) (by kernel_rfl) (by exact fun _ _ _ h => h) (Or.inl ⟨by rfl, fun wx hSx => ?_⟩) hHeld ?_
                rotate_left
                · clear hSx; go_simp; (try with_reducible rfl)
                simp only [Act.put, List.setIfInBounds_toArray, List.set_cons_zero, List.set_cons_succ]
                refine wpAnyH_take (i := 15) (v := ?_) (by simp; rfl) (by kernel_rfl) (by kernel_rfl) (by kernel_rfl) (by exact fun _ _ _ h => h) (Or.inl ⟨by rfl, fun wx hSx => ?_⟩) hHeld ?_
                rotate_left
                · have hs2 := hsl wx; clear hSx; go_simp; (try with_reducible rfl)
                simp only [Act.put, List.setIfInBounds_toArray, List.set_cons_zero, List.set_cons_succ]
                refine wpAnyH_ready (rs := [16]) (by kernel_rfl) (by simp) ?_
                refine AllReadyH.cons (by simp; rfl) (fun K0 hK0 => ?_) AllReadyH.nil
                refine step_app rfl (.tmp 132) (.tmp 145) _ rfl _ _ rfl rfl HRUN.out ?_
                simp only [Act.put, List.setIfInBounds_toArray, List.set_cons_zero, List.set_cons_succ]
                refine hK0.out _ _ HBW2.out (fun _ => ?_)
                clear hK0 K0 hHeld
                have hHeld := HBW2.out
                refine wpAnyH_take (i := 17) (v := ?_) (by simp; rfl) (by kernel_rfl) (by kernel_rfl) (by kernel_rfl) (by exact fun _ _ _ h => h) (Or.inl ⟨by rfl, fun wx hSx => ?_⟩) hHeld ?_
                rotate_left
                · clear hSx; go_simp; (try with_reducible rfl)
                simp only [Act.put, List.setIfInBounds_toArray, List.set_cons_zero, List.set_cons_succ]
                refine wpAnyH_take (i := 18) (v := ?_) (by simp; rfl) (by kernel_rfl) (by kernel_rfl) (by kernel_rfl) (by exact fun _ _ _ h => h) (Or.inl ⟨by rfl, fun wx hSx => ?_⟩) hHeld ?_
                rotate_left
                · clear hSx; go_simp; (try with_reducible rfl)
                simp only [Act.put, List.setIfInBounds_toArray, List.set_cons_zero, List.set_cons_succ]
                refine wpAnyH_ready (rs := [19]) (by kernel_rfl) (by simp) ?_
                refine AllReadyH.cons (by simp; rfl) (fun K0 hK0 => ?_) AllReadyH.nil
                obtain ⟨s0, s1, s2, s3, s4, s5⟩ := six_cells HQ0.out
                have q1 := frozen_of_row W2 hb 2 _ _ HQ0.out
                go_simp
                refine hK0.out _ _ HPV.out.below (fun _ => ?_)
                clear hK0 K0 hHeld s0 s1 s2 s3 s4 s5 q1
                have hHeld := HPV.out.below
                refine wpAnyH_done (by kernel_rfl) ?_ _
                generalize (W2.setCell ⟨hb, 2, none⟩ (.slice A2 (n1 + g) c2)) = W3 at HPV HYW ⊢
                go_wp2
                go_meet
                exact ⟨A2, c2, rfl, HPV, HYW⟩
            · obtain ⟨s0, s1, s2, s3, s4, s5⟩ := six_cells HVX.out.blk
              go_simp
              refine hK0.out _ _ HVX.out.below (fun _ => ?_)
              clear hK0 K0 hHeld s0 s1 s2 s3 s4 s5
              have hHeld := HVX.out.below
              refine wpAnyH_take (i := 7) (v := ?_) (by simp; rfl) (by kernel_rfl) (by kernel_rfl) (by kernel_rfl) (by exact fun _ _ _ h => h) (Or.inl ⟨by rfl, fun wx hSx => ?_⟩) hHeld ?_
              rotate_left
              · clear hSx; go_simp; (try with_reducible rfl)
              simp only [Act.put, List.setIfInBounds_toArray, List.set_cons_zero, List.set_cons_succ]
              refine wpAnyH_ready (rs := [2, 10]) (by kernel_rfl) (by simp) ?_
              refine AllReadyH.cons (by simp; rfl) (fun K0 hK0 => ?_) (AllReadyH.cons (by simp; rfl) (fun K0 hK0 => ?_) AllReadyH.nil)
              · obtain ⟨s0, s1, s2, s3, s4, s5⟩ := six_cells HVX.out.blk
                go_simp
                refine hK0.out _ _ HVX.out.below (fun _ => ?_)
                clear hK0 K0 hHeld s0 s1 s2 s3 s4 s5
                have hHeld := HVX.out.below
                refine wpAnyH_ready (rs := [10]) (by kernel_rfl) (by simp) ?_
                refine AllReadyH.cons (by simp; rfl) (fun K0 hK0 => ?_) AllReadyH.nil
                obtain ⟨s0, s1, s2, s3, s4, s5⟩ := six_cells HVX.out.blk
                go_simp
                refine hK0.out _ _ HVX.out.below (fun _ => ?_)
                clear hK0 K0 hHeld s0 s1 s2 s3 s4 s5
                have hHeld := HVX.out.below
                refine wpAnyH_take (i := 11) (v := ?_) (by simp; rfl) (by kernel_rfl) (by kernel_rfl) (by kernel_rfl) (by exact fun _ _ _ h => h) (Or.inl ⟨by rfl, fun wx hSx => ?_⟩) hHeld ?_
                rotate_left
                · clear hSx; go_simp; (try with_reducible rfl)
                simp only [Act.put, List.setIfInBounds_toArray, List.set_cons_zero, List.set_cons_succ]
                refine wpAnyH_take (i := 14) (v := ?_) (by simp; rfl) (by kernel_rfl) (by kernel_rfl) (by kernel_rfl) (by exact fun _ _ _ h => h) (Or.inl ⟨by rfl, fun wx hSx => ?_⟩) hHeld ?_
                rotate_left
                · clear hSx; go_simp; (try with_reducible rfl)
                simp only [Act.put, List.setIfInBounds_toArray, List.set_cons_zero, List.set_cons_succ]
                refine wpAnyH_take (i := 15) (v := ?_) (by simp; rfl) (by kernel_rfl) (by kernel_rfl) (by kernel_rfl) (by exact fun _ _ _ h => h) (Or.inl ⟨by rfl, fun wx hSx => ?_⟩) hHeld ?_
                rotate_left
                · have hs2 := hsl wx; clear hSx; go_simp; (try with_reducible rfl)
                simp only [Act.put, List.setIfInBounds_toArray, List.set_cons_zero, List.set_cons_succ]
                refine wpAnyH_ready (rs := [16]) (by kernel_rfl) (by simp) ?_
                refine AllReadyH.cons (by simp; rfl) (fun K0 hK0 => ?_) AllReadyH.nil
                refine step_app rfl (.tmp 132) (.tmp 145) _ rfl _ _ rfl rfl HRUN.out ?_
                simp only [Act.put, List.setIfInBounds_toArray, List.set_cons_zero, List.set_cons_succ]
                refine hK0.out _ _ HBW2.out (fun _ => ?_)
                clear hK0 K0 hHeld
                have hHeld := HBW2.out
                refine wpAnyH_take (i := 17) (v := ?_) (by simp; rfl) (by kernel_rfl) (by kernel_rfl) (by kernel_rfl) (by exact fun _ _ _ h => h) (Or.inl ⟨by rfl, fun wx hSx => ?_⟩) hHeld ?_
                rotate_left
                · clear hSx; go_simp; (try with_reducible rfl)
                simp only [Act.put, List.setIfInBounds_toArray, List.set_cons_zero, List.set_cons_succ]
                refine wpAnyH_take (i := 18) (v := ?_) (by simp; rfl) (by kernel_rfl) (by kernel_rfl) (by kernel_rfl) (by exact fun _ _ _ h => h) (Or.inl ⟨by rfl, fun wx hSx => ?_⟩) hHeld ?_
                rotate_left
                · clear hSx; go_simp; (try with_reducible rfl)
                simp only [Act.put, List.setIfInBounds_toArray, List.set_cons_zero, List.set_cons_succ]
                refine wpAnyH_ready (rs := [19]) (by kernel_rfl) (by simp) ?_
                refine AllReadyH.cons (by simp; rfl) (fun K0 hK0 => ?_) AllReadyH.nil
                obtain ⟨s0, s1, s2, s3, s4, s5⟩ := six_cells HQ0.out
                have q1 := frozen_of_row W2 hb 2 _ _ HQ0.out
                go_simp
                refine hK0.out _ _ HPV.out.below (fun _ => ?_)
                clear hK0 K0 hHeld s0 s1 s2 s3 s4 s5 q1
                have hHeld := HPV.out.below
                refine wpAnyH_done (by kernel_rfl) ?_ _
                generalize (W2.setCell ⟨hb, 2, none⟩ (.slice A2 (n1 + g) c2)) = W3 at HPV HYW ⊢
                go_wp2
                go_meet
                exact ⟨A2, c2, rfl, HPV, HYW⟩
              · obtain ⟨s0, s1, s2, s3, s4, s5⟩ := six_cells HVX.out.blk
                go_simp
                refine hK0.out _ _ HVX.out.below (fun _ => ?_)
                clear hK0 K0 hHeld s0 s1 s2 s3 s4 s5
                have hHeld := HVX.out.below
                refine wpAnyH_take (i := 11) (v := ?_) (by simp; rfl) (by kernel_rfl) (by kernel_rfl) (by kernel_rfl) (by exact fun _ _ _ h => h) (Or.inl ⟨by rfl, fun wx hSx => ?_⟩) hHeld ?_
                rotate_left
                · clear hSx; go_simp; (try with_reducible rfl)
                simp only [Act.put, List.setIfInBounds_toArray, List.set_cons_zero, List.set_cons_succ]
                refine wpAnyH_take (i := 14) (v := ?_) (by simp; rfl) (by kernel_rfl) (by kernel_rfl) (by kernel_rfl) (by exact fun _ _ _ h => h) (Or.inl ⟨by rfl, fun wx hSx => ?_⟩) hHeld ?_
                rotate_left
                · clear hSx; go_simp; (try with_reducible rfl)
                simp only [Act.put, List.setIfInBounds_toArray, List.set_cons_zero, List.set_cons_succ]
                refine wpAnyH_take (i := 15) (v := ?_) (by simp; rfl) (by kernel_rfl) (by kernel_rfl) (by kernel_rfl) (by exact fun _ _ _ h => h) (Or.inl ⟨by rfl, fun wx hSx => ?_⟩) hHeld ?_
                rotate_left
                · have hs2 := hsl wx; clear hSx; go_simp; (try with_reducible rfl)
                simp only [Act.put, List.setIfInBounds_toArray, List.set_cons_zero, List.set_cons_succ]
                refine wpAnyH_ready (rs := [2]) (by kernel_rfl) (by simp) ?_
                refine AllReadyH.cons (by simp; rfl) (fun K0 hK0 => ?_) AllReadyH.nil
                obtain ⟨s0, s1, s2, s3, s4, s5⟩ := six_cells HVX.out.blk
                go_simp
                refine hK0.out _ _ HVX.out.below (fun _ => ?_)
                clear hK0 K0 hHeld s0 s1 s2 s3 s4 s5
                have hHeld := HVX.out.below
                refine wpAnyH_ready (rs := [16]) (by kernel_rfl) (by simp) ?_
                refine AllReadyH.cons (by simp; rfl) (fun K0 hK0 => ?_) AllReadyH.nil
                refine step_app rfl (.tmp 132) (.tmp 145) _ rfl _ _ rfl rfl HRUN.out ?_
                simp only [Act.put, List.setIfInBounds_toArray, List.set_cons_zero, List.set_cons_succ]
                refine hK0.out _ _ HBW2.out (fun _ => ?_)
                clear hK0 K0 hHeld
                have hHeld := HBW2.out
                refine wpAnyH_take (i := 17) (v := ?_) (by simp; rfl) (by kernel_rfl) (by kernel_rfl) (by kernel_rfl) (by exact fun _ _ _ h => h) (Or.inl ⟨by rfl, fun wx hSx => ?_⟩) hHeld ?_
                rotate_left
                · clear hSx; go_simp; (try with_reducible rfl)
                simp only [Act.put, List.setIfInBounds_toArray, List.set_cons_zero, List.set_cons_succ]
                refine wpAnyH_take (i := 18) (v := ?_) (by simp; rfl) (by kernel_rfl) (by kernel_rfl) (by kernel_rfl) (by exact fun _ _ _ h => h) (Or.inl ⟨by rfl, fun wx hSx => ?_⟩) hHeld ?_
                rotate_left
                · clear hSx; go_simp; (try with_reducible rfl)
                simp only [Act.put, List.setIfInBounds_toArray, List.set_cons_zero, List.set_cons_succ]
                refine wpAnyH_ready (rs := [19]) (by kernel_rfl) (by simp) ?_
                refine AllReadyH.cons (by simp; rfl) (fun K0 hK0 => ?_) AllReadyH.nil
                obtain ⟨s0, s1, s2, s3, s4, s5⟩ := six_cells HQ0.out
                have q1 := frozen_of_row W2 hb 2 _ _ HQ0.out
                go_simp
                refine hK0.out _ _ HPV.out.below (fun _ => ?_)
                clear hK0 K0 hHeld s0 s1 s2 s3 s4 s5 q1
                have hHeld := HPV.out.below
                refine wpAnyH_done (by kernel_rfl) ?_ _
                generalize (W2.setCell ⟨hb, 2, none⟩ (.slice A2 (n1 + g) c2)) = W3 at HPV HYW ⊢
                go_wp2
                go_meet
                exact ⟨A2, c2, rfl, HPV, HYW⟩
            · obtain ⟨s0, s1, s2, s3, s4, s5⟩ := six_cells HVX.out.blk
              go_simp
              refine hK0.out _ _ HVX.out.below (fun _ => ?_)
              clear hK0 K0 hHeld s0 s1 s2 s3 s4 s5
              have hHeld := HVX.out.below
              refine wpAnyH_take (i := 11) (v := ?_) (by simp; rfl) (by kernel_rfl) (by kernel_rfl) (by kernel_rfl) (by exact fun _ _ _ h => h) (Or.inl ⟨by rfl, fun wx hSx => ?_⟩) hHeld ?_
              rotate_left
              · clear hSx; go_simp; (try with_reducible rfl)
              simp only [Act.put, List.setIfInBounds_toArray, List.set_cons_zero, List.set_cons_succ]
              refine wpAnyH_take (i := 14) (v := ?_) (by simp; rfl) (by kernel_rfl) (by kernel_rfl) (by kernel_rfl) (by exact fun _ _ _ h => h) (Or.inl ⟨by rfl, fun wx hSx => ?_⟩) hHeld ?_
              rotate_left
              · clear hSx; go_simp; (try with_reducible rfl)
              simp only [Act.put, List.setIfInBounds_toArray, List.set_cons_zero, List.set_cons_succ]
              refine wpAnyH_ready (rs := [2, 6]) (by kernel_rfl) (by simp) ?_
              refine AllReadyH.cons (by simp; rfl) (fun K0 hK0 => ?_) (AllReadyH.cons (by simp; rfl) (fun K0 hK0 => ?_) AllReadyH.nil)
              · obtain ⟨s0, s1, s2, s3, s4, s5⟩ := six_cells HVX.out.blk
                go_simp
                refine hK0.out _ _ HVX.out.below (fun _ => ?_)
                clear hK0 K0 hHeld s0 s1 s2 s3 s4 s5
                have hHeld := HVX.out.below
                refine wpAnyH_ready (rs := [6]) (by kernel_rfl) (by simp) ?_
                refine AllReadyH.cons (by simp; rfl) (fun K0 hK0 => ?_) AllReadyH.nil
                obtain ⟨s0, s1, s2, s3, s4, s5⟩ := six_cells HVX.out.blk
                go_simp
                refine hK0.out _ _ HVX.out.below (fun _ => ?_)
                clear hK0 K0 hHeld s0 s1 s2 s3 s4 s5
                have hHeld := HVX.out.below
                refine wpAnyH_take (i := 7) (v := ?_) (by simp; rfl) (by kernel_rfl) (by kernel_rfl) (by kernel_rfl) (by exact fun _ _ _ h => h) (Or.inl ⟨by rfl, fun wx hSx => ?_⟩) hHeld ?_
                rotate_left
                · clear hSx; go_simp; (try with_reducible rfl)
                simp only [Act.put, List.setIfInBounds_toArray, List.set_cons_zero, List.set_cons_succ]
                refine wpAnyH_take (i := 15) (v := ?_) (by simp; rfl) (by kernel_rfl) (by kernel_rfl) (by kernel_rfl) (by exact fun _ _ _ h => h) (Or.inl ⟨by rfl, fun wx hSx => ?_⟩) hHeld ?_
                rotate_left
                · have hs2 := hsl wx; clear hSx; go_simp; (try with_reducible rfl)
                simp only [Act.put, List.setIfInBounds_toArray, List.set_cons_zero, List.set_cons_succ]
                refine wpAnyH_ready (rs := [16]) (by kernel_rfl) (by simp) ?_
                refine AllReadyH.cons (by simp; rfl) (fun K0 hK0 => ?_) AllReadyH.nil
                refine step_app rfl (.tmp 132) (.tmp 145) _ rfl _ _ rfl rfl HRUN.out ?_
                simp only [Act.put, List.setIfInBounds_toArray, List.set_cons_zero, List.set_cons_succ]
                refine hK0.out _ _ HBW2.out (fun _ => ?_)
                clear hK0 K0 hHeld
                have hHeld := HBW2.out
                refine wpAnyH_take (i := 17) (v := ?_) (by simp; rfl) (by kernel_rfl) (by kernel_rfl) (by kernel_rfl) (by exact fun _ _ _ h => h) (Or.inl ⟨by rfl, fun wx hSx => ?_⟩) hHeld ?_
                rotate_left
                · clear hSx; go_simp; (try with_reducible rfl)
                simp only [Act.put, List.setIfInBounds_toArray, List.set_cons_zero, List.set_cons_succ]
                refine wpAnyH_take (i := 18) (v := ?_) (by simp; rfl) (by kernel_rfl) (by kernel_rfl) (by kernel_rfl) (by exact fun _ _ _ h => h) (Or.inl ⟨by rfl, fun wx hSx => ?_⟩) hHeld ?_
                rotate_left
                · clear hSx; go_simp; (try with_reducible rfl)
                simp only [Act.put, List.setIfInBounds_toArray, List.set_cons_zero, List.set_cons_succ]
                refine wpAnyH_ready (rs := [19]) (by kernel_rfl) (by simp) ?_
                refine AllReadyH.cons (by simp; rfl) (fun K0 hK0 => ?_) AllReadyH.nil
                obtain ⟨s0, s1, s2, s3, s4, s5⟩ := six_cells HQ0.out
                have q1 := frozen_of_row W2 hb 2 _ _ HQ0.out
                go_simp
                refine hK0.out _ _ HPV.out.below (fun _ => ?_)
                clear hK0 K0 hHeld s0 s1 s2 s3 s4 s5 q1
                have hHeld := HPV.out.below
                refine wpAnyH_done (by kernel_rfl) ?_ _
                generalize (W2.setCell ⟨hb, 2, none⟩ (.slice A2 (n1 + g) c2)) = W3 at HPV HYW ⊢
                go_wp2
                go_meet
                exact ⟨A2, c2, rfl, HPV, HYW⟩
              · obtain ⟨s0, s1, s2, s3, s4, s5⟩ := six_cells HVX.out.blk
                go_simp
                refine hK0.out _ _ HVX.out.below (fun _ => ?_)
                clear hK0 K0 hHeld s0 s1 s2 s3 s4 s5
                have hHeld := HVX.out.below
                refine wpAnyH_take (i := 7) (v := ?_) (by simp; rfl) (by kernel_rfl) (by kernel_rfl) (by kernel_rfl) (by exact fun _ _ _ h => h) (Or.inl ⟨by rfl, fun wx hSx => ?_⟩) hHeld ?_
                rotate_left
                · clear hSx; go_simp; (try with_reducible rfl)
                simp only [Act.put, List.setIfInBounds_toArray, List.set_cons_zero, List.set_cons_succ]
                refine wpAnyH_take (i := 15) (v := ?_) (by simp; rfl) (by kernel_rfl) (by kernel_rfl) (by kernel_rfl) (by exact fun _ _ _ h => h) (Or.inl ⟨by rfl, fun wx hSx => ?_⟩) hHeld ?_
                rotate_left
                · have hs2 := hsl wx; clear hSx; go_simp; (try with_reducible rfl)
                simp only [Act.put, List.setIfInBounds_toArray, List.set_cons_zero, List.set_cons_succ]
                refine wpAnyH_ready (rs := [2]) (by kernel_rfl) (by simp) ?_
                refine AllReadyH.cons (by simp; rfl) (fun K0 hK0 => ?_) AllReadyH.nil
                obtain ⟨s0, s1, s2, s3, s4, s5⟩ := six_cells HVX.out.blk
                go_simp
                refine hK0.out _ _ HVX.out.below (fun _ => ?_)
                clear hK0 K0 hHeld s0 s1 s2 s3 s4 s5
                have hHeld := HVX.out.below
                refine wpAnyH_ready (rs := [16]) (by kernel_rfl) (by simp) ?_
                refine AllReadyH.cons (by simp; rfl) (fun K0 hK0 => ?_) AllReadyH.nil
                refine step_app rfl (.tmp 132) (.tmp 145) _ rfl _ _ rfl rfl HRUN.out ?_
                simp only [Act.put, List.setIfInBounds_toArray, List.set_cons_zero, List.set_cons_succ]
                refine hK0.out _ _ HBW2.out (fun _ => ?_)
                clear hK0 K0 hHeld
                have hHeld := HBW2.out
                refine wpAnyH_take (i := 17) (v := ?_) (by simp; rfl) (by kernel_rfl) (by kernel_rfl) (by kernel_rfl) (by exact fun _ _ _ h => h) (Or.inl ⟨by rfl, fun wx hSx => ?_⟩) hHeld ?_
                rotate_left
                · clear hSx; go_simp; (try with_reducible rfl)
                simp only [Act.put, List.setIfInBounds_toArray, List.set_cons_zero, List.set_cons_succ]
                refine wpAnyH_take (i := 18) (v := ?_) (by simp; rfl) (by kernel_rfl) (by kernel_rfl) (by kernel_rfl) (by exact fun _ _ _ h => h) (Or.inl ⟨by rfl, fun wx hSx => ?_⟩) hHeld ?_
                rotate_left
                · clear hSx; go_simp; (try with_reducible rfl)
                simp only [Act.put, List.setIfInBounds_toArray, List.set_cons_zero, List.set_cons_succ]
                refine wpAnyH_ready (rs := [19]) (by kernel_rfl) (by simp) ?_
                refine AllReadyH.cons (by simp; rfl) (fun K0 hK0 => ?_) AllReadyH.nil
                obtain ⟨s0, s1, s2, s3, s4, s5⟩ := six_cells HQ0.out
                have q1 := frozen_of_row W2 hb 2 _ _ HQ0.out
                go_simp
                refine hK0.out _ _ HPV.out.below (fun _ => ?_)
                clear hK0 K0 hHeld s0 s1 s2 s3 s4 s5 q1
                have hHeld := HPV.out.below
                refine wpAnyH_done (by kernel_rfl) ?_ _
                generalize (W2.setCell ⟨hb, 2, none⟩ (.slice A2 (n1 + g) c2)) = W3 at HPV HYW ⊢
                go_wp2
                go_meet
                exact ⟨A2, c2, rfl, HPV, HYW⟩
        case rest =>
          obtain ⟨A2, c2, rfl, HV3, HY3⟩ := hcut
          clear s0 s1 s2 s3 s4 s5 hsl HVY HYO HZR HVB HAD
          obtain ⟨n2, hn2⟩ : ∃ t, n1 + g = t := ⟨_, rfl⟩
          rw [hn2] at HV3 HY3 ⊢
          have HN2 := Lib.hid hn2
          have HV4 : Hid (VY U hb (Rn : Int) (Cn : Int) row col vis ((M ++ (O.drop n1).take g) ++ []) (.slice A2 n2 c2) wc) := Lib.hid (by rw [List.append_nil]; exact HV3.out)
          clear hn2 HV3
          focus
            go_wp2
            go_loopw [15, 17] (fun lv iv wi => ∃ (i q2 : Nat) (Bi Br : List Ce) (A3 : Option Addr) (n3 c3 : Nat), lv = .int .i64 q2 ∧ iv = .int .u64 i ∧ i ≤ c ∧ Hid (VY U hb (Rn : Int) (Cn : Int) row col vis ((M ++ (O.drop n1).take g) ++ Bi) (.slice A3 n3 c3) wi) ∧ Hid (Bi.length = i ∧ n3 = n2 + i ∧ Bl = Bi ++ Br ∧ cellsL (c - i) bs (q2 : Int) = some (Br, (q : Int)) ∧ q2 ≤ n) ∧ Hid (YR wi ob O ∧ ∀ k, (Value.slice A3 n3 c3).ownBlock = some k → k ≠ ob)) (fun _ iv _ => c - (intOf iv).toNat)
            case atStart => exact ⟨0, r, [], Bl, A2, n2, c2, rfl, rfl, by omega, HV4, Lib.hid ⟨rfl, rfl, rfl, HS3.out.1, HPQ.out.2.2.2.1⟩, HY3⟩
            case round =>
              obtain ⟨i, q2, Bi, Br, A3, n3, c3, rfl, rfl, hi, HVI2, HJ, HYI⟩ := hrel
              clear HV4 HY3
              by_cases hic : i < c
              · have i1 : decide ((i : Int) < (c : Int)) = true := by simp; omega
                have i1' : decide (i < c) = true := by simp; omega
                have wi : IntKind.u64.wrap ((i : Int) + 1) = (i : Int) + 1 := IntWalk.u64_in _ (by have := HG62.out; omega)
                have hcl := HJ.out.2.2.2.1
                rw [show c - i = (c - (i + 1)) + 1 by omega] at hcl
                obtain ⟨e0, m2, Br2, hC, hBr, hcl2⟩ := cellsL_cons hcl
                obtain ⟨o1, o2, o3, o4, _⟩ := getC_ok HB.out (p := q2) hC
                obtain ⟨q3, hq3⟩ : ∃ t : Nat, m2 = t := ⟨q2 + (cellB e0).length, by rw [o3]; omega⟩
                subst hq3
                obtain ⟨yp, y0, y1, y2, y3, y4, y5, y6, y7, yg, yb, hy⟩ := yC_form e0
                have HVB := Lib.hid (HU.out.trans (HVI2.out.below.mono HU.out.size))
                have HGP : Hid (Calls Tryd.prog 33 #[.slice (some ⟨bb, off, none⟩) n cap, .int .i64 q2] wr fun e w' => e = .returned (.tuple #[.agg #[.int .i32 yp, .bool y0, .bool y1, .bool y2, .bool y3, .bool y4, .bool y5, .bool y6, .bool y7, .int .u32 yg, .int .u32 yb], .int .i64 q3, .int .i64 0]) ∧ Below wr.heap.size wr w') := Lib.hid (by
                  have hz := HGC.out wr HVB.out (q2 : Int)
                  rw [hC] at hz
                  unfold yV at hz
                  rw [hy] at hz
                  exact hz)
                have HYC := Lib.hid (fun (_ : Unit) => show (yC e0).toArray = (#[.int .i32 yp, .bool y0, .bool y1, .bool y2, .bool y3, .bool y4, .bool y5, .bool y6, .bool y7, .int .u32 yg, .int .u32 yb] : Array Value) from by rw [hy])
                have HJ2 := Lib.hid (show (Bi ++ [e0]).length = i + 1 ∧ n3 + 1 = n2 + (i + 1) ∧ Bl = (Bi ++ [e0]) ++ Br2 ∧ cellsL (c - (i + 1)) bs (q3 : Int) = some (Br2, (q : Int)) ∧ q3 ≤ n from ⟨by rw [List.length_append, HJ.out.1]; rfl, by have := HJ.out.2.1; omega, by rw [HJ.out.2.2.1, hBr]; simp, hcl2, by have := HL.out.1; omega⟩)
                have HIC := Lib.hid hic
                clear hi hic hcl hC hBr hcl2 o1 o2 o3 o4 hy
                go_wp2_with fail
                refine HGP.out.mono ?_
                rintro e w2 ⟨rfl, b2⟩
                have hba := (Below.refl w2.heap.size w2).alloc (Nat.le_refl _) (.cells #[.int .i32 yp, .bool y0, .bool y1, .bool y2, .bool y3, .bool y4, .bool y5, .bool y6, .bool y7, .int .u32 yg, .int .u32 yb] 80)
                have hbz := b2.trans (hba.mono b2.size)
                have HVX := Lib.hid (HVI2.out.next hbz)
                have HYX := Lib.hid (show YR (w2.alloc (.cells #[.int .i32 yp, .bool y0, .bool y1, .bool y2, .bool y3, .bool y4, .bool y5, .bool y6, .bool y7, .int .u32 yg, .int .u32 yb] 80)) ob O from HYI.out.1.below hbz)
                have HTX := Lib.hid (heap_alloc_new w2 (.cells #[.int .i32 yp, .bool y0, .bool y1, .bool y2, .bool y3, .bool y4, .bool y5, .bool y6, .bool y7, .int .u32 yg, .int .u32 yb] 80))
                obtain ⟨tb, htb⟩ : ∃ t, w2.heap.size = t := ⟨_, rfl⟩
                rw [htb] at HTX
                clear b2 hba hbz HGP HVI2
                go_upto_region 17 with fail
                try simp only [htb]
                generalize (w2.alloc (.cells #[.int .i32 yp, .bool y0, .bool y1, .bool y2, .bool y3, .bool y4, .bool y5, .bool y6, .bool y7, .int .u32 yg, .int .u32 yb] 80)) = X2 at HVX HYX HTX ⊢
                clear htb
                have hba := (Below.refl X2.heap.size X2).alloc (Nat.le_refl _) (.cells #[.int .i32 yp, .bool y0, .bool y1, .bool y2, .bool y3, .bool y4, .bool y5, .bool y6, .bool y7, .int .u32 yg, .int .u32 yb] 80)
                have HV5 := Lib.hid (HVX.out.next hba)
                have hbk := heap_alloc_new X2 (.cells #[.int .i32 yp, .bool y0, .bool y1, .bool y2, .bool y3, .bool y4, .bool y5, .bool y6, .bool y7, .int .u32 yg, .int .u32 yb] 80)
                have how := HV5.out.own
                have hlen : ((M ++ (O.drop n1).take g) ++ Bi).length = n3 := by rw [List.length_append, List.length_append, HNL.out, HSGL.out, HJ.out.1]; have := HJ.out.2.1; have := HN2.out; omega
                rw [hlen] at how
                obtain ⟨v2, W2, hrun, ho, hg, hat⟩ := app_y (fb := X2.heap.size) (c := e0) how (by rw [HYC.out ()]; exact hbk) (by have := HJ.out.2.1; have := HN2.out; have := HSEG.out; have := HIC.out; omega) (by have := lt_of_block HV5.out.blk; omega)
                obtain ⟨A5, c5, hv2, _⟩ := own_slice ho
                subst hv2
                have hpv := HV5.out.put hg ho (by rw [List.length_append, hlen]; rfl)
                rw [List.append_assoc (M ++ (O.drop n1).take g)] at hpv
                have HPV := Lib.hid hpv
                have q0 := (hg.block hb (lt_of_block HV5.out.blk) (by intro e; have := ownBlock_le HV5.out.own hb e.symm; omega)).trans HV5.out.blk
                have HYW := Lib.hid (show YR (W2.setCell ⟨hb, 2, none⟩ (.slice A5 (n3 + 1) c5)) ob O ∧ ∀ k, (Value.slice A5 (n3 + 1) c5).ownBlock = some k → k ≠ ob from ⟨by
                  have h1 := (HYX.out.below hba).grown hg (fun e => HYI.out.2 ob e.symm rfl)
                  refine ⟨by rw [World.size_setCell]; exact h1.1, fun j v hv => ?_⟩
                  rw [World.cell?_setCell_far _ _ _ _ (by show hb ≠ ob; exact HOB.out.symm)]
                  exact h1.2 j v hv, fun k hk e => by
                  rcases hat with h | h
                  · rw [hk] at h; exact HYI.out.2 k h.symm e
                  · rw [hk] at h; injection h with h; have := HYX.out.1; have e3 : (X2.alloc (.cells #[.int .i32 yp, .bool y0, .bool y1, .bool y2, .bool y3, .bool y4, .bool y5, .bool y6, .bool y7, .int .u32 yg, .int .u32 yb] 80)).heap.size = X2.heap.size + 1 := by simp
                    omega⟩)
                have HRUN := Lib.hid hrun
                obtain ⟨s0, s1, s2, s3, s4, s5⟩ := six_cells HVX.out.blk
                obtain ⟨k0, k1, k2, k3, k4, k5, k6, k7, k8, k9, k10⟩ := cells11 HTX.out
                obtain ⟨t0, t1, t2, t3, t4, t5⟩ := six_cells q0
                have q1 := frozen_of_row W2 hb 2 _ _ q0
                clear hba hbk how hlen hrun ho hg hat hpv q0
                go_wp2_with (at_builtin; refine wpList_app rfl (.tmp 163) (.tmp 165) _ rfl _ _ rfl rfl HRUN.out ?_)
                generalize (W2.setCell ⟨hb, 2, none⟩ (.slice A5 (n3 + 1) c5)) = W3 at HPV HYW ⊢
                clear HRUN s0 s1 s2 s3 s4 s5 t0 t1 t2 t3 t4 t5 q1 k0 k1 k2 k3 k4 k5 k6 k7 k8 k9 k10
                go_roundw
                case rel => exact ⟨i + 1, q3, Bi ++ [e0], Br2, A5, n3 + 1, c5, rfl, by go_num, by have := HIC.out; omega, HPV, HJ2, HYW⟩
                case measure => have := HIC.out; simp [intOf]; omega
              · have i1 : decide ((i : Int) < (c : Int)) = false := by simp; omega
                have i1' : decide (i < c) = false := by simp; omega
                obtain rfl : i = c := by omega
                have hfin : Bl = Bi ∧ q2 = q := by
                  have h := HJ.out.2.2.2.1
                  rw [Nat.sub_self] at h
                  have h2 : ([], (q2 : Int)) = (Br, (q : Int)) := by simpa [cellsL] using h
                  have h3 := congrArg Prod.fst h2
                  have h4 := congrArg Prod.snd h2
                  dsimp only at h3 h4
                  exact ⟨by rw [HJ.out.2.2.1, ← h3, List.append_nil], by omega⟩
                obtain ⟨hf1, rfl⟩ := hfin
                have HAP2 := Lib.hid (show AP bs hd O q2 ((M ++ (O.drop n1).take g) ++ Bi) from by have := HAP1.out; rw [HNL.out, hf1, ← List.append_assoc] at this; exact this)
                have HNL3 := Lib.hid (show ((M ++ (O.drop n1).take g) ++ Bi).length = n3 by rw [List.length_append, List.length_append, HNL.out, HSGL.out, HJ.out.1]; have := HJ.out.2.1; have := HN2.out; omega)
                clear hi hic hf1
                go_wp2
                go_roundw
                case rel => exact ⟨q2, _, A3, n3, c3, rfl, HVI2, HAP2, HNL3, HYI⟩
                case measure => have := HPQ.out; simp [intOf]; omega
      · have e1 : decide ((p0 : Int) < (n : Int)) = false := by simp; omega
        have e1' : decide (p0 < n) = false := by simp; omega
        as_aux_lemma =>
          have HPE := Lib.hid (show p0 = bs.length by have := HI.out.le; have := HL.out.1; omega)
          obtain ⟨nm, hnm⟩ : ∃ t, N - n1 = t := ⟨_, rfl⟩
          have HSEG := Lib.hid (show n1 + nm ≤ O.length ∧ n1 + nm ≤ 480 ∧ n1 + nm = N from by have := HN48.out; have := HML.out; omega)
          have HSGL := Lib.hid (show ((O.drop n1).take nm).length = nm from by rw [List.length_take, List.length_drop]; have := HSEG.out; omega)
          have hsl := fun W => slice_fromY (b := ob) (n := N) (cap := cO) (f := n1) HML.out HN48.out.2.2.2 W
          obtain ⟨ad, had⟩ : ∃ ad, (if cO = n1 then (⟨ob, 0, none⟩ : Addr) else ⟨ob, n1 * 11, none⟩) = ad := ⟨_, rfl⟩
          obtain ⟨cq, hcq⟩ : ∃ t, cO - n1 = t := ⟨_, rfl⟩
          rw [had, hcq, hnm] at hsl
          have HAD := Lib.hid (fun (h : 0 < nm) => show ad = ⟨ob, n1 * 11, none⟩ from by rw [← had, if_neg (by have := HSEG.out; have := HN48.out; omega)])
          have HLS := Lib.hid (fun (L : List Ce) (hL : LOk L) (hl : L.length = O.length) (hb : bs = hd ++ dB 0 [] O L) => show L = M ++ (O.drop n1).take nm from by
            have := HI.out.alone HPE.out hL hl hb
            rw [HNL.out] at this
            rw [this, List.take_of_length_le (by rw [List.length_drop]; have := HSEG.out; have := HN48.out; omega)])
          have HMO0 := Lib.hid (show ∀ x ∈ M ++ (O.drop n1).take nm, CeOk x from fun x hx => by
            rcases List.mem_append.1 hx with h | h
            · exact HI.out.ok x h
            · exact (HOO.out x (List.mem_of_mem_drop (List.mem_of_mem_take h))).1)
          clear hp hnm had hcq
          go_upto_region 20 with fail
          go_cut [180] (fun a wx => ∃ A2 c2, a = .slice A2 (n1 + nm) c2 ∧ Hid (VY U hb (Rn : Int) (Cn : Int) row col vis (M ++ (O.drop n1).take nm) (.slice A2 (n1 + nm) c2) wx) ∧ Hid (YR wx ob O ∧ ∀ k, (Value.slice A2 (n1 + nm) c2).ownBlock = some k → k ≠ ob))
          case first =>
            as_aux_lemma =>
              have hd := (Below.refl wr.heap.size wr).drew
              have HVX := Lib.hid (HVY.out.next hd)
              have HYX := Lib.hid (show YR wr.drew ob O from HYO.out.1.below hd)
              obtain ⟨X0, hX0⟩ : ∃ X, wr.drew = X := ⟨_, rfl⟩
              have how := HVX.out.own
              rw [HNL.out] at how
              obtain ⟨v2, W2, hrun, ho, hg, hat⟩ := app_yseg (c := cq) how HYX.out (s := n1) (m := nm) (by have := HSEG.out; omega) HAD.out (by have := HSEG.out; omega) (by have := lt_of_block HVX.out.blk; omega)
              obtain ⟨A2, c2, hv2, _⟩ := own_slice ho
              subst hv2
              have HRUN := Lib.hid hrun
              have HPV := Lib.hid (HVX.out.put hg ho (by rw [List.length_append, HNL.out, HSGL.out]))
              have HQ0 := Lib.hid ((hg.block hb (lt_of_block HVX.out.blk) (by intro e; have := ownBlock_le HVX.out.own hb e.symm; omega)).trans HVX.out.blk)
              have HBW2 := Lib.hid (HVX.out.below.grown hg HVX.out.below.size (fun k hk => by have := ownBlock_le HVX.out.own k hk; have := HVX.out.gt; omega))
              have HYW := Lib.hid (show YR (W2.setCell ⟨hb, 2, none⟩ (.slice A2 (n1 + nm) c2)) ob O ∧ ∀ k, (Value.slice A2 (n1 + nm) c2).ownBlock = some k → k ≠ ob from ⟨by
                have h1 := HYX.out.grown hg (fun e => HYO.out.2 ob e.symm rfl)
                refine ⟨by rw [World.size_setCell]; exact h1.1, fun j v hv => ?_⟩
                rw [World.cell?_setCell_far _ _ _ _ (by show hb ≠ ob; exact HOB.out.symm)]
                exact h1.2 j v hv, fun k hk e => by
                rcases hat with h | h
                · rw [hk] at h; exact HYO.out.2 k h.symm e
                · rw [hk] at h; injection h with h; have := HYX.out.1; omega⟩)
              clear hrun ho hg hat how
              refine wp_region_held_drew (S := fun W => Below U.heap.size U W) (by kernel_rfl) HVX.out.below (fun hHeld => ?_)
              simp only [hX0] at hHeld HVX HRUN ⊢
              clear hX0 hd
              refine wpAnyH_take (i := 0) (v := ?_) (by simp; rfl) (by kernel_rfl) (by kernel_rfl) (by kernel_rfl) (by exact fun _ _ _ h => h) (Or.inl ⟨by rfl, fun wx hSx => ?_⟩) hHeld ?_
              rotate_left
              · clear hSx; go_simp; (try with_reducible rfl)
              simp only [Act.put, List.setIfInBounds_toArray, List.set_cons_zero, List.set_cons_succ]
              refine wpAnyH_take (i := 1) (v := ?_) (by simp; rfl) (by kernel_rfl) (by kernel_rfl) (by kernel_rfl) (by exact fun _ _ _ h => h) (Or.inl ⟨by rfl, fun wx hSx => ?_⟩) hHeld ?_
              rotate_left
              · clear hSx; go_simp; (try with_reducible rfl)
              simp only [Act.put, List.setIfInBounds_toArray, List.set_cons_zero, List.set_cons_succ]
              refine wpAnyH_take (i := 3) (v := ?_) (by simp; rfl) (by kernel_rfl) (by kernel_rfl) (by kernel_rfl) (by exact fun _ _ _ h => h) (Or.inl ⟨by rfl, fun wx hSx => ?_⟩) hHeld ?_
              rotate_left
              · clear hSx; go_simp; (try with_reducible rfl)
              simp only [Act.put, List.setIfInBounds_toArray, List.set_cons_zero, List.set_cons_succ]
              refine wpAnyH_take (i := 4) (v := ?_) (by simp; rfl) (by kernel_rfl) (by kernel_rfl) (by kernel_rfl) (by exact fun _ _ _ h => h) (Or.inl ⟨by rfl, fun wx hSx => ?_⟩) hHeld ?_
              rotate_left
              · clear hSx; go_simp; (try with_reducible rfl)
              simp only [Act.put, List.setIfInBounds_toArray, List.set_cons_zero, List.set_cons_succ]
              refine wpAnyH_take (i := 5) (v := ?_) (by simp; rfl) (by kernel_rfl) (by kernel_rfl) (by kernel_rfl) (by exact fun _ _ _ h => h) (Or.inl ⟨by rfl, fun wx hSx => ?_⟩) hHeld ?_
              rotate_left
              · clear hSx; go_simp; (try with_reducible rfl)
              simp only [Act.put, List.setIfInBounds_toArray, List.set_cons_zero, List.set_cons_succ]
              refine wpAnyH_ready (rs := [2, 6]) (by kernel_rfl) (by simp) ?_
              refine AllReadyH.cons (by simp; rfl) (fun K0 hK0 => ?_) (AllReadyH.cons (by simp; rfl) (fun K0 hK0 => ?_) AllReadyH.nil)
              · obtain ⟨s0, s1, s2, s3, s4, s5⟩ := six_cells HVX.out.blk
                go_simp
                refine hK0.out _ _ HVX.out.below (fun _ => ?_)
                clear hK0 K0 hHeld s0 s1 s2 s3 s4 s5
                have hHeld := HVX.out.below
                refine wpAnyH_ready (rs := [6]) (by kernel_rfl) (by simp) ?_
                refine AllReadyH.cons (by simp; rfl) (fun K0 hK0 => ?_) AllReadyH.nil
                obtain ⟨s0, s1, s2, s3, s4, s5⟩ := six_cells HVX.out.blk
                go_simp
                refine hK0.out _ _ HVX.out.below (fun _ => ?_)
                clear hK0 K0 hHeld s0 s1 s2 s3 s4 s5
                have hHeld := HVX.out.below
                refine wpAnyH_take (i := 7) (v := ?_) (by simp; rfl) (by kernel_rfl) (by kernel_rfl) (by kernel_rfl) (by exact fun _ _ _ h => h) (Or.inl ⟨by rfl, fun wx hSx => ?_⟩) hHeld ?_
                rotate_left
                · clear hSx; go_simp; (try with_reducible rfl)
                simp only [Act.put, List.setIfInBounds_toArray, List.set_cons_zero, List.set_cons_succ]
                refine wpAnyH_take (i := 8) (v := ?_) (by simp; rfl) (by kernel_rfl) (by kernel_rfl) (by kernel_rfl) (by exact fun _ _ _ h => h) (Or.inl ⟨by rfl, fun wx hSx => ?_⟩) hHeld ?_
                rotate_left
                · have hs2 := hsl wx; clear hSx; go_simp; (try with_reducible rfl)
                simp only [Act.put, List.setIfInBounds_toArray, List.set_cons_zero, List.set_cons_succ]
                refine wpAnyH_ready (rs := [9]) (by kernel_rfl) (by simp) ?_
                refine AllReadyH.cons (by simp; rfl) (fun K0 hK0 => ?_) AllReadyH.nil
                refine step_app rfl (.tmp 173) (.tmp 179) _ rfl _ _ rfl rfl HRUN.out ?_
                simp only [Act.put, List.setIfInBounds_toArray, List.set_cons_zero, List.set_cons_succ]
                refine hK0.out _ _ HBW2.out (fun _ => ?_)
                clear hK0 K0 hHeld
                have hHeld := HBW2.out
                refine wpAnyH_take (i := 10) (v := ?_) (by simp; rfl) (by kernel_rfl) (by kernel_rfl) (by kernel_rfl) (by exact fun _ _ _ h => h) (Or.inl ⟨by rfl, fun wx hSx => ?_⟩) hHeld ?_
                rotate_left
                · clear hSx; go_simp; (try with_reducible rfl)
                simp only [Act.put, List.setIfInBounds_toArray, List.set_cons_zero, List.set_cons_succ]
                refine wpAnyH_take (i := 11) (v := ?_) (by simp; rfl) (by kernel_rfl) (by kernel_rfl) (by kernel_rfl) (by exact fun _ _ _ h => h) (Or.inl ⟨by rfl, fun wx hSx => ?_⟩) hHeld ?_
                rotate_left
                · clear hSx; go_simp; (try with_reducible rfl)
                simp only [Act.put, List.setIfInBounds_toArray, List.set_cons_zero, List.set_cons_succ]
                refine wpAnyH_ready (rs := [12]) (by kernel_rfl) (by simp) ?_
                refine AllReadyH.cons (by simp; rfl) (fun K0 hK0 => ?_) AllReadyH.nil
                obtain ⟨s0, s1, s2, s3, s4, s5⟩ := six_cells HQ0.out
                have q1 := frozen_of_row W2 hb 2 _ _ HQ0.out
                go_simp
                refine hK0.out _ _ HPV.out.below (fun _ => ?_)
                clear hK0 K0 hHeld s0 s1 s2 s3 s4 s5 q1
                have hHeld := HPV.out.below
                refine wpAnyH_done (by kernel_rfl) ?_ _
                generalize (W2.setCell ⟨hb, 2, none⟩ (.slice A2 (n1 + nm) c2)) = W3 at HPV HYW ⊢
                go_wp2
                go_meet
                exact ⟨A2, c2, rfl, HPV, HYW⟩
              · obtain ⟨s0, s1, s2, s3, s4, s5⟩ := six_cells HVX.out.blk
                go_simp
                refine hK0.out _ _ HVX.out.below (fun _ => ?_)
                clear hK0 K0 hHeld s0 s1 s2 s3 s4 s5
                have hHeld := HVX.out.below
                refine wpAnyH_take (i := 7) (v := ?_) (by simp; rfl) (by kernel_rfl) (by kernel_rfl) (by kernel_rfl) (by exact fun _ _ _ h => h) (Or.inl ⟨by rfl, fun wx hSx => ?_⟩) hHeld ?_
                rotate_left
                · clear hSx; go_simp; (try with_reducible rfl)
                simp only [Act.put, List.setIfInBounds_toArray, List.set_cons_zero, List.set_cons_succ]
                refine wpAnyH_take (i := 8) (v := ?_) (by simp; rfl) (by kernel_rfl) (by kernel_rfl) (by kernel_rfl) (by exact fun _ _ _ h => h) (Or.inl ⟨by rfl, fun wx hSx => ?_⟩) hHeld ?_
                rotate_left
                · have hs2 := hsl wx; clear hSx; go_simp; (try with_reducible rfl)
                simp only [Act.put, List.setIfInBounds_toArray, List.set_cons_zero, List.set_cons_succ]
                refine wpAnyH_ready (rs := [2]) (by kernel_rfl) (by simp) ?_
                refine AllReadyH.cons (by simp; rfl) (fun K0 hK0 => ?_) AllReadyH.nil
                obtain ⟨s0, s1, s2, s3, s4, s5⟩ := six_cells HVX.out.blk
                go_simp
                refine hK0.out _ _ HVX.out.below (fun _ => ?_)
                clear hK0 K0 hHeld s0 s1 s2 s3 s4 s5
                have hHeld := HVX.out.below
                refine wpAnyH_ready (rs := [9]) (by kernel_rfl) (by simp) ?_
                refine AllReadyH.cons (by simp; rfl) (fun K0 hK0 => ?_) AllReadyH.nil
                refine step_app rfl (.tmp 173) (.tmp 179) _ rfl _ _ rfl rfl HRUN.out ?_
                simp only [Act.put, List.setIfInBounds_toArray, List.set_cons_zero, List.set_cons_succ]
                refine hK0.out _ _ HBW2.out (fun _ => ?_)
                clear hK0 K0 hHeld
                have hHeld := HBW2.out
                refine wpAnyH_take (i := 10) (v := ?_) (by simp; rfl) (by kernel_rfl) (by kernel_rfl) (by kernel_rfl) (by exact fun _ _ _ h => h) (Or.inl ⟨by rfl, fun wx hSx => ?_⟩) hHeld ?_
                rotate_left
                · clear hSx; go_simp; (try with_reducible rfl)
                simp only [Act.put, List.setIfInBounds_toArray, List.set_cons_zero, List.set_cons_succ]
                refine wpAnyH_take (i := 11) (v := ?_) (by simp; rfl) (by kernel_rfl) (by kernel_rfl) (by kernel_rfl) (by exact fun _ _ _ h => h) (Or.inl ⟨by rfl, fun wx hSx => ?_⟩) hHeld ?_
                rotate_left
                · clear hSx; go_simp; (try with_reducible rfl)
                simp only [Act.put, List.setIfInBounds_toArray, List.set_cons_zero, List.set_cons_succ]
                refine wpAnyH_ready (rs := [12]) (by kernel_rfl) (by simp) ?_
                refine AllReadyH.cons (by simp; rfl) (fun K0 hK0 => ?_) AllReadyH.nil
                obtain ⟨s0, s1, s2, s3, s4, s5⟩ := six_cells HQ0.out
                have q1 := frozen_of_row W2 hb 2 _ _ HQ0.out
                go_simp
                refine hK0.out _ _ HPV.out.below (fun _ => ?_)
                clear hK0 K0 hHeld s0 s1 s2 s3 s4 s5 q1
                have hHeld := HPV.out.below
                refine wpAnyH_done (by kernel_rfl) ?_ _
                generalize (W2.setCell ⟨hb, 2, none⟩ (.slice A2 (n1 + nm) c2)) = W3 at HPV HYW ⊢
                go_wp2
                go_meet
                exact ⟨A2, c2, rfl, HPV, HYW⟩
          case rest =>
            obtain ⟨A9, c9, rfl, HPV0, _⟩ := hcut
            have HL9 := Lib.hid (show (M ++ (O.drop n1).take nm).length = n1 + nm by rw [List.length_append, HNL.out, HSGL.out])
            obtain ⟨M2, hM2⟩ : ∃ l, M ++ (O.drop n1).take nm = l := ⟨_, rfl⟩
            obtain ⟨n9, hn9⟩ : ∃ t, n1 + nm = t := ⟨_, rfl⟩
            rw [hM2, hn9] at HPV0 HL9
            rw [hM2] at HMO0
            simp only [hM2] at HLS
            rw [hn9] at HSEG ⊢
            clear hM2 hn9 hsl HVY HYO HZR HVB HAD HI HNL HML HSGL
            have HNL2 := HL9
            have HMO := HMO0
            have HPV := HPV0
            have HNN := Lib.hid (show n9 ≤ 480 from HSEG.out.2.1)
            clear HL9 HMO0 HPV0
            obtain ⟨W3, rfl⟩ : ∃ W, W = wc := ⟨_, rfl⟩
            obtain ⟨a, ha⟩ : ∃ a, rightW (Rn : Int) (Cn : Int) row col M2 = a := ⟨_, rfl⟩
            have HRQ := Lib.hid ha
            cases a with
            | false =>
              have HNO := Lib.hid (HNP.out (fun L hL hl hb hrt => by
                rw [HLS.out L hL hl hb, HRQ.out] at hrt
                cases hrt))
              clear ha
              go_upto_region 21 with fail
              have hd := (Below.refl W3.heap.size W3).drew
              have HVX := Lib.hid (HPV.out.next hd)
              refine wp_region_held_drew (S := fun W => Below W3.drew.heap.size W3.drew W) (by kernel_rfl) (Below.refl _ _) (fun hHeld => ?_)
              obtain ⟨X, hX⟩ : ∃ X, W3.drew = X := ⟨_, rfl⟩
              simp only [hX] at hHeld HVX ⊢
              clear hX hd
              have HBX := Lib.hid (Below.refl X.heap.size X)
              have HBK := Lib.hid HVX.out.blk
              have HAK := Lib.hid ((HVX.out.below.block _ (lt_of_block HVA.out)).trans HVA.out)
              have HRB2 := Lib.hid (fun (W : World) (hW : Below X.heap.size X W) => HRQ.out ▸ r_viewright (cap := c9) (HVX.out.cy.below hW) HNL2.out (by have := HNN.out; omega) HMO.out (Rn : Int) (Cn : Int) row col vis)
              refine wpAnyH_take (i := 0) (v := ?_) (by simp; rfl) (by kernel_rfl) (by kernel_rfl) (by kernel_rfl) (by exact fun _ _ _ h => h) (Or.inl ⟨by rfl, fun wx hSx => ?_⟩) hHeld ?_
              rotate_left
              · obtain ⟨s0, s1, s2, s3, s4, s5⟩ := six_cells ((hSx.block _ (lt_of_block HBK.out)).trans HBK.out); clear hSx; go_simp; (try with_reducible rfl)
              simp only [Act.put, List.setIfInBounds_toArray, List.set_cons_zero, List.set_cons_succ]
              refine wpAnyH_ready (rs := [1]) (by kernel_rfl) (by simp) ?_
              refine AllReadyH.cons (by simp; rfl) (fun K0 hK0 => ?_) AllReadyH.nil
              go_simp
              refine (HRB2.out _ HBX.out).mono ?_
              rintro e Y1 ⟨rfl, hb1⟩
              have HB2 := Lib.hid (HBX.out.trans (hb1.mono HBX.out.size))
              clear HBX hb1
              have HBX := HB2
              clear HB2
              refine hK0.out _ _ HBX.out (fun _ => ?_)
              clear hK0 K0 hHeld
              have hHeld := HBX.out
              refine wpAnyH_take (i := 2) (v := ?_) (by simp; rfl) (by kernel_rfl) (by kernel_rfl) (by kernel_rfl) (by exact fun _ _ _ h => h) (Or.inl ⟨by rfl, fun wx hSx => ?_⟩) hHeld ?_
              rotate_left
              · clear hSx; go_simp; (try with_reducible rfl)
              simp only [Act.put, List.setIfInBounds_toArray, List.set_cons_zero, List.set_cons_succ]
              refine wpAnyH_take (i := 3) (v := ?_) (by simp; rfl) (by kernel_rfl) (by kernel_rfl) (by kernel_rfl) (by exact fun _ _ _ h => h) (Or.inl ⟨by rfl, fun wx hSx => ?_⟩) hHeld ?_
              rotate_left
              · clear hSx; go_simp; (try with_reducible rfl)
              simp only [Act.put, List.setIfInBounds_toArray, List.set_cons_zero, List.set_cons_succ]
              refine wpAnyH_take (i := 4) (v := undef) (by simp; rfl) (by kernel_rfl) (by kernel_rfl) (by kernel_rfl) (by exact fun _ _ _ h => h) (Or.inr ⟨by rfl, rfl⟩) hHeld ?_
              simp only [Act.put, List.setIfInBounds_toArray, List.set_cons_zero, List.set_cons_succ]
              refine wpAnyH_take (i := 5) (v := undef) (by simp; rfl) (by kernel_rfl) (by kernel_rfl) (by kernel_rfl) (by exact fun _ _ _ h => h) (Or.inr ⟨by rfl, rfl⟩) hHeld ?_
              simp only [Act.put, List.setIfInBounds_toArray, List.set_cons_zero, List.set_cons_succ]
              refine wpAnyH_take (i := 6) (v := undef) (by simp; rfl) (by kernel_rfl) (by kernel_rfl) (by kernel_rfl) (by exact fun _ _ _ h => h) (Or.inr ⟨by rfl, rfl⟩) hHeld ?_
              simp only [Act.put, List.setIfInBounds_toArray, List.set_cons_zero, List.set_cons_succ]
              refine wpAnyH_take (i := 7) (v := undef) (by simp; rfl) (by kernel_rfl) (by kernel_rfl) (by kernel_rfl) (by exact fun _ _ _ h => h) (Or.inr ⟨by rfl, rfl⟩) hHeld ?_
              simp only [Act.put, List.setIfInBounds_toArray, List.set_cons_zero, List.set_cons_succ]
              refine wpAnyH_take (i := 8) (v := undef) (by simp; rfl) (by kernel_rfl) (by kernel_rfl) (by kernel_rfl) (by exact fun _ _ _ h => h) (Or.inr ⟨by rfl, rfl⟩) hHeld ?_
              simp only [Act.put, List.setIfInBounds_toArray, List.set_cons_zero, List.set_cons_succ]
              refine wpAnyH_take (i := 9) (v := undef) (by simp; rfl) (by kernel_rfl) (by kernel_rfl) (by kernel_rfl) (by exact fun _ _ _ h => h) (Or.inr ⟨by rfl, rfl⟩) hHeld ?_
              simp only [Act.put, List.setIfInBounds_toArray, List.set_cons_zero, List.set_cons_succ]
              refine wpAnyH_take (i := 10) (v := undef) (by simp; rfl) (by kernel_rfl) (by kernel_rfl) (by kernel_rfl) (by exact fun _ _ _ h => h) (Or.inr ⟨by rfl, rfl⟩) hHeld ?_
              simp only [Act.put, List.setIfInBounds_toArray, List.set_cons_zero, List.set_cons_succ]
              refine wpAnyH_take (i := 11) (v := ?_) (by simp; rfl) (by kernel_rfl) (by kernel_rfl) (by kernel_rfl) (by exact fun _ _ _ h => h) (Or.inl ⟨by rfl, fun wx hSx => ?_⟩) hHeld ?_
              rotate_left
              · clear hSx; go_simp; (try with_reducible rfl)
              simp only [Act.put, List.setIfInBounds_toArray, List.set_cons_zero, List.set_cons_succ]
              refine wpAnyH_done (by kernel_rfl) ?_ _
              have HVF := Lib.hid (HVX.out.next HBX.out)
              have HZR := Lib.hid ((HVF.out.below.block _ (lt_of_block HZ0.out)).trans HZ0.out)
              have HVB := Lib.hid (HU.out.trans (HVF.out.below.mono HU.out.size))
              clear hHeld
              have HFB := Lib.hid (below_setRow HVB.out HRB.out.1 #[.int .i64 0, .int .i64 0, .slice none 0 0, .int .i64 0, .int .i64 0, .bool false])
              go_wp2_with (refine wpList_store_row rfl 34 (.tmp 4) (.tmp 195) rfl rb #[.int .i64 0, .int .i64 0, .slice none 0 0, .int .i64 0, .int .i64 0, .bool false] rfl rfl 34 _ HZR.out info_wview rfl (by simp [Value.oneCell']) ?_)
              refine bodyPost_ret (results_cell_tmp Tryd.results8 _ _ rb 34 #[.int .i64 0, .int .i64 0, .slice none 0 0, .int .i64 0, .int .i64 0, .bool false] (0, 0) _ (.bool false) rfl rfl (setRow_heap _ _ _ #[.int .i64 0, .int .i64 0, .slice none 0 0, .int .i64 0, .int .i64 0, .bool false] _ _ HZR.out) Tryd.underlying34 rfl info_wview) rfl ?_
              exact .inr ⟨HNO.out, by rfl, HFB.out⟩
            | true =>
              clear ha
              go_upto_region 21 with fail
              have hd := (Below.refl W3.heap.size W3).drew
              have HVX := Lib.hid (HPV.out.next hd)
              refine wp_region_held_drew (S := fun W => Below W3.drew.heap.size W3.drew W) (by kernel_rfl) (Below.refl _ _) (fun hHeld => ?_)
              obtain ⟨X, hX⟩ : ∃ X, W3.drew = X := ⟨_, rfl⟩
              simp only [hX] at hHeld HVX ⊢
              clear hX hd
              have HBX := Lib.hid (Below.refl X.heap.size X)
              have HBK := Lib.hid HVX.out.blk
              have HAK := Lib.hid ((HVX.out.below.block _ (lt_of_block HVA.out)).trans HVA.out)
              have HRB2 := Lib.hid (fun (W : World) (hW : Below X.heap.size X W) => HRQ.out ▸ r_viewright (cap := c9) (HVX.out.cy.below hW) HNL2.out (by have := HNN.out; omega) HMO.out (Rn : Int) (Cn : Int) row col vis)
              have HWT := Lib.hid (fun (W : World) (hW : Below X.heap.size X W) => HDF.out W (HU.out.trans ((HVX.out.below.trans (hW.mono HVX.out.below.size)).mono HU.out.size)) (cb := c9) (vis := vis) (HVX.out.cy.below hW) HNL2.out HMO.out HRQ.out HZA.out)
              have HCV1 := Lib.hid (fun (Y : World) (hY : Below X.heap.size X Y) => conv_text (w := Y) HL.out.1 cap (RI.below (by exact HRI.out) (HU.out.trans ((HVX.out.below.trans (hY.mono HVX.out.below.size)).mono HU.out.size))))
              obtain ⟨S1, hS1⟩ : ∃ S, strOfNums bs = S := ⟨_, rfl⟩
              obtain ⟨S2, hS2⟩ : ∃ S, strOfNums (patchB Ra Ca La (Rn : Int) (Cn : Int) row col vis M2) = S := ⟨_, rfl⟩
              have hS9 := Lib.hid (fun (_ : Unit) => hS2)
              have HST := Lib.hid (str_eq (patchB_bytes (vis := vis) HZA.out HRQ.out HMO.out) HB.out)
              rw [hS1] at HCV1 HST
              rw [hS2] at HST
              obtain ⟨D, hD⟩ : ∃ D, decide (patchB Ra Ca La (Rn : Int) (Cn : Int) row col vis M2 = bs) = D := ⟨_, rfl⟩
              rw [hD] at HST
              have HDD := Lib.hid hD
              have hst := HST.out
              clear hS1 hS2 hD
              refine wpAnyH_take (i := 0) (v := ?_) (by simp; rfl) (by kernel_rfl) (by kernel_rfl) (by kernel_rfl) (by exact fun _ _ _ h => h) (Or.inl ⟨by rfl, fun wx hSx => ?_⟩) hHeld ?_
              rotate_left
              · obtain ⟨s0, s1, s2, s3, s4, s5⟩ := six_cells ((hSx.block _ (lt_of_block HBK.out)).trans HBK.out); clear hSx; go_simp; (try with_reducible rfl)
              simp only [Act.put, List.setIfInBounds_toArray, List.set_cons_zero, List.set_cons_succ]
              refine wpAnyH_ready (rs := [1]) (by kernel_rfl) (by simp) ?_
              refine AllReadyH.cons (by simp; rfl) (fun K0 hK0 => ?_) AllReadyH.nil
              go_simp
              refine (HRB2.out _ HBX.out).mono ?_
              rintro e Y1 ⟨rfl, hb1⟩
              have HB2 := Lib.hid (HBX.out.trans (hb1.mono HBX.out.size))
              clear HBX hb1
              have HBX := HB2
              clear HB2
              refine hK0.out _ _ HBX.out (fun _ => ?_)
              clear hK0 K0 hHeld
              have hHeld := HBX.out
              refine wpAnyH_take (i := 2) (v := ?_) (by simp; rfl) (by kernel_rfl) (by kernel_rfl) (by kernel_rfl) (by exact fun _ _ _ h => h) (Or.inl ⟨by rfl, fun wx hSx => ?_⟩) hHeld ?_
              rotate_left
              · clear hSx; go_simp; (try with_reducible rfl)
              simp only [Act.put, List.setIfInBounds_toArray, List.set_cons_zero, List.set_cons_succ]
              refine wpAnyH_take (i := 3) (v := ?_) (by simp; rfl) (by kernel_rfl) (by kernel_rfl) (by kernel_rfl) (by exact fun _ _ _ h => h) (Or.inl ⟨by rfl, fun wx hSx => ?_⟩) hHeld ?_
              rotate_left
              · clear hSx; go_simp; (try with_reducible rfl)
              simp only [Act.put, List.setIfInBounds_toArray, List.set_cons_zero, List.set_cons_succ]
              refine wpAnyH_take (i := 4) (v := ?_) (by simp; rfl) (by kernel_rfl) (by kernel_rfl) (by kernel_rfl) (by exact fun _ _ _ h => h) (Or.inl ⟨by rfl, fun wx hSx => ?_⟩) hHeld ?_
              rotate_left
              · obtain ⟨s0, s1, s2, s3, s4, s5⟩ := six_cells ((hSx.block _ (lt_of_block HAK.out)).trans HAK.out); clear hSx; go_simp; (try with_reducible rfl)
              simp only [Act.put, List.setIfInBounds_toArray, List.set_cons_zero, List.set_cons_succ]
              refine wpAnyH_take (i := 5) (v := ?_) (by simp; rfl) (by kernel_rfl) (by kernel_rfl) (by kernel_rfl) (by exact fun _ _ _ h => h) (Or.inl ⟨by rfl, fun wx hSx => ?_⟩) hHeld ?_
              rotate_left
              · obtain ⟨s0, s1, s2, s3, s4, s5⟩ := six_cells ((hSx.block _ (lt_of_block HBK.out)).trans HBK.out); clear hSx; go_simp; (try with_reducible rfl)
              simp only [Act.put, List.setIfInBounds_toArray, List.set_cons_zero, List.set_cons_succ]
              refine wpAnyH_take (i := 8) (v := ?_) (by simp; rfl) (by kernel_rfl) (by kernel_rfl) (by kernel_rfl) (by exact fun _ _ _ h => h) (Or.inl ⟨by rfl, fun wx hSx => ?_⟩) hHeld ?_
              rotate_left
              · clear hSx; go_simp; (try with_reducible rfl)
              simp only [Act.put, List.setIfInBounds_toArray, List.set_cons_zero, List.set_cons_succ]
              refine wpAnyH_take (i := 9) (v := ?_) (by simp; rfl) (by kernel_rfl) (by kernel_rfl) (by kernel_rfl) (by exact fun _ _ _ h => h) (Or.inl ⟨by rfl, fun wx hSx => ?_⟩) hHeld ?_
              rotate_left
              · have hcv := HCV1.out wx hSx; clear hSx; go_simp; (try with_reducible rfl)
              simp only [Act.put, List.setIfInBounds_toArray, List.set_cons_zero, List.set_cons_succ]
              refine wpAnyH_ready (rs := [6]) (by kernel_rfl) (by simp) ?_
              refine AllReadyH.cons (by simp; rfl) (fun K0 hK0 => ?_) AllReadyH.nil
              go_simp
              refine (HWT.out _ HBX.out).mono ?_
              rintro e Y2 ⟨u9, rfl, o9⟩
              obtain ⟨Ax, cx, rfl, _, _, hr9⟩ := bytes8 o9
              obtain ⟨m9, hm9⟩ : ∃ m, (patchB Ra Ca La (Rn : Int) (Cn : Int) row col vis M2).length = m := ⟨_, rfl⟩
              have HCV2 := Lib.hid (fun (Y : World) (hY : Below Y2.heap.size Y2 Y) => hS9.out () ▸ conv_text (w := Y) hm9 cx (RI.below (by exact hr9) hY))
              rw [hm9]
              have hbx : Below X.heap.size X Y2 := HBX.out.trans (o9.below.mono HBX.out.size)
              clear o9 hr9
              refine hK0.out _ _ hbx (fun _ => ?_)
              clear hK0 K0 hHeld
              refine heldMono (S' := fun W => Below Y2.heap.size Y2 W) (fun _ h => hbx.trans (h.mono hbx.size)) _ _ _ _ ?_
              have hHeld := Below.refl Y2.heap.size Y2
              have HCV1b := Lib.hid (fun (Y : World) (hY : Below Y2.heap.size Y2 Y) => HCV1.out Y (hbx.trans (hY.mono hbx.size)))
              clear HBX
              have HBX := Lib.hid hbx
              clear hbx
              refine wpAnyH_take (i := 7) (v := ?_) (by simp; rfl) (by kernel_rfl) (by kernel_rfl) (by kernel_rfl) (by exact fun _ _ _ h => h) (Or.inl ⟨by rfl, fun wx hSx => ?_⟩) hHeld ?_
              rotate_left
              · have hcv := HCV2.out wx hSx; clear hSx; go_simp; (try with_reducible rfl)
              simp only [Act.put, List.setIfInBounds_toArray, List.set_cons_zero, List.set_cons_succ]
              refine wpAnyH_take (i := 10) (v := ?_) (by simp; rfl) (by kernel_rfl) (by kernel_rfl) (by kernel_rfl) (by exact fun _ _ _ h => h) (Or.inl ⟨by rfl, fun wx hSx => ?_⟩) hHeld ?_
              rotate_left
              · clear hSx; go_simp; (try with_reducible rfl)
              simp only [Act.put, List.setIfInBounds_toArray, List.set_cons_zero, List.set_cons_succ]
              refine wpAnyH_take (i := 11) (v := ?_) (by simp; rfl) (by kernel_rfl) (by kernel_rfl) (by kernel_rfl) (by exact fun _ _ _ h => h) (Or.inl ⟨by rfl, fun wx hSx => ?_⟩) hHeld ?_
              rotate_left
              · clear hSx; go_simp; (try with_reducible rfl)
              simp only [Act.put, List.setIfInBounds_toArray, List.set_cons_zero, List.set_cons_succ]
              refine wpAnyH_done (by kernel_rfl) ?_ _
              have HVF := Lib.hid (HVX.out.next HBX.out)
              have HZR := Lib.hid ((HVF.out.below.block _ (lt_of_block HZ0.out)).trans HZ0.out)
              have HVB := Lib.hid (HU.out.trans (HVF.out.below.mono HU.out.size))
              clear hHeld hst
              cases D with
              | false =>
                have HNO := Lib.hid (HNP.out (fun L hL hl hb hrt => by
                  have e := HLS.out L hL hl hb
                  subst e
                  exact of_decide_eq_false HDD.out (by rw [HPB.out]; exact hb.symm)))
                have HFB := Lib.hid (below_setRow HVB.out HRB.out.1 #[.int .i64 0, .int .i64 0, .slice none 0 0, .int .i64 0, .int .i64 0, .bool false])
                go_wp2_with (refine wpList_store_row rfl 34 (.tmp 4) (.tmp 195) rfl rb #[.int .i64 0, .int .i64 0, .slice none 0 0, .int .i64 0, .int .i64 0, .bool false] rfl rfl 34 _ HZR.out info_wview rfl (by simp [Value.oneCell']) ?_)
                refine bodyPost_ret (results_cell_tmp Tryd.results8 _ _ rb 34 #[.int .i64 0, .int .i64 0, .slice none 0 0, .int .i64 0, .int .i64 0, .bool false] (0, 0) _ (.bool false) rfl rfl (setRow_heap _ _ _ #[.int .i64 0, .int .i64 0, .slice none 0 0, .int .i64 0, .int .i64 0, .bool false] _ _ HZR.out) Tryd.underlying34 rfl info_wview) rfl ?_
                exact .inr ⟨HNO.out, by rfl, HFB.out⟩
              | true =>
                have HYES := Lib.hid (show isPatch Ra Ca rowa cola La bs (Rn : Int) (Cn : Int) row col vis M2 from ⟨HZA.out, HRQ.out, fun x hx => ⟨HMO.out x hx, (rightW_parts HRQ.out).2.2.1 x hx⟩, (of_decide_eq_true HDD.out).symm⟩)
                obtain ⟨s0, s1, s2, s3, s4, s5⟩ := six_cells HVF.out.blk
                have HFY := Lib.hid (And.intro (CY.set HVF.out (lt_of_block HZ0.out) #[.int .i64 (Rn : Int), .int .i64 (Cn : Int), .slice A9 n9 c9, .int .i64 row, .int .i64 col, .bool vis]) (below_setRow HVB.out HRB.out.1 #[.int .i64 (Rn : Int), .int .i64 (Cn : Int), .slice A9 n9 c9, .int .i64 row, .int .i64 col, .bool vis]))
                go_upto_region 23 with fail
                go_wp2_with (refine wpList_store_row rfl 34 (.tmp 4) (.tmp 196) rfl rb #[.int .i64 (Rn : Int), .int .i64 (Cn : Int), .slice A9 n9 c9, .int .i64 row, .int .i64 col, .bool vis] rfl rfl 34 _ HZR.out info_wview rfl (by simp [Value.oneCell']) ?_)
                refine bodyPost_ret (results_cell_tmp Tryd.results8 _ _ rb 34 #[.int .i64 (Rn : Int), .int .i64 (Cn : Int), .slice A9 n9 c9, .int .i64 row, .int .i64 col, .bool vis] (0, 0) _ (.bool true) rfl rfl (setRow_heap _ _ _ #[.int .i64 (Rn : Int), .int .i64 (Cn : Int), .slice A9 n9 c9, .int .i64 row, .int .i64 col, .bool vis] _ _ HZR.out) Tryd.underlying34 rfl info_wview) rfl ?_
                refine .inl ⟨_, _, _, _, _, M2, A9, n9, c9, HYES.out, ?_, HNL2.out, HFY.out.1, HFY.out.2⟩
                rfl
end Go.Proofs.YtjihcpnaebghnaaDoor
