/-
  Proved here: of the program's patches: Apply.
-/
import Derived.Test.YtjihcpnaebghnaaDoorPdg
set_option linter.unusedSimpArgs false
set_option linter.unusedVariables false
namespace Go.Proofs.YtjihcpnaebghnaaDoor
open Go.RowKit
/-- Bytes that are a patch from one view to another one. -/
def isPatch (Ra Ca rowa cola : Int) (La : List Ce) (bs : List Int) (R C row col : Int) (vis : Bool) (L : List Ce) : Prop := rightW Ra Ca rowa cola La = true ∧ rightW R C row col L = true ∧ LOk L ∧ bs = patchB Ra Ca La R C row col vis L
theorem isPatch_head {Ra Ca rowa cola : Int} {La : List Ce} {bs : List Int} {R C row col : Int} {vis : Bool} {L : List Ce} (h : isPatch Ra Ca rowa cola La bs R C row col vis L) : headR bs = true ∧ R = bs.getD 0 0 ∧ C = bs.getD 1 0 ∧ row = bs.getD 2 0 ∧ col = bs.getD 3 0 ∧ (if vis = true then (1 : Int) else 0) = bs.getD 4 0 := by
  obtain ⟨_, _, _, rfl⟩ := h
  refine ⟨?_, rfl, rfl, rfl, rfl, rfl⟩
  unfold headR patchB
  cases vis <;> simp
theorem rightW_base {Ra Ca rowa cola R C row col : Int} {La L : List Ce} (ha : rightW Ra Ca rowa cola La = true) (hb : rightW R C row col L = true) (ho : LOk La) : rightW R C row col (baseL Ra Ca La R.toNat C.toNat) = true := by
  have hl := base_len ha hb
  have hm := base_mem (Ra := Ra) (Ca := Ca) (R := R.toNat) (C := C.toNat) ho
  unfold rightW at hb ⊢
  rw [Bool.and_eq_true, Bool.and_eq_true] at hb ⊢
  rw [hl]
  refine ⟨hb.1, ?_⟩
  rw [List.all_eq_true]
  exact fun c hc => (hm c hc).2
/-- Of a head and cells: no patch. -/
theorem no_patch {Ra Ca rowa cola : Int} {La : List Ce} {bs : List Int} {R C row col x : Int} {vis : Bool} {O : List Ce} (ha : rightW Ra Ca rowa cola La = true) (h0 : bs.getD 0 0 = R) (h1 : bs.getD 1 0 = C) (h2 : bs.getD 2 0 = row) (h3 : bs.getD 3 0 = col) (h4 : bs.getD 4 0 = x) (hx : (x == 1) = vis) (hO : baseL Ra Ca La R.toNat C.toNat = O)
    (h : ∀ L, LOk L → L.length = O.length → bs = [R, C, row, col, if vis = true then 1 else 0] ++ dB 0 [] O L → rightW R C row col L = true → False) : ∀ R' C' row' col' vis' L', ¬ isPatch Ra Ca rowa cola La bs R' C' row' col' vis' L' := by
  intro R' C' row' col' vis' L' hp
  obtain ⟨_, e0, e1, e2, e3, e4⟩ := isPatch_head hp
  rw [h0] at e0; rw [h1] at e1; rw [h2] at e2; rw [h3] at e3; rw [h4] at e4
  subst e0 e1 e2 e3
  have hv : vis' = vis := by rw [← hx, ← e4]; cases vis' <;> simp
  subst hv
  obtain ⟨_, p2, p3, p4⟩ := hp
  unfold patchB at p4
  rw [hO] at p4
  refine h L' p3 ?_ p4 p2
  rw [← hO]
  exact (base_len ha p2).symm
theorem one_patch {Ra Ca rowa cola : Int} {La : List Ce} {bs : List Int} {R C row col x : Int} {vis : Bool} {O L : List Ce} (ha : rightW Ra Ca rowa cola La = true) (h0 : bs.getD 0 0 = R) (h1 : bs.getD 1 0 = C) (h2 : bs.getD 2 0 = row) (h3 : bs.getD 3 0 = col) (h4 : bs.getD 4 0 = x) (hx : (x == 1) = vis) (hO : baseL Ra Ca La R.toNat C.toNat = O)
    (h : ∀ M, LOk M → M.length = O.length → bs = [R, C, row, col, if vis = true then 1 else 0] ++ dB 0 [] O M → M = L) : ∀ R' C' row' col' vis' L', isPatch Ra Ca rowa cola La bs R' C' row' col' vis' L' → R' = R ∧ C' = C ∧ row' = row ∧ col' = col ∧ vis' = vis ∧ L' = L := by
  intro R' C' row' col' vis' L' hp
  obtain ⟨_, e0, e1, e2, e3, e4⟩ := isPatch_head hp
  rw [h0] at e0; rw [h1] at e1; rw [h2] at e2; rw [h3] at e3; rw [h4] at e4
  subst e0 e1 e2 e3
  have hv : vis' = vis := by rw [← hx, ← e4]; cases vis' <;> simp
  subst hv
  obtain ⟨_, p2, p3, p4⟩ := hp
  unfold patchB at p4
  rw [hO] at p4
  refine ⟨rfl, rfl, rfl, rfl, rfl, h L' p3 ?_ p4⟩
  rw [← hO]
  exact (base_len ha p2).symm
theorem lay_done {M O B : List Ce} {k g c : Nat} (hM : M.length = k) (hr : k + g + c ≤ O.length) (hB : B.length = c) : lay (M ++ O.drop k) (k + g) B = (M ++ ((O.drop k).take g ++ B)) ++ O.drop (k + g + c) := by
  unfold lay
  subst hB
  rw [List.take_append, List.drop_append, List.drop_drop, hM, List.take_of_length_le (by omega), List.drop_eq_nil_of_le (by omega : M.length ≤ k + g + B.length)]
  rw [show k + g - k = g by omega, show k + (k + g + B.length - k) = k + g + B.length by omega]
  simp
theorem sub_done {M O : List Ce} {k g : Nat} (c : Nat) (hM : M.length = k) : ((M ++ O.drop k).drop (k + g)).take c = (O.drop (k + g)).take c := by
  rw [List.drop_append, List.drop_drop, hM, List.drop_eq_nil_of_le (by omega : M.length ≤ k + g), show k + (k + g - k) = k + g by omega]
  simp
set_option maxRecDepth 100000 in
set_option maxHeartbeats 32000000 in
theorem p_apply {w : World} {A A0 : Option Addr} {bs : List Int} {n cap na ca : Nat} {La : List Ce} (hA : CR w A0 La) (hla : La.length = na) (hma : na ≤ 9223372036854775807) (hoa : ∀ c ∈ La, CeOk c) (Ra Ca rowa cola : Int) (visa : Bool) (hR : RB w w.heap.size A bs) (hl : bs.length = n) (hn : n ≤ 100000) (hcap : n ≤ cap) (hm : cap ≤ maxLen) (hB : Bytes bs) (hT : Tab w) :
    Calls Tryd.prog 7 #[vV Ra Ca A0 na ca rowa cola visa, .slice A n cap] w fun e w' =>
      (∃ R C row col vis L bb N cc, isPatch Ra Ca rowa cola La bs R C row col vis L ∧ (∀ R' C' row' col' vis' L', isPatch Ra Ca rowa cola La bs R' C' row' col' vis' L' → R' = R ∧ C' = C ∧ row' = row ∧ col' = col ∧ vis' = vis ∧ L' = L) ∧ e = .returned (.tuple #[vV R C (some ⟨bb, 0, none⟩) N cc row col vis, .int .i64 0]) ∧ RowAt w' bb cc L ∧ L.length = N ∧ w.heap.size ≤ bb ∧ Below w.heap.size w w') ∨
      ((∀ R' C' row' col' vis' L', ¬ isPatch Ra Ca rowa cola La bs R' C' row' col' vis' L') ∧ e = .returned (.tuple #[.agg #[.int .i64 0, .int .i64 0, .slice none 0 0, .int .i64 0, .int .i64 0, .bool false], .int .i64 3]) ∧ Below w.heap.size w w') := by
  have hba := (Below.refl w.heap.size w).alloc (Nat.le_refl _) (.cells #[.int .i64 Ra, .int .i64 Ca, .slice A0 na ca, .int .i64 rowa, .int .i64 cola, .bool visa] 24)
  have hbb := (Below.refl (w.alloc (.cells #[.int .i64 Ra, .int .i64 Ca, .slice A0 na ca, .int .i64 rowa, .int .i64 cola, .bool visa] 24)).heap.size (w.alloc (.cells #[.int .i64 Ra, .int .i64 Ca, .slice A0 na ca, .int .i64 rowa, .int .i64 cola, .bool visa] 24))).alloc (Nat.le_refl _) (.cells #[.int .i64 0, .int .i64 0, .slice none 0 0, .int .i64 0, .int .i64 0, .bool false] 24)
  have HB0 := hba.trans (hbb.mono hba.size)
  have HA0 := (hbb.block w.heap.size (by simp)).trans (heap_alloc_new w (.cells #[.int .i64 Ra, .int .i64 Ca, .slice A0 na ca, .int .i64 rowa, .int .i64 cola, .bool visa] 24))
  have HC0 := heap_alloc_new (w.alloc (.cells #[.int .i64 Ra, .int .i64 Ca, .slice A0 na ca, .int .i64 rowa, .int .i64 cola, .bool visa] 24)) (.cells #[.int .i64 0, .int .i64 0, .slice none 0 0, .int .i64 0, .int .i64 0, .bool false] 24)
  rw [show (w.alloc (.cells #[.int .i64 Ra, .int .i64 Ca, .slice A0 na ca, .int .i64 rowa, .int .i64 cola, .bool visa] 24)).heap.size = w.heap.size + 1 by simp] at HC0
  have HRT := Lib.hid (fun (W : World) (hb : Below w.heap.size w W) => p_viewright (cap := ca) (hA.below hb) hla hma hoa Ra Ca rowa cola visa)
  obtain ⟨za, hza⟩ : ∃ z, rightW Ra Ca rowa cola La = z := ⟨_, rfl⟩
  rw [hza] at HRT
  have HZA := Lib.hid hza
  have HPN := Lib.hid (fun (W : World) (hb : Below w.heap.size w W) (hh : headR bs = false) => p_phead_no (A0 := A0) (na := na) (ca := ca) Ra Ca rowa cola visa ((hR.below hb).keep' hb.size) hl hcap hm hh)
  have HPY := Lib.hid (fun (W : World) (hb : Below w.heap.size w W) (h1 : 1 ≤ na) (h2 : na ≤ 480) {a b c d x : Int} {q : Bool} (h5 : 5 ≤ n) (e0 : bs.getD 0 0 = a) (e1 : bs.getD 1 0 = b) (e2 : bs.getD 2 0 = c) (e3 : bs.getD 3 0 = d) (e4 : bs.getD 4 0 = x) (hx : x ≤ 1) (hq : (x == 1) = q) => p_phead (ca := ca) ((hR.below hb).keep' hb.size) hl hcap hm hB h5 e0 e1 e2 e3 e4 hx hq (hA.below hb) hla h1 h2 hoa Ra Ca rowa cola visa)
  have HGR := Lib.hid (fun (W : World) (hb : Below w.heap.size w W) (p : Int) => p_getrun ((hR.below hb).keep' hb.size) hl hcap hm hB (hT.below hb hT.big) p)
  have HGP := Lib.hid (fun (p : Nat) => runG_place hB (p := p))
  have HPC := Lib.hid (fun (W : World) (hb : Below w.heap.size w W) {h hc : Nat} {X : List Ce} (hX : RowAt W h hc X) (hge : w.heap.size ≤ h) (hXl : X.length ≤ 100000) {s m dc : Nat} (hs : s + m ≤ X.length) (p : Int) => p_putcells (dc := dc) hR hl hn hcap hm hB hT hb hX hge hXl hs p)
  have HBY := Lib.hid hB
  have HL := Lib.hid (And.intro hl hn)
  have HLA := Lib.hid (And.intro hla hoa)
  obtain ⟨vb, hvb⟩ : ∃ r, w.heap.size = r := ⟨_, rfl⟩
  obtain ⟨rb, hrb⟩ : ∃ r, vb + 1 = r := ⟨_, rfl⟩
  rw [hvb] at HA0
  rw [hvb, hrb] at HC0
  have HRB := Lib.hid (show w.heap.size ≤ rb by omega)
  have HVB := Lib.hid (show vb < rb ∧ w.heap.size = vb by omega)
  clear hA hla hma hoa hR hl hn hcap hm hB hT hba hbb hza
  go_enter Tryd.func7, Tryd.ntmps7
  go_upto_region 1 with fail
  try simp only [hvb, hrb]
  generalize ((w.alloc (.cells #[.int .i64 Ra, .int .i64 Ca, .slice A0 na ca, .int .i64 rowa, .int .i64 cola, .bool visa] 24)).alloc (.cells #[.int .i64 0, .int .i64 0, .slice none 0 0, .int .i64 0, .int .i64 0, .bool false] 24)) = U at HB0 HA0 HC0 ⊢
  have HBU := Lib.hid HB0
  have HZU := Lib.hid HC0
  have HVU := Lib.hid HA0
  obtain ⟨x0, x1, x2, x3, x4, x5⟩ := six_cells HA0
  clear HB0 HA0 HC0 hvb hrb
  go_step3
  go_wp2_with fail
  refine (HRT.out _ HBU.out).mono ?_
  rintro e w1 ⟨rfl, b1⟩
  have HB := Lib.hid (HBU.out.trans (b1.mono HBU.out.size))
  have HZ := Lib.hid ((b1.block _ (lt_of_block HZU.out)).trans HZU.out)
  have HV := Lib.hid ((b1.block _ (lt_of_block HVU.out)).trans HVU.out)
  clear b1 HBU HZU HVU x0 x1 x2 x3 x4 x5 HRT
  cases za with
  | false =>
    have HNO := Lib.hid (show ∀ R' C' row' col' vis' L', ¬ isPatch Ra Ca rowa cola La bs R' C' row' col' vis' L' from fun _ _ _ _ _ _ h => by have := HZA.out; rw [h.1] at this; cases this)
    have HFB := Lib.hid (below_setRow HB.out HRB.out #[.int .i64 0, .int .i64 0, .slice none 0 0, .int .i64 0, .int .i64 0, .bool false])
    go_wp2_with (refine wpList_store_row rfl 24 (.tmp 4) (.tmp 18) rfl rb #[.int .i64 0, .int .i64 0, .slice none 0 0, .int .i64 0, .int .i64 0, .bool false] rfl rfl 24 _ HZ.out info_view rfl (by simp [Value.oneCell']) ?_)
    try rw [Exit.noGoto_ret]
    exact bodyPost_ret (results_cell_tmp Tryd.results7 _ _ rb 24 #[.int .i64 0, .int .i64 0, .slice none 0 0, .int .i64 0, .int .i64 0, .bool false] (0, 0) _ (.int .i64 3) rfl rfl (setRow_heap _ _ _ #[.int .i64 0, .int .i64 0, .slice none 0 0, .int .i64 0, .int .i64 0, .bool false] _ _ HZ.out) Tryd.underlying24 rfl info_view) rfl (.inr ⟨HNO.out, by rfl, HFB.out⟩)
  | true =>
    have hpr := rightW_parts HZA.out
    have HOA := Lib.hid (show LOk La ∧ 1 ≤ na ∧ na ≤ 480 from ⟨fun c hc => ⟨HLA.out.2 c hc, hpr.2.2.1 c hc⟩, by rw [← HLA.out.1]; exact hpr.2.2.2.2.1, by rw [← HLA.out.1]; exact hpr.2.2.2.1⟩)
    clear hpr
    obtain ⟨x0, x1, x2, x3, x4, x5⟩ := six_cells HV.out
    by_cases hh : headR bs = true
    · have hh2 : 5 ≤ bs.length ∧ bs.getD 4 0 ≤ 1 := by unfold headR at hh; simpa using hh
      obtain ⟨R, hR0⟩ : ∃ x, bs.getD 0 0 = x := ⟨_, rfl⟩
      obtain ⟨C, hC0⟩ : ∃ x, bs.getD 1 0 = x := ⟨_, rfl⟩
      obtain ⟨row, hrow⟩ : ∃ x, bs.getD 2 0 = x := ⟨_, rfl⟩
      obtain ⟨col, hcol⟩ : ∃ x, bs.getD 3 0 = x := ⟨_, rfl⟩
      obtain ⟨xv, hxv⟩ : ∃ x, bs.getD 4 0 = x := ⟨_, rfl⟩
      obtain ⟨vis, hvis⟩ : ∃ q, (xv == 1) = q := ⟨_, rfl⟩
      rw [hxv] at hh2
      have HPH := Lib.hid (HPY.out w1 HB.out HOA.out.2.1 HOA.out.2.2 (by rw [← HL.out.1]; exact hh2.1) hR0 hC0 hrow hcol hxv hh2.2 hvis)
      obtain ⟨O, hO⟩ : ∃ O, baseL Ra Ca La R.toNat C.toNat = O := ⟨_, rfl⟩
      rw [hO] at HPH
      have HNP := Lib.hid (no_patch HZA.out hR0 hC0 hrow hcol hxv hvis hO)
      have HOP := Lib.hid (fun L => one_patch (L := L) HZA.out hR0 hC0 hrow hcol hxv hvis hO)
      have HOB := Lib.hid (show LOk O from by rw [← hO]; exact base_mem HOA.out.1)
      obtain ⟨hd, hhd⟩ : ∃ l : List Int, [R, C, row, col, if vis = true then 1 else 0] = l := ⟨_, rfl⟩
      have HPB := Lib.hid (fun (M : List Ce) => show patchB Ra Ca La R C row col vis M = hd ++ dB 0 [] O M from by unfold patchB; rw [hO, hhd])
      have HRO := Lib.hid (fun (L : List Ce) (h : rightW R C row col L = true) => show rightW R C row col O = true from by rw [← hO]; exact rightW_base HZA.out h HOA.out.1)
      have hx4 : xv = if vis = true then 1 else 0 := by
        have := HBY.out 4
        rw [hxv] at this
        rw [← hvis]
        by_cases h1 : xv = 1
        · rw [h1]; rfl
        · have h0 : xv = 0 := by omega
          rw [h0]; rfl
      have HST := Lib.hid (show PaI bs hd O 5 0 [] from by
        have hl5 : hd.length = 5 := by rw [← hhd]; rfl
        have := PaI.start (bs := bs) (hd := hd) (O := O) (by rw [hl5, take_five hh2.1, hR0, hC0, hrow, hcol, hxv, ← hhd, ← hx4]) (by rw [hl5]; exact hh2.1)
        rwa [hl5] at this)
      have HHD := Lib.hid (show hd.length = 5 from by rw [← hhd]; rfl)
      rw [hhd] at HNP HOP
      have H5 := Lib.hid (show 5 ≤ n from by rw [← HL.out.1]; exact hh2.1)
      clear hR0 hC0 hrow hcol hxv hvis hO hhd hh2 hx4 hh
      go_wp2_with fail
      refine HPH.out.mono ?_
      rintro e w2 ⟨bb, N, cc, rfl, g1, g2, g3, g4⟩
      obtain ⟨zr, hzr⟩ : ∃ z, rightW R C row col O = z := ⟨_, rfl⟩
      have hba := (Below.refl w2.heap.size w2).alloc (Nat.le_refl _) (.cells #[.int .i64 R, .int .i64 C, .slice (some ⟨bb, 0, none⟩) N cc, .int .i64 row, .int .i64 col, .bool vis] 24)
      have HB2 := Lib.hid (HB.out.trans ((g4.trans (hba.mono g4.size)).mono HB.out.size))
      have HZ2 := Lib.hid ((hba.block _ (by have := lt_of_block HZ.out; have := g4.size; omega)).trans ((g4.block _ (lt_of_block HZ.out)).trans HZ.out))
      have HR2 := Lib.hid (g2.below hba)
      have HV2 := Lib.hid (heap_alloc_new w2 (.cells #[.int .i64 R, .int .i64 C, .slice (some ⟨bb, 0, none⟩) N cc, .int .i64 row, .int .i64 col, .bool vis] 24))
      have HG := Lib.hid (show w.heap.size ≤ bb ∧ O.length = N ∧ bb < w2.heap.size ∧ w.heap.size ≤ w2.heap.size ∧ rb < w2.heap.size ∧ rb < bb from ⟨by have := HB.out.size; omega, g3, g2.lt, by have := HB.out.size; have := g4.size; omega, by have := lt_of_block HZ.out; have := g4.size; omega, by have := lt_of_block HZ.out; omega⟩)
      obtain ⟨hb, hhb⟩ : ∃ g, w2.heap.size = g := ⟨_, rfl⟩
      rw [hhb] at HV2 HG
      rw [hzr]
      have HZR := Lib.hid hzr
      clear hba g1 g2 g3 g4 HPH x0 x1 x2 x3 x4 x5 HB HZ HV hzr
      go_upto_region 4 with fail
      try simp only [hhb]
      generalize (w2.alloc (.cells #[.int .i64 R, .int .i64 C, .slice (some ⟨bb, 0, none⟩) N cc, .int .i64 row, .int .i64 col, .bool vis] 24)) = Y at HB2 HZ2 HR2 HV2 ⊢
      clear hhb
      cases zr with
      | false =>
        have HNO := Lib.hid (HNP.out (fun L _ _ _ h => by have := HZR.out; rw [HRO.out L h] at this; cases this))
        have HB := HB2
        have HZ := HZ2
        clear HB2 HZ2
        go_wp2
        go_step3
        go_wp2
        go_loopw [7] (fun kv wr => kv = .bool false ∧ Hid (wr.heap[rb]? = some (.cells #[.int .i64 0, .int .i64 0, .slice none 0 0, .int .i64 0, .int .i64 0, .bool false] 24 (0, 0)) ∧ Below w.heap.size w wr)) (fun _ _ => 0)
        case atStart => exact ⟨rfl, Lib.hid ⟨HZ.out, HB.out⟩⟩
        case round =>
          obtain ⟨rfl, HS⟩ := hrel
          have HZ := Lib.hid HS.out.1
          have HB := Lib.hid HS.out.2
          have HFB := Lib.hid (below_setRow HB.out HRB.out #[.int .i64 0, .int .i64 0, .slice none 0 0, .int .i64 0, .int .i64 0, .bool false])
          go_wp2_with (refine wpList_store_row rfl 24 (.tmp 4) (.tmp 94) rfl rb #[.int .i64 0, .int .i64 0, .slice none 0 0, .int .i64 0, .int .i64 0, .bool false] rfl rfl 24 _ HZ.out info_view rfl (by simp [Value.oneCell']) ?_)
          try rw [Exit.noGoto_ret]
          exact bodyPost_ret (results_cell_tmp Tryd.results7 _ _ rb 24 #[.int .i64 0, .int .i64 0, .slice none 0 0, .int .i64 0, .int .i64 0, .bool false] (0, 0) _ (.int .i64 3) rfl rfl (setRow_heap _ _ _ #[.int .i64 0, .int .i64 0, .slice none 0 0, .int .i64 0, .int .i64 0, .bool false] _ _ HZ.out) Tryd.underlying24 rfl info_view) rfl (.inr ⟨HNO.out, by rfl, HFB.out⟩)
      | true =>
        have hpo := rightW_parts HZR.out
        have HN := Lib.hid (show N ≤ 480 ∧ 1 ≤ N ∧ N ≤ cc from ⟨by rw [← HG.out.2.1]; exact hpo.2.2.2.1, by rw [← HG.out.2.1]; exact hpo.2.2.2.2.1, by obtain ⟨_, _, _, h3, _, _⟩ := HR2.out; have := HG.out.2.1; omega⟩)
        clear hpo
        have HW := Lib.hid (show ∃ X : List Ce, X.length = N ∧ RowAt Y bb cc X ∧ Y.heap[hb]? = some (.cells #[.int .i64 R, .int .i64 C, .slice (some ⟨bb, 0, none⟩) N cc, .int .i64 row, .int .i64 col, .bool vis] 24 (0, 0)) ∧ Y.heap[rb]? = some (.cells #[.int .i64 0, .int .i64 0, .slice none 0 0, .int .i64 0, .int .i64 0, .bool false] 24 (0, 0)) ∧ Below w.heap.size w Y ∧ X = O from ⟨O, HG.out.2.1, HR2.out, HV2.out, HZ2.out, HB2.out, rfl⟩)
        go_wp2
        go_step3
        go_wp2
        go_loopw [7, 8, 9] (fun okv plv atv wr => ∃ (ok : Bool) (k p : Int) (X : List Ce), okv = .bool ok ∧ plv = .int .i64 k ∧ atv = .int .i64 p ∧ Hid (X.length = N ∧ RowAt wr bb cc X ∧ wr.heap[hb]? = some (.cells #[.int .i64 R, .int .i64 C, .slice (some ⟨bb, 0, none⟩) N cc, .int .i64 row, .int .i64 col, .bool vis] 24 (0, 0)) ∧ wr.heap[rb]? = some (.cells #[.int .i64 0, .int .i64 0, .slice none 0 0, .int .i64 0, .int .i64 0, .bool false] 24 (0, 0)) ∧ Below w.heap.size w wr) ∧ Hid ((ok = true ∧ ∃ (k' p' : Nat) (M : List Ce), k = k' ∧ p = p' ∧ PaI bs hd O p' k' M ∧ X = M ++ O.drop k') ∨ (ok = false ∧ ∀ R' C' row' col' vis' L', ¬ isPatch Ra Ca rowa cola La bs R' C' row' col' vis' L'))) (fun okv _ atv _ => match okv with | .bool true => n + 1 - (intOf atv).toNat | _ => 0)
        case atStart =>
          obtain ⟨X, h1, h2, h3, h4, h5, h6⟩ := HW.out
          exact ⟨true, 0, 5, X, rfl, rfl, rfl, Lib.hid ⟨h1, h2, h3, h4, h5⟩, Lib.hid (.inl ⟨rfl, 0, 5, [], rfl, rfl, HST.out, by rw [h6]; simp⟩)⟩
        case round =>
          obtain ⟨ok, k, p, X, rfl, rfl, rfl, HM, HI⟩ := hrel
          clear HW HST HB2 HZ2 HR2 HV2
          cases ok with
          | false =>
            have HNO := Lib.hid (show ∀ R' C' row' col' vis' L', ¬ isPatch Ra Ca rowa cola La bs R' C' row' col' vis' L' from by
              rcases HI.out with ⟨h, _⟩ | ⟨_, h⟩
              · cases h
              · exact h)
            have HZ := Lib.hid HM.out.2.2.2.1
            have HB := Lib.hid HM.out.2.2.2.2
            have HFB := Lib.hid (below_setRow HB.out HRB.out #[.int .i64 0, .int .i64 0, .slice none 0 0, .int .i64 0, .int .i64 0, .bool false])
            go_wp2_with (refine wpList_store_row rfl 24 (.tmp 4) (.tmp 94) rfl rb #[.int .i64 0, .int .i64 0, .slice none 0 0, .int .i64 0, .int .i64 0, .bool false] rfl rfl 24 _ HZ.out info_view rfl (by simp [Value.oneCell']) ?_)
            try rw [Exit.noGoto_ret]
            exact bodyPost_ret (results_cell_tmp Tryd.results7 _ _ rb 24 #[.int .i64 0, .int .i64 0, .slice none 0 0, .int .i64 0, .int .i64 0, .bool false] (0, 0) _ (.int .i64 3) rfl rfl (setRow_heap _ _ _ #[.int .i64 0, .int .i64 0, .slice none 0 0, .int .i64 0, .int .i64 0, .bool false] _ _ HZ.out) Tryd.underlying24 rfl info_view) rfl (.inr ⟨HNO.out, by rfl, HFB.out⟩)
          | true =>
            obtain ⟨k', p', M, rfl, rfl, I, hX⟩ : ∃ (k' p' : Nat) (M : List Ce), k = k' ∧ p = p' ∧ PaI bs hd O p' k' M ∧ X = M ++ O.drop k' := by
              rcases HI.out with ⟨_, h⟩ | ⟨h, _⟩
              · exact h
              · cases h
            have HPI := Lib.hid (And.intro I hX)
            have hpl : p' ≤ n := by have := I.le; have := HL.out.1; omega
            have hkl : k' ≤ N := by have := I.kl; have := HG.out.2.1; omega
            have hp5 : 5 ≤ p' := by have := I.ge; have := HHD.out; omega
            clear HI I hX
            by_cases hp : p' < n
            · have e1 : decide ((p' : Int) < (n : Int)) = true := by simp; omega
              have e1' : decide (p' < n) = true := by simp; omega
              obtain ⟨⟨⟨g, c⟩, r, z⟩, hGG⟩ : ∃ x, runG bs (p' : Int) = x := ⟨_, rfl⟩
              have HGC := Lib.hid (hGG ▸ HGR.out wr HM.out.2.2.2.2 (p' : Int))
              dsimp only at HGC
              have HGE := Lib.hid (fun (_ : Unit) => hGG)
              have HPP := Lib.hid (show p' < n ∧ k' ≤ N ∧ 5 ≤ p' from ⟨hp, hkl, hp5⟩)
              have HNX := Lib.hid (fun (bad : ∀ (g c : Nat) (B : List Ce) (m : Int), getS bs (p' : Int) = ((g : Int), ((p' + szN (g : Int) : Nat) : Int), 0) → getS bs ((p' + szN (g : Int) : Nat) : Int) = ((c : Int), ((p' + szN (g : Int) + szN (c : Int) : Nat) : Int), 0) → 1 ≤ c → g + c ≤ O.length - k' → (p' = hd.length ∨ 1 ≤ g) → putF ((O.drop (k' + g)).take c) bs ((p' + szN (g : Int) + szN (c : Int) : Nat) : Int) = some (B, m) → False) => HNP.out (fun L h1 h2 h3 _ => HPI.out.1.no (by have := HG.out.2.1; have := HN.out; omega) (by rw [HL.out.1]; exact hp) bad h1 h2 h3))
              clear hGG hp hpl hkl hp5
              go_wp2_with fail
              refine HGC.out.mono ?_
              rintro e w3 ⟨rfl, b3⟩
              have hba := (Below.refl w3.heap.size w3).alloc (Nat.le_refl _) (.cells #[.int .u64 g, .int .u64 c] 67)
              have hbz := b3.trans (hba.mono b3.size)
              have HM3 := Lib.hid (show RowAt (w3.alloc (.cells #[.int .u64 g, .int .u64 c] 67)) bb cc X ∧ (w3.alloc (.cells #[.int .u64 g, .int .u64 c] 67)).heap[hb]? = some (.cells #[.int .i64 R, .int .i64 C, .slice (some ⟨bb, 0, none⟩) N cc, .int .i64 row, .int .i64 col, .bool vis] 24 (0, 0)) ∧ (w3.alloc (.cells #[.int .u64 g, .int .u64 c] 67)).heap[rb]? = some (.cells #[.int .i64 0, .int .i64 0, .slice none 0 0, .int .i64 0, .int .i64 0, .bool false] 24 (0, 0)) ∧ Below w.heap.size w (w3.alloc (.cells #[.int .u64 g, .int .u64 c] 67)) from ⟨HM.out.2.1.below hbz, (hbz.block _ (lt_of_block HM.out.2.2.1)).trans HM.out.2.2.1, (hbz.block _ (lt_of_block HM.out.2.2.2.1)).trans HM.out.2.2.2.1, HM.out.2.2.2.2.trans (hbz.mono HM.out.2.2.2.2.size)⟩)
              have HXL := Lib.hid HM.out.1
              have HRN := Lib.hid (heap_alloc_new w3 (.cells #[.int .u64 g, .int .u64 c] 67))
              have HRW := Lib.hid (show rb < w3.heap.size ∧ hb < w3.heap.size ∧ bb < w3.heap.size from ⟨by have := lt_of_block HM.out.2.2.2.1; have := b3.size; omega, by have := lt_of_block HM.out.2.2.1; have := b3.size; omega, by have := HM.out.2.1.lt; have := b3.size; omega⟩)
              obtain ⟨qb, hqb⟩ : ∃ t, w3.heap.size = t := ⟨_, rfl⟩
              rw [hqb] at HRN HRW
              clear hba hbz b3 HGC HM
              go_upto_region 8 with fail
              try simp only [hqb]
              generalize (w3.alloc (.cells #[.int .u64 g, .int .u64 c] 67)) = V at HM3 HRN ⊢
              clear hqb
              obtain ⟨s0, s1, s2, s3, s4, s5⟩ := six_cells HM3.out.2.1
              obtain ⟨m0, m1⟩ : _ ∧ _ := two_at HRN.out
              have wr0 : IntKind.i64.wrap ((N : Int) - (k' : Int)) = ((N - k' : Nat) : Int) := by rw [show (N : Int) - (k' : Int) = ((N - k' : Nat) : Int) by have := HPP.out; omega]; exact IntWalk.i64_in _ (by have := HN.out; omega)
              obtain ⟨rm, hrm⟩ : ∃ r, N - k' = r := ⟨_, rfl⟩
              rw [hrm] at wr0
              have wr1 : IntKind.u64.wrap (rm : Int) = (rm : Int) := IntWalk.u64_in _ (by have := HN.out; omega)
              have HRM := Lib.hid (show N - k' = rm ∧ rm ≤ 480 from ⟨hrm, by have := HN.out; omega⟩)
              clear hrm
              by_cases hz : z = 0
              · subst hz
                obtain ⟨g', c', r', hx, hc1, hr1, hr2, hc2, hg2⟩ := HGP.out p' (by rw [HGE.out ()])
                rw [HGE.out ()] at hx
                obtain ⟨⟨rfl, rfl⟩, rfl⟩ : (g = g' ∧ c = c') ∧ r = r' := by
                  simp only [Prod.mk.injEq] at hx
                  exact ⟨hx.1, hx.2.1⟩
                have hok := runG_ok (bs := bs) (p := (p' : Int)) (by rw [HGE.out ()])
                rw [HGE.out ()] at hok
                dsimp only at hok
                have HOK := Lib.hid hok
                have HSAME := Lib.hid (fun (g2 c2 : Nat) (h1 : getS bs (p' : Int) = ((g2 : Int), ((p' + szN (g2 : Int) : Nat) : Int), 0)) (h2 : getS bs ((p' + szN (g2 : Int) : Nat) : Int) = ((c2 : Int), ((p' + szN (g2 : Int) + szN (c2 : Int) : Nat) : Int), 0)) => show g2 = g' ∧ c2 = c' ∧ ((p' + szN (g2 : Int) + szN (c2 : Int) : Nat) : Int) = (r' : Int) from by
                  obtain ⟨o1, o2, _⟩ := HOK.out
                  have e0 : (getS bs (p' : Int)).2.1 = ((p' + szN (g2 : Int) : Nat) : Int) := by rw [h1]
                  rw [e0] at o2
                  rw [h1] at o1
                  have q1 := congrArg Prod.fst o1
                  rw [h2] at o2
                  have q2 := congrArg Prod.fst o2
                  have q3 := congrArg (fun x => x.2.1) o2
                  dsimp only at q1 q2 q3
                  exact ⟨by omega, by omega, q3⟩)
                have HC1 := Lib.hid (show 1 ≤ c' ∧ (c' : Int) < 4611686018427387904 ∧ (g' : Int) < 4611686018427387904 from ⟨hc1, hc2, hg2⟩)
                clear hx hc1 hr1 hr2 hc2 hg2 hok
                by_cases h1 : g' ≤ rm
                · have d1 : decide ((rm : Int) < (g' : Int)) = false := by simp; omega
                  have d1' : decide ((g' : Int) > (rm : Int)) = false := d1
                  have d1'' : decide (rm < g') = false := by simp; omega
                  have ws : IntKind.u64.wrap ((rm : Int) - (g' : Int)) = ((rm - g' : Nat) : Int) := by rw [show (rm : Int) - (g' : Int) = ((rm - g' : Nat) : Int) by omega]; exact IntWalk.u64_in _ (by have := HRM.out; omega)
                  obtain ⟨rg, hrg⟩ : ∃ r, rm - g' = r := ⟨_, rfl⟩
                  rw [hrg] at ws
                  by_cases h2 : c' ≤ rg
                  · have d2 : decide ((rg : Int) < (c' : Int)) = false := by simp; omega
                    have d2' : decide ((c' : Int) > (rg : Int)) = false := d2
                    have d2'' : decide (rg < c') = false := by simp; omega
                    by_cases h3 : g' = 0 ∧ 5 < p'
                    · have d3 : ((g' : Int) == 0) = true := by simp; omega
                      have d3' : decide ((g' : Int) = 0) = true := by simp; omega
                      have d3n : (g' == 0) = true := by simp; omega
                      have d3n' : decide (g' = 0) = true := by simp; omega
                      have d4 : decide ((5 : Int) < (p' : Int)) = true := by simp; omega
                      have d4' : decide ((p' : Int) > 5) = true := d4
                      have d4n : decide (5 < p') = true := by simp; omega
                      have HNN := Lib.hid (HNX.out (fun g2 c2 B m a1 a2 a3 a4 a5 a6 => by
                        obtain ⟨rfl, rfl, _⟩ := HSAME.out g2 c2 a1 a2
                        have := HHD.out
                        omega))
                      clear h1 h2 h3 hrg HNX HSAME HOK
                      clear s0 s1 s2 s3 s4 s5
                      obtain ⟨s0, s1, s2, s3, s4, s5⟩ := six_cells HM3.out.2.1
                      have HZ := Lib.hid HM3.out.2.2.1
                      have HB := Lib.hid HM3.out.2.2.2
                      have HNO := HNN
                      clear HNN
                      go_upto_region 10 with fail
                      have HFB := Lib.hid (below_setRow HB.out HRB.out #[.int .i64 0, .int .i64 0, .slice none 0 0, .int .i64 0, .int .i64 0, .bool false])
                      go_wp2_with (refine wpList_store_row rfl 24 (.tmp 4) (.tmp 94) rfl rb #[.int .i64 0, .int .i64 0, .slice none 0 0, .int .i64 0, .int .i64 0, .bool false] rfl rfl 24 _ HZ.out info_view rfl (by simp [Value.oneCell']) ?_)
                      try rw [Exit.noGoto_ret]
                      exact bodyPost_ret (results_cell_tmp Tryd.results7 _ _ rb 24 #[.int .i64 0, .int .i64 0, .slice none 0 0, .int .i64 0, .int .i64 0, .bool false] (0, 0) _ (.int .i64 3) rfl rfl (setRow_heap _ _ _ #[.int .i64 0, .int .i64 0, .slice none 0 0, .int .i64 0, .int .i64 0, .bool false] _ _ HZ.out) Tryd.underlying24 rfl info_view) rfl (.inr ⟨HNO.out, by rfl, HFB.out⟩)
                    · obtain ⟨zg, hzg⟩ : ∃ b, (decide (g' = 0) && decide (5 < p')) = b := ⟨_, rfl⟩
                      have hzg2 : zg = false := by rw [← hzg]; simp; omega
                      have HQ := Lib.hid (show p' = hd.length ∨ 1 ≤ g' from by have := HHD.out; have := HPP.out; omega)
                      have HGCR := Lib.hid (show g' + c' ≤ O.length - k' ∧ g' ≤ 480 ∧ c' ≤ 480 ∧ k' + g' + c' ≤ N from by have := HRM.out; have := HG.out.2.1; have := HPP.out; omega)
                      have v1 : IntKind.i64.wrap (g' : Int) = (g' : Int) := IntWalk.i64_in _ (by have := HGCR.out; omega)
                      have v2 : IntKind.i64.wrap (c' : Int) = (c' : Int) := IntWalk.i64_in _ (by have := HGCR.out; omega)
                      have v3 : IntKind.i64.wrap ((k' : Int) + (g' : Int)) = ((k' + g' : Nat) : Int) := by rw [← Int.natCast_add]; exact IntWalk.i64_in _ (by have := HGCR.out; have := HN.out; omega)
                      obtain ⟨kf, hkf⟩ : ∃ t, k' + g' = t := ⟨_, rfl⟩
                      rw [hkf] at v3
                      have v4 : IntKind.i64.wrap ((kf : Int) + (c' : Int)) = ((kf + c' : Nat) : Int) := by rw [← Int.natCast_add]; exact IntWalk.i64_in _ (by have := HGCR.out; have := HN.out; omega)
                      obtain ⟨kt, hkt⟩ : ∃ t, kf + c' = t := ⟨_, rfl⟩
                      rw [hkt] at v4
                      obtain ⟨cq, hcq⟩ : ∃ q, cc = kf + q := ⟨cc - kf, by have := HGCR.out; have := HN.out; omega⟩
                      have hsl := fun W => slice_seg (b := bb) (off := 0) (n := N) (o2 := kf * 4) hcq (show c' ≤ cq by have := HGCR.out; have := HN.out; omega) HC1.out.1 (by omega) (show (kt : Int) = ((kf + c' : Nat) : Int) by rw [hkt]) W
                      have HPCA := Lib.hid (HPC.out V HM3.out.2.2.2 HM3.out.1 HG.out.1 (by have := HXL.out; have := HN.out; omega) (s := kf) (m := c') (dc := cq) (by have := HXL.out; have := HGCR.out; omega) (r' : Int))
                      have HKF := Lib.hid (And.intro hkf hkt)
                      have HSD := Lib.hid (show (X.drop kf).take c' = (O.drop (k' + g')).take c' from by rw [HPI.out.2, ← hkf]; exact sub_done c' HPI.out.1.ml)
                      rcases Nat.eq_zero_or_pos g' with h0 | h0
                      · have d3 : ((g' : Int) == 0) = true := by simp; omega
                        have d3' : decide ((g' : Int) = 0) = true := by simp; omega
                        have d3n : (g' == 0) = true := by simp; omega
                        have d3n' : decide (g' = 0) = true := by simp; omega
                        have d4 : decide ((5 : Int) < (p' : Int)) = false := by simp; omega
                        have d4' : decide ((p' : Int) > 5) = false := d4
                        have d4n : decide (5 < p') = false := by simp; omega
                        clear h0 h1 h2 h3 hrg hzg hzg2 hkf hkt hcq
                        go_wp2_with fail
                        refine HPCA.out.mono ?_
                        rintro e V2 ⟨X2, hxl, hxr, hxg, hxc⟩
                        have HM4 := Lib.hid (show X2.length = N ∧ RowAt V2 bb cc X2 ∧ V2.heap[hb]? = some (.cells #[.int .i64 R, .int .i64 C, .slice (some ⟨bb, 0, none⟩) N cc, .int .i64 row, .int .i64 col, .bool vis] 24 (0, 0)) ∧ V2.heap[rb]? = some (.cells #[.int .i64 0, .int .i64 0, .slice none 0 0, .int .i64 0, .int .i64 0, .bool false] 24 (0, 0)) ∧ Below w.heap.size w V2 from ⟨hxl.trans HXL.out, hxr, (hxg.block _ (lt_of_block HM3.out.2.1) (by intro e; injection e with e; have := HG.out; omega)).trans HM3.out.2.1, (hxg.block _ (lt_of_block HM3.out.2.2.1) (by intro e; injection e with e; have := HG.out; omega)).trans HM3.out.2.2.1, HM3.out.2.2.2.grown hxg HM3.out.2.2.2.size (fun k hk => by injection hk with hk; have := HG.out; omega)⟩)
                        clear hxl hxr hxg s0 s1 s2 s3 s4 s5 m0 m1 hsl
                        rcases hxc with ⟨B, q, hpf, hxe, rfl⟩ | ⟨hpf, rfl⟩
                        · have HNE := Lib.hid (show ∃ m' : Nat, q = m' ∧ p' < m' ∧ PaI bs hd O m' kt (M ++ ((O.drop k').take g' ++ B)) ∧ X2 = (M ++ ((O.drop k').take g' ++ B)) ++ O.drop kt from by
                            rw [HSD.out] at hpf
                            obtain ⟨m', e1, e2, e3, e4, e5⟩ := HPI.out.1.next HOB.out (by have := HG.out.2.1; have := HN.out; omega) (by rw [HL.out.1]; exact HPP.out.1) HBY.out HOK.out.1 HOK.out.2.1 HC1.out.1 HGCR.out.1 HQ.out hpf
                            have hkt' : k' + g' + c' = kt := by have := HKF.out; omega
                            rw [hkt'] at e5
                            refine ⟨m', e1, e2, e5, ?_⟩
                            rw [hxe, HPI.out.2, ← HKF.out.1, lay_done HPI.out.1.ml (by have := HGCR.out; have := HG.out.2.1; omega) e3, hkt'])
                          clear hpf hxe
                          obtain ⟨m', rfl, hlt, hne⟩ := HNE.out
                          have HLT := Lib.hid hlt
                          have HNF := Lib.hid hne
                          clear hlt hne HNE
                          go_wp2
                          go_roundw
                          case rel => exact ⟨true, kt, m', X2, rfl, rfl, rfl, HM4, Lib.hid (.inl ⟨rfl, kt, m', _, rfl, rfl, HNF.out.1, HNF.out.2⟩)⟩
                          case measure => have := HLT.out; have := HPP.out; have := HNF.out.1.le; have := HL.out.1; simp [intOf]; omega
                        · have HNN := Lib.hid (HNX.out (fun g2 c2 B m a1 a2 a3 a4 a5 a6 => by
                            obtain ⟨rfl, rfl, e3⟩ := HSAME.out g2 c2 a1 a2
                            rw [HSD.out] at hpf
                            rw [e3, hpf] at a6
                            cases a6))
                          clear hpf
                          go_wp2
                          go_roundw
                          case rel => exact ⟨false, kt, 0, X2, rfl, rfl, rfl, HM4, Lib.hid (.inr ⟨rfl, HNN.out⟩)⟩
                          case measure => have := HPP.out; simp [intOf]; omega
                      · have d3 : ((g' : Int) == 0) = false := by simp; omega
                        have d3' : decide ((g' : Int) = 0) = false := by simp; omega
                        have d3n : (g' == 0) = false := by simp; omega
                        have d3n' : decide (g' = 0) = false := by simp; omega
                        have d3m : ¬ g' = 0 := by omega
                        clear h0 h1 h2 h3 hrg hzg hzg2 hkf hkt hcq
                        go_wp2_with fail
                        refine HPCA.out.mono ?_
                        rintro e V2 ⟨X2, hxl, hxr, hxg, hxc⟩
                        have HM4 := Lib.hid (show X2.length = N ∧ RowAt V2 bb cc X2 ∧ V2.heap[hb]? = some (.cells #[.int .i64 R, .int .i64 C, .slice (some ⟨bb, 0, none⟩) N cc, .int .i64 row, .int .i64 col, .bool vis] 24 (0, 0)) ∧ V2.heap[rb]? = some (.cells #[.int .i64 0, .int .i64 0, .slice none 0 0, .int .i64 0, .int .i64 0, .bool false] 24 (0, 0)) ∧ Below w.heap.size w V2 from ⟨hxl.trans HXL.out, hxr, (hxg.block _ (lt_of_block HM3.out.2.1) (by intro e; injection e with e; have := HG.out; omega)).trans HM3.out.2.1, (hxg.block _ (lt_of_block HM3.out.2.2.1) (by intro e; injection e with e; have := HG.out; omega)).trans HM3.out.2.2.1, HM3.out.2.2.2.grown hxg HM3.out.2.2.2.size (fun k hk => by injection hk with hk; have := HG.out; omega)⟩)
                        clear hxl hxr hxg s0 s1 s2 s3 s4 s5 m0 m1 hsl
                        rcases hxc with ⟨B, q, hpf, hxe, rfl⟩ | ⟨hpf, rfl⟩
                        · have HNE := Lib.hid (show ∃ m' : Nat, q = m' ∧ p' < m' ∧ PaI bs hd O m' kt (M ++ ((O.drop k').take g' ++ B)) ∧ X2 = (M ++ ((O.drop k').take g' ++ B)) ++ O.drop kt from by
                            rw [HSD.out] at hpf
                            obtain ⟨m', e1, e2, e3, e4, e5⟩ := HPI.out.1.next HOB.out (by have := HG.out.2.1; have := HN.out; omega) (by rw [HL.out.1]; exact HPP.out.1) HBY.out HOK.out.1 HOK.out.2.1 HC1.out.1 HGCR.out.1 HQ.out hpf
                            have hkt' : k' + g' + c' = kt := by have := HKF.out; omega
                            rw [hkt'] at e5
                            refine ⟨m', e1, e2, e5, ?_⟩
                            rw [hxe, HPI.out.2, ← HKF.out.1, lay_done HPI.out.1.ml (by have := HGCR.out; have := HG.out.2.1; omega) e3, hkt'])
                          clear hpf hxe
                          obtain ⟨m', rfl, hlt, hne⟩ := HNE.out
                          have HLT := Lib.hid hlt
                          have HNF := Lib.hid hne
                          clear hlt hne HNE
                          go_wp2
                          go_roundw
                          case rel => exact ⟨true, kt, m', X2, rfl, rfl, rfl, HM4, Lib.hid (.inl ⟨rfl, kt, m', _, rfl, rfl, HNF.out.1, HNF.out.2⟩)⟩
                          case measure => have := HLT.out; have := HPP.out; have := HNF.out.1.le; have := HL.out.1; simp [intOf]; omega
                        · have HNN := Lib.hid (HNX.out (fun g2 c2 B m a1 a2 a3 a4 a5 a6 => by
                            obtain ⟨rfl, rfl, e3⟩ := HSAME.out g2 c2 a1 a2
                            rw [HSD.out] at hpf
                            rw [e3, hpf] at a6
                            cases a6))
                          clear hpf
                          go_wp2
                          go_roundw
                          case rel => exact ⟨false, kt, 0, X2, rfl, rfl, rfl, HM4, Lib.hid (.inr ⟨rfl, HNN.out⟩)⟩
                          case measure => have := HPP.out; simp [intOf]; omega
                  · have d2 : decide ((rg : Int) < (c' : Int)) = true := by simp; omega
                    have d2' : decide ((c' : Int) > (rg : Int)) = true := d2
                    have d2'' : decide (rg < c') = true := by simp; omega
                    have HNN := Lib.hid (HNX.out (fun g2 c2 B m a1 a2 a3 a4 a5 a6 => by
                      obtain ⟨rfl, rfl, _⟩ := HSAME.out g2 c2 a1 a2
                      have := HG.out.2.1
                      have := HRM.out
                      omega))
                    clear h1 h2 hrg HNX HSAME HOK
                    clear s0 s1 s2 s3 s4 s5
                    obtain ⟨s0, s1, s2, s3, s4, s5⟩ := six_cells HM3.out.2.1
                    have HZ := Lib.hid HM3.out.2.2.1
                    have HB := Lib.hid HM3.out.2.2.2
                    have HNO := HNN
                    clear HNN
                    go_upto_region 10 with fail
                    have HFB := Lib.hid (below_setRow HB.out HRB.out #[.int .i64 0, .int .i64 0, .slice none 0 0, .int .i64 0, .int .i64 0, .bool false])
                    go_wp2_with (refine wpList_store_row rfl 24 (.tmp 4) (.tmp 94) rfl rb #[.int .i64 0, .int .i64 0, .slice none 0 0, .int .i64 0, .int .i64 0, .bool false] rfl rfl 24 _ HZ.out info_view rfl (by simp [Value.oneCell']) ?_)
                    try rw [Exit.noGoto_ret]
                    exact bodyPost_ret (results_cell_tmp Tryd.results7 _ _ rb 24 #[.int .i64 0, .int .i64 0, .slice none 0 0, .int .i64 0, .int .i64 0, .bool false] (0, 0) _ (.int .i64 3) rfl rfl (setRow_heap _ _ _ #[.int .i64 0, .int .i64 0, .slice none 0 0, .int .i64 0, .int .i64 0, .bool false] _ _ HZ.out) Tryd.underlying24 rfl info_view) rfl (.inr ⟨HNO.out, by rfl, HFB.out⟩)
                · have d1 : decide ((rm : Int) < (g' : Int)) = true := by simp; omega
                  have d1' : decide ((g' : Int) > (rm : Int)) = true := d1
                  have d1'' : decide (rm < g') = true := by simp; omega
                  have HNN := Lib.hid (HNX.out (fun g2 c2 B m a1 a2 a3 a4 a5 a6 => by
                    obtain ⟨rfl, rfl, _⟩ := HSAME.out g2 c2 a1 a2
                    have := HG.out.2.1
                    have := HRM.out
                    omega))
                  clear h1 HNX HSAME HOK
                  clear s0 s1 s2 s3 s4 s5
                  obtain ⟨s0, s1, s2, s3, s4, s5⟩ := six_cells HM3.out.2.1
                  have HZ := Lib.hid HM3.out.2.2.1
                  have HB := Lib.hid HM3.out.2.2.2
                  have HNO := HNN
                  clear HNN
                  go_upto_region 10 with fail
                  have HFB := Lib.hid (below_setRow HB.out HRB.out #[.int .i64 0, .int .i64 0, .slice none 0 0, .int .i64 0, .int .i64 0, .bool false])
                  go_wp2_with (refine wpList_store_row rfl 24 (.tmp 4) (.tmp 94) rfl rb #[.int .i64 0, .int .i64 0, .slice none 0 0, .int .i64 0, .int .i64 0, .bool false] rfl rfl 24 _ HZ.out info_view rfl (by simp [Value.oneCell']) ?_)
                  try rw [Exit.noGoto_ret]
                  exact bodyPost_ret (results_cell_tmp Tryd.results7 _ _ rb 24 #[.int .i64 0, .int .i64 0, .slice none 0 0, .int .i64 0, .int .i64 0, .bool false] (0, 0) _ (.int .i64 3) rfl rfl (setRow_heap _ _ _ #[.int .i64 0, .int .i64 0, .slice none 0 0, .int .i64 0, .int .i64 0, .bool false] _ _ HZ.out) Tryd.underlying24 rfl info_view) rfl (.inr ⟨HNO.out, by rfl, HFB.out⟩)
              · have zz2 : (z != 0) = true := by simpa using hz
                have HNN := Lib.hid (HNX.out (fun g2 c2 B m a1 a2 a3 a4 a5 a6 => by
                  have := runG_no (bs := bs) (p := (p' : Int)) (by rw [HGE.out ()]; exact hz) a1 a2
                  omega))
                clear hz HNX
                clear s0 s1 s2 s3 s4 s5
                obtain ⟨s0, s1, s2, s3, s4, s5⟩ := six_cells HM3.out.2.1
                have HZ := Lib.hid HM3.out.2.2.1
                have HB := Lib.hid HM3.out.2.2.2
                have HNO := HNN
                clear HNN
                go_upto_region 10 with fail
                have HFB := Lib.hid (below_setRow HB.out HRB.out #[.int .i64 0, .int .i64 0, .slice none 0 0, .int .i64 0, .int .i64 0, .bool false])
                go_wp2_with (refine wpList_store_row rfl 24 (.tmp 4) (.tmp 94) rfl rb #[.int .i64 0, .int .i64 0, .slice none 0 0, .int .i64 0, .int .i64 0, .bool false] rfl rfl 24 _ HZ.out info_view rfl (by simp [Value.oneCell']) ?_)
                try rw [Exit.noGoto_ret]
                exact bodyPost_ret (results_cell_tmp Tryd.results7 _ _ rb 24 #[.int .i64 0, .int .i64 0, .slice none 0 0, .int .i64 0, .int .i64 0, .bool false] (0, 0) _ (.int .i64 3) rfl rfl (setRow_heap _ _ _ #[.int .i64 0, .int .i64 0, .slice none 0 0, .int .i64 0, .int .i64 0, .bool false] _ _ HZ.out) Tryd.underlying24 rfl info_view) rfl (.inr ⟨HNO.out, by rfl, HFB.out⟩)
            · have e1 : decide ((p' : Int) < (n : Int)) = false := by simp; omega
              have e1' : decide (p' < n) = false := by simp; omega
              have hpe : p' = bs.length := by rw [HL.out.1]; omega
              have HYES := Lib.hid (show isPatch Ra Ca rowa cola La bs R C row col vis X ∧ (∀ R' C' row' col' vis' L', isPatch Ra Ca rowa cola La bs R' C' row' col' vis' L' → R' = R ∧ C' = C ∧ row' = row ∧ col' = col ∧ vis' = vis ∧ L' = X) from by
                have hd1 := HPI.out.1.done hpe
                rw [← HPI.out.2] at hd1
                have hLX : LOk X := by
                  rw [HPI.out.2]
                  intro x hx
                  rcases List.mem_append.1 hx with h | h
                  · exact HPI.out.1.ok x h
                  · exact HOB.out x (List.mem_of_mem_drop h)
                refine ⟨⟨HZA.out, ?_, hLX, by rw [HPB.out]; exact hd1⟩, HOP.out X (fun M h1 h2 h3 => by rw [HPI.out.2]; exact HPI.out.1.alone hpe h1 h2 h3)⟩
                have hzz := HZR.out
                unfold rightW at hzz ⊢
                rw [Bool.and_eq_true, Bool.and_eq_true] at hzz ⊢
                rw [HM.out.1, ← HG.out.2.1]
                exact ⟨hzz.1, by rw [List.all_eq_true]; exact fun x hx => (hLX x hx).2⟩)
              have HFY := Lib.hid (show RowAt (wr.setRow rb #[.int .i64 R, .int .i64 C, .slice (some ⟨bb, 0, none⟩) N cc, .int .i64 row, .int .i64 col, .bool vis]) bb cc X ∧ X.length = N ∧ w.heap.size ≤ bb ∧ Below w.heap.size w (wr.setRow rb #[.int .i64 R, .int .i64 C, .slice (some ⟨bb, 0, none⟩) N cc, .int .i64 row, .int .i64 col, .bool vis]) from ⟨HM.out.2.1.grown (grown_setRow _ rb _) (by intro e; injection e with e; have := HG.out; omega), HM.out.1, HG.out.1, below_setRow HM.out.2.2.2.2 HRB.out _⟩)
              clear hp hpe hpl hkl hp5
              obtain ⟨s0, s1, s2, s3, s4, s5⟩ := six_cells HM.out.2.2.1
              go_wp2_with (refine wpList_store_row rfl 24 (.tmp 4) (.tmp 95) rfl rb #[.int .i64 R, .int .i64 C, .slice (some ⟨bb, 0, none⟩) N cc, .int .i64 row, .int .i64 col, .bool vis] rfl rfl 24 _ HM.out.2.2.2.1 info_view rfl (by simp [Value.oneCell']) ?_)
              try rw [Exit.noGoto_ret]
              refine bodyPost_ret (results_cell_tmp Tryd.results7 _ _ rb 24 #[.int .i64 R, .int .i64 C, .slice (some ⟨bb, 0, none⟩) N cc, .int .i64 row, .int .i64 col, .bool vis] (0, 0) _ (.int .i64 0) rfl rfl (setRow_heap _ _ _ #[.int .i64 R, .int .i64 C, .slice (some ⟨bb, 0, none⟩) N cc, .int .i64 row, .int .i64 col, .bool vis] _ _ HM.out.2.2.2.1) Tryd.underlying24 rfl info_view) rfl ?_
              refine .inl ⟨R, C, row, col, vis, X, bb, N, cc, HYES.out.1, HYES.out.2, ?_, HFY.out⟩
              rfl
    · have HNO := Lib.hid (show ∀ R' C' row' col' vis' L', ¬ isPatch Ra Ca rowa cola La bs R' C' row' col' vis' L' from fun _ _ _ _ _ _ h => hh (isPatch_head h).1)
      have HPH := Lib.hid (HPN.out w1 HB.out (by simpa using hh))
      clear hh
      go_wp2_with fail
      refine HPH.out.mono ?_
      rintro e w2 ⟨rfl, g4⟩
      have hba := (Below.refl w2.heap.size w2).alloc (Nat.le_refl _) (.cells #[.int .i64 0, .int .i64 0, .slice none 0 0, .int .i64 0, .int .i64 0, .bool false] 24)
      have HB2 := Lib.hid (HB.out.trans ((g4.trans (hba.mono g4.size)).mono HB.out.size))
      have HZ2 := Lib.hid ((hba.block _ (by have := lt_of_block HZ.out; have := g4.size; omega)).trans ((g4.block _ (lt_of_block HZ.out)).trans HZ.out))
      clear hba g4 HPH x0 x1 x2 x3 x4 x5 HB HZ HV
      go_upto_region 4 with fail
      generalize (w2.alloc (.cells #[.int .i64 0, .int .i64 0, .slice none 0 0, .int .i64 0, .int .i64 0, .bool false] 24)) = Y at HB2 HZ2 ⊢
      have HB := HB2
      have HZ := HZ2
      clear HB2 HZ2
      go_wp2
      go_step3
      go_wp2
      go_loopw [7] (fun kv wr => kv = .bool false ∧ Hid (wr.heap[rb]? = some (.cells #[.int .i64 0, .int .i64 0, .slice none 0 0, .int .i64 0, .int .i64 0, .bool false] 24 (0, 0)) ∧ Below w.heap.size w wr)) (fun _ _ => 0)
      case atStart => exact ⟨rfl, Lib.hid ⟨HZ.out, HB.out⟩⟩
      case round =>
        obtain ⟨rfl, HS⟩ := hrel
        have HZ := Lib.hid HS.out.1
        have HB := Lib.hid HS.out.2
        have HFB := Lib.hid (below_setRow HB.out HRB.out #[.int .i64 0, .int .i64 0, .slice none 0 0, .int .i64 0, .int .i64 0, .bool false])
        go_wp2_with (refine wpList_store_row rfl 24 (.tmp 4) (.tmp 94) rfl rb #[.int .i64 0, .int .i64 0, .slice none 0 0, .int .i64 0, .int .i64 0, .bool false] rfl rfl 24 _ HZ.out info_view rfl (by simp [Value.oneCell']) ?_)
        try rw [Exit.noGoto_ret]
        exact bodyPost_ret (results_cell_tmp Tryd.results7 _ _ rb 24 #[.int .i64 0, .int .i64 0, .slice none 0 0, .int .i64 0, .int .i64 0, .bool false] (0, 0) _ (.int .i64 3) rfl rfl (setRow_heap _ _ _ #[.int .i64 0, .int .i64 0, .slice none 0 0, .int .i64 0, .int .i64 0, .bool false] _ _ HZ.out) Tryd.underlying24 rfl info_view) rfl (.inr ⟨HNO.out, by rfl, HFB.out⟩)
end Go.Proofs.YtjihcpnaebghnaaDoor
