/-
  Proved here: of the program's patches: readHead.
-/
import Derived.Test.YtjihcpnaebghnaaDoorPdf
set_option linter.unusedSimpArgs false
set_option linter.unusedVariables false
namespace Go.Proofs.YtjihcpnaebghnaaDoor
open Go.RowKit
set_option maxRecDepth 100000 in
set_option maxHeartbeats 8000000 in
theorem p_phead_no {w : World} {A A0 : Option Addr} {na ca : Nat} (Ra Ca rowa cola : Int) (visa : Bool) {bs : List Int} {n cap : Nat} (hR : RB w w.heap.size A bs) (hl : bs.length = n) (hcap : n ≤ cap) (hm : cap ≤ maxLen) (hh : headR bs = false) :
    Calls Tryd.prog 27 #[vV Ra Ca A0 na ca rowa cola visa, .slice A n cap] w fun e w' => e = .returned (.tuple #[.agg #[.int .i64 0, .int .i64 0, .slice none 0 0, .int .i64 0, .int .i64 0, .bool false], .bool false]) ∧ Below w.heap.size w w' := by
  have hh2 : n < 5 ∨ 5 ≤ n ∧ 1 < bs.getD 4 0 := by
    unfold headR at hh; rw [hl] at hh
    rcases Bool.and_eq_false_iff.1 hh with h | h
    · exact .inl (by have := of_decide_eq_false h; omega)
    · rcases Nat.lt_or_ge n 5 with h5 | h5
      · exact .inl h5
      · exact .inr ⟨h5, by have := of_decide_eq_false h; omega⟩
  have hba := (Below.refl w.heap.size w).alloc (Nat.le_refl _) (.cells #[.int .i64 Ra, .int .i64 Ca, .slice A0 na ca, .int .i64 rowa, .int .i64 cola, .bool visa] 24)
  have hbb := (Below.refl (w.alloc (.cells #[.int .i64 Ra, .int .i64 Ca, .slice A0 na ca, .int .i64 rowa, .int .i64 cola, .bool visa] 24)).heap.size (w.alloc (.cells #[.int .i64 Ra, .int .i64 Ca, .slice A0 na ca, .int .i64 rowa, .int .i64 cola, .bool visa] 24))).alloc (Nat.le_refl _) (.cells #[.int .i64 0, .int .i64 0, .slice none 0 0, .int .i64 0, .int .i64 0, .bool false] 24)
  have HB0 := Lib.hid (hba.trans (hbb.mono hba.size))
  have HZ0 := heap_alloc_new (w.alloc (.cells #[.int .i64 Ra, .int .i64 Ca, .slice A0 na ca, .int .i64 rowa, .int .i64 cola, .bool visa] 24)) (.cells #[.int .i64 0, .int .i64 0, .slice none 0 0, .int .i64 0, .int .i64 0, .bool false] 24)
  obtain ⟨rb, hrb⟩ : ∃ b, w.heap.size + 1 = b := ⟨_, rfl⟩
  rw [show (w.alloc (.cells #[.int .i64 Ra, .int .i64 Ca, .slice A0 na ca, .int .i64 rowa, .int .i64 cola, .bool visa] 24)).heap.size = rb by rw [← hrb]; simp] at HZ0
  have HLE := Lib.hid (show w.heap.size ≤ rb by omega)
  have HC2 : ∀ (hp : 0 < bs.length), ∃ b off, A = some ⟨b, off, none⟩ ∧ b < w.heap.size ∧ ∀ i, i < bs.length → ((w.alloc (.cells #[.int .i64 Ra, .int .i64 Ca, .slice A0 na ca, .int .i64 rowa, .int .i64 cola, .bool visa] 24)).alloc (.cells #[.int .i64 0, .int .i64 0, .slice none 0 0, .int .i64 0, .int .i64 0, .bool false] 24)).cell? ⟨b, off + i, none⟩ = some (.int .u8 (bs.getD i 0)) := fun hp => by
    obtain ⟨b, off, e, hb, hc⟩ := hR hp
    exact ⟨b, off, e, hb, fun i hi => (HB0.out.cell (p := ⟨b, off + i, none⟩) hb).trans (hc i hi)⟩
  clear hba hbb hR
  rcases hh2 with h | ⟨h, h2⟩
  · have d1 : decide ((n : Int) < 5) = true := by simp; omega
    have d1' : decide (n < 5) = true := by simp; omega
    clear HC2 hh h hl
    go_enter Tryd.func27, Tryd.ntmps27
    go_upto_region 1 with fail
    try simp only [hrb]
    generalize ((w.alloc (.cells #[.int .i64 Ra, .int .i64 Ca, .slice A0 na ca, .int .i64 rowa, .int .i64 cola, .bool visa] 24)).alloc (.cells #[.int .i64 0, .int .i64 0, .slice none 0 0, .int .i64 0, .int .i64 0, .bool false] 24)) = U at HB0 HZ0 ⊢
    have HZ := Lib.hid HZ0
    clear HZ0 hrb
    go_wp2_with (refine wpList_store_row rfl 24 (.tmp 4) (.tmp 16) rfl rb #[.int .i64 0, .int .i64 0, .slice none 0 0, .int .i64 0, .int .i64 0, .bool false] rfl rfl 24 _ HZ.out info_view rfl (by simp [Value.oneCell']) ?_)
    exact bodyPost_ret (results_cell_tmp Tryd.results27 _ _ rb 24 #[.int .i64 0, .int .i64 0, .slice none 0 0, .int .i64 0, .int .i64 0, .bool false] (0, 0) _ (.bool false) rfl rfl (setRow_heap _ _ _ #[.int .i64 0, .int .i64 0, .slice none 0 0, .int .i64 0, .int .i64 0, .bool false] _ _ HZ.out) Tryd.underlying24 rfl info_view) rfl ⟨rfl, below_setRow HB0.out HLE.out _⟩
  · have d1 : decide ((n : Int) < 5) = false := by simp; omega
    have d1' : decide (n < 5) = false := by simp; omega
    obtain ⟨b, off, rfl, hbl, hc⟩ := HC2 (by omega)
    have y4 := hc 4 (by omega)
    obtain ⟨x, hx⟩ : ∃ x, bs.getD 4 0 = x := ⟨_, rfl⟩
    rw [hx] at y4 h2
    have d2 : decide (1 < x) = true := by simpa using h2
    have d2' : decide (x > 1) = true := d2
    have g4 : (4 : Int) < (n : Int) := by omega
    clear HC2 hc hh h2 hx hl hbl
    go_enter Tryd.func27, Tryd.ntmps27
    go_upto_region 1 with fail
    try simp only [hrb]
    generalize ((w.alloc (.cells #[.int .i64 Ra, .int .i64 Ca, .slice A0 na ca, .int .i64 rowa, .int .i64 cola, .bool visa] 24)).alloc (.cells #[.int .i64 0, .int .i64 0, .slice none 0 0, .int .i64 0, .int .i64 0, .bool false] 24)) = U at HB0 HZ0 y4 ⊢
    have HZ := Lib.hid HZ0
    clear HZ0 hrb
    go_wp2_with (refine wpList_store_row rfl 24 (.tmp 4) (.tmp 16) rfl rb #[.int .i64 0, .int .i64 0, .slice none 0 0, .int .i64 0, .int .i64 0, .bool false] rfl rfl 24 _ HZ.out info_view rfl (by simp [Value.oneCell']) ?_)
    exact bodyPost_ret (results_cell_tmp Tryd.results27 _ _ rb 24 #[.int .i64 0, .int .i64 0, .slice none 0 0, .int .i64 0, .int .i64 0, .bool false] (0, 0) _ (.bool false) rfl rfl (setRow_heap _ _ _ #[.int .i64 0, .int .i64 0, .slice none 0 0, .int .i64 0, .int .i64 0, .bool false] _ _ HZ.out) Tryd.underlying24 rfl info_view) rfl ⟨rfl, below_setRow HB0.out HLE.out _⟩
set_option maxRecDepth 100000 in
set_option maxHeartbeats 16000000 in
theorem p_phead {w : World} {A A0 : Option Addr} {bs : List Int} {n cap na ca : Nat} {La : List Ce} {a b c d x : Int} {q : Bool} (hR : RB w w.heap.size A bs) (hl : bs.length = n) (hcap : n ≤ cap) (hm : cap ≤ maxLen) (hB : Bytes bs) (h5 : 5 ≤ n) (h0 : bs.getD 0 0 = a) (h1 : bs.getD 1 0 = b) (h2 : bs.getD 2 0 = c) (h3 : bs.getD 3 0 = d) (h4 : bs.getD 4 0 = x) (hx : x ≤ 1) (hq : (x == 1) = q) (hCR : CR w A0 La) (hla : La.length = na) (hna : 1 ≤ na) (hna2 : na ≤ 480) (hoa : ∀ c ∈ La, CeOk c) (Ra Ca rowa cola : Int) (visa : Bool) :
    Calls Tryd.prog 27 #[vV Ra Ca A0 na ca rowa cola visa, .slice A n cap] w fun e w' => ∃ bb N cc, e = .returned (.tuple #[vV a b (some ⟨bb, 0, none⟩) N cc c d q, .bool (rightW a b c d (baseL Ra Ca La a.toNat b.toNat))]) ∧ w.heap.size ≤ bb ∧ RowAt w' bb cc (baseL Ra Ca La a.toNat b.toNat) ∧ (baseL Ra Ca La a.toNat b.toNat).length = N ∧ Below w.heap.size w w' := by
  have c0 := hB 0; have c1 := hB 1; have c2 := hB 2; have c3 := hB 3; have c4 := hB 4
  rw [h0] at c0; rw [h1] at c1; rw [h2] at c2; rw [h3] at c3; rw [h4] at c4
  have d1 : decide ((n : Int) < 5) = false := by simp; omega
  have d1' : decide (n < 5) = false := by simp; omega
  have d2 : decide (1 < x) = false := by simp; omega
  have d2' : decide (x > 1) = false := d2
  have g0 : (0 : Int) < (n : Int) := by omega
  have g1 : (1 : Int) < (n : Int) := by omega
  have g0' : 0 < n := by omega
  have g1' : 1 < n := by omega
  have g2' : 2 < n := by omega
  have g3' : 3 < n := by omega
  have g4' : 4 < n := by omega
  have g2 : (2 : Int) < (n : Int) := by omega
  have g3 : (3 : Int) < (n : Int) := by omega
  have g4 : (4 : Int) < (n : Int) := by omega
  have u0 : IntKind.i64.wrap a = a := IntWalk.i64_in _ (by omega)
  have u1 : IntKind.i64.wrap b = b := IntWalk.i64_in _ (by omega)
  have u2 : IntKind.i64.wrap c = c := IntWalk.i64_in _ (by omega)
  have u3 : IntKind.i64.wrap d = d := IntWalk.i64_in _ (by omega)
  obtain ⟨an, han⟩ : ∃ k : Nat, a = k := ⟨a.toNat, by omega⟩
  obtain ⟨bn, hbn⟩ : ∃ k : Nat, b = k := ⟨b.toNat, by omega⟩
  have hanb : an ≤ 255 ∧ bn ≤ 255 := by omega
  subst han hbn
  simp only [Int.toNat_natCast]
  have HBS := Lib.hid (fun (W : World) (hW : Below w.heap.size w W) => p_base (cap := ca) (hCR.below hW) hla hna hna2 Ra Ca rowa cola visa an bn hanb.1 hanb.2)
  have HBO := Lib.hid (show ∀ x ∈ baseL Ra Ca La an bn, CeOk x from fun x hx => by
    unfold baseL at hx
    split at hx
    · exact hoa x hx
    · rw [List.eq_of_mem_replicate hx]; exact ok_bl _ (by simp))
  obtain ⟨O, hO⟩ : ∃ O, baseL Ra Ca La an bn = O := ⟨_, rfl⟩
  rw [hO] at HBS HBO ⊢
  have hba := (Below.refl w.heap.size w).alloc (Nat.le_refl _) (.cells #[.int .i64 Ra, .int .i64 Ca, .slice A0 na ca, .int .i64 rowa, .int .i64 cola, .bool visa] 24)
  have hbb := (Below.refl (w.alloc (.cells #[.int .i64 Ra, .int .i64 Ca, .slice A0 na ca, .int .i64 rowa, .int .i64 cola, .bool visa] 24)).heap.size (w.alloc (.cells #[.int .i64 Ra, .int .i64 Ca, .slice A0 na ca, .int .i64 rowa, .int .i64 cola, .bool visa] 24))).alloc (Nat.le_refl _) (.cells #[.int .i64 0, .int .i64 0, .slice none 0 0, .int .i64 0, .int .i64 0, .bool false] 24)
  have HB0 := hba.trans (hbb.mono hba.size)
  have HA0 := (hbb.block w.heap.size (by simp)).trans (heap_alloc_new w (.cells #[.int .i64 Ra, .int .i64 Ca, .slice A0 na ca, .int .i64 rowa, .int .i64 cola, .bool visa] 24))
  have HC0 := heap_alloc_new (w.alloc (.cells #[.int .i64 Ra, .int .i64 Ca, .slice A0 na ca, .int .i64 rowa, .int .i64 cola, .bool visa] 24)) (.cells #[.int .i64 0, .int .i64 0, .slice none 0 0, .int .i64 0, .int .i64 0, .bool false] 24)
  rw [show (w.alloc (.cells #[.int .i64 Ra, .int .i64 Ca, .slice A0 na ca, .int .i64 rowa, .int .i64 cola, .bool visa] 24)).heap.size = w.heap.size + 1 by simp] at HC0
  obtain ⟨bq, off, rfl, hbl, hc⟩ := hR (by omega)
  have HBY0 := Lib.hid (fun (W : World) (hW : Below w.heap.size w W) =>
    (show W.cell? ⟨bq, off + 0, none⟩ = some (.int .u8 (an : Int)) ∧ W.cell? ⟨bq, off + 1, none⟩ = some (.int .u8 (bn : Int)) ∧ W.cell? ⟨bq, off + 2, none⟩ = some (.int .u8 c) ∧ W.cell? ⟨bq, off + 3, none⟩ = some (.int .u8 d) ∧ W.cell? ⟨bq, off + 4, none⟩ = some (.int .u8 x) from
      ⟨(hW.cell (p := ⟨bq, off + 0, none⟩) hbl).trans (h0 ▸ hc 0 (by omega)), (hW.cell (p := ⟨bq, off + 1, none⟩) hbl).trans (h1 ▸ hc 1 (by omega)), (hW.cell (p := ⟨bq, off + 2, none⟩) hbl).trans (h2 ▸ hc 2 (by omega)), (hW.cell (p := ⟨bq, off + 3, none⟩) hbl).trans (h3 ▸ hc 3 (by omega)), (hW.cell (p := ⟨bq, off + 4, none⟩) hbl).trans (h4 ▸ hc 4 (by omega))⟩))
  obtain ⟨va, hva⟩ : ∃ r, w.heap.size = r := ⟨_, rfl⟩
  obtain ⟨rb, hrb⟩ : ∃ r, va + 1 = r := ⟨_, rfl⟩
  rw [hva] at HA0
  rw [hva, hrb] at HC0
  have HRB := Lib.hid (show w.heap.size ≤ rb ∧ va < rb ∧ w.heap.size = va by omega)
  clear hR hl hB hCR hla hna hna2 hoa hanb hO hba hbb c0 c1 c2 c3 c4 h0 h1 h2 h3 h4 hc hbl hx h5
  go_enter Tryd.func27, Tryd.ntmps27
  go_upto_region 1 with fail
  try simp only [hva, hrb]
  generalize ((w.alloc (.cells #[.int .i64 Ra, .int .i64 Ca, .slice A0 na ca, .int .i64 rowa, .int .i64 cola, .bool visa] 24)).alloc (.cells #[.int .i64 0, .int .i64 0, .slice none 0 0, .int .i64 0, .int .i64 0, .bool false] 24)) = U at HB0 HA0 HC0 ⊢
  have HU := Lib.hid HB0
  have HZ0 := Lib.hid HC0
  have HV0 := Lib.hid HA0
  clear HB0 HC0 HA0 hrb hva
  obtain ⟨b0, b1, b2, b3, b4⟩ := HBY0.out U HU.out
  simp only [Nat.add_zero] at b0
  go_upto_region 3 with fail
  clear b0 b1 b2 b3 b4
  refine wp_region_held_drew (S := fun W => Below U.drew.heap.size U.drew W) (by kernel_rfl) (Below.refl _ _) (fun hHeld => ?_)
  have HD0 := Lib.hid (Below.refl U.heap.size U).drew
  obtain ⟨D0, hD0⟩ : ∃ D, U.drew = D := ⟨_, rfl⟩
  simp only [hD0] at hHeld HD0 ⊢
  have HUD := Lib.hid hD0
  clear hD0
  have HD := Lib.hid (Below.refl D0.heap.size D0)
  have HBY := Lib.hid (fun (W : World) (hW : Below D0.heap.size D0 W) => by
    have hz := HBY0.out W (HU.out.trans ((HD0.out.trans (hW.mono HD0.out.size)).mono HU.out.size))
    simp only [Nat.add_zero] at hz
    exact hz)
  refine wpAnyH_take (i := 0) (v := ?_) (by simp; rfl) (by kernel_rfl) (by kernel_rfl) (by kernel_rfl) (by exact fun _ _ _ h => h) (Or.inl ⟨by rfl, fun wx hSx => ?_⟩) hHeld ?_
  rotate_left
  · clear hSx; go_simp; (try with_reducible rfl)
  simp only [Act.put, List.setIfInBounds_toArray, List.set_cons_zero, List.set_cons_succ]
  refine wpAnyH_take (i := 1) (v := ?_) (by simp; rfl) (by kernel_rfl) (by kernel_rfl) (by kernel_rfl) (by exact fun _ _ _ h => h) (Or.inl ⟨by rfl, fun wx hSx => ?_⟩) hHeld ?_
  rotate_left
  · clear hSx; go_simp; (try with_reducible rfl)
  simp only [Act.put, List.setIfInBounds_toArray, List.set_cons_zero, List.set_cons_succ]
  refine wpAnyH_take (i := 2) (v := ?_) (by simp; rfl) (by kernel_rfl) (by kernel_rfl) (by kernel_rfl) (by exact fun _ _ _ h => h) (Or.inl ⟨by rfl, fun wx hSx => ?_⟩) hHeld ?_
  rotate_left
  · have q := HBY.out wx hSx; obtain ⟨b0, b1, b2, b3, b4⟩ := q; clear hSx; go_simp; (try with_reducible rfl)
  simp only [Act.put, List.setIfInBounds_toArray, List.set_cons_zero, List.set_cons_succ]
  refine wpAnyH_take (i := 3) (v := ?_) (by simp; rfl) (by kernel_rfl) (by kernel_rfl) (by kernel_rfl) (by exact fun _ _ _ h => h) (Or.inl ⟨by rfl, fun wx hSx => ?_⟩) hHeld ?_
  rotate_left
  · clear hSx; go_simp; (try with_reducible rfl)
  simp only [Act.put, List.setIfInBounds_toArray, List.set_cons_zero, List.set_cons_succ]
  refine wpAnyH_take (i := 4) (v := ?_) (by simp; rfl) (by kernel_rfl) (by kernel_rfl) (by kernel_rfl) (by exact fun _ _ _ h => h) (Or.inl ⟨by rfl, fun wx hSx => ?_⟩) hHeld ?_
  rotate_left
  · clear hSx; go_simp; (try with_reducible rfl)
  simp only [Act.put, List.setIfInBounds_toArray, List.set_cons_zero, List.set_cons_succ]
  refine wpAnyH_take (i := 5) (v := ?_) (by simp; rfl) (by kernel_rfl) (by kernel_rfl) (by kernel_rfl) (by exact fun _ _ _ h => h) (Or.inl ⟨by rfl, fun wx hSx => ?_⟩) hHeld ?_
  rotate_left
  · clear hSx; go_simp; (try with_reducible rfl)
  simp only [Act.put, List.setIfInBounds_toArray, List.set_cons_zero, List.set_cons_succ]
  refine wpAnyH_take (i := 6) (v := ?_) (by simp; rfl) (by kernel_rfl) (by kernel_rfl) (by kernel_rfl) (by exact fun _ _ _ h => h) (Or.inl ⟨by rfl, fun wx hSx => ?_⟩) hHeld ?_
  rotate_left
  · have q := HBY.out wx hSx; obtain ⟨b0, b1, b2, b3, b4⟩ := q; clear hSx; go_simp; (try with_reducible rfl)
  simp only [Act.put, List.setIfInBounds_toArray, List.set_cons_zero, List.set_cons_succ]
  refine wpAnyH_take (i := 7) (v := ?_) (by simp; rfl) (by kernel_rfl) (by kernel_rfl) (by kernel_rfl) (by exact fun _ _ _ h => h) (Or.inl ⟨by rfl, fun wx hSx => ?_⟩) hHeld ?_
  rotate_left
  · clear hSx; go_simp; (try with_reducible rfl)
  simp only [Act.put, List.setIfInBounds_toArray, List.set_cons_zero, List.set_cons_succ]
  refine wpAnyH_take (i := 8) (v := ?_) (by simp; rfl) (by kernel_rfl) (by kernel_rfl) (by kernel_rfl) (by exact fun _ _ _ h => h) (Or.inl ⟨by rfl, fun wx hSx => ?_⟩) hHeld ?_
  rotate_left
  · clear hSx; go_simp; (try with_reducible rfl)
  simp only [Act.put, List.setIfInBounds_toArray, List.set_cons_zero, List.set_cons_succ]
  refine wpAnyH_take (i := 9) (v := ?_) (by simp; rfl) (by kernel_rfl) (by kernel_rfl) (by kernel_rfl) (by exact fun _ _ _ h => h) (Or.inl ⟨by rfl, fun wx hSx => ?_⟩) hHeld ?_
  rotate_left
  · clear hSx; go_simp; (try with_reducible rfl)
  simp only [Act.put, List.setIfInBounds_toArray, List.set_cons_zero, List.set_cons_succ]
  refine wpAnyH_take (i := 10) (v := ?_) (by simp; rfl) (by kernel_rfl) (by kernel_rfl) (by kernel_rfl) (by exact fun _ _ _ h => h) (Or.inl ⟨by rfl, fun wx hSx => ?_⟩) hHeld ?_
  rotate_left
  · have q := HBY.out wx hSx; obtain ⟨b0, b1, b2, b3, b4⟩ := q; clear hSx; go_simp; (try with_reducible rfl)
  simp only [Act.put, List.setIfInBounds_toArray, List.set_cons_zero, List.set_cons_succ]
  refine wpAnyH_take (i := 11) (v := ?_) (by simp; rfl) (by kernel_rfl) (by kernel_rfl) (by kernel_rfl) (by exact fun _ _ _ h => h) (Or.inl ⟨by rfl, fun wx hSx => ?_⟩) hHeld ?_
  rotate_left
  · clear hSx; go_simp; (try with_reducible rfl)
  simp only [Act.put, List.setIfInBounds_toArray, List.set_cons_zero, List.set_cons_succ]
  refine wpAnyH_take (i := 12) (v := ?_) (by simp; rfl) (by kernel_rfl) (by kernel_rfl) (by kernel_rfl) (by exact fun _ _ _ h => h) (Or.inl ⟨by rfl, fun wx hSx => ?_⟩) hHeld ?_
  rotate_left
  · clear hSx; go_simp; (try with_reducible rfl)
  simp only [Act.put, List.setIfInBounds_toArray, List.set_cons_zero, List.set_cons_succ]
  refine wpAnyH_take (i := 13) (v := ?_) (by simp; rfl) (by kernel_rfl) (by kernel_rfl) (by kernel_rfl) (by exact fun _ _ _ h => h) (Or.inl ⟨by rfl, fun wx hSx => ?_⟩) hHeld ?_
  rotate_left
  · clear hSx; go_simp; (try with_reducible rfl)
  simp only [Act.put, List.setIfInBounds_toArray, List.set_cons_zero, List.set_cons_succ]
  refine wpAnyH_take (i := 14) (v := ?_) (by simp; rfl) (by kernel_rfl) (by kernel_rfl) (by kernel_rfl) (by exact fun _ _ _ h => h) (Or.inl ⟨by rfl, fun wx hSx => ?_⟩) hHeld ?_
  rotate_left
  · have q := HBY.out wx hSx; obtain ⟨b0, b1, b2, b3, b4⟩ := q; clear hSx; go_simp; (try with_reducible rfl)
  simp only [Act.put, List.setIfInBounds_toArray, List.set_cons_zero, List.set_cons_succ]
  refine wpAnyH_take (i := 15) (v := ?_) (by simp; rfl) (by kernel_rfl) (by kernel_rfl) (by kernel_rfl) (by exact fun _ _ _ h => h) (Or.inl ⟨by rfl, fun wx hSx => ?_⟩) hHeld ?_
  rotate_left
  · clear hSx; go_simp; (try with_reducible rfl)
  simp only [Act.put, List.setIfInBounds_toArray, List.set_cons_zero, List.set_cons_succ]
  refine wpAnyH_take (i := 16) (v := ?_) (by simp; rfl) (by kernel_rfl) (by kernel_rfl) (by kernel_rfl) (by exact fun _ _ _ h => h) (Or.inl ⟨by rfl, fun wx hSx => ?_⟩) hHeld ?_
  rotate_left
  · clear hSx; go_simp; (try with_reducible rfl)
  simp only [Act.put, List.setIfInBounds_toArray, List.set_cons_zero, List.set_cons_succ]
  refine wpAnyH_take (i := 17) (v := ?_) (by simp; rfl) (by kernel_rfl) (by kernel_rfl) (by kernel_rfl) (by exact fun _ _ _ h => h) (Or.inl ⟨by rfl, fun wx hSx => ?_⟩) hHeld ?_
  rotate_left
  · clear hSx; go_simp; (try with_reducible rfl)
  simp only [Act.put, List.setIfInBounds_toArray, List.set_cons_zero, List.set_cons_succ]
  refine wpAnyH_take (i := 18) (v := ?_) (by simp; rfl) (by kernel_rfl) (by kernel_rfl) (by kernel_rfl) (by exact fun _ _ _ h => h) (Or.inl ⟨by rfl, fun wx hSx => ?_⟩) hHeld ?_
  rotate_left
  · have q := HBY.out wx hSx; obtain ⟨b0, b1, b2, b3, b4⟩ := q; clear hSx; go_simp; (try with_reducible rfl)
  simp only [Act.put, List.setIfInBounds_toArray, List.set_cons_zero, List.set_cons_succ]
  refine wpAnyH_take (i := 19) (v := ?_) (by simp; rfl) (by kernel_rfl) (by kernel_rfl) (by kernel_rfl) (by exact fun _ _ _ h => h) (Or.inl ⟨by rfl, fun wx hSx => ?_⟩) hHeld ?_
  rotate_left
  · clear hSx; go_simp; (try with_reducible rfl)
  simp only [Act.put, List.setIfInBounds_toArray, List.set_cons_zero, List.set_cons_succ]
  refine wpAnyH_take (i := 20) (v := ?_) (by simp; rfl) (by kernel_rfl) (by kernel_rfl) (by kernel_rfl) (by exact fun _ _ _ h => h) (Or.inl ⟨by rfl, fun wx hSx => ?_⟩) hHeld ?_
  rotate_left
  · clear hSx; go_simp; (try with_reducible rfl)
  simp only [Act.put, List.setIfInBounds_toArray, List.set_cons_zero, List.set_cons_succ]
  refine wpAnyH_ready (rs := [21]) (by kernel_rfl) (by simp) ?_
  refine AllReadyH.cons (by simp; rfl) (fun K0 hK0 => ?_) AllReadyH.nil
  go_simp
  have hbV : Below D0.heap.size D0 (D0.alloc (.cells #[.int .i64 0, .int .i64 0, .slice none 0 0, .int .i64 0, .int .i64 0, .bool false] 24)) := (Below.refl _ _).alloc (Nat.le_refl _) _
  have HV := Lib.hid (heap_alloc_new D0 (.cells #[.int .i64 0, .int .i64 0, .slice none 0 0, .int .i64 0, .int .i64 0, .bool false] 24))
  have hle := HD.out.size
  have HB2 := Lib.hid (HD.out.trans (hbV.mono HD.out.size))
  clear HD hbV
  have HD := HB2
  clear HB2
  obtain ⟨hb, hhb⟩ : ∃ g, D0.heap.size = g := ⟨_, rfl⟩
  have HLE := Lib.hid (show D0.heap.size ≤ hb from by rw [← hhb]; exact hle)
  rw [hhb] at HV ⊢
  clear hhb hle
  generalize (D0.alloc (.cells #[.int .i64 0, .int .i64 0, .slice none 0 0, .int .i64 0, .int .i64 0, .bool false] 24)) = V at HV HD ⊢
  refine hK0.out _ _ HD.out (fun _ => ?_)
  clear hK0 K0 hHeld
  have hHeld := HD.out
  refine wpAnyH_ready (rs := [22]) (by kernel_rfl) (by simp) ?_
  refine AllReadyH.cons (by simp; rfl) (fun K0 hK0 => ?_) AllReadyH.nil
  have hrow := HV.out
  refine step_store_row rfl 24 (.tmp 6) (.tmp 37) rfl hb #[.int .i64 (an : Int), .int .i64 (bn : Int), .slice none 0 0, .int .i64 c, .int .i64 d, .bool q] rfl rfl 24 _ hrow info_view rfl (by simp [Value.oneCell']) ?_
  simp only [Act.put, List.setIfInBounds_toArray, List.set_cons_zero, List.set_cons_succ]
  have HSB := below_setRow HD.out HLE.out #[.int .i64 (an : Int), .int .i64 (bn : Int), .slice none 0 0, .int .i64 c, .int .i64 d, .bool q]
  have HEND := Lib.hid (And.intro (setRow_heap _ _ _ #[.int .i64 (an : Int), .int .i64 (bn : Int), .slice none 0 0, .int .i64 c, .int .i64 d, .bool q] _ _ hrow) HSB)
  refine hK0.out _ _ HSB (fun _ => ?_)
  clear hK0 K0 hHeld hrow HV
  have hHeld := HSB
  refine wpAnyH_done (by kernel_rfl) ?_ _
  generalize (V.setRow hb #[.int .i64 (an : Int), .int .i64 (bn : Int), .slice none 0 0, .int .i64 c, .int .i64 d, .bool q]) = Y0 at HEND ⊢
  have hud := HU.out.trans ((HD0.out.trans (HEND.out.2.mono HD0.out.size)).mono HU.out.size)
  have HHD := Lib.hid (show Below w.heap.size w Y0 ∧ Y0.heap[hb]? = some (.cells #[.int .i64 (an : Int), .int .i64 (bn : Int), .slice none 0 0, .int .i64 c, .int .i64 d, .bool q] 24 (0, 0)) from ⟨hud, HEND.out.1⟩)
  have hz1 := (HD0.out.block _ (lt_of_block HZ0.out)).trans HZ0.out
  have hz2 := (HEND.out.2.block _ (lt_of_block hz1)).trans hz1
  have HZ := Lib.hid hz2
  have hv1 := (HD0.out.block _ (lt_of_block HV0.out)).trans HV0.out
  have hv2 := (HEND.out.2.block _ (lt_of_block hv1)).trans hv1
  have HV := Lib.hid hv2
  have HNE := Lib.hid (show rb < hb by have := lt_of_block hz1; have := HLE.out; omega)
  clear hud hz1 hz2 hv1 hv2 hHeld HD HBY HBY0 HU HZ0 HV0 HD0 HUD HEND HLE
  go_upto_region 4 with fail
  obtain ⟨s0, s1, s2, s3, s4, s5⟩ := six_cells HHD.out.2
  obtain ⟨x0, x1, x2, x3, x4, x5⟩ := six_cells HV.out
  go_wp2_with fail
  refine (HBS.out _ HHD.out.1).mono ?_
  rintro e Y2 ⟨bb, N, cc, rfl, g1, g2, g3, g4⟩
  have HHE := Lib.hid (show Below w.heap.size w Y2 ∧ Y2.heap[hb]? = _ from ⟨HHD.out.1.trans (g4.mono HHD.out.1.size), (g4.block _ (lt_of_block HHD.out.2)).trans HHD.out.2⟩)
  have HZ2 := Lib.hid ((g4.block _ (lt_of_block HZ.out)).trans HZ.out)
  have HRW := Lib.hid g2
  have HNB := Lib.hid (show hb < bb from by have := lt_of_block HHD.out.2; omega)
  have HOL := Lib.hid g3
  have hfz := frozen_of_row Y2 hb 2 _ _ HHE.out.2
  have HH3 := Lib.hid (show (Y2.setCell ⟨hb, 2, none⟩ (.slice (some ⟨bb, 0, none⟩) N cc)).heap[hb]? = some (.cells #[.int .i64 (an : Int), .int .i64 (bn : Int), .slice (some ⟨bb, 0, none⟩) N cc, .int .i64 c, .int .i64 d, .bool q] 24 (0, 0)) from by rw [heap_setCell_same Y2 hb 2 _ _ _ HHE.out.2]; try rfl)
  have HZ3 := Lib.hid (show (Y2.setCell ⟨hb, 2, none⟩ (.slice (some ⟨bb, 0, none⟩) N cc)).heap[rb]? = some (.cells #[.int .i64 0, .int .i64 0, .slice none 0 0, .int .i64 0, .int .i64 0, .bool false] 24 (0, 0)) from by rw [heap_setCell_other Y2 _ _ _ (by have := HNE.out; first | omega | (simp; omega) | (simp; done))]; exact HZ2.out)
  have HR3 := Lib.hid (show RowAt (Y2.setCell ⟨hb, 2, none⟩ (.slice (some ⟨bb, 0, none⟩) N cc)) bb cc O from HRW.out.keep (heap_setCell_other Y2 _ _ _ (by have := HNB.out; first | omega | (simp; omega) | (simp; done))))
  have HB3 := Lib.hid (show Below w.heap.size w (Y2.setCell ⟨hb, 2, none⟩ (.slice (some ⟨bb, 0, none⟩) N cc)) from HHE.out.1.setCell (by show w.heap.size ≤ hb; have := HNE.out; have := HRB.out; omega) _)
  clear g1 g2 g3 g4 s0 s1 s2 s3 s4 s5 x0 x1 x2 x3 x4 x5 HHD HZ HV HBS
  obtain ⟨s0, s1, s2, s3, s4, s5⟩ := six_cells HHE.out.2
  go_upto_region 5 with fail
  generalize (Y2.setCell ⟨hb, 2, none⟩ (.slice (some ⟨bb, 0, none⟩) N cc)) = Y3 at HH3 HZ3 HR3 HB3 ⊢
  clear s0 s1 s2 s3 s4 s5 hfz HHE HZ2 HRW
  have HHD := Lib.hid (show Below w.heap.size w Y3.drew ∧ Y3.drew.heap[hb]? = some (.cells #[.int .i64 (an : Int), .int .i64 (bn : Int), .slice (some ⟨bb, 0, none⟩) N cc, .int .i64 c, .int .i64 d, .bool q] 24 (0, 0)) from ⟨HB3.out.drew, ((Below.refl Y3.heap.size Y3).drew.block _ (lt_of_block HH3.out)).trans HH3.out⟩)
  have HZ := Lib.hid (((Below.refl Y3.heap.size Y3).drew.block _ (lt_of_block HZ3.out)).trans HZ3.out)
  have HRD := Lib.hid (HR3.out.below (Below.refl Y3.heap.size Y3).drew)
  refine wp_region_held_drew (S := fun W => Below w.heap.size w W ∧ W.heap[hb]? = some (.cells #[.int .i64 (an : Int), .int .i64 (bn : Int), .slice (some ⟨bb, 0, none⟩) N cc, .int .i64 c, .int .i64 d, .bool q] 24 (0, 0))) (by kernel_rfl) HHD.out (fun hHeld => ?_)
  obtain ⟨Y, hY⟩ : ∃ Y, Y3.drew = Y := ⟨_, rfl⟩
  simp only [hY] at hHeld HHD HZ HRD ⊢
  clear hY HH3 HZ3 HR3 HB3
  refine wpAnyH_take (i := 0) (v := ?_) (by simp; rfl) (by kernel_rfl) (by kernel_rfl) (by kernel_rfl) (by exact fun _ _ _ h => h) (Or.inl ⟨by rfl, fun wx hSx => ?_⟩) hHeld ?_
  rotate_left
  · obtain ⟨s0, s1, s2, s3, s4, s5⟩ := six_cells hSx.2; clear hSx; go_simp; (try with_reducible rfl)
  simp only [Act.put, List.setIfInBounds_toArray, List.set_cons_zero, List.set_cons_succ]
  refine wpAnyH_take (i := 1) (v := ?_) (by simp; rfl) (by kernel_rfl) (by kernel_rfl) (by kernel_rfl) (by exact fun _ _ _ h => h) (Or.inl ⟨by rfl, fun wx hSx => ?_⟩) hHeld ?_
  rotate_left
  · obtain ⟨s0, s1, s2, s3, s4, s5⟩ := six_cells hSx.2; clear hSx; go_simp; (try with_reducible rfl)
  simp only [Act.put, List.setIfInBounds_toArray, List.set_cons_zero, List.set_cons_succ]
  refine wpAnyH_ready (rs := [2]) (by kernel_rfl) (by simp) ?_
  refine AllReadyH.cons (by simp; rfl) (fun K0 hK0 => ?_) AllReadyH.nil
  go_simp
  refine (p_viewright (cap := cc) HRD.out.cr HOL.out (by obtain ⟨_, _, _, h3, h4, _⟩ := HRD.out; have := HOL.out; unfold maxLen at h4; omega) HBO.out (an : Int) (bn : Int) c d q).mono ?_
  rintro e X ⟨rfl, hbX⟩
  have HX := Lib.hid (show Below w.heap.size w X ∧ X.heap[hb]? = _ from ⟨HHD.out.1.trans (hbX.mono HHD.out.1.size), (hbX.block _ (lt_of_block HHD.out.2)).trans HHD.out.2⟩)
  have HZX := Lib.hid ((hbX.block _ (lt_of_block HZ.out)).trans HZ.out)
  have HRX := Lib.hid (HRD.out.below hbX)
  clear hbX
  refine hK0.out _ _ HX.out (fun _ => ?_)
  clear hK0 K0 hHeld
  have hHeld := HX.out
  refine wpAnyH_ready (rs := [3]) (by kernel_rfl) (by simp) ?_
  refine AllReadyH.cons (by simp; rfl) (fun K0 hK0 => ?_) AllReadyH.nil
  have hrow := HZX.out
  refine step_store_row rfl 24 (.tmp 4) (.tmp 45) rfl rb #[.int .i64 (an : Int), .int .i64 (bn : Int), .slice (some ⟨bb, 0, none⟩) N cc, .int .i64 c, .int .i64 d, .bool q] rfl rfl 24 _ hrow info_view rfl (by simp [Value.oneCell']) ?_
  simp only [Act.put, List.setIfInBounds_toArray, List.set_cons_zero, List.set_cons_succ]
  have HE := Lib.hid (And.intro (setRow_heap _ _ _ #[.int .i64 (an : Int), .int .i64 (bn : Int), .slice (some ⟨bb, 0, none⟩) N cc, .int .i64 c, .int .i64 d, .bool q] _ _ hrow) (below_setRow HX.out.1 HRB.out.1 #[.int .i64 (an : Int), .int .i64 (bn : Int), .slice (some ⟨bb, 0, none⟩) N cc, .int .i64 c, .int .i64 d, .bool q]))
  have HS2 : Below w.heap.size w (X.setRow rb #[.int .i64 (an : Int), .int .i64 (bn : Int), .slice (some ⟨bb, 0, none⟩) N cc, .int .i64 c, .int .i64 d, .bool q]) ∧ (X.setRow rb #[.int .i64 (an : Int), .int .i64 (bn : Int), .slice (some ⟨bb, 0, none⟩) N cc, .int .i64 c, .int .i64 d, .bool q]).heap[hb]? = some (.cells #[.int .i64 (an : Int), .int .i64 (bn : Int), .slice (some ⟨bb, 0, none⟩) N cc, .int .i64 c, .int .i64 d, .bool q] 24 (0, 0)) := ⟨HE.out.2, ((grown_setRow X rb #[.int .i64 (an : Int), .int .i64 (bn : Int), .slice (some ⟨bb, 0, none⟩) N cc, .int .i64 c, .int .i64 d, .bool q]).block hb (lt_of_block HX.out.2) (by intro e; injection e with e; have := HNE.out; omega)).trans HX.out.2⟩
  refine hK0.out _ _ HS2 (fun _ => ?_)
  clear hK0 K0 hHeld hrow
  have hHeld := HS2
  refine wpAnyH_take (i := 4) (v := ?_) (by simp; rfl) (by kernel_rfl) (by kernel_rfl) (by kernel_rfl) (by exact fun _ _ _ h => h) (Or.inl ⟨by rfl, fun wx hSx => ?_⟩) hHeld ?_
  rotate_left
  · clear hSx; go_simp; (try with_reducible rfl)
  simp only [Act.put, List.setIfInBounds_toArray, List.set_cons_zero, List.set_cons_succ]
  refine wpAnyH_done (by kernel_rfl) ?_ _
  go_wp2
  have HFIN := Lib.hid (show w.heap.size ≤ bb ∧ RowAt (X.setRow rb #[.int .i64 (an : Int), .int .i64 (bn : Int), .slice (some ⟨bb, 0, none⟩) N cc, .int .i64 c, .int .i64 d, .bool q]) bb cc O ∧ O.length = N ∧ Below w.heap.size w (X.setRow rb #[.int .i64 (an : Int), .int .i64 (bn : Int), .slice (some ⟨bb, 0, none⟩) N cc, .int .i64 c, .int .i64 d, .bool q]) from ⟨by have := HRB.out; have := HNE.out; have := HNB.out; omega, HRX.out.grown (grown_setRow X rb #[.int .i64 (an : Int), .int .i64 (bn : Int), .slice (some ⟨bb, 0, none⟩) N cc, .int .i64 c, .int .i64 d, .bool q]) (by intro e; injection e with e; have := HNE.out; have := HNB.out; omega), HOL.out, HE.out.2⟩)
  refine bodyPost_ret (results_cell_tmp Tryd.results27 _ _ rb 24 #[.int .i64 (an : Int), .int .i64 (bn : Int), .slice (some ⟨bb, 0, none⟩) N cc, .int .i64 c, .int .i64 d, .bool q] (0, 0) _ (.bool (rightW (an : Int) (bn : Int) c d O)) rfl rfl HE.out.1 Tryd.underlying24 rfl info_view) rfl ?_
  refine ⟨bb, N, cc, ?_, HFIN.out⟩
  rfl
end Go.Proofs.YtjihcpnaebghnaaDoor
