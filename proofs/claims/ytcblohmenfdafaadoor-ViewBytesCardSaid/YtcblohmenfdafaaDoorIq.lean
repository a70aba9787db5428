/-
  Proved here: of the document's views: Read.
-/
import Derived.Test.YtcblohmenfdafaaDoorIp
import Derived.Test.YtcblohmenfdafaaDoorIl
set_option linter.unusedSimpArgs false
set_option linter.unusedVariables false
namespace Go.Proofs.YtcblohmenfdafaaDoor
open Go.RowKit
/-- What has been read of bytes, whether they are a view's or not. -/
structure YI (bs : List Int) (R C row col : Int) (vis : Bool) (p : Nat) (M : List Ce) : Prop where
  ok : ∀ c ∈ M, CeOk c
  ml : M.length ≤ 960
  le : p ≤ bs.length
  all : ∀ L, isView bs R C row col vis L → ∃ T, L = M ++ T ∧ (M = [] ∨ M.getLast? ≠ T.head?) ∧ p = 5 + (runsB 0 M).length
section
variable {bs : List Int} {R C row col : Int} {vis : Bool} {p : Nat} {M : List Ce}
theorem YI.start (h : 5 ≤ bs.length) : YI bs R C row col vis 5 [] := ⟨fun c hc => absurd hc (by simp), by simp, h, fun L _ => ⟨L, rfl, .inl rfl, by rw [runs_nil]; rfl⟩⟩
theorem YI.must (I : YI bs R C row col vis p M) (hp : p < bs.length) {L : List Ce} (hv : isView bs R C row col vis L) :
    ∃ n c T2, L = (M ++ rep n c) ++ T2 ∧ 1 ≤ n ∧ n ≤ 480 ∧ M.length ≤ 480 ∧ T2.head? ≠ some c ∧ (M = [] ∨ M.getLast? ≠ some c) ∧ getS bs (p : Int) = ((n : Int), ((p + szN n : Nat) : Int), 0) ∧ getC bs ((p + szN n : Nat) : Int) = (c, ((p + szN n + (cellB c).length : Nat) : Int), 0) ∧ p + szN n + (cellB c).length = 5 + (runsB 0 (M ++ rep n c)).length := by
  obtain ⟨T, rfl, hbd, hp5⟩ := I.all L hv
  obtain ⟨h1, h2, h3⟩ := hv
  have hl := (rightW_parts h1).2.2.2.1
  have hT : T ≠ [] := by
    intro e; subst e
    rw [List.append_nil] at h3
    have := congrArg List.length h3
    unfold viewB at this
    rw [List.length_append] at this
    simp at this
    omega
  unfold viewB at h3
  rw [runs_more hbd, ← List.append_assoc] at h3
  obtain ⟨n, c, T2, rfl, q1, q2, q3, q4, _⟩ := runs_read (pre := [R, C, row, col, if vis = true then 1 else 0] ++ runsB 0 M) hT (fun c hc => h2 c (by simp [hc])) (by simp at hl; omega) h3
  have hpl : ([R, C, row, col, if vis = true then (1 : Int) else 0] ++ runsB 0 M).length = p := by rw [List.length_append, hp5]; rfl
  rw [hpl] at q3 q4
  have hne : M = [] ∨ M.getLast? ≠ some c := by
    rcases hbd with h | h
    · exact .inl h
    · refine .inr ?_
      obtain ⟨m, rfl⟩ : ∃ m, n = m + 1 := ⟨n - 1, by omega⟩
      simpa [rep, List.replicate_succ] using h
  simp [rep] at hl
  refine ⟨n, c, T2, by simp, q1, by omega, by omega, q2, hne, q3, q4, ?_⟩
  rw [runs_push q1 hne, List.length_append, List.length_append, numB_length]
  omega
theorem YI.next (I : YI bs R C row col vis p M) (hB : Bytes bs) (hp : p < bs.length) {q j m : Int} {c : Ce} (hq : getS bs (p : Int) = (q, j, 0)) (h2 : q ≤ 480) (hm : M.length ≤ 480) (hc : getC bs j = (c, m, 0)) :
    ∃ k m' : Nat, q = k ∧ m = m' ∧ k ≤ 480 ∧ CeOk c ∧ p < m' ∧ m' ≤ bs.length ∧ YI bs R C row col vis m' (M ++ rep k c) := by
  have hq0 : (getS bs (p : Int)).2.2 = 0 := by rw [hq]
  obtain ⟨i1, i2, i3⟩ := getS_inv hB hq0
  have ok := getS_ok hB hq0
  rw [hq] at i1 i2 i3 ok
  dsimp only at i1 i2 i3 ok
  obtain ⟨k, rfl⟩ : ∃ k : Nat, q = k := ⟨q.toNat, by omega⟩
  have hj : j = ((p + szN k : Nat) : Int) := by rw [i1]; omega
  subst hj
  obtain ⟨o1, o2, o3, o4, o5⟩ := getC_ok hB hc
  have hmm : m = ((p + szN k + (cellB c).length : Nat) : Int) := by rw [o3]; omega
  have hz := szN_le (k : Int)
  refine ⟨k, _, rfl, hmm, by omega, o1, by omega, by omega, ?_, ?_, by omega, fun L hv => ?_⟩
  · intro x hx
    rcases List.mem_append.1 hx with h | h
    · exact I.ok x h
    · rw [List.eq_of_mem_replicate h]; exact o1
  · rw [List.length_append, rep_len]; omega
  · obtain ⟨n, c', T2, e1, e2, e3, e4, e5, e6, e7, e8, e9⟩ := I.must hp hv
    rw [hq] at e7
    have hnk : k = n := by have := congrArg Prod.fst e7; dsimp only at this; omega
    subst hnk
    rw [hc] at e8
    have hcc : c = c' := congrArg Prod.fst e8
    subst hcc
    refine ⟨T2, e1, .inr ?_, e9⟩
    obtain ⟨m, rfl⟩ : ∃ m, k = m + 1 := ⟨k - 1, by omega⟩
    have : (M ++ rep (m + 1) c).getLast? = some c := by simp [rep, List.replicate_succ', ← List.append_assoc]
    rw [this]
    exact fun e => e5 e.symm
theorem YI.no (I : YI bs R C row col vis p M) (hp : p < bs.length) (bad : (getS bs (p : Int)).2.2 ≠ 0 ∨ 480 < (getS bs (p : Int)).1 ∨ 480 < M.length) (L : List Ce) (hv : isView bs R C row col vis L) : False := by
  obtain ⟨n, c, T2, e1, e2, e3, e4, e5, e6, e7, e8, e9⟩ := I.must hp hv
  rw [e7] at bad
  dsimp only at bad
  omega
theorem YI.no2 (I : YI bs R C row col vis p M) (hp : p < bs.length) {q j z : Int} (hq : getS bs (p : Int) = (q, j, z)) (bad : (getC bs j).2.2 ≠ 0) (L : List Ce) (hv : isView bs R C row col vis L) : False := by
  obtain ⟨n, c, T2, e1, e2, e3, e4, e5, e6, e7, e8, e9⟩ := I.must hp hv
  rw [hq] at e7
  have hj : j = ((p + szN n : Nat) : Int) := congrArg (fun x => x.2.1) e7
  rw [hj, e8] at bad
  exact bad rfl
theorem YI.end_ (I : YI bs R C row col vis p M) (hp : p = bs.length) (L : List Ce) (hv : isView bs R C row col vis L) : L = M := by
  obtain ⟨T, rfl, hbd, hp5⟩ := I.all L hv
  obtain ⟨h1, h2, h3⟩ := hv
  have hl := (rightW_parts h1).2.2.2.1
  cases T with
  | nil => simp
  | cons c T =>
    exfalso
    unfold viewB at h3
    rw [runs_more hbd] at h3
    obtain ⟨n, T2, e1, e2, e3, e4⟩ := runs_first T 0 c
    have := congrArg List.length h3
    rw [List.length_append, List.length_append, e4, List.length_append, List.length_append, numB_length] at this
    have hz := szN_le ((0 + n : Nat) : Int)
    simp only [List.length_cons, List.length_nil] at this
    omega
end
/-- What the document's Read answers. -/
def RdY (bs : List Int) (w : World) (e : Ending) (w' : World) : Prop :=
  (∃ R C row col vis L A1 n1 c1, isView bs R C row col vis L ∧ e = .returned (.tuple #[.agg #[.int .i64 R, .int .i64 C, .slice A1 n1 c1, .int .i64 row, .int .i64 col, .bool vis], .bool true]) ∧ n1 = L.length ∧ CY w' A1 L ∧ Below w.heap.size w w') ∨
  ((∀ R C row col vis L, ¬ isView bs R C row col vis L) ∧ e = .returned (.tuple #[.agg #[.int .i64 0, .int .i64 0, .slice none 0 0, .int .i64 0, .int .i64 0, .bool false], .bool false]) ∧ Below w.heap.size w w')
theorem isView_all {bs : List Int} {R C row col x : Int} {vis : Bool} (h0 : bs.getD 0 0 = R) (h1 : bs.getD 1 0 = C) (h2 : bs.getD 2 0 = row) (h3 : bs.getD 3 0 = col) (h4 : bs.getD 4 0 = x) (hx : x = if vis = true then 1 else 0)
    (h : ∀ L, ¬ isView bs R C row col vis L) : ∀ R C row col vis L, ¬ isView bs R C row col vis L := by
  intro R2 C2 row2 col2 vis2 L hv
  obtain ⟨_, a1, a2, a3, a4, a5, _⟩ := isView_head hv
  rw [h0] at a1; rw [h1] at a2; rw [h2] at a3; rw [h3] at a4; rw [h4, hx] at a5
  subst a1 a2 a3 a4
  have : vis2 = vis := by cases vis <;> cases vis2 <;> simp at a5 ⊢
  subst this
  exact h L hv
set_option maxRecDepth 100000 in
set_option maxHeartbeats 64000000 in
theorem r_viewread {w : World} {A : Option Addr} {bs : List Int} {n cap : Nat} (hR : RB w w.heap.size A bs) (hl : bs.length = n) (hn : n ≤ 100000) (hB : Bytes bs) :
    Calls Tryd.prog 11 #[.slice A n cap] w (RdY bs w) := by
  have HB0 := (Below.refl w.heap.size w).alloc (Nat.le_refl _) (.cells #[.int .i64 0, .int .i64 0, .slice none 0 0, .int .i64 0, .int .i64 0, .bool false] 31)
  have HC0 := heap_alloc_new w (.cells #[.int .i64 0, .int .i64 0, .slice none 0 0, .int .i64 0, .int .i64 0, .bool false] 31)
  obtain ⟨rb, hrb⟩ : ∃ r, w.heap.size = r := ⟨_, rfl⟩
  have HRB := Lib.hid (show w.heap.size ≤ rb by omega)
  have HB := Lib.hid hB
  have HL := Lib.hid hl
  have HN := Lib.hid hn
  have HRI := Lib.hid (show RI .u8 w A bs from hR)
  have HGT := Lib.hid (fun (W : World) (hb : Below w.heap.size w W) (p : Int) (r : Int × Int × Int) (hr : getS bs p = r) => hr ▸ rget_in hR hl hn hB hb cap p)
  have HGC := Lib.hid (fun (W : World) (hb : Below w.heap.size w W) (p : Int) => r_getcell (p := p) (cap := cap) ((hR.below hb).keep' hb.size) hl hn hB)
  by_cases h5 : n < 5
  · have HNO := Lib.hid (show ∀ R C row col vis L, ¬ isView bs R C row col vis L from fun R C row col vis L hv => by
      have := (isView_head hv).1
      unfold headR at this
      rw [Bool.and_eq_true] at this
      have := of_decide_eq_true this.1
      omega)
    have d1 : decide ((n : Int) < 5) = true := by simp; omega
    have d1' : decide (n < 5) = true := by simp; omega
    clear hR hl hn hB h5
    go_enter Tryd.func11, Tryd.ntmps11
    go_upto_region 1 with fail
    simp only [hrb] at HC0 ⊢
    generalize (w.alloc (.cells #[.int .i64 0, .int .i64 0, .slice none 0 0, .int .i64 0, .int .i64 0, .bool false] 31)) = U at HB0 HC0 ⊢
    have HVB := Lib.hid HB0
    have HZR := Lib.hid HC0
    clear HB0 HC0 hrb
    go_wp2_with (refine wpList_store_row rfl 31 (.tmp 2) (.tmp 22) rfl rb #[.int .i64 0, .int .i64 0, .slice none 0 0, .int .i64 0, .int .i64 0, .bool false] rfl rfl 31 _ HZR.out info_wview rfl (by simp [Value.oneCell']) ?_)
    exact bodyPost_ret (results_cell_tmp Tryd.results11 _ _ rb 31 #[.int .i64 0, .int .i64 0, .slice none 0 0, .int .i64 0, .int .i64 0, .bool false] (0, 0) _ (.bool false) rfl rfl (setRow_heap _ _ _ #[.int .i64 0, .int .i64 0, .slice none 0 0, .int .i64 0, .int .i64 0, .bool false] _ _ HZR.out) Tryd.underlying31 rfl info_wview) rfl (.inr ⟨HNO.out, rfl, below_setRow HVB.out HRB.out #[.int .i64 0, .int .i64 0, .slice none 0 0, .int .i64 0, .int .i64 0, .bool false]⟩)
  have d1 : decide ((n : Int) < 5) = false := by simp; omega
  have d1' : decide (n < 5) = false := by simp; omega
  obtain ⟨R, h0⟩ : ∃ x, bs.getD 0 0 = x := ⟨_, rfl⟩
  obtain ⟨C, h1⟩ : ∃ x, bs.getD 1 0 = x := ⟨_, rfl⟩
  obtain ⟨row, h2⟩ : ∃ x, bs.getD 2 0 = x := ⟨_, rfl⟩
  obtain ⟨col, h3⟩ : ∃ x, bs.getD 3 0 = x := ⟨_, rfl⟩
  obtain ⟨x, h4⟩ : ∃ x, bs.getD 4 0 = x := ⟨_, rfl⟩
  obtain ⟨bb, off, rfl, hbl, hc⟩ := hR (by omega)
  have HBY0 := Lib.hid (fun (W : World) (hW : Below w.heap.size w W) =>
    (show W.cell? ⟨bb, off, none⟩ = some (.int .u8 R) ∧ W.cell? ⟨bb, off + 1, none⟩ = some (.int .u8 C) ∧ W.cell? ⟨bb, off + 2, none⟩ = some (.int .u8 row) ∧ W.cell? ⟨bb, off + 3, none⟩ = some (.int .u8 col) ∧ W.cell? ⟨bb, off + 4, none⟩ = some (.int .u8 x) from
      ⟨(hW.cell (p := ⟨bb, off + 0, none⟩) hbl).trans (h0 ▸ hc 0 (by omega)), (hW.cell (p := ⟨bb, off + 1, none⟩) hbl).trans (h1 ▸ hc 1 (by omega)), (hW.cell (p := ⟨bb, off + 2, none⟩) hbl).trans (h2 ▸ hc 2 (by omega)), (hW.cell (p := ⟨bb, off + 3, none⟩) hbl).trans (h3 ▸ hc 3 (by omega)), (hW.cell (p := ⟨bb, off + 4, none⟩) hbl).trans (h4 ▸ hc 4 (by omega))⟩))
  have g0' : 0 < n := by omega
  have g1' : 1 < n := by omega
  have g2' : 2 < n := by omega
  have g3' : 3 < n := by omega
  have g4' : 4 < n := by omega
  have g0 : (0 : Int) < (n : Int) := by omega
  have g1 : (1 : Int) < (n : Int) := by omega
  have g2 : (2 : Int) < (n : Int) := by omega
  have g3 : (3 : Int) < (n : Int) := by omega
  have g4 : (4 : Int) < (n : Int) := by omega
  by_cases hx1 : 1 < x
  · have HNO := Lib.hid (show ∀ R C row col vis L, ¬ isView bs R C row col vis L from fun R C row col vis L hv => by
      have := (isView_head hv).1
      unfold headR at this
      rw [Bool.and_eq_true] at this
      have := of_decide_eq_true this.2
      omega)
    have d2 : decide (1 < x) = true := by simpa using hx1
    have d2' : decide (x > 1) = true := d2
    obtain ⟨b0, b1, b2, b3, b4⟩ := HBY0.out _ HB0
    clear hl hn hB h5 hc hbl h0 h1 h2 h3 h4 hx1
    go_enter Tryd.func11, Tryd.ntmps11
    go_upto_region 1 with fail
    simp only [hrb] at HC0 ⊢
    generalize (w.alloc (.cells #[.int .i64 0, .int .i64 0, .slice none 0 0, .int .i64 0, .int .i64 0, .bool false] 31)) = U at HB0 HC0 b0 b1 b2 b3 b4 ⊢
    have HVB := Lib.hid HB0
    have HZR := Lib.hid HC0
    clear HB0 HC0 hrb
    go_wp2_with (refine wpList_store_row rfl 31 (.tmp 2) (.tmp 22) rfl rb #[.int .i64 0, .int .i64 0, .slice none 0 0, .int .i64 0, .int .i64 0, .bool false] rfl rfl 31 _ HZR.out info_wview rfl (by simp [Value.oneCell']) ?_)
    exact bodyPost_ret (results_cell_tmp Tryd.results11 _ _ rb 31 #[.int .i64 0, .int .i64 0, .slice none 0 0, .int .i64 0, .int .i64 0, .bool false] (0, 0) _ (.bool false) rfl rfl (setRow_heap _ _ _ #[.int .i64 0, .int .i64 0, .slice none 0 0, .int .i64 0, .int .i64 0, .bool false] _ _ HZR.out) Tryd.underlying31 rfl info_wview) rfl (.inr ⟨HNO.out, rfl, below_setRow HVB.out HRB.out #[.int .i64 0, .int .i64 0, .slice none 0 0, .int .i64 0, .int .i64 0, .bool false]⟩)
  have d2 : decide (1 < x) = false := by simpa using hx1
  have d2' : decide (x > 1) = false := d2
  obtain ⟨vis, hvis⟩ : ∃ q, (x == 1) = q := ⟨_, rfl⟩
  have e0 := hB 0; have e1 := hB 1; have e2 := hB 2; have e3 := hB 3; have e4 := hB 4
  rw [h0] at e0; rw [h1] at e1; rw [h2] at e2; rw [h3] at e3; rw [h4] at e4
  have hx4 : x = if vis = true then 1 else 0 := by
    rw [← hvis]
    by_cases hx : x = 1
    · simp [hx]
    · rw [if_neg (by simpa using hx)]; omega
  have u0 : IntKind.i64.wrap R = R := IntWalk.i64_in _ (by omega)
  have u1 : IntKind.i64.wrap C = C := IntWalk.i64_in _ (by omega)
  have u2 : IntKind.i64.wrap row = row := IntWalk.i64_in _ (by omega)
  have u3 : IntKind.i64.wrap col = col := IntWalk.i64_in _ (by omega)
  have HNV := Lib.hid (fun (h : ∀ L, ¬ isView bs R C row col vis L) => isView_all h0 h1 h2 h3 h4 hx4 h)
  have H5 := Lib.hid (show 5 ≤ bs.length by omega)
  clear hl hn hB h5 hc hbl h0 h1 h2 h3 h4 hx1 e0 e1 e2 e3 e4 hx4
  go_enter Tryd.func11, Tryd.ntmps11
  go_upto_region 1 with fail
  simp only [hrb] at HC0 ⊢
  generalize (w.alloc (.cells #[.int .i64 0, .int .i64 0, .slice none 0 0, .int .i64 0, .int .i64 0, .bool false] 31)) = U at HB0 HC0 ⊢
  have HU := Lib.hid HB0
  have HZ0 := Lib.hid HC0
  clear HB0 HC0 hrb
  obtain ⟨b0, b1, b2, b3, b4⟩ := HBY0.out U HU.out
  go_upto_region 3 with fail
  clear b0 b1 b2 b3 b4
  refine wp_region_held_drew (S := fun W => Below U.drew.heap.size U.drew W) (by kernel_rfl) (Below.refl _ _) (fun hHeld => ?_)
  have HD0 := Lib.hid (Below.refl U.heap.size U).drew
  obtain ⟨D0, hD0⟩ : ∃ D, U.drew = D := ⟨_, rfl⟩
  simp only [hD0] at hHeld HD0 ⊢
  clear hD0
  have HD := Lib.hid (Below.refl D0.heap.size D0)
  have HBY := Lib.hid (fun (W : World) (hW : Below D0.heap.size D0 W) => HBY0.out W (HU.out.trans ((HD0.out.trans (hW.mono HD0.out.size)).mono HU.out.size)))
  refine wpAnyH_take (i := 0) (v := ?_) (by simp; rfl) (by kernel_rfl) (by kernel_rfl) (by kernel_rfl) (by exact fun _ _ _ h => h) (Or.inl ⟨by rfl, fun wx hSx => ?_⟩) hHeld ?_
  rotate_left
  · clear hSx; go_simp; (try with_reducible rfl)
  simp only [Act.put, List.setIfInBounds_toArray, List.set_cons_zero, List.set_cons_succ]
  refine wpAnyH_take (i := 1) (v := ?_) (by simp; rfl) (by kernel_rfl) (by kernel_rfl) (by kernel_rfl) (by exact fun _ _ _ h => h) (Or.inl ⟨by rfl, fun wx hSx => ?_⟩) hHeld ?_
  rotate_left
  · clear hSx; go_simp; (try with_reducible rfl)
  simp only [Act.put, List.setIfInBounds_toArray, List.set_cons_zero, List.set_cons_succ]
  refine wpAnyH_take (i := 2) (v := ?_) (by simp; rfl) (by kernel_rfl) (by kernel_rfl) (by kernel_rfl) (by exact fun _ _ _ h => h) (Or.inl ⟨by rfl, fun wx hSx => ?_⟩) hHeld ?_
  rotate_left
  · have q := HBY.out wx hSx; obtain ⟨b0, b1, b2, b3, b4⟩ := q; clear hSx; go_simp; (try with_reducible rfl)
  simp only [Act.put, List.setIfInBounds_toArray, List.set_cons_zero, List.set_cons_succ]
  refine wpAnyH_take (i := 3) (v := ?_) (by simp; rfl) (by kernel_rfl) (by kernel_rfl) (by kernel_rfl) (by exact fun _ _ _ h => h) (Or.inl ⟨by rfl, fun wx hSx => ?_⟩) hHeld ?_
  rotate_left
  · clear hSx; go_simp; (try with_reducible rfl)
  simp only [Act.put, List.setIfInBounds_toArray, List.set_cons_zero, List.set_cons_succ]
  refine wpAnyH_take (i := 4) (v := ?_) (by simp; rfl) (by kernel_rfl) (by kernel_rfl) (by kernel_rfl) (by exact fun _ _ _ h => h) (Or.inl ⟨by rfl, fun wx hSx => ?_⟩) hHeld ?_
  rotate_left
  · clear hSx; go_simp; (try with_reducible rfl)
  simp only [Act.put, List.setIfInBounds_toArray, List.set_cons_zero, List.set_cons_succ]
  refine wpAnyH_take (i := 5) (v := ?_) (by simp; rfl) (by kernel_rfl) (by kernel_rfl) (by kernel_rfl) (by exact fun _ _ _ h => h) (Or.inl ⟨by rfl, fun wx hSx => ?_⟩) hHeld ?_
  rotate_left
  · clear hSx; go_simp; (try with_reducible rfl)
  simp only [Act.put, List.setIfInBounds_toArray, List.set_cons_zero, List.set_cons_succ]
  refine wpAnyH_take (i := 6) (v := ?_) (by simp; rfl) (by kernel_rfl) (by kernel_rfl) (by kernel_rfl) (by exact fun _ _ _ h => h) (Or.inl ⟨by rfl, fun wx hSx => ?_⟩) hHeld ?_
  rotate_left
  · have q := HBY.out wx hSx; obtain ⟨b0, b1, b2, b3, b4⟩ := q; clear hSx; go_simp; (try with_reducible rfl)
  simp only [Act.put, List.setIfInBounds_toArray, List.set_cons_zero, List.set_cons_succ]
  refine wpAnyH_take (i := 7) (v := ?_) (by simp; rfl) (by kernel_rfl) (by kernel_rfl) (by kernel_rfl) (by exact fun _ _ _ h => h) (Or.inl ⟨by rfl, fun wx hSx => ?_⟩) hHeld ?_
  rotate_left
  · clear hSx; go_simp; (try with_reducible rfl)
  simp only [Act.put, List.setIfInBounds_toArray, List.set_cons_zero, List.set_cons_succ]
  refine wpAnyH_take (i := 8) (v := ?_) (by simp; rfl) (by kernel_rfl) (by kernel_rfl) (by kernel_rfl) (by exact fun _ _ _ h => h) (Or.inl ⟨by rfl, fun wx hSx => ?_⟩) hHeld ?_
  rotate_left
  · clear hSx; go_simp; (try with_reducible rfl)
  simp only [Act.put, List.setIfInBounds_toArray, List.set_cons_zero, List.set_cons_succ]
  refine wpAnyH_take (i := 9) (v := ?_) (by simp; rfl) (by kernel_rfl) (by kernel_rfl) (by kernel_rfl) (by exact fun _ _ _ h => h) (Or.inl ⟨by rfl, fun wx hSx => ?_⟩) hHeld ?_
  rotate_left
  · clear hSx; go_simp; (try with_reducible rfl)
  simp only [Act.put, List.setIfInBounds_toArray, List.set_cons_zero, List.set_cons_succ]
  refine wpAnyH_take (i := 10) (v := ?_) (by simp; rfl) (by kernel_rfl) (by kernel_rfl) (by kernel_rfl) (by exact fun _ _ _ h => h) (Or.inl ⟨by rfl, fun wx hSx => ?_⟩) hHeld ?_
  rotate_left
  · clear hSx; go_simp; (try with_reducible rfl)
  simp only [Act.put, List.setIfInBounds_toArray, List.set_cons_zero, List.set_cons_succ]
  refine wpAnyH_take (i := 11) (v := ?_) (by simp; rfl) (by kernel_rfl) (by kernel_rfl) (by kernel_rfl) (by exact fun _ _ _ h => h) (Or.inl ⟨by rfl, fun wx hSx => ?_⟩) hHeld ?_
  rotate_left
  · have q := HBY.out wx hSx; obtain ⟨b0, b1, b2, b3, b4⟩ := q; clear hSx; go_simp; (try with_reducible rfl)
  simp only [Act.put, List.setIfInBounds_toArray, List.set_cons_zero, List.set_cons_succ]
  refine wpAnyH_take (i := 12) (v := ?_) (by simp; rfl) (by kernel_rfl) (by kernel_rfl) (by kernel_rfl) (by exact fun _ _ _ h => h) (Or.inl ⟨by rfl, fun wx hSx => ?_⟩) hHeld ?_
  rotate_left
  · clear hSx; go_simp; (try with_reducible rfl)
  simp only [Act.put, List.setIfInBounds_toArray, List.set_cons_zero, List.set_cons_succ]
  refine wpAnyH_take (i := 13) (v := ?_) (by simp; rfl) (by kernel_rfl) (by kernel_rfl) (by kernel_rfl) (by exact fun _ _ _ h => h) (Or.inl ⟨by rfl, fun wx hSx => ?_⟩) hHeld ?_
  rotate_left
  · clear hSx; go_simp; (try with_reducible rfl)
  simp only [Act.put, List.setIfInBounds_toArray, List.set_cons_zero, List.set_cons_succ]
  refine wpAnyH_take (i := 14) (v := ?_) (by simp; rfl) (by kernel_rfl) (by kernel_rfl) (by kernel_rfl) (by exact fun _ _ _ h => h) (Or.inl ⟨by rfl, fun wx hSx => ?_⟩) hHeld ?_
  rotate_left
  · clear hSx; go_simp; (try with_reducible rfl)
  simp only [Act.put, List.setIfInBounds_toArray, List.set_cons_zero, List.set_cons_succ]
  refine wpAnyH_take (i := 15) (v := ?_) (by simp; rfl) (by kernel_rfl) (by kernel_rfl) (by kernel_rfl) (by exact fun _ _ _ h => h) (Or.inl ⟨by rfl, fun wx hSx => ?_⟩) hHeld ?_
  rotate_left
  · have q := HBY.out wx hSx; obtain ⟨b0, b1, b2, b3, b4⟩ := q; clear hSx; go_simp; (try with_reducible rfl)
  simp only [Act.put, List.setIfInBounds_toArray, List.set_cons_zero, List.set_cons_succ]
  refine wpAnyH_take (i := 16) (v := ?_) (by simp; rfl) (by kernel_rfl) (by kernel_rfl) (by kernel_rfl) (by exact fun _ _ _ h => h) (Or.inl ⟨by rfl, fun wx hSx => ?_⟩) hHeld ?_
  rotate_left
  · clear hSx; go_simp; (try with_reducible rfl)
  simp only [Act.put, List.setIfInBounds_toArray, List.set_cons_zero, List.set_cons_succ]
  refine wpAnyH_take (i := 17) (v := ?_) (by simp; rfl) (by kernel_rfl) (by kernel_rfl) (by kernel_rfl) (by exact fun _ _ _ h => h) (Or.inl ⟨by rfl, fun wx hSx => ?_⟩) hHeld ?_
  rotate_left
  · clear hSx; go_simp; (try with_reducible rfl)
  simp only [Act.put, List.setIfInBounds_toArray, List.set_cons_zero, List.set_cons_succ]
  refine wpAnyH_take (i := 18) (v := ?_) (by simp; rfl) (by kernel_rfl) (by kernel_rfl) (by kernel_rfl) (by exact fun _ _ _ h => h) (Or.inl ⟨by rfl, fun wx hSx => ?_⟩) hHeld ?_
  rotate_left
  · clear hSx; go_simp; (try with_reducible rfl)
  simp only [Act.put, List.setIfInBounds_toArray, List.set_cons_zero, List.set_cons_succ]
  refine wpAnyH_take (i := 19) (v := ?_) (by simp; rfl) (by kernel_rfl) (by kernel_rfl) (by kernel_rfl) (by exact fun _ _ _ h => h) (Or.inl ⟨by rfl, fun wx hSx => ?_⟩) hHeld ?_
  rotate_left
  · have q := HBY.out wx hSx; obtain ⟨b0, b1, b2, b3, b4⟩ := q; clear hSx; go_simp; (try with_reducible rfl)
  simp only [Act.put, List.setIfInBounds_toArray, List.set_cons_zero, List.set_cons_succ]
  refine wpAnyH_take (i := 20) (v := ?_) (by simp; rfl) (by kernel_rfl) (by kernel_rfl) (by kernel_rfl) (by exact fun _ _ _ h => h) (Or.inl ⟨by rfl, fun wx hSx => ?_⟩) hHeld ?_
  rotate_left
  · clear hSx; go_simp; (try with_reducible rfl)
  simp only [Act.put, List.setIfInBounds_toArray, List.set_cons_zero, List.set_cons_succ]
  refine wpAnyH_take (i := 21) (v := ?_) (by simp; rfl) (by kernel_rfl) (by kernel_rfl) (by kernel_rfl) (by exact fun _ _ _ h => h) (Or.inl ⟨by rfl, fun wx hSx => ?_⟩) hHeld ?_
  rotate_left
  · clear hSx; go_simp; (try with_reducible rfl)
  simp only [Act.put, List.setIfInBounds_toArray, List.set_cons_zero, List.set_cons_succ]
  refine wpAnyH_ready (rs := [22]) (by kernel_rfl) (by simp) ?_
  refine AllReadyH.cons (by simp; rfl) (fun K0 hK0 => ?_) AllReadyH.nil
  go_simp
  have hbV : Below D0.heap.size D0 (D0.alloc (.cells #[.int .i64 0, .int .i64 0, .slice none 0 0, .int .i64 0, .int .i64 0, .bool false] 31)) := (Below.refl _ _).alloc (Nat.le_refl _) _
  have HV := Lib.hid (heap_alloc_new D0 (.cells #[.int .i64 0, .int .i64 0, .slice none 0 0, .int .i64 0, .int .i64 0, .bool false] 31))
  have hle := HD.out.size
  have HB2 := Lib.hid (HD.out.trans (hbV.mono HD.out.size))
  clear HD hbV
  have HD := HB2
  clear HB2
  obtain ⟨hb, hhb⟩ : ∃ g, D0.heap.size = g := ⟨_, rfl⟩
  have HLE := Lib.hid (show D0.heap.size ≤ hb from by rw [← hhb]; exact hle)
  rw [hhb] at HV ⊢
  clear hhb hle
  generalize (D0.alloc (.cells #[.int .i64 0, .int .i64 0, .slice none 0 0, .int .i64 0, .int .i64 0, .bool false] 31)) = V at HV HD ⊢
  refine hK0.out _ _ HD.out (fun _ => ?_)
  clear hK0 K0 hHeld
  have hHeld := HD.out
  refine wpAnyH_ready (rs := [23]) (by kernel_rfl) (by simp) ?_
  refine AllReadyH.cons (by simp; rfl) (fun K0 hK0 => ?_) AllReadyH.nil
  have hrow := HV.out
  refine step_store_row rfl 31 (.tmp 4) (.tmp 44) rfl hb #[.int .i64 R, .int .i64 C, .slice none 0 0, .int .i64 row, .int .i64 col, .bool vis] rfl rfl 31 _ hrow info_wview rfl (by simp [Value.oneCell']) ?_
  simp only [Act.put, List.setIfInBounds_toArray, List.set_cons_zero, List.set_cons_succ]
  have HSB := below_setRow HD.out HLE.out #[.int .i64 R, .int .i64 C, .slice none 0 0, .int .i64 row, .int .i64 col, .bool vis]
  have HEND := Lib.hid (And.intro (setRow_heap _ _ _ #[.int .i64 R, .int .i64 C, .slice none 0 0, .int .i64 row, .int .i64 col, .bool vis] _ _ hrow) HSB)
  refine hK0.out _ _ HSB (fun _ => ?_)
  clear hK0 K0 hHeld hrow HV
  have hHeld := HSB
  refine wpAnyH_done (by kernel_rfl) ?_ _
  have HV0 : Hid (VY U hb R C row col vis [] (.slice none 0 0) (V.setRow hb #[.int .i64 R, .int .i64 C, .slice none 0 0, .int .i64 row, .int .i64 col, .bool vis])) := Lib.hid ⟨HEND.out.1, World.ownsRow_nil _ _ _ _, HD0.out.trans (HEND.out.2.mono HD0.out.size), Nat.le_trans HD0.out.size HLE.out⟩
  generalize (V.setRow hb #[.int .i64 R, .int .i64 C, .slice none 0 0, .int .i64 row, .int .i64 col, .bool vis]) = V1 at HV0 ⊢
  clear hHeld HD HBY HBY0 HEND HLE HD0 g0 g1 g2 g3 g4 g0' g1' g2' g3' g4'
  have HI0 : Hid (YI bs R C row col vis 5 []) := Lib.hid (YI.start H5.out)
  have HZRF := Lib.hid (fun (W : World) (hW : Below U.heap.size U W) => (hW.block _ (lt_of_block HZ0.out)).trans HZ0.out)
  have HRL := Lib.hid (lt_of_block HZ0.out)
  go_wp2
  go_loopw [5] (fun pv wr => ∃ (p0 : Nat) (M : List Ce) (A1 : Option Addr) (n1 c1 : Nat), pv = .int .i64 p0 ∧ Hid (VY U hb R C row col vis M (.slice A1 n1 c1) wr) ∧ Hid (YI bs R C row col vis p0 M) ∧ Hid (M.length = n1)) (fun pv _ => n - (intOf pv).toNat)
  case atStart => exact ⟨5, [], none, 0, 0, rfl, HV0, HI0, Lib.hid rfl⟩
  case round =>
    obtain ⟨p0, M, A1, n1, c1, rfl, HVY, HI, HNL⟩ := hrel
    clear HV0 HI0
    have HVB := Lib.hid (HU.out.trans (HVY.out.below.mono HU.out.size))
    have HML := Lib.hid (show n1 ≤ 960 from by have := HI.out.ml; have := HNL.out; omega)
    by_cases hp : p0 < n
    · have e1 : decide ((p0 : Int) < (n : Int)) = true := by simp; omega
      have e1' : decide (p0 < n) = true := by simp; omega
      have HP := Lib.hid (show p0 < bs.length by rw [HL.out]; exact hp)
      have HZR := Lib.hid (HZRF.out _ HVY.out.below)
      obtain ⟨⟨q, j, z⟩, hq⟩ : ∃ r, getS bs (p0 : Int) = r := ⟨_, rfl⟩
      have HQ := Lib.hid hq
      have HG := Lib.hid (fun (W : World) (hb : Below w.heap.size w W) => HGT.out W hb (p0 : Int) _ hq)
      obtain ⟨s0, s1, s2, s3, s4, s5⟩ := six_cells HVY.out.blk
      clear hq hp
      go_wp2_with fail
      refine (HG.out _ HVB.out).mono ?_
      rintro e wx ⟨rfl, rfl⟩
      clear HG
      by_cases hz : z = 0
      · subst hz
        have hq0 : 0 ≤ q := by
          have := getS_ok HB.out (p := p0) (by rw [HQ.out])
          rw [HQ.out] at this
          exact this.1
        by_cases hq1 : 480 < q
        · have e2 : decide (480 < q) = true := by simpa using hq1
          have e2' : decide (q > 480) = true := e2
          have HNO := Lib.hid (HNV.out (fun L hv => HI.out.no HP.out (by rw [HQ.out]; exact .inr (.inl hq1)) L hv))
          clear hq1 hq0
          go_wp2_with (refine wpList_store_row rfl 31 (.tmp 2) (.tmp 69) rfl rb #[.int .i64 0, .int .i64 0, .slice none 0 0, .int .i64 0, .int .i64 0, .bool false] rfl rfl 31 _ HZR.out info_wview rfl (by simp [Value.oneCell']) ?_)
          exact bodyPost_ret (results_cell_tmp Tryd.results11 _ _ rb 31 #[.int .i64 0, .int .i64 0, .slice none 0 0, .int .i64 0, .int .i64 0, .bool false] (0, 0) _ (.bool false) rfl rfl (setRow_heap _ _ _ #[.int .i64 0, .int .i64 0, .slice none 0 0, .int .i64 0, .int .i64 0, .bool false] _ _ HZR.out) Tryd.underlying31 rfl info_wview) rfl (.inr ⟨HNO.out, rfl, below_setRow HVB.out HRB.out #[.int .i64 0, .int .i64 0, .slice none 0 0, .int .i64 0, .int .i64 0, .bool false]⟩)
        have e2 : decide (480 < q) = false := by simpa using hq1
        have e2' : decide (q > 480) = false := e2
        by_cases hm1 : 480 < n1
        · have e3 : decide ((480 : Int) < (n1 : Int)) = true := by simp; omega
          have e3' : decide (480 < n1) = true := by simp; omega
          have e3'' : decide ((n1 : Int) > 480) = true := e3
          have HNO := Lib.hid (HNV.out (fun L hv => HI.out.no HP.out (.inr (.inr (by rw [HNL.out]; exact hm1))) L hv))
          clear hq1 hq0 hm1
          go_wp2_with (refine wpList_store_row rfl 31 (.tmp 2) (.tmp 69) rfl rb #[.int .i64 0, .int .i64 0, .slice none 0 0, .int .i64 0, .int .i64 0, .bool false] rfl rfl 31 _ HZR.out info_wview rfl (by simp [Value.oneCell']) ?_)
          exact bodyPost_ret (results_cell_tmp Tryd.results11 _ _ rb 31 #[.int .i64 0, .int .i64 0, .slice none 0 0, .int .i64 0, .int .i64 0, .bool false] (0, 0) _ (.bool false) rfl rfl (setRow_heap _ _ _ #[.int .i64 0, .int .i64 0, .slice none 0 0, .int .i64 0, .int .i64 0, .bool false] _ _ HZR.out) Tryd.underlying31 rfl info_wview) rfl (.inr ⟨HNO.out, rfl, below_setRow HVB.out HRB.out #[.int .i64 0, .int .i64 0, .slice none 0 0, .int .i64 0, .int .i64 0, .bool false]⟩)
        have e3 : decide ((480 : Int) < (n1 : Int)) = false := by simp; omega
        have e3' : decide (480 < n1) = false := by simp; omega
        have e3'' : decide ((n1 : Int) > 480) = false := e3
        have HQ4 := Lib.hid (show q ≤ 480 ∧ n1 ≤ 480 from ⟨by omega, by omega⟩)
        obtain ⟨⟨c, m, z2⟩, hc⟩ : ∃ r, getC bs j = r := ⟨_, rfl⟩
        have HCQ := Lib.hid hc
        obtain ⟨p, f, gg, bb⟩ := c
        obtain ⟨f0, f1, f2, f3, f4, f5, f6, f7, hf⟩ := eight (ofF_len 8 f)
        obtain ⟨ey, _⟩ := yV_st (p := p) (gg := gg) (bb := bb) hf
        have HYC := Lib.hid (fun (_ : Unit) => show (yC ⟨p, f, gg, bb⟩).toArray = (#[.int .i32 p, .bool f0, .bool f1, .bool f2, .bool f3, .bool f4, .bool f5, .bool f6, .bool f7, .int .u32 gg, .int .u32 bb] : Array Value) from by unfold yC styL; dsimp only; rw [hf]; rfl)
        have hg2 := fun (W : World) (hb : Below w.heap.size w W) => HGC.out W hb j
        rw [hc] at hg2
        unfold GetCY at hg2
        dsimp only at hg2
        rw [ey] at hg2
        have HG2 := Lib.hid hg2
        clear hc hq1 hm1 hf ey hg2
        go_wp2_with fail
        refine (HG2.out _ HVB.out).mono ?_
        rintro e w2 ⟨rfl, b2⟩
        have hba := (Below.refl w2.heap.size w2).alloc (Nat.le_refl _) (.cells #[.int .i32 p, .bool f0, .bool f1, .bool f2, .bool f3, .bool f4, .bool f5, .bool f6, .bool f7, .int .u32 gg, .int .u32 bb] 55)
        have HVX := Lib.hid ((HVY.out.next b2).next hba)
        have HTX := Lib.hid (heap_alloc_new w2 (.cells #[.int .i32 p, .bool f0, .bool f1, .bool f2, .bool f3, .bool f4, .bool f5, .bool f6, .bool f7, .int .u32 gg, .int .u32 bb] 55))
        obtain ⟨tb, htb⟩ : ∃ t, w2.heap.size = t := ⟨_, rfl⟩
        have HTB := Lib.hid (show hb < tb from by have := lt_of_block HVY.out.blk; have := b2.size; omega)
        have HNT := Lib.hid (fun k (h : (Value.slice A1 n1 c1).ownBlock = some k) => (show k ≠ tb from by have := own_block_lt HVY.out.own k h; have := b2.size; omega))
        clear b2 hba HG2 HVY HVB HZR s0 s1 s2 s3 s4 s5
        go_upto_region 10 with fail
        simp only [htb] at HTX ⊢
        generalize (w2.alloc (.cells #[.int .i32 p, .bool f0, .bool f1, .bool f2, .bool f3, .bool f4, .bool f5, .bool f6, .bool f7, .int .u32 gg, .int .u32 bb] 55)) = X at HVX HTX ⊢
        clear htb
        have HZR := Lib.hid (HZRF.out _ HVX.out.below)
        have HVB := Lib.hid (HU.out.trans (HVX.out.below.mono HU.out.size))
        by_cases hz2 : z2 = 0
        · subst hz2
          obtain ⟨k, m', rfl, rfl, hk4, hcok, hpm, hmb, hI2⟩ := HI.out.next HB.out HP.out HQ.out HQ4.out.1 (by rw [HNL.out]; exact HQ4.out.2) HCQ.out
          have HI2 := Lib.hid hI2
          have HKM := Lib.hid (And.intro hk4 (And.intro hpm hmb))
          clear hk4 hcok hpm hmb hI2 HZR hq0
          go_upto_region 12 with fail
          have HVZ : Hid (VY U hb R C row col vis (M ++ rep 0 ⟨p, f, gg, bb⟩) (.slice A1 n1 c1) X) := Lib.hid (by rw [show rep 0 (⟨p, f, gg, bb⟩ : Ce) = [] from rfl, List.append_nil]; exact HVX.out)
          go_wp2
          clear HVB
          go_loopw [12] (fun iv wr => ∃ (i : Nat) (A1 : Option Addr) (n2 c1 : Nat), iv = .int .u64 i ∧ i ≤ k ∧ Hid (VY U hb R C row col vis (M ++ rep i ⟨p, f, gg, bb⟩) (.slice A1 n2 c1) wr) ∧ Hid (n2 = n1 + i) ∧ Hid (wr.heap[tb]? = some (.cells #[.int .i32 p, .bool f0, .bool f1, .bool f2, .bool f3, .bool f4, .bool f5, .bool f6, .bool f7, .int .u32 gg, .int .u32 bb] 55 (0, 0)) ∧ ∀ k, (Value.slice A1 n2 c1).ownBlock = some k → k ≠ tb)) (fun iv _ => k - (intOf iv).toNat)
          case atStart => exact ⟨0, A1, n1, c1, rfl, by omega, HVZ, Lib.hid rfl, Lib.hid ⟨HTX.out, HNT.out⟩⟩
          case round =>
            obtain ⟨i, A3, n3, c3, rfl, hi, HVY, HN3, HTN⟩ := hrel
            clear HVZ
            by_cases hin : i < k
            · have i1 : decide ((i : Int) < (k : Int)) = true := by simp; omega
              have i1' : decide (i < k) = true := by simp; omega
              have wi : IntKind.u64.wrap ((i : Int) + 1) = (i : Int) + 1 := IntWalk.u64_in _ (by have := HKM.out; omega)
              have HIN := Lib.hid hin
              have hba := (Below.refl wr.heap.size wr).alloc (Nat.le_refl _) (.cells #[.int .i32 p, .bool f0, .bool f1, .bool f2, .bool f3, .bool f4, .bool f5, .bool f6, .bool f7, .int .u32 gg, .int .u32 bb] 55)
              have HV2 := Lib.hid (HVY.out.next hba)
              have hbk := heap_alloc_new wr (.cells #[.int .i32 p, .bool f0, .bool f1, .bool f2, .bool f3, .bool f4, .bool f5, .bool f6, .bool f7, .int .u32 gg, .int .u32 bb] 55)
              have how := HV2.out.own
              have hlen : (M ++ rep i (⟨p, f, gg, bb⟩ : Ce)).length = n3 := by rw [List.length_append, rep_len, HNL.out, HN3.out]
              rw [hlen] at how
              obtain ⟨v2, W2, hrun, ho, hg, hat⟩ := app_y (fb := wr.heap.size) (c := ⟨p, f, gg, bb⟩) how (by rw [HYC.out ()]; exact hbk) (by have := HN3.out; have := HML.out; have := HKM.out; omega) (by have := lt_of_block HV2.out.blk; omega)
              obtain ⟨A2, c2, hv2, _⟩ := own_slice ho
              subst hv2
              have hrep : (M ++ rep i (⟨p, f, gg, bb⟩ : Ce)) ++ [⟨p, f, gg, bb⟩] = M ++ rep (i + 1) ⟨p, f, gg, bb⟩ := by rw [List.append_assoc, rep_more]
              have hpv := HV2.out.put hg ho (by rw [List.length_append, hlen]; rfl)
              rw [hrep] at hpv
              have HPV := Lib.hid hpv
              have ht1 := (hba.block _ (lt_of_block HTN.out.1)).trans HTN.out.1
              have ht2 := (hg.block tb (lt_of_block ht1) (by intro e; exact HTN.out.2 tb e.symm rfl)).trans ht1
              have HTN2 := Lib.hid (show (W2.setCell ⟨hb, 2, none⟩ (.slice A2 (n3 + 1) c2)).heap[tb]? = some (.cells #[.int .i32 p, .bool f0, .bool f1, .bool f2, .bool f3, .bool f4, .bool f5, .bool f6, .bool f7, .int .u32 gg, .int .u32 bb] 55 (0, 0)) ∧ ∀ k, (Value.slice A2 (n3 + 1) c2).ownBlock = some k → k ≠ tb from ⟨by
                rw [heap_setCell_other W2 _ _ _ (by have := HTB.out; simp; omega)]; exact ht2, fun k hk e => by
                rcases hat with h | h
                · rw [hk] at h; exact HTN.out.2 k h.symm e
                · rw [hk] at h; injection h with h; have := lt_of_block HTN.out.1; have e3 : (wr.alloc (.cells #[.int .i32 p, .bool f0, .bool f1, .bool f2, .bool f3, .bool f4, .bool f5, .bool f6, .bool f7, .int .u32 gg, .int .u32 bb] 55)).heap.size = wr.heap.size + 1 := by simp
                  omega⟩)
              have q0 := (hg.block hb (lt_of_block HV2.out.blk) (by intro e; have := ownBlock_le HV2.out.own hb e.symm; omega)).trans HV2.out.blk
              have HRUN := Lib.hid hrun
              have HN3b := Lib.hid (show n3 + 1 = n1 + (i + 1) by have := HN3.out; omega)
              obtain ⟨s0, s1, s2, s3, s4, s5⟩ := six_cells HVY.out.blk
              obtain ⟨k0, k1, k2, k3, k4, k5, k6, k7, k8, k9, k10⟩ := cells11 HTN.out.1
              obtain ⟨t0, t1, t2, t3, t4, t5⟩ := six_cells q0
              have q1 := frozen_of_row W2 hb 2 _ _ q0
              clear hi hin hba hbk how hlen hrun ho hg hat hrep hpv ht1 ht2 q0
              go_wp2_with (at_builtin; refine wpList_app rfl (.tmp 87) (.tmp 89) _ rfl _ _ rfl rfl HRUN.out ?_)
              generalize (W2.setCell ⟨hb, 2, none⟩ (.slice A2 (n3 + 1) c2)) = W3 at HPV HTN2 ⊢
              clear HRUN s0 s1 s2 s3 s4 s5 t0 t1 t2 t3 t4 t5 q1 k0 k1 k2 k3 k4 k5 k6 k7 k8 k9 k10
              go_roundw
              case rel => exact ⟨i + 1, A2, n3 + 1, c2, by go_num, by have := HIN.out; omega, HPV, HN3b, HTN2⟩
              case measure => have := HIN.out; simp [intOf]; omega
            · have i1 : decide ((i : Int) < (k : Int)) = false := by simp; omega
              have i1' : decide (i < k) = false := by simp; omega
              obtain rfl : i = k := by omega
              have HNL2 := Lib.hid (show (M ++ rep i (⟨p, f, gg, bb⟩ : Ce)).length = n3 by rw [List.length_append, rep_len, HNL.out, HN3.out])
              clear hi hin
              go_wp2
              go_roundw
              case rel => exact ⟨m', _, A3, n3, c3, rfl, HVY, HI2, HNL2⟩
              case measure => have := HKM.out; have := HL.out; simp [intOf]; omega
        · have zz2 : (z2 != 0) = true := by simpa using hz2
          have HNO := Lib.hid (HNV.out (fun L hv => HI.out.no2 HP.out HQ.out (by rw [HCQ.out]; exact hz2) L hv))
          clear hz2 hq0
          go_wp2_with (refine wpList_store_row rfl 31 (.tmp 2) (.tmp 79) rfl rb #[.int .i64 0, .int .i64 0, .slice none 0 0, .int .i64 0, .int .i64 0, .bool false] rfl rfl 31 _ HZR.out info_wview rfl (by simp [Value.oneCell']) ?_)
          exact bodyPost_ret (results_cell_tmp Tryd.results11 _ _ rb 31 #[.int .i64 0, .int .i64 0, .slice none 0 0, .int .i64 0, .int .i64 0, .bool false] (0, 0) _ (.bool false) rfl rfl (setRow_heap _ _ _ #[.int .i64 0, .int .i64 0, .slice none 0 0, .int .i64 0, .int .i64 0, .bool false] _ _ HZR.out) Tryd.underlying31 rfl info_wview) rfl (.inr ⟨HNO.out, rfl, below_setRow HVB.out HRB.out #[.int .i64 0, .int .i64 0, .slice none 0 0, .int .i64 0, .int .i64 0, .bool false]⟩)
      · have zz0 : (z != 0) = true := by simpa using hz
        have HNO := Lib.hid (HNV.out (fun L hv => HI.out.no HP.out (by rw [HQ.out]; exact .inl hz) L hv))
        clear hz
        go_wp2_with (refine wpList_store_row rfl 31 (.tmp 2) (.tmp 69) rfl rb #[.int .i64 0, .int .i64 0, .slice none 0 0, .int .i64 0, .int .i64 0, .bool false] rfl rfl 31 _ HZR.out info_wview rfl (by simp [Value.oneCell']) ?_)
        exact bodyPost_ret (results_cell_tmp Tryd.results11 _ _ rb 31 #[.int .i64 0, .int .i64 0, .slice none 0 0, .int .i64 0, .int .i64 0, .bool false] (0, 0) _ (.bool false) rfl rfl (setRow_heap _ _ _ #[.int .i64 0, .int .i64 0, .slice none 0 0, .int .i64 0, .int .i64 0, .bool false] _ _ HZR.out) Tryd.underlying31 rfl info_wview) rfl (.inr ⟨HNO.out, rfl, below_setRow HVB.out HRB.out #[.int .i64 0, .int .i64 0, .slice none 0 0, .int .i64 0, .int .i64 0, .bool false]⟩)
    · have e1 : decide ((p0 : Int) < (n : Int)) = false := by simp; omega
      have e1' : decide (p0 < n) = false := by simp; omega
      have HPE := Lib.hid (show p0 = bs.length by have := HI.out.le; have := HL.out; omega)
      clear hp
      obtain ⟨a, ha⟩ : ∃ a, rightW R C row col M = a := ⟨_, rfl⟩
      have HRQ := Lib.hid ha
      cases a with
      | false =>
        have HNO := Lib.hid (HNV.out (fun L hv => by
          have e := HI.out.end_ HPE.out L hv
          have h1 := hv.1
          rw [e, HRQ.out] at h1
          cases h1))
        clear ha
        go_upto_region 17 with fail
        have hd := (Below.refl wr.heap.size wr).drew
        have HVX := Lib.hid (HVY.out.next hd)
        refine wp_region_held_drew (S := fun W => Below wr.drew.heap.size wr.drew W) (by kernel_rfl) (Below.refl _ _) (fun hHeld => ?_)
        obtain ⟨X, hX⟩ : ∃ X, wr.drew = X := ⟨_, rfl⟩
        simp only [hX] at hHeld HVX ⊢
        clear hX hd
        have HBX := Lib.hid (Below.refl X.heap.size X)
        have HBK := Lib.hid HVX.out.blk
        have HRT := Lib.hid (fun (W : World) (hW : Below X.heap.size X W) => HRQ.out ▸ r_viewright (cap := c1) (HVX.out.cy.below hW) HNL.out (by have := HML.out; omega) HI.out.ok R C row col vis)
        refine wpAnyH_take (i := 0) (v := ?_) (by simp; rfl) (by kernel_rfl) (by kernel_rfl) (by kernel_rfl) (by exact fun _ _ _ h => h) (Or.inl ⟨by rfl, fun wx hSx => ?_⟩) hHeld ?_
        rotate_left
        · obtain ⟨s0, s1, s2, s3, s4, s5⟩ := six_cells ((hSx.block _ (lt_of_block HBK.out)).trans HBK.out); clear hSx; go_simp; (try with_reducible rfl)
        simp only [Act.put, List.setIfInBounds_toArray, List.set_cons_zero, List.set_cons_succ]
        refine wpAnyH_ready (rs := [1]) (by kernel_rfl) (by simp) ?_
        refine AllReadyH.cons (by simp; rfl) (fun K0 hK0 => ?_) AllReadyH.nil
        go_simp
        refine (HRT.out _ HBX.out).mono ?_
        rintro e Y1 ⟨rfl, hb1⟩
        have HB2 := Lib.hid (HBX.out.trans (hb1.mono HBX.out.size))
        clear HBX hb1
        have HBX := HB2
        clear HB2
        refine hK0.out _ _ HBX.out (fun _ => ?_)
        clear hK0 K0 hHeld
        have hHeld := HBX.out
        refine wpAnyH_take (i := 2) (v := ?_) (by simp; rfl) (by kernel_rfl) (by kernel_rfl) (by kernel_rfl) (by exact fun _ _ _ h => h) (Or.inl ⟨by rfl, fun wx hSx => ?_⟩) hHeld ?_
        rotate_left
        · clear hSx; go_simp; (try with_reducible rfl)
        simp only [Act.put, List.setIfInBounds_toArray, List.set_cons_zero, List.set_cons_succ]
        refine wpAnyH_take (i := 3) (v := ?_) (by simp; rfl) (by kernel_rfl) (by kernel_rfl) (by kernel_rfl) (by exact fun _ _ _ h => h) (Or.inl ⟨by rfl, fun wx hSx => ?_⟩) hHeld ?_
        rotate_left
        · clear hSx; go_simp; (try with_reducible rfl)
        simp only [Act.put, List.setIfInBounds_toArray, List.set_cons_zero, List.set_cons_succ]
        refine wpAnyH_take (i := 4) (v := undef) (by simp; rfl) (by kernel_rfl) (by kernel_rfl) (by kernel_rfl) (by exact fun _ _ _ h => h) (Or.inr ⟨by rfl, rfl⟩) hHeld ?_
        simp only [Act.put, List.setIfInBounds_toArray, List.set_cons_zero, List.set_cons_succ]
        refine wpAnyH_take (i := 5) (v := undef) (by simp; rfl) (by kernel_rfl) (by kernel_rfl) (by kernel_rfl) (by exact fun _ _ _ h => h) (Or.inr ⟨by rfl, rfl⟩) hHeld ?_
        simp only [Act.put, List.setIfInBounds_toArray, List.set_cons_zero, List.set_cons_succ]
        refine wpAnyH_take (i := 6) (v := undef) (by simp; rfl) (by kernel_rfl) (by kernel_rfl) (by kernel_rfl) (by exact fun _ _ _ h => h) (Or.inr ⟨by rfl, rfl⟩) hHeld ?_
        simp only [Act.put, List.setIfInBounds_toArray, List.set_cons_zero, List.set_cons_succ]
        refine wpAnyH_take (i := 7) (v := undef) (by simp; rfl) (by kernel_rfl) (by kernel_rfl) (by kernel_rfl) (by exact fun _ _ _ h => h) (Or.inr ⟨by rfl, rfl⟩) hHeld ?_
        simp only [Act.put, List.setIfInBounds_toArray, List.set_cons_zero, List.set_cons_succ]
        refine wpAnyH_take (i := 8) (v := undef) (by simp; rfl) (by kernel_rfl) (by kernel_rfl) (by kernel_rfl) (by exact fun _ _ _ h => h) (Or.inr ⟨by rfl, rfl⟩) hHeld ?_
        simp only [Act.put, List.setIfInBounds_toArray, List.set_cons_zero, List.set_cons_succ]
        refine wpAnyH_take (i := 9) (v := undef) (by simp; rfl) (by kernel_rfl) (by kernel_rfl) (by kernel_rfl) (by exact fun _ _ _ h => h) (Or.inr ⟨by rfl, rfl⟩) hHeld ?_
        simp only [Act.put, List.setIfInBounds_toArray, List.set_cons_zero, List.set_cons_succ]
        refine wpAnyH_take (i := 10) (v := ?_) (by simp; rfl) (by kernel_rfl) (by kernel_rfl) (by kernel_rfl) (by exact fun _ _ _ h => h) (Or.inl ⟨by rfl, fun wx hSx => ?_⟩) hHeld ?_
        rotate_left
        · clear hSx; go_simp; (try with_reducible rfl)
        simp only [Act.put, List.setIfInBounds_toArray, List.set_cons_zero, List.set_cons_succ]
        refine wpAnyH_done (by kernel_rfl) ?_ _
        have HZR := Lib.hid (HZRF.out _ (HVX.out.below.trans (HBX.out.mono HVX.out.below.size)))
        clear HVB
        have HVB := Lib.hid (HU.out.trans ((HVX.out.below.trans (HBX.out.mono HVX.out.below.size)).mono HU.out.size))
        clear hHeld
        go_wp2_with (refine wpList_store_row rfl 31 (.tmp 2) (.tmp 105) rfl rb #[.int .i64 0, .int .i64 0, .slice none 0 0, .int .i64 0, .int .i64 0, .bool false] rfl rfl 31 _ HZR.out info_wview rfl (by simp [Value.oneCell']) ?_)
        exact bodyPost_ret (results_cell_tmp Tryd.results11 _ _ rb 31 #[.int .i64 0, .int .i64 0, .slice none 0 0, .int .i64 0, .int .i64 0, .bool false] (0, 0) _ (.bool false) rfl rfl (setRow_heap _ _ _ #[.int .i64 0, .int .i64 0, .slice none 0 0, .int .i64 0, .int .i64 0, .bool false] _ _ HZR.out) Tryd.underlying31 rfl info_wview) rfl (.inr ⟨HNO.out, rfl, below_setRow HVB.out HRB.out #[.int .i64 0, .int .i64 0, .slice none 0 0, .int .i64 0, .int .i64 0, .bool false]⟩)
      | true =>
        have HLK := Lib.hid (show LOk M from fun c hc => ⟨HI.out.ok c hc, (rightW_parts HRQ.out).2.2.1 c hc⟩)
        clear ha
        go_upto_region 17 with fail
        have hd := (Below.refl wr.heap.size wr).drew
        have HVX := Lib.hid (HVY.out.next hd)
        refine wp_region_held_drew (S := fun W => Below wr.drew.heap.size wr.drew W) (by kernel_rfl) (Below.refl _ _) (fun hHeld => ?_)
        obtain ⟨X, hX⟩ : ∃ X, wr.drew = X := ⟨_, rfl⟩
        simp only [hX] at hHeld HVX ⊢
        clear hX hd
        have HBX := Lib.hid (Below.refl X.heap.size X)
        have HBK := Lib.hid HVX.out.blk
        have HRT := Lib.hid (fun (W : World) (hW : Below X.heap.size X W) => HRQ.out ▸ r_viewright (cap := c1) (HVX.out.cy.below hW) HNL.out (by have := HML.out; omega) HI.out.ok R C row col vis)
        have HWT := Lib.hid (fun (W : World) (hW : Below X.heap.size X W) => r_viewwrite (cap := c1) (HVX.out.cy.below hW) HNL.out HI.out.ok R C row col vis HRQ.out)
        have HCV1 := Lib.hid (fun (Y : World) (hY : Below X.heap.size X Y) => conv_text (w := Y) HL.out cap (RI.below (by exact HRI.out) (HU.out.trans ((HVX.out.below.trans (hY.mono HVX.out.below.size)).mono HU.out.size))))
        obtain ⟨S1, hS1⟩ : ∃ S, strOfNums bs = S := ⟨_, rfl⟩
        obtain ⟨S2, hS2⟩ : ∃ S, strOfNums (viewB R C row col vis M) = S := ⟨_, rfl⟩
        have hS9 := Lib.hid (fun (_ : Unit) => hS2)
        have HST := Lib.hid (str_eq (bytes_view (vis := vis) HRQ.out HLK.out) HB.out)
        rw [hS1] at HCV1 HST
        rw [hS2] at HST
        obtain ⟨D, hD⟩ : ∃ D, decide (viewB R C row col vis M = bs) = D := ⟨_, rfl⟩
        rw [hD] at HST
        have HDD := Lib.hid hD
        have hst := HST.out
        clear hS1 hS2 hD
        refine wpAnyH_take (i := 0) (v := ?_) (by simp; rfl) (by kernel_rfl) (by kernel_rfl) (by kernel_rfl) (by exact fun _ _ _ h => h) (Or.inl ⟨by rfl, fun wx hSx => ?_⟩) hHeld ?_
        rotate_left
        · obtain ⟨s0, s1, s2, s3, s4, s5⟩ := six_cells ((hSx.block _ (lt_of_block HBK.out)).trans HBK.out); clear hSx; go_simp; (try with_reducible rfl)
        simp only [Act.put, List.setIfInBounds_toArray, List.set_cons_zero, List.set_cons_succ]
        refine wpAnyH_ready (rs := [1]) (by kernel_rfl) (by simp) ?_
        refine AllReadyH.cons (by simp; rfl) (fun K0 hK0 => ?_) AllReadyH.nil
        go_simp
        refine (HRT.out _ HBX.out).mono ?_
        rintro e Y1 ⟨rfl, hb1⟩
        have HB2 := Lib.hid (HBX.out.trans (hb1.mono HBX.out.size))
        clear HBX hb1
        have HBX := HB2
        clear HB2
        refine hK0.out _ _ HBX.out (fun _ => ?_)
        clear hK0 K0 hHeld
        have hHeld := HBX.out
        refine wpAnyH_take (i := 2) (v := ?_) (by simp; rfl) (by kernel_rfl) (by kernel_rfl) (by kernel_rfl) (by exact fun _ _ _ h => h) (Or.inl ⟨by rfl, fun wx hSx => ?_⟩) hHeld ?_
        rotate_left
        · clear hSx; go_simp; (try with_reducible rfl)
        simp only [Act.put, List.setIfInBounds_toArray, List.set_cons_zero, List.set_cons_succ]
        refine wpAnyH_take (i := 3) (v := ?_) (by simp; rfl) (by kernel_rfl) (by kernel_rfl) (by kernel_rfl) (by exact fun _ _ _ h => h) (Or.inl ⟨by rfl, fun wx hSx => ?_⟩) hHeld ?_
        rotate_left
        · clear hSx; go_simp; (try with_reducible rfl)
        simp only [Act.put, List.setIfInBounds_toArray, List.set_cons_zero, List.set_cons_succ]
        refine wpAnyH_take (i := 4) (v := ?_) (by simp; rfl) (by kernel_rfl) (by kernel_rfl) (by kernel_rfl) (by exact fun _ _ _ h => h) (Or.inl ⟨by rfl, fun wx hSx => ?_⟩) hHeld ?_
        rotate_left
        · obtain ⟨s0, s1, s2, s3, s4, s5⟩ := six_cells ((hSx.block _ (lt_of_block HBK.out)).trans HBK.out); clear hSx; go_simp; (try with_reducible rfl)
        simp only [Act.put, List.setIfInBounds_toArray, List.set_cons_zero, List.set_cons_succ]
        refine wpAnyH_take (i := 7) (v := ?_) (by simp; rfl) (by kernel_rfl) (by kernel_rfl) (by kernel_rfl) (by exact fun _ _ _ h => h) (Or.inl ⟨by rfl, fun wx hSx => ?_⟩) hHeld ?_
        rotate_left
        · clear hSx; go_simp; (try with_reducible rfl)
        simp only [Act.put, List.setIfInBounds_toArray, List.set_cons_zero, List.set_cons_succ]
        refine wpAnyH_take (i := 8) (v := ?_) (by simp; rfl) (by kernel_rfl) (by kernel_rfl) (by kernel_rfl) (by exact fun _ _ _ h => h) (Or.inl ⟨by rfl, fun wx hSx => ?_⟩) hHeld ?_
        rotate_left
        · have hcv := HCV1.out wx hSx; clear hSx; go_simp; (try with_reducible rfl)
        simp only [Act.put, List.setIfInBounds_toArray, List.set_cons_zero, List.set_cons_succ]
        refine wpAnyH_ready (rs := [5]) (by kernel_rfl) (by simp) ?_
        refine AllReadyH.cons (by simp; rfl) (fun K0 hK0 => ?_) AllReadyH.nil
        go_simp
        refine (HWT.out _ HBX.out).mono ?_
        rintro e Y2 ⟨u9, rfl, o9⟩
        obtain ⟨A9, c9, rfl, _, _, hr9⟩ := bytes8 o9
        obtain ⟨m9, hm9⟩ : ∃ m, (viewB R C row col vis M).length = m := ⟨_, rfl⟩
        have HCV2 := Lib.hid (fun (Y : World) (hY : Below Y2.heap.size Y2 Y) => hS9.out () ▸ conv_text (w := Y) hm9 c9 (RI.below (by exact hr9) hY))
        rw [hm9]
        have hbx : Below X.heap.size X Y2 := HBX.out.trans (o9.below.mono HBX.out.size)
        clear o9 hr9
        refine hK0.out _ _ hbx (fun _ => ?_)
        clear hK0 K0 hHeld
        refine heldMono (S' := fun W => Below Y2.heap.size Y2 W) (fun _ h => hbx.trans (h.mono hbx.size)) _ _ _ _ ?_
        have hHeld := Below.refl Y2.heap.size Y2
        have HCV1b := Lib.hid (fun (Y : World) (hY : Below Y2.heap.size Y2 Y) => HCV1.out Y (hbx.trans (hY.mono hbx.size)))
        clear HBX
        have HBX := Lib.hid hbx
        clear hbx
        refine wpAnyH_take (i := 6) (v := ?_) (by simp; rfl) (by kernel_rfl) (by kernel_rfl) (by kernel_rfl) (by exact fun _ _ _ h => h) (Or.inl ⟨by rfl, fun wx hSx => ?_⟩) hHeld ?_
        rotate_left
        · have hcv := HCV2.out wx hSx; clear hSx; go_simp; (try with_reducible rfl)
        simp only [Act.put, List.setIfInBounds_toArray, List.set_cons_zero, List.set_cons_succ]
        refine wpAnyH_take (i := 9) (v := ?_) (by simp; rfl) (by kernel_rfl) (by kernel_rfl) (by kernel_rfl) (by exact fun _ _ _ h => h) (Or.inl ⟨by rfl, fun wx hSx => ?_⟩) hHeld ?_
        rotate_left
        · clear hSx; go_simp; (try with_reducible rfl)
        simp only [Act.put, List.setIfInBounds_toArray, List.set_cons_zero, List.set_cons_succ]
        refine wpAnyH_take (i := 10) (v := ?_) (by simp; rfl) (by kernel_rfl) (by kernel_rfl) (by kernel_rfl) (by exact fun _ _ _ h => h) (Or.inl ⟨by rfl, fun wx hSx => ?_⟩) hHeld ?_
        rotate_left
        · clear hSx; go_simp; (try with_reducible rfl)
        simp only [Act.put, List.setIfInBounds_toArray, List.set_cons_zero, List.set_cons_succ]
        refine wpAnyH_done (by kernel_rfl) ?_ _
        have HVF := Lib.hid (HVX.out.next HBX.out)
        have HZR := Lib.hid (HZRF.out _ HVF.out.below)
        clear HVB
        have HVB := Lib.hid (HU.out.trans (HVF.out.below.mono HU.out.size))
        clear hHeld hst
        cases D with
        | false =>
          have HNO := Lib.hid (HNV.out (fun L hv => by
            have e := HI.out.end_ HPE.out L hv
            subst e
            exact of_decide_eq_false HDD.out hv.2.2.symm))
          go_wp2_with (refine wpList_store_row rfl 31 (.tmp 2) (.tmp 105) rfl rb #[.int .i64 0, .int .i64 0, .slice none 0 0, .int .i64 0, .int .i64 0, .bool false] rfl rfl 31 _ HZR.out info_wview rfl (by simp [Value.oneCell']) ?_)
          exact bodyPost_ret (results_cell_tmp Tryd.results11 _ _ rb 31 #[.int .i64 0, .int .i64 0, .slice none 0 0, .int .i64 0, .int .i64 0, .bool false] (0, 0) _ (.bool false) rfl rfl (setRow_heap _ _ _ #[.int .i64 0, .int .i64 0, .slice none 0 0, .int .i64 0, .int .i64 0, .bool false] _ _ HZR.out) Tryd.underlying31 rfl info_wview) rfl (.inr ⟨HNO.out, rfl, below_setRow HVB.out HRB.out #[.int .i64 0, .int .i64 0, .slice none 0 0, .int .i64 0, .int .i64 0, .bool false]⟩)
        | true =>
          have HV := Lib.hid (show isView bs R C row col vis M from ⟨HRQ.out, HLK.out, (of_decide_eq_true HDD.out).symm⟩)
          obtain ⟨s0, s1, s2, s3, s4, s5⟩ := six_cells HVF.out.blk
          go_wp2_with (refine wpList_store_row rfl 31 (.tmp 2) (.tmp 106) rfl rb #[.int .i64 R, .int .i64 C, .slice A1 n1 c1, .int .i64 row, .int .i64 col, .bool vis] rfl rfl 31 _ HZR.out info_wview rfl (by simp [Value.oneCell']) ?_)
          exact bodyPost_ret (results_cell_tmp Tryd.results11 _ _ rb 31 #[.int .i64 R, .int .i64 C, .slice A1 n1 c1, .int .i64 row, .int .i64 col, .bool vis] (0, 0) _ (.bool true) rfl rfl (setRow_heap _ _ _ #[.int .i64 R, .int .i64 C, .slice A1 n1 c1, .int .i64 row, .int .i64 col, .bool vis] _ _ HZR.out) Tryd.underlying31 rfl info_wview) rfl (.inl ⟨R, C, row, col, vis, M, A1, n1, c1, HV.out, rfl, HNL.out.symm, CY.set HVF.out HRL.out _, below_setRow HVB.out HRB.out _⟩)
end Go.Proofs.YtcblohmenfdafaaDoor
