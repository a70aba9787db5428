/-
  Proved here: the document's own Write and Read (package longlineref09) answer what 'wrB' and 'readS' say.
-/
import Derived.Test.YtmklcghoeapfbaaDoorFw
import Derived.Test.YtmklcghoeapfbaaDoorFc
namespace Go.Proofs.YtmklcghoeapfbaaDoor
open Go.RowKit

set_option maxRecDepth 100000 in
set_option maxHeartbeats 2000000 in
theorem rwrite_any (p : Prt) (A : Option Addr) (m c : Nat) (w : World) (hm : p.d.length = m) (hok : p.ok = true) (hR : RB w w.heap.size A p.d) (hA : A = none → c = 0) :
    Calls Tryd.prog 15 #[PV p.id p.ix p.ct A m c] w (OwnPost (wrB p) w) := by
  obtain ⟨id, ix, ct, d⟩ := p
  have HM := Lib.hid hm
  have HR := Lib.hid hR
  have hok' : rgt id ix ct m = true := by
    have := HM.out
    simp only at this
    subst this
    exact hok
  obtain ⟨y1, y2, y3, y4, y5, y6, y7⟩ := rgt_yes hok'
  clear hR hm hok hok'
  have hb0 : Below w.heap.size w (w.alloc (.cells #[.int .u64 id, .int .i64 ix, .int .i64 ct, .slice A m c] 27)) := (Below.refl _ _).alloc (Nat.le_refl _) _
  have HB0 := Lib.hid hb0
  have HP0 := Lib.hid (heap_alloc_new w (.cells #[.int .u64 id, .int .i64 ix, .int .i64 ct, .slice A m c] 27))
  clear hb0
  have HPU := Lib.hid (rput_fits id (w.alloc (.cells #[.int .u64 id, .int .i64 ix, .int .i64 ct, .slice A m c] 27)) (by omega) (by omega))
  go_enter Tryd.func15, Tryd.ntmps15
  go_wp2_with fail
  refine HPU.out.mono ?_
  rintro e w4 ⟨v4, rfl, hown4, hb4⟩
  have HL := Lib.hid (numB_length id)
  have hsz := szN_le id
  rw [HL.out] at hown4
  obtain ⟨s, hs⟩ : ∃ s, szN id = s := ⟨_, rfl⟩
  rw [hs] at hown4 hsz HL
  clear hs
  have hbw4 : Below w.heap.size w w4 := HB0.out.trans (hb4.mono HB0.out.size)
  have HP4 := Lib.hid ((hb4.block _ (lt_of_block HP0.out)).trans HP0.out)
  have hm480 : m ≤ 480 := by omega
  have hs4 : w.heap.size + 1 ≤ w4.heap.size := by have := lt_of_block HP4.out; omega
  have hown4' := own_mono (base' := w.heap.size + 1) hown4 (by simp)
  have hRB5 : RB (w4.alloc (.cells #[.int .u8 ix, .int .u8 ct] 5)) (w4.heap.size + 1) (some ⟨w4.heap.size, 0, none⟩) [ix, ct] := RB.of_block (by omega) (heap_alloc_new _ _)
  obtain ⟨v6, w6, hrun6, hown6, hgr6⟩ := app_bytes (xs := numB id) 2 hRB5 (fun h => by cases h) (own_below hown4' ((Below.refl _ _).alloc (Nat.le_refl _) _)) (by simp; omega) (by simp; omega)
  have hb6 : Below w.heap.size w w6 := (hbw4.alloc hbw4.size _).grown hgr6 (by have := hbw4.size; simp; omega) (fun k hk => by have := ownBlock_le hown4' k hk; omega)
  have hP6 : w6.heap[w.heap.size]? = some (.cells #[.int .u64 id, .int .i64 ix, .int .i64 ct, .slice A m c] 27 (0, 0)) := by
    rw [hgr6.block _ (by have := lt_of_block HP4.out; simp; omega) ?_, Below.heap_alloc _ _ _ (lt_of_block HP4.out)]
    · exact HP4.out
    · intro e
      have := ownBlock_le hown4' _ e.symm
      omega
  have HP6 := Lib.hid hP6
  obtain ⟨v7, w7, hrun7, hown7, hgr7⟩ := app_bytes (xs := numB id ++ [ix, ct]) c (HR.out.below hb6) hA hown6 (by rw [HM.out]; simp; omega) (by have := lt_of_block HP6.out; omega)
  have hb7 : Below w.heap.size w w7 := hb6.grown hgr7 hb6.size (fun k hk => by have := ownBlock_le hown6 k hk; omega)
  have HPP := Lib.hid (show OwnPost (wrB ⟨id, ix, ct, d⟩) w (.returned v7) w7 from by
    refine ⟨v7, rfl, own_mono (own_cast hown7 ?_ ?_) (by omega), hb7⟩
    · have := HM.out; simp [wrB, HL.out]; omega
    · simp [wrB])
  rw [show d.length = m from HM.out] at hrun7
  have HR6 := Lib.hid hrun6
  have HR7 := Lib.hid hrun7
  have kx : IntKind.u8.wrap ix = ix := u8_small (by omega) (by omega)
  have kc : IntKind.u8.wrap ct = ct := u8_small (by omega) (by omega)
  clear hown4 hown4' hbw4 hb4 hrun6 hown6 hgr6 hb6 hrun7 hown7 hgr7 hb7 hRB5 hP6
  obtain ⟨⟨b0, b1, b2, b3⟩, _⟩ := blk4 HP4.out
  obtain ⟨⟨e0, e1, e2, e3⟩, _⟩ := blk4 HP6.out
  go_wp2_with (first | (at_builtin; refine wpList_app rfl (.tmp 7) (.tmp 14) _ rfl _ _ rfl rfl HR6.out ?_) | (at_builtin; refine wpList_app rfl (.tmp 16) (.tmp 18) _ rfl _ _ rfl rfl HR7.out ?_))
  go_ret
  exact HPP.out

/-- What the document's Read answers: the part's bytes lie where they lay. -/
def RReadPost (R : Prt × Int) (w : World) (e : Ending) (w' : World) : Prop :=
  ∃ A c, e = .returned (.tuple #[PV R.1.id R.1.ix R.1.ct A R.1.d.length c, .int .i64 R.2]) ∧ RB w' w.heap.size A R.1.d ∧ Below w.heap.size w w'
theorem rreadpost_nil {R : Prt × Int} {E : Int} {w w' : World} (h : R = (pNil, E)) (hb : Below w.heap.size w w') : RReadPost R w (.returned (.tuple #[PV 0 0 0 none 0 0, .int .i64 E])) w' := by
  subst h
  exact ⟨none, 0, rfl, RB.nothing _ _ _, hb⟩
set_option maxRecDepth 100000 in
set_option maxHeartbeats 2000000 in
theorem rread_any (bs : List Int) (A : Option Addr) (cap : Nat) (w : World) (hR : RB w w.heap.size A bs) (hcap : bs.length ≤ cap) (hm : cap ≤ maxLen) (hl : bs.length ≤ 100000) (hB : Bytes bs)  :
    Calls Tryd.prog 11 #[.slice A bs.length cap] w (RReadPost (readS bs) w) := by
  obtain ⟨W0, hW0⟩ : ∃ W0, W0 = w.alloc (.cells #[.int .u64 0, .int .i64 0, .int .i64 0, .slice none 0 0] 27) := ⟨_, rfl⟩
  have hb0 : Below w.heap.size w W0 := by rw [hW0]; exact (Below.refl _ _).alloc (Nat.le_refl _) _
  have hg := rget_any bs A cap w.heap.size 0 W0 (hR.below hb0) (by omega) hB
  rw [hW0] at hg
  have hok := fun h => getS_ok hB (p := 0) h
  obtain ⟨n, hn⟩ : ∃ n, bs.length = n := ⟨_, rfl⟩
  obtain ⟨x, hx⟩ : ∃ x, getS bs 0 = x := ⟨_, rfl⟩
  obtain ⟨x, p, er⟩ := x
  have HX := Lib.hid hx
  have HG := Lib.hid hg
  have hok' : er = 0 → 0 ≤ x ∧ x < 4611686018427387904 ∧ 0 < p ∧ p ≤ (n : Int) := by
    have : getS bs ((0 : Nat) : Int) = (x, p, er) := hx
    rw [this, hn] at hok
    simpa using hok
  rw [hx, hn] at HG
  rw [hn] at hcap hl ⊢
  have HN := Lib.hid hn
  clear hx hg hok hn
  by_cases he : er = 0
  · subst he
    obtain ⟨x0, x1, p0, p1⟩ := hok' rfl
    obtain ⟨k, rfl⟩ : ∃ k : Nat, p = k := ⟨p.toNat, by omega⟩
    have hk1 : k ≤ n := by omega
    clear hok'
    by_cases hs : n - k < 2
    · have hss : decide (((n - k : Nat) : Int) < 2) = true := by simp; omega
      have HP := Lib.hid (fun w' => rreadpost_nil (R := readS bs) (E := 10) (w := w) (w' := w') (by
        unfold readS
        rw [HX.out, if_pos rfl, if_pos (by rw [HN.out]; show (n : Int) - (k : Int) < 2; omega)]))
      go_enter Tryd.func11, Tryd.ntmps11
      go_wp2_with fail
      refine HG.out.mono ?_
      rintro e w' ⟨rfl, rfl⟩
      go_wp2
      exact bodyPost_ret (v := .tuple #[PV 0 0 0 none 0 0, .int .i64 10]) (by simp [results, Tryd.results11, go_sem]) rfl (HP.out _ ((Below.refl _ _).alloc (Nat.le_refl _) _))
    · have hss : decide (((n - k : Nat) : Int) < 2) = false := by simp; omega
      have hbs : ∀ i, 0 ≤ bs.getD i 0 ∧ bs.getD i 0 < 256 := hB
      obtain ⟨b, off, hAe, hb, hc⟩ := hR (by rw [HN.out]; omega)
      subst hAe
      have hc0 := hc k (by rw [HN.out]; omega)
      have hc1 := hc (k + 1) (by rw [HN.out]; omega)
      obtain ⟨A2, hA2, hsl⟩ := slice_from b off (k' := (k : Int) + 2) (k := k + 2) (n := n) (cap := cap) (by omega) (by omega) hcap
      have HRD := Lib.hid (hA2 w w.heap.size bs hR HN.out)
      clear hA2
      obtain ⟨u, hu⟩ : ∃ u, bs.getD k 0 = u := ⟨_, rfl⟩
      obtain ⟨v, hv⟩ : ∃ v, bs.getD (k + 1) 0 = v := ⟨_, rfl⟩
      have hu1 := hbs k
      have hv1 := hbs (k + 1)
      rw [hu] at hc0 hu1
      rw [hv] at hc1 hv1
      obtain ⟨u0, u1⟩ := hu1
      obtain ⟨v0, v1⟩ := hv1
      have HU := Lib.hid hu
      have HV := Lib.hid hv
      clear hc hu hv hbs hR
      have q0 : W0.cell? ⟨b, off + k, none⟩ = some (.int .u8 u) := (hb0.cell (p := ⟨b, off + k, none⟩) hb).trans hc0
      have q1 : W0.cell? ⟨b, off + (k + 1), none⟩ = some (.int .u8 v) := (hb0.cell (p := ⟨b, off + (k + 1), none⟩) hb).trans hc1
      clear hc0 hc1
      have g1 : (k : Int) < (n : Int) := by omega
      have g2 : (k : Int) + 1 < (n : Int) := by omega
      have g3 : (0 : Int) ≤ (k : Int) := by omega
      have g4 : (0 : Int) ≤ (k : Int) + 1 := by omega
      have g5 : (k : Int) + 2 ≤ (n : Int) := by omega
      have g6 : (0 : Int) ≤ (k : Int) + 2 := by omega
      have k1 : IntKind.i64.wrap ((k : Int) + 1) = (k : Int) + 1 := IntWalk.i64_in _ (by omega)
      have k2 : IntKind.i64.wrap ((k : Int) + 2) = (k : Int) + 2 := IntWalk.i64_in _ (by omega)
      have k3 : ((k : Int) + 1).toNat = k + 1 := by omega
      have k5 : IntKind.i64.wrap u = u := IntWalk.i64_in _ (by omega)
      have k6 : IntKind.i64.wrap v = v := IntWalk.i64_in _ (by omega)
      have k4 : ((k : Int) + 2).toNat = k + 2 := by omega
      have hW0b : b < W0.heap.size := Nat.lt_of_lt_of_le hb hb0.size
      go_enter Tryd.func11, Tryd.ntmps11
      go_wp2_with fail
      refine HG.out.mono ?_
      rintro e w' ⟨rfl, hw'⟩
      have HW := Lib.hid (hW0.trans hw')
      have HW0 := Lib.hid hW0
      clear hw' hW0
      obtain rfl : W0 = w' := HW.out
      clear HW
      go_wp2
      go_region_held3 (fun W => W.cell? ⟨b, off + k, none⟩ = some (.int .u8 u) ∧ W.cell? ⟨b, off + (k + 1), none⟩ = some (.int .u8 v))
        (first | go_keep)
        (fail)
      clear hsl k1 k2 k3 k4 k5 k6 g1 g2 g3 g4 g5 g6 q0 q1
      have hm2 : n - (k + 2) ≤ maxLen := by omega
      have hdl : (bs.drop (k + 2)).length = n - (k + 2) := by simp [HN.out]
      obtain ⟨m, hme⟩ : ∃ m, n - (k + 2) = m := ⟨_, rfl⟩
      obtain ⟨c2, hce⟩ : ∃ c2, cap - (k + 2) = c2 := ⟨_, rfl⟩
      rw [hme] at hm2 hdl ⊢
      rw [hce]
      have HDL := Lib.hid hdl
      have hmc : m ≤ c2 := by omega
      have hc2m : c2 ≤ maxLen := by omega
      have hml : m ≤ 100000 := by omega
      clear hme hce hdl
      have HS0 := Lib.hid (show W0.heap.size = w.heap.size + 1 by rw [HW0.out]; simp)
      have HZ0 := Lib.hid (show W0.heap[w.heap.size]? = some (.cells #[.int .u64 0, .int .i64 0, .int .i64 0, .slice none 0 0] 27 (0, 0)) by rw [HW0.out]; exact heap_alloc_new _ _)
      obtain ⟨W1, hW1⟩ : ∃ W1, W1 = (W0.alloc (.cells #[.int .u64 x, .int .i64 u, .int .i64 v, .slice (some A2) m c2] 27)).drew := ⟨_, rfl⟩
      have hb1 : Below W0.heap.size W0 W1 := by rw [hW1]; exact belowN ((Below.refl _ _).alloc (Nat.le_refl _) _) 1
      have HP0 := Lib.hid (show W1.heap[W0.heap.size]? = some (.cells #[.int .u64 x, .int .i64 u, .int .i64 v, .slice (some A2) m c2] 27 (0, 0)) by rw [hW1]; exact heap_alloc_new _ _)
      have HW1 := Lib.hid hW1
      rw [← hW1]
      clear hW1
      obtain ⟨⟨r0, r1, r2, r3⟩, _⟩ := blk4 HP0.out
      go_wp2_with fail
      clear r0 r1 r2 r3
      refine (rright_any x u v (some A2) m c2 _ (by omega) (by omega) (by omega) (by omega) hm2).mono ?_
      rintro e wy ⟨rfl, hby⟩
      have hbW : Below w.heap.size w wy := (hb0.trans (hb1.mono hb0.size)).trans (hby.mono (Nat.le_trans hb0.size hb1.size))
      have HZ1 := Lib.hid ((hby.block _ (by have := hb1.size; have := HS0.out; omega)).trans ((hb1.block _ (by have := HS0.out; omega)).trans HZ0.out))
      have HP1 := Lib.hid ((hby.block _ (lt_of_block HP0.out)).trans HP0.out)
      have hsy : w.heap.size + 1 < wy.heap.size := by have := lt_of_block HP1.out; have := HS0.out; omega
      have HBW := Lib.hid hbW
      rw [HS0.out] at HP1 ⊢
      clear hb1 hby hbW
      have HPA := Lib.hid (show partAt bs x k = ⟨x, u, v, bs.drop (k + 2)⟩ by rw [partAt, HU.out, HV.out])
      have HOK := Lib.hid (show (partAt bs x k).ok = rgt x u v m by rw [HPA.out, Prt.ok, HDL.out])
      have hRS : readS bs = if rgt x u v m = true then (partAt bs x k, 0) else (pNil, 3) := by
        unfold readS
        rw [HX.out, if_pos rfl, if_neg (by rw [HN.out]; show ¬ (n : Int) - (k : Int) < 2; omega)]
        show (if (partAt bs x (k : Int).toNat).ok = true then _ else _) = _
        rw [Int.toNat_natCast, HOK.out]
      have HRS := Lib.hid hRS
      clear hRS
      cases hr : rgt x u v m
      · rw [hr] at HRS
        have HPP := Lib.hid (fun w' => rreadpost_nil (R := readS bs) (E := 3) (w := w) (w' := w') HRS.out)
        clear hr
        obtain ⟨⟨z0, z1, z2, z3⟩, y0, y1, y2, y3⟩ := blk4 HZ1.out
        have HBF := Lib.hid ((((HBW.out.setCell (p := ⟨w.heap.size, 0, none⟩) (Nat.le_refl _) (.int .u64 0)).setCell (p := ⟨w.heap.size, 1, none⟩) (Nat.le_refl _) (.int .i64 0)).setCell (p := ⟨w.heap.size, 2, none⟩) (Nat.le_refl _) (.int .i64 0)).setCell (p := ⟨w.heap.size, 3, none⟩) (Nat.le_refl _) (.slice none 0 0))
        go_wp2
        exact bodyPost_ret (v := .tuple #[PV 0 0 0 none 0 0, .int .i64 3]) (by simp [results, Tryd.results11, go_sem, z0, z1, z2, z3]) rfl (HPP.out _ HBF.out)
      · rw [hr] at HRS
        clear hr
        obtain ⟨⟨a0, a1, a2, a3⟩, _⟩ := blk4 HP1.out
        obtain ⟨⟨z0, z1, z2, z3⟩, y0, y1, y2, y3⟩ := blk4 HZ1.out
        have HBF := Lib.hid ((((HBW.out.setCell (p := ⟨w.heap.size, 0, none⟩) (Nat.le_refl _) (.int .u64 x)).setCell (p := ⟨w.heap.size, 1, none⟩) (Nat.le_refl _) (.int .i64 u)).setCell (p := ⟨w.heap.size, 2, none⟩) (Nat.le_refl _) (.int .i64 v)).setCell (p := ⟨w.heap.size, 3, none⟩) (Nat.le_refl _) (.slice (some A2) m c2))
        have HPP := Lib.hid (fun w' (hb : Below w.heap.size w w') => show RReadPost (readS bs) w (.returned (.tuple #[PV x u v (some A2) m c2, .int .i64 0])) w' from by
          rw [HRS.out, if_pos rfl, HPA.out]
          refine ⟨some A2, c2, ?_, HRD.out.below hb, hb⟩
          show _ = Ending.returned (.tuple #[PV x u v (some A2) (bs.drop (k + 2)).length c2, .int .i64 0])
          rw [HDL.out])
        go_wp2
        exact bodyPost_ret (v := .tuple #[PV x u v (some A2) m c2, .int .i64 0]) (by simp [results, Tryd.results11, go_sem, z0, z1, z2, z3]) rfl (HPP.out _ HBF.out)
  · have HP := Lib.hid (fun w' => rreadpost_nil (R := readS bs) (E := er) (w := w) (w' := w') (by
      unfold readS
      rw [HX.out, if_neg he]))
    have hz : (er != 0) = true := by simpa using he
    clear hok' he
    go_enter Tryd.func11, Tryd.ntmps11
    go_wp2_with fail
    refine HG.out.mono ?_
    rintro e w' ⟨rfl, rfl⟩
    go_wp2
    exact bodyPost_ret (v := .tuple #[PV 0 0 0 none 0 0, .int .i64 er]) (by simp [results, Tryd.results11, go_sem]) rfl (HP.out _ ((Below.refl _ _).alloc (Nat.le_refl _) _))
end Go.Proofs.YtmklcghoeapfbaaDoor
