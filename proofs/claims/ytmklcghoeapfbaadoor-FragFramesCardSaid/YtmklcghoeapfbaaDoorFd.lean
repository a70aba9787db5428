/-
  Proved here, where the table of sizes is as the program lays it: Read (frag) answers the part that bytes are, as 'readS' says, in memory of its own.
-/
import Derived.Test.YtmklcghoeapfbaaDoorFs
import Derived.Test.YtmklcghoeapfbaaDoorVGet
import Derived.IntWalk
namespace Go.Proofs.YtmklcghoeapfbaaDoor
open Go.RowKit

/-- The part that stands behind its number, at k. -/
def partAt (bs : List Int) (x : Int) (k : Nat) : Prt := ⟨x, bs.getD k 0, bs.getD (k + 1) 0, bs.drop (k + 2)⟩
/-- What Read answers. -/
def readS (bs : List Int) : Prt × Int :=
  if (getS bs 0).2.2 = 0 then
    if (bs.length : Int) - (getS bs 0).2.1 < 2 then (pNil, 10)
    else if (partAt bs (getS bs 0).1 (getS bs 0).2.1.toNat).ok = true then (partAt bs (getS bs 0).1 (getS bs 0).2.1.toNat, 0) else (pNil, 3)
  else (pNil, (getS bs 0).2.2)
def ReadPost (R : Prt × Int) (w : World) (e : Ending) (w' : World) : Prop :=
  ∃ A c, e = .returned (.tuple #[PV R.1.id R.1.ix R.1.ct A R.1.d.length c, .int .i64 R.2]) ∧ w'.ownsRow w.heap.size 5 1 (.slice A R.1.d.length c) R.1.d.length (B8 R.1.d) ∧ Below w.heap.size w w'
theorem readpost_nil {R : Prt × Int} {E : Int} {w w' : World} (h : R = (pNil, E)) (hb : Below w.heap.size w w') : ReadPost R w (.returned (.tuple #[PV 0 0 0 none 0 0, .int .i64 E])) w' := by
  subst h
  exact ⟨none, 0, rfl, World.ownsRow_nil _ _ _ _, hb⟩

theorem blk4 {w : World} {g : Nat} {t : TypeId} {a b c d : Value} (h : w.heap[g]? = some (.cells #[a, b, c, d] t (0, 0))) :
    (w.cell? ⟨g, 0, none⟩ = some a ∧ w.cell? ⟨g, 1, none⟩ = some b ∧ w.cell? ⟨g, 2, none⟩ = some c ∧ w.cell? ⟨g, 3, none⟩ = some d) ∧ w.frozen? ⟨g, 0, none⟩ = false ∧ w.frozen? ⟨g, 1, none⟩ = false ∧ w.frozen? ⟨g, 2, none⟩ = false ∧ w.frozen? ⟨g, 3, none⟩ = false :=
  ⟨by simp [World.cell?, h], frozen_of_row w g 0 _ _ h, frozen_of_row w g 1 _ _ h, frozen_of_row w g 2 _ _ h, frozen_of_row w g 3 _ _ h⟩
theorem own_set {w : World} {base : Nat} {e : TypeId} {size : Nat} {v : Value} {n : Nat} {xs : List Value} (h : w.ownsRow base e size v n xs) (p : Addr) (u : Value) (hp : p.block < base) : (w.setCell p u).ownsRow base e size v n xs :=
  own_far (row := some p.block) h ⟨rfl, rfl, rfl, by simp, fun k _ hne => heap_setCell_other _ _ _ _ (fun e => hne (by rw [e]))⟩ (fun g hg => by injection hg with hg; omega)
theorem slice_from (b off : Nat) {n cap k : Nat} {k' : Int} (hk' : k' = (k : Int)) (hk : k ≤ n) (hc : n ≤ cap) :
    ∃ A2 : Addr, (∀ W B bs, RB W B (some ⟨b, off, none⟩) bs → bs.length = n → RB W B (some A2) (bs.drop k)) ∧ ∀ W : World, (Instr.slice 23 (.slice (some ⟨b, off, none⟩) n cap) (some (.int .i64 k')) none none).run Tryd.prog W = .ok (.slice (some A2) (n - k) (cap - k)) W := by
  subst hk'
  have h1 : (k : Int) ≤ (n : Int) := by omega
  refine ⟨if cap = k then ⟨b, off, none⟩ else (⟨b, off, none⟩ : Addr).add k, fun W B bs h hl hp => ?_, fun W => ?_⟩
  · obtain ⟨b', off', e, hb, hcl⟩ := h (by simp at hp; omega)
    injection e with e
    injection e with e1 e2
    subst e1; subst e2
    have ha : (⟨b, off, none⟩ : Addr).add k = ⟨b, off + k, none⟩ := by unfold Addr.add; split <;> simp_all
    rw [if_neg (by simp at hp; omega), ha]
    refine ⟨b, off + k, rfl, hb, fun i hi => ?_⟩
    rw [Nat.add_assoc, hcl (k + i) (by simp at hi; omega)]
    simp [List.getD]
  · simp [Instr.slice, run_underlying Tryd.underlying23, Instr.sliceBounds, run_sliceBound, h1]
    split <;> rfl

set_option maxRecDepth 100000 in
set_option maxHeartbeats 2000000 in
theorem read_any (bs : List Int) (A : Option Addr) (cap : Nat) (w : World) (hR : RB w w.heap.size A bs) (hcap : bs.length ≤ cap) (hm : cap ≤ maxLen) (hl : bs.length ≤ 100000) (hB : Bytes bs) (hT : Tab w) :
    Calls Tryd.prog 10 #[.slice A bs.length cap] w (ReadPost (readS bs) w) := by
  obtain ⟨W0, hW0⟩ : ∃ W0, W0 = w.alloc (.cells #[.int .u64 0, .int .i64 0, .int .i64 0, .slice none 0 0] 25) := ⟨_, rfl⟩
  have hb0 : Below w.heap.size w W0 := by rw [hW0]; exact (Below.refl _ _).alloc (Nat.le_refl _) _
  have hg := get_any bs A cap w.heap.size 0 W0 (hR.below hb0) hcap hm hB (hT.below hb0 hT.big)
  rw [hW0] at hg
  have hok := fun h => getS_ok hB (p := 0) h
  obtain ⟨n, hn⟩ : ∃ n, bs.length = n := ⟨_, rfl⟩
  obtain ⟨x, hx⟩ : ∃ x, getS bs 0 = x := ⟨_, rfl⟩
  obtain ⟨x, p, er⟩ := x
  have HX := Lib.hid hx
  have HG := Lib.hid hg
  have hok' : er = 0 → 0 ≤ x ∧ x < 4611686018427387904 ∧ 0 < p ∧ p ≤ (n : Int) := by
    have : getS bs ((0 : Nat) : Int) = (x, p, er) := hx
    rw [this, hn] at hok
    simpa using hok
  rw [hx, hn] at HG
  rw [hn] at hcap hl ⊢
  have HN := Lib.hid hn
  clear hx hg hok hn
  by_cases he : er = 0
  · subst he
    obtain ⟨x0, x1, p0, p1⟩ := hok' rfl
    obtain ⟨k, rfl⟩ : ∃ k : Nat, p = k := ⟨p.toNat, by omega⟩
    have hk1 : k ≤ n := by omega
    clear hok'
    by_cases hs : n - k < 2
    · have hss : decide (((n - k : Nat) : Int) < 2) = true := by simp; omega
      have HP := Lib.hid (fun w' => readpost_nil (R := readS bs) (E := 10) (w := w) (w' := w') (by
        unfold readS
        rw [HX.out, if_pos rfl, if_pos (by rw [HN.out]; show (n : Int) - (k : Int) < 2; omega)]))
      go_enter Tryd.func10, Tryd.ntmps10
      go_wp2_with fail
      refine HG.out.mono ?_
      rintro e w' ⟨rfl, rfl⟩
      go_wp2
      exact bodyPost_ret (v := .tuple #[PV 0 0 0 none 0 0, .int .i64 10]) (by simp [results, Tryd.results10, go_sem]) rfl (HP.out _ ((Below.refl _ _).alloc (Nat.le_refl _) _))
    · have hss : decide (((n - k : Nat) : Int) < 2) = false := by simp; omega
      have hbs : ∀ i, 0 ≤ bs.getD i 0 ∧ bs.getD i 0 < 256 := hB
      obtain ⟨b, off, hAe, hb, hc⟩ := hR (by rw [HN.out]; omega)
      subst hAe
      have hc0 := hc k (by rw [HN.out]; omega)
      have hc1 := hc (k + 1) (by rw [HN.out]; omega)
      obtain ⟨A2, hA2, hsl⟩ := slice_from b off (k' := (k : Int) + 2) (k := k + 2) (n := n) (cap := cap) (by omega) (by omega) hcap
      have HRD := Lib.hid (hA2 w w.heap.size bs hR HN.out)
      clear hA2
      obtain ⟨u, hu⟩ : ∃ u, bs.getD k 0 = u := ⟨_, rfl⟩
      obtain ⟨v, hv⟩ : ∃ v, bs.getD (k + 1) 0 = v := ⟨_, rfl⟩
      have hu1 := hbs k
      have hv1 := hbs (k + 1)
      rw [hu] at hc0 hu1
      rw [hv] at hc1 hv1
      obtain ⟨u0, u1⟩ := hu1
      obtain ⟨v0, v1⟩ := hv1
      have HU := Lib.hid hu
      have HV := Lib.hid hv
      clear hc hu hv hbs hR
      have q0 : W0.cell? ⟨b, off + k, none⟩ = some (.int .u8 u) := (hb0.cell (p := ⟨b, off + k, none⟩) hb).trans hc0
      have q1 : W0.cell? ⟨b, off + (k + 1), none⟩ = some (.int .u8 v) := (hb0.cell (p := ⟨b, off + (k + 1), none⟩) hb).trans hc1
      clear hc0 hc1
      have g1 : (k : Int) < (n : Int) := by omega
      have g2 : (k : Int) + 1 < (n : Int) := by omega
      have g3 : (0 : Int) ≤ (k : Int) := by omega
      have g4 : (0 : Int) ≤ (k : Int) + 1 := by omega
      have g5 : (k : Int) + 2 ≤ (n : Int) := by omega
      have g6 : (0 : Int) ≤ (k : Int) + 2 := by omega
      have k1 : IntKind.i64.wrap ((k : Int) + 1) = (k : Int) + 1 := IntWalk.i64_in _ (by omega)
      have k2 : IntKind.i64.wrap ((k : Int) + 2) = (k : Int) + 2 := IntWalk.i64_in _ (by omega)
      have k3 : ((k : Int) + 1).toNat = k + 1 := by omega
      have k5 : IntKind.i64.wrap u = u := IntWalk.i64_in _ (by omega)
      have k6 : IntKind.i64.wrap v = v := IntWalk.i64_in _ (by omega)
      have k4 : ((k : Int) + 2).toNat = k + 2 := by omega
      have hW0b : b < W0.heap.size := Nat.lt_of_lt_of_le hb hb0.size
      go_enter Tryd.func10, Tryd.ntmps10
      go_wp2_with fail
      refine HG.out.mono ?_
      rintro e w' ⟨rfl, hw'⟩
      have HW := Lib.hid (hW0.trans hw')
      have HW0 := Lib.hid hW0
      clear hw' hW0
      obtain rfl : W0 = w' := HW.out
      clear HW
      go_wp2
      go_region_held3 (fun W => W.cell? ⟨b, off + k, none⟩ = some (.int .u8 u) ∧ W.cell? ⟨b, off + (k + 1), none⟩ = some (.int .u8 v))
        (first | go_keep)
        (fail)
      clear hsl k1 k2 k3 k4 k5 k6 g1 g2 g3 g4 g5 g6 q0 q1
      have hm2 : n - (k + 2) ≤ maxLen := by omega
      have hdl : (bs.drop (k + 2)).length = n - (k + 2) := by simp [HN.out]
      obtain ⟨m, hme⟩ : ∃ m, n - (k + 2) = m := ⟨_, rfl⟩
      obtain ⟨c2, hce⟩ : ∃ c2, cap - (k + 2) = c2 := ⟨_, rfl⟩
      rw [hme] at hm2 hdl ⊢
      rw [hce]
      have HDL := Lib.hid hdl
      have hmc : m ≤ c2 := by omega
      have hc2m : c2 ≤ maxLen := by omega
      have hml : m ≤ 100000 := by omega
      clear hme hce hdl
      have HS0 := Lib.hid (show W0.heap.size = w.heap.size + 1 by rw [HW0.out]; simp)
      have HZ0 := Lib.hid (show W0.heap[w.heap.size]? = some (.cells #[.int .u64 0, .int .i64 0, .int .i64 0, .slice none 0 0] 25 (0, 0)) by rw [HW0.out]; exact heap_alloc_new _ _)
      obtain ⟨W1, hW1⟩ : ∃ W1, W1 = (W0.alloc (.cells #[.int .u64 x, .int .i64 u, .int .i64 v, .slice (some A2) m c2] 25)).drew := ⟨_, rfl⟩
      have hb1 : Below W0.heap.size W0 W1 := by rw [hW1]; exact belowN ((Below.refl _ _).alloc (Nat.le_refl _) _) 1
      have HP0 := Lib.hid (show W1.heap[W0.heap.size]? = some (.cells #[.int .u64 x, .int .i64 u, .int .i64 v, .slice (some A2) m c2] 25 (0, 0)) by rw [hW1]; exact heap_alloc_new _ _)
      have HW1 := Lib.hid hW1
      rw [← hW1]
      clear hW1
      obtain ⟨⟨r0, r1, r2, r3⟩, _⟩ := blk4 HP0.out
      go_wp2_with fail
      clear r0 r1 r2 r3
      refine (right_any x u v (some A2) m c2 _ (by omega) (by omega) (by omega) (by omega) hm2).mono ?_
      rintro e wy ⟨rfl, hby⟩
      have hbW : Below w.heap.size w wy := (hb0.trans (hb1.mono hb0.size)).trans (hby.mono (Nat.le_trans hb0.size hb1.size))
      have HZ1 := Lib.hid ((hby.block _ (by have := hb1.size; have := HS0.out; omega)).trans ((hb1.block _ (by have := HS0.out; omega)).trans HZ0.out))
      have HP1 := Lib.hid ((hby.block _ (lt_of_block HP0.out)).trans HP0.out)
      have hsy : w.heap.size + 1 < wy.heap.size := by have := lt_of_block HP1.out; have := HS0.out; omega
      have HBW := Lib.hid hbW
      rw [HS0.out] at HP1 ⊢
      clear hb1 hby hbW
      have HPA := Lib.hid (show partAt bs x k = ⟨x, u, v, bs.drop (k + 2)⟩ by rw [partAt, HU.out, HV.out])
      have HOK := Lib.hid (show (partAt bs x k).ok = rgt x u v m by rw [HPA.out, Prt.ok, HDL.out])
      have hRS : readS bs = if rgt x u v m = true then (partAt bs x k, 0) else (pNil, 3) := by
        unfold readS
        rw [HX.out, if_pos rfl, if_neg (by rw [HN.out]; show ¬ (n : Int) - (k : Int) < 2; omega)]
        show (if (partAt bs x (k : Int).toNat).ok = true then _ else _) = _
        rw [Int.toNat_natCast, HOK.out]
      have HRS := Lib.hid hRS
      clear hRS
      cases hr : rgt x u v m
      · rw [hr] at HRS
        have HPP := Lib.hid (fun w' => readpost_nil (R := readS bs) (E := 3) (w := w) (w' := w') HRS.out)
        clear hr
        obtain ⟨⟨z0, z1, z2, z3⟩, y0, y1, y2, y3⟩ := blk4 HZ1.out
        have HBF := Lib.hid ((((HBW.out.setCell (p := ⟨w.heap.size, 0, none⟩) (Nat.le_refl _) (.int .u64 0)).setCell (p := ⟨w.heap.size, 1, none⟩) (Nat.le_refl _) (.int .i64 0)).setCell (p := ⟨w.heap.size, 2, none⟩) (Nat.le_refl _) (.int .i64 0)).setCell (p := ⟨w.heap.size, 3, none⟩) (Nat.le_refl _) (.slice none 0 0))
        go_wp2
        exact bodyPost_ret (v := .tuple #[PV 0 0 0 none 0 0, .int .i64 3]) (by simp [results, Tryd.results10, go_sem, z0, z1, z2, z3]) rfl (HPP.out _ HBF.out)
      · rw [hr] at HRS
        clear hr
        obtain ⟨⟨a0, a1, a2, a3⟩, _⟩ := blk4 HP1.out
        have HCL := Lib.hid (fun nn (h : (bs.drop (k + 2)).length = nn) => clone_n (bs.drop (k + 2)) nn h (some A2) c2 wy ((HRD.out.below HBW.out).keep' HBW.out.size) (by rw [HDL.out]; omega) (fun h => by cases h))
        go_wp2_with fail
        refine (HCL.out m HDL.out).mono ?_
        rintro e wz ⟨v3, rfl, hown, hbz⟩
        rw [HDL.out] at hown
        obtain ⟨A3, c3, rfl, h31, h32, h33⟩ := own_slice hown
        clear a0 a1 a2 a3
        have HP2 := Lib.hid ((hbz.block _ hsy).trans HP1.out)
        have HZ2 := Lib.hid ((hbz.block _ (by omega)).trans HZ1.out)
        obtain ⟨⟨a0, a1, a2, a3⟩, b0, b1, b2, b3⟩ := blk4 HP2.out
        obtain ⟨⟨z0, z1, z2, z3⟩, y0, y1, y2, y3⟩ := blk4 HZ2.out
        have HBF := Lib.hid ((((((HBW.out.trans (hbz.mono HBW.out.size)).setCell (p := ⟨w.heap.size + 1, 3, none⟩) (by simp) (.slice A3 m c3)).setCell (p := ⟨w.heap.size, 0, none⟩) (Nat.le_refl _) (.int .u64 x)).setCell (p := ⟨w.heap.size, 1, none⟩) (Nat.le_refl _) (.int .i64 u)).setCell (p := ⟨w.heap.size, 2, none⟩) (Nat.le_refl _) (.int .i64 v)).setCell (p := ⟨w.heap.size, 3, none⟩) (Nat.le_refl _) (.slice A3 m c3))
        have HOF := Lib.hid (own_set (own_set (own_set (own_set (own_set hown ⟨w.heap.size + 1, 3, none⟩ (.slice A3 m c3) hsy) ⟨w.heap.size, 0, none⟩ (.int .u64 x) (by show w.heap.size < _; omega)) ⟨w.heap.size, 1, none⟩ (.int .i64 u) (by show w.heap.size < _; omega)) ⟨w.heap.size, 2, none⟩ (.int .i64 v) (by show w.heap.size < _; omega)) ⟨w.heap.size, 3, none⟩ (.slice A3 m c3) (by show w.heap.size < _; omega))
        have HPP := Lib.hid (fun w' (ho : w'.ownsRow w.heap.size 5 1 (.slice A3 m c3) m (B8 (bs.drop (k + 2)))) (hb : Below w.heap.size w w') => show ReadPost (readS bs) w (.returned (.tuple #[PV x u v A3 m c3, .int .i64 0])) w' from by
          rw [HRS.out, if_pos trivial, HPA.out]
          refine ⟨A3, c3, ?_, ?_, hb⟩
          · show _ = Ending.returned (.tuple #[PV x u v A3 (bs.drop (k + 2)).length c3, .int .i64 0])
            rw [HDL.out]
          · show w'.ownsRow w.heap.size 5 1 (.slice A3 (bs.drop (k + 2)).length c3) (bs.drop (k + 2)).length (B8 (bs.drop (k + 2)))
            rw [HDL.out]; exact ho)
        clear hown hbz
        go_wp2
        exact bodyPost_ret (v := .tuple #[PV x u v A3 m c3, .int .i64 0]) (by simp [results, Tryd.results10, go_sem, z0, z1, z2, z3]) rfl (HPP.out _ (own_mono HOF.out HBW.out.size) HBF.out)
  · have HP := Lib.hid (fun w' => readpost_nil (R := readS bs) (E := er) (w := w) (w' := w') (by
      unfold readS
      rw [HX.out, if_neg he]))
    have hz : (er != 0) = true := by simpa using he
    clear hok' he
    go_enter Tryd.func10, Tryd.ntmps10
    go_wp2_with fail
    refine HG.out.mono ?_
    rintro e w' ⟨rfl, rfl⟩
    go_wp2
    exact bodyPost_ret (v := .tuple #[PV 0 0 0 none 0 0, .int .i64 er]) (by simp [results, Tryd.results10, go_sem]) rfl (HP.out _ ((Below.refl _ _).alloc (Nat.le_refl _) _))
end Go.Proofs.YtmklcghoeapfbaaDoor
