/-
  Proved here, where the table of constants is as the program lays it: the law MacMarks answers true wherever its guard does not strike, and nothing that was there is changed.
-/
import Derived.Test.YtakfcdemoaogfaaDoorMStr
import Derived.Deep.RegionHeld
import Derived.Deep.DrawnRows
import Derived.Deep.DeepCutAuto
namespace Go.Proofs.YtakfcdemoaogfaaDoor
open Go.RowKit
theorem ZL_eq : ZL = (V8 Z32).toArray := by kernel_rfl
/-- What has been made so far, all of it by this call. -/
structure KT (w : World) (oA oB : Obj) (oa ob : Option Nat) (W : World) : Prop where
  ks : KS w oA oB oa ob W
  lo : ∀ g, ob = some g → w.heap.size ≤ g
theorem KT.below {w : World} {oA oB : Obj} {oa ob : Option Nat} {W : World} (h : KT w oA oB oa ob W) : Below w.heap.size w W := h.ks.below
theorem KT.b {w : World} {oA oB : Obj} {oa ob : Option Nat} {W : World} (h : KT w oA oB oa ob W) : ∀ g, ob = some g → W.heap[g]? = some oB := h.ks.b
theorem KT.to {w : World} {oA oB : Obj} {oa ob : Option Nat} {W W' : World} (h : KT w oA oB oa ob W) (hb : Below W.heap.size W W') : KT w oA oB oa ob W' := ⟨h.ks.to hb, h.lo⟩
theorem KT.newA {w : World} {oA oB : Obj} {ob : Option Nat} {W : World} (h : KT w oA oB none ob W) : KT w oA oB (some W.heap.size) ob (W.alloc oA) := ⟨h.ks.newA, h.lo⟩
theorem KT.newB {w : World} {oA oB : Obj} {oa : Option Nat} {W : World} (h : KT w oA oB oa none W) : KT w oA oB oa (some W.heap.size) (W.alloc oB) :=
  ⟨h.ks.newB, fun g e => by obtain rfl := Option.some.inj e; exact h.ks.below.size⟩
theorem KT.from_b {w : World} {oA oB : Obj} {oa : Option Nat} {g : Nat} {W : World} (h : KT w oA oB oa (some g) W) : w.heap.size ≤ g := h.lo g rfl
/-- The mark lies in a block of this call's own. -/
structure MW (w : World) (X : List Nat) (g : Nat) (W : World) : Prop where
  blk : W.heap[g]? = some (.cells (V8 X).toArray 29 (0, 0))
  below : Below w.heap.size w W
theorem mark_2 (key b1 b2 : List Nat) (n n1 n2 : Nat) (hn : key.length = n) (hn1 : b1.length = n1) (hn2 : b2.length = n2) (L B1 B2 : Option Addr) (cl c1 c2 : Nat) (W : World) (g : Nat) (hg : W.heap[g]? = some (.cells #[.slice B1 n1 c1, .slice B2 n2 c2] 22 (0, 0))) (hL : R0 W L key) (hcl : n ≤ cl) (hml : cl ≤ maxLen) (hB1 : R0 W B1 b1) (hB2 : R0 W B2 b2) (hc1 : n1 ≤ c1) (hm1 : c1 ≤ maxLen) (hc2 : n2 ≤ c2) (hm2 : c2 ≤ maxLen) (hT : Tab W) (h1 : n ≤ 1000) (h2 : n1 + n2 ≤ 1000) :
    Calls Tryd.prog 18 #[.slice L n cl, .slice (some ⟨g, 0, none⟩) 2 2] W fun e w' => e = .returned (.agg (V8 (markS key (b1 ++ b2))).toArray) ∧ Below W.heap.size W w' := by
  subst hn
  subst hn1
  subst hn2
  have := mark_any key [b1, b2] L (some ⟨g, 0, none⟩) cl 2 W hL hcl hml (RS.two hg hB1 hB2 hc1 hc2 hm1 hm2) (by simp) (by unfold maxLen; omega) hT (by omega) (by simp; omega)
  simpa using this
theorem right_1 (key mk bs : List Nat) (n nm nb : Nat) (hn : key.length = n) (hnm : mk.length = nm) (hnb : bs.length = nb) (A C B : Option Addr) (ca cm cb : Nat) (W : World) (g : Nat) (hg : W.heap[g]? = some (.cells #[.slice B nb cb] 22 (0, 0))) (hK : R0 W A key) (hca : n ≤ ca) (hma : ca ≤ maxLen) (hM : R0 W C mk) (hmk : ∀ i, mk.getD i 0 < 256) (hB : R0 W B bs) (hcb : nb ≤ cb) (hmb : cb ≤ maxLen) (hT : Tab W) (h1 : n ≤ 1000) (h2 : nb ≤ 1000) :
    Calls Tryd.prog 21 #[.slice A n ca, .slice C nm cm, .slice (some ⟨g, 0, none⟩) 1 1] W fun e w' => e = .returned (.bool (rightS key mk bs)) ∧ Below W.heap.size W w' := by
  subst hn
  subst hnm
  subst hnb
  have := right_any key mk [bs] A C (some ⟨g, 0, none⟩) ca cm 1 W hK hca hma hM hmk (RS.one hg hB hcb hmb) (by simp) (by unfold maxLen; omega) hT (by omega) (by simp; omega)
  simpa using this
theorem begins_x (X mk : List Nat) (nm : Nat) (hX : X.length = 32) (hnm : mk.length = nm) (g : Nat) (C : Option Addr) (cm : Nat) (W : World) (hg : W.heap[g]? = some (.cells (V8 X).toArray 29 (0, 0))) (hM : R0 W C mk) (h : nm ≤ 32) :
    Calls Tryd.prog 22 #[.slice (some ⟨g, 0, none⟩) 32 32, .slice C nm cm] W fun e w' => e = .returned (.bool (eqS mk (X.take nm))) ∧ Below W.heap.size W w' := by
  subst hnm
  have := begins_any X mk (some ⟨g, 0, none⟩) C 32 cm W (R0.block hg) hM (by omega) (by omega)
  rw [begS_eq X mk (by omega), hX] at this
  exact this
theorem slice_sum9 (g : Nat) (W : World) : (Instr.sliceAt 29 (.pointer (some ⟨g, 0, none⟩)) none none none).run Tryd.prog W = .ok (.slice (some ⟨g, 0, none⟩) 32 32) W := by
  have ha : (⟨g, 0, none⟩ : Addr).add 0 = ⟨g, 0, none⟩ := rfl
  simp [Instr.sliceAt, Instr.sureAddr, run_underlying Tryd.underlying29, Instr.sliceBounds, ha]
/-- The world of this call, the mark in its block, as it goes on. -/
theorem MW.to {w : World} {X : List Nat} {g : Nat} {W W' : World} (h : MW w X g W) (hb : Below W.heap.size W W') : MW w X g W' :=
  ⟨(hb.block _ (lt_of_blk h.blk)).trans h.blk, h.below.trans (hb.mono h.below.size)⟩
set_option maxRecDepth 100000 in
set_option maxHeartbeats 4000000 in
theorem marks_in (key bs mk : List Nat) (A B C : Option Addr) (ca cb cm : Nat) (i : Nat) (w : World) (hT : Tab w) (hK : R0 w A key) (hca : key.length ≤ ca) (hma : ca ≤ maxLen) (hnA : A = none → ca = 0) (ha : ∀ j, key.getD j 0 < 256) (hB : R0 w B bs) (hcb : bs.length ≤ cb) (hmb : cb ≤ maxLen) (hnB : B = none → cb = 0) (hb : ∀ j, bs.getD j 0 < 256)
    (hM : R0 w C mk) (hm : ∀ j, mk.getD j 0 < 256) (h1 : key.length ≤ 150) (h2 : bs.length ≤ 150) (h3 : mk.length ≤ 60) (hi : i ≤ bs.length) :
    Calls Tryd.prog 6 #[.slice A key.length ca, .slice B bs.length cb, .slice C mk.length cm, .int .i64 (i : Int)] w fun e w' => e = .returned (.bool true) ∧ Below w.heap.size w w' := by
  obtain ⟨B2, hB2, hs2⟩ := slice_low w rfl hB hcb hi
  have hs1 := fun W => slice_high B bs.length cb i hi hcb W
  obtain ⟨n, hn⟩ : ∃ n, key.length = n := ⟨_, rfl⟩
  obtain ⟨nb, hnb⟩ : ∃ nb, bs.length = nb := ⟨_, rfl⟩
  obtain ⟨nm, hnm⟩ : ∃ nm, mk.length = nm := ⟨_, rfl⟩
  have HM := Lib.hid (fun (oa ob : Option Nat) (W : World) (g : Nat) (h : KS w (.cells #[.slice B i cb, .slice B2 (nb - i) (cb - i)] 22) (.cells ZL 29) oa ob W) (e : oa = some g) =>
    mark_2 key (bs.take i) (bs.drop i) n i (nb - i) hn (by simp; omega) (by simp [hnb]) A B B2 ca cb (cb - i) W g (h.a g e) (hK.to h.below) (by omega) hma (R0.front (hB.to h.below) i) (hB2 W h.below) (by omega) hmb (by omega) (by omega) (hT.to h.below) (by omega) (by omega))
  rw [List.take_append_drop] at HM
  unfold ZL at HM
  have HRM := Lib.hid (fun (W : World) (h : Below w.heap.size w W) => rmark_any key bs A B ca cb W (hK.to h) hnA hca ha (hB.to h) hnB hcb hb (by omega) (by omega))
  rw [hn, hnb] at HRM
  have HEQ := Lib.hid (fun (W : World) (h : Below w.heap.size w W) => equal_any key bs n nb hn hnb A B ca cb W (hK.to h) (hB.to h) (by omega) ha hb)
  have HST := Lib.hid (strN_eq ha hb)
  have HCK := Lib.hid (fun (W : World) (h : Below w.heap.size w W) => conv_nat hn ca (hK.to h))
  have HCB := Lib.hid (fun (W : World) (h : Below w.heap.size w W) => conv_nat hnb cb (hB.to h))
  have HRI := Lib.hid (fun (W : World) (g : Nat) (h : Below w.heap.size w W) (hg : W.heap[g]? = some (.cells #[.slice B nb cb] 22 (0, 0))) => right_1 key mk bs n nm nb hn hnm hnb A C B ca cm cb W g hg (hK.to h) (by omega) hma (hM.to h) hm (hB.to h) (by omega) hmb (hT.to h) (by omega) (by omega))
  have hrs : rightS key mk bs = (decide (8 ≤ nm) && decide (nm ≤ 32) && eqS mk ((markS key bs).take nm)) := by rw [← hnm]; rfl
  rw [hrs] at HRI
  have hXl : (markS key bs).length = 32 := length_markS _ _
  have HBG := Lib.hid (fun (W : World) (g : Nat) (h : Below w.heap.size w W) (hg : W.heap[g]? = some (.cells (V8 (markS key bs)).toArray 29 (0, 0))) (h32 : nm ≤ 32) => begins_x (markS key bs) mk nm hXl hnm g C cm W hg (hM.to h) h32)
  generalize markS key bs = X at HM HRM HRI HBG hXl
  generalize eqS key bs = r at HEQ HST
  generalize strN key = sk at HST HCK
  generalize strN bs = sb at HST HCB
  have HT := Lib.hid hT
  have HXL := Lib.hid hXl
  have HSX := Lib.hid (show (Tryd.prog.info? 29).map (·.size) = some (V8 X).length by rw [length_V8, hXl]; exact info29)
  have HFX := Lib.hid (show 0 + (V8 X).length ≤ (V8 Z32).length by rw [length_V8, hXl]; simp [Z32])
  have HNX := Lib.hid (show (V8 Z32).take 0 ++ V8 X ++ (V8 Z32).drop (0 + (V8 X).length) = V8 X by rw [length_V8, hXl, List.drop_of_length_le (by simp [Z32])]; simp)
  rw [hn] at h1
  rw [hnb] at h2 hs1 hs2 hi
  rw [hnm] at h3
  have t1 : ¬ (150 : Int) < (n : Int) := by omega
  have t2 : ¬ (150 : Int) < (nb : Int) := by omega
  have t3 : ¬ (60 : Int) < (nm : Int) := by omega
  have t4 : ¬ (i : Int) < 0 := by omega
  have t5 : ¬ (nb : Int) < (i : Int) := by omega
  rw [hn, hnb, hnm]
  clear hT hK hca hma hnA hB hcb hmb hb hM hm hB2 hn hnb hnm hrs hXl ha hnB h1 h2 h3 hi
  go_enter Tryd.func6, Tryd.ntmps6
  go_upto_region 3 with fail
  clear t1 t2 t3 t4 t5
  go_cut [9] (fun s9 wx => ∃ g9 : Nat, s9 = .pointer (some ⟨g9, 0, none⟩) ∧ Hid (MW w X g9 wx))
  case first =>
    refine wp_region_held_drew (S := fun _ => True) (by kernel_rfl) trivial (fun hHeld => ?_)
    have N0 := Lib.hid (show KT w (.cells #[.slice B i cb, .slice B2 (nb - i) (cb - i)] 22) (.cells ZL 29) none none w.drew from ⟨⟨(Below.refl _ _).drew, (fun g h => by cases h), (fun g h => by cases h)⟩, (fun g h => by cases h)⟩)
    unfold ZL at N0
    generalize w.drew = U0 at N0 ⊢
    refine wpAnyH_take (i := 0) (v := ?_) (by simp; rfl) (by kernel_rfl) (by kernel_rfl) (by kernel_rfl) (by exact fun _ _ _ h => h) (Or.inl ⟨by rfl, fun wx hSx => ?_⟩) hHeld ?_
    rotate_left
    · clear hSx; go_simp; (try with_reducible rfl)
    simp only [Act.put, List.setIfInBounds_toArray, List.set_cons_zero, List.set_cons_succ]
    refine wpAnyH_take (i := 1) (v := ?_) (by simp; rfl) (by kernel_rfl) (by kernel_rfl) (by kernel_rfl) (by exact fun _ _ _ h => h) (Or.inl ⟨by rfl, fun wx hSx => ?_⟩) hHeld ?_
    rotate_left
    · clear hSx; go_simp; (try with_reducible rfl)
    simp only [Act.put, List.setIfInBounds_toArray, List.set_cons_zero, List.set_cons_succ]
    refine wpAnyH_take (i := 2) (v := ?_) (by simp; rfl) (by kernel_rfl) (by kernel_rfl) (by kernel_rfl) (by exact fun _ _ _ h => h) (Or.inl ⟨by rfl, fun wx hSx => ?_⟩) hHeld ?_
    rotate_left
    · clear hSx; go_simp; (try with_reducible rfl)
    simp only [Act.put, List.setIfInBounds_toArray, List.set_cons_zero, List.set_cons_succ]
    refine wpAnyH_take (i := 3) (v := ?_) (by simp; rfl) (by kernel_rfl) (by kernel_rfl) (by kernel_rfl) (by exact fun _ _ _ h => h) (Or.inl ⟨by rfl, fun wx hSx => ?_⟩) hHeld ?_
    rotate_left
    · clear hSx; go_simp; (try with_reducible rfl)
    simp only [Act.put, List.setIfInBounds_toArray, List.set_cons_zero, List.set_cons_succ]
    refine wpAnyH_take (i := 4) (v := ?_) (by simp; rfl) (by kernel_rfl) (by kernel_rfl) (by kernel_rfl) (by exact fun _ _ _ h => h) (Or.inl ⟨by rfl, fun wx hSx => ?_⟩) hHeld ?_
    rotate_left
    · clear hSx; go_simp; (try with_reducible rfl)
    simp only [Act.put, List.setIfInBounds_toArray, List.set_cons_zero, List.set_cons_succ]
    refine wpAnyH_take (i := 5) (v := ?_) (by simp; rfl) (by kernel_rfl) (by kernel_rfl) (by kernel_rfl) (by exact fun _ _ _ h => h) (Or.inl ⟨by rfl, fun wx hSx => ?_⟩) hHeld ?_
    rotate_left
    · clear hSx; go_simp; (try with_reducible rfl)
    simp only [Act.put, List.setIfInBounds_toArray, List.set_cons_zero, List.set_cons_succ]
    refine wpAnyH_take (i := 6) (v := ?_) (by simp; rfl) (by kernel_rfl) (by kernel_rfl) (by kernel_rfl) (by exact fun _ _ _ h => h) (Or.inl ⟨by rfl, fun wx hSx => ?_⟩) hHeld ?_
    rotate_left
    · clear hSx; go_simp; (try with_reducible rfl)
    simp only [Act.put, List.setIfInBounds_toArray, List.set_cons_zero, List.set_cons_succ]
    clear hs1 hs2
    refine wpAnyH_ready (rs := [7, 9]) (by kernel_rfl) (by simp) ?_
    refine AllReadyH.cons (by simp; rfl) (fun K0 hK0 => ?_) (AllReadyH.cons (by simp; rfl) (fun K0 hK0 => ?_) AllReadyH.nil)
    · go_simp
      have N1 := Lib.hid (N0.out.newA)
      refine hK0.out _ _ trivial (fun hHeld => ?_)
      clear hK0 K0 N0
      generalize (U0.alloc _) = y2 at N1 ⊢
      generalize U0.heap.size = g3 at N1 ⊢
      refine wpAnyH_ready (rs := [8, 9]) (by kernel_rfl) (by simp) ?_
      refine AllReadyH.cons (by simp; rfl) (fun K0 hK0 => ?_) (AllReadyH.cons (by simp; rfl) (fun K0 hK0 => ?_) AllReadyH.nil)
      · go_simp
        refine (HM.out _ _ y2 g3 N1.out.ks rfl).mono ?_
        rintro e y5 ⟨rfl, hb⟩
        have N4 := Lib.hid (N1.out.to hb)
        refine hK0.out _ _ trivial (fun hHeld => ?_)
        clear hK0 K0 N1 hb
        refine wpAnyH_ready (rs := [9]) (by kernel_rfl) (by simp) ?_
        refine AllReadyH.cons (by simp; rfl) (fun K0 hK0 => ?_) AllReadyH.nil
        · go_simp
          have N6 := Lib.hid (N4.out.newB)
          unfold ZL at N6
          refine hK0.out _ _ trivial (fun hHeld => ?_)
          clear hK0 K0 N4
          generalize (y5.alloc _) = y7 at N6 ⊢
          generalize y5.heap.size = g8 at N6 ⊢
          have hg : y7.heap[g8]? = some (.cells (V8 Z32).toArray 29 (0, 0)) := by rw [← ZL_eq]; exact N6.out.b _ rfl
          have HW := Lib.hid (show MW w X g8 (y7.setRow g8 (V8 X).toArray) from ⟨setRow_heap _ _ _ _ _ _ hg, below_setRow N6.out.below (N6.out.from_b) _⟩)
          refine wpAnyH_store 10 (by kernel_rfl) (by simp; rfl) (by rfl) 29 (.tmp 9) (.tmp 42) (by rfl) g8 0 (V8 X) (by rfl) (by rfl) 29 (V8 Z32) hg HSX.out HFX.out (one_V8 _) (V8 X) HNX.out trivial ?_
          simp only [Act.put]
          clear hg N6
          refine wpAnyH_done (by kernel_rfl) ?_ _
          go_wp2_with fail
          go_meet
          exact ⟨_, rfl, HW⟩
      · go_simp
        have N9 := Lib.hid (N1.out.newB)
        unfold ZL at N9
        refine hK0.out _ _ trivial (fun hHeld => ?_)
        clear hK0 K0 N1
        generalize (y2.alloc _) = y10 at N9 ⊢
        generalize y2.heap.size = g11 at N9 ⊢
        refine wpAnyH_ready (rs := [8]) (by kernel_rfl) (by simp) ?_
        refine AllReadyH.cons (by simp; rfl) (fun K0 hK0 => ?_) AllReadyH.nil
        · go_simp
          refine (HM.out _ _ y10 g3 N9.out.ks rfl).mono ?_
          rintro e y13 ⟨rfl, hb⟩
          have N12 := Lib.hid (N9.out.to hb)
          refine hK0.out _ _ trivial (fun hHeld => ?_)
          clear hK0 K0 N9 hb
          have hg : y13.heap[g11]? = some (.cells (V8 Z32).toArray 29 (0, 0)) := by rw [← ZL_eq]; exact N12.out.b _ rfl
          have HW := Lib.hid (show MW w X g11 (y13.setRow g11 (V8 X).toArray) from ⟨setRow_heap _ _ _ _ _ _ hg, below_setRow N12.out.below (N12.out.from_b) _⟩)
          refine wpAnyH_store 10 (by kernel_rfl) (by simp; rfl) (by rfl) 29 (.tmp 9) (.tmp 42) (by rfl) g11 0 (V8 X) (by rfl) (by rfl) 29 (V8 Z32) hg HSX.out HFX.out (one_V8 _) (V8 X) HNX.out trivial ?_
          simp only [Act.put]
          clear hg N12
          refine wpAnyH_done (by kernel_rfl) ?_ _
          go_wp2_with fail
          go_meet
          exact ⟨_, rfl, HW⟩
    · go_simp
      have N14 := Lib.hid (N0.out.newB)
      unfold ZL at N14
      refine hK0.out _ _ trivial (fun hHeld => ?_)
      clear hK0 K0 N0
      generalize (U0.alloc _) = y15 at N14 ⊢
      generalize U0.heap.size = g16 at N14 ⊢
      refine wpAnyH_ready (rs := [7]) (by kernel_rfl) (by simp) ?_
      refine AllReadyH.cons (by simp; rfl) (fun K0 hK0 => ?_) AllReadyH.nil
      · go_simp
        have N17 := Lib.hid (N14.out.newA)
        refine hK0.out _ _ trivial (fun hHeld => ?_)
        clear hK0 K0 N14
        generalize (y15.alloc _) = y18 at N17 ⊢
        generalize y15.heap.size = g19 at N17 ⊢
        refine wpAnyH_ready (rs := [8]) (by kernel_rfl) (by simp) ?_
        refine AllReadyH.cons (by simp; rfl) (fun K0 hK0 => ?_) AllReadyH.nil
        · go_simp
          refine (HM.out _ _ y18 g19 N17.out.ks rfl).mono ?_
          rintro e y21 ⟨rfl, hb⟩
          have N20 := Lib.hid (N17.out.to hb)
          refine hK0.out _ _ trivial (fun hHeld => ?_)
          clear hK0 K0 N17 hb
          have hg : y21.heap[g16]? = some (.cells (V8 Z32).toArray 29 (0, 0)) := by rw [← ZL_eq]; exact N20.out.b _ rfl
          have HW := Lib.hid (show MW w X g16 (y21.setRow g16 (V8 X).toArray) from ⟨setRow_heap _ _ _ _ _ _ hg, below_setRow N20.out.below (N20.out.from_b) _⟩)
          refine wpAnyH_store 10 (by kernel_rfl) (by simp; rfl) (by rfl) 29 (.tmp 9) (.tmp 42) (by rfl) g16 0 (V8 X) (by rfl) (by rfl) 29 (V8 Z32) hg HSX.out HFX.out (one_V8 _) (V8 X) HNX.out trivial ?_
          simp only [Act.put]
          clear hg N20
          refine wpAnyH_done (by kernel_rfl) ?_ _
          go_wp2_with fail
          go_meet
          exact ⟨_, rfl, HW⟩
  case rest =>
    obtain ⟨g9, rfl, HW⟩ := hcut
    clear HM HSX HFX HNX hs1 hs2
    go_upto_region 4 with fail
    have L9 := lt_of_blk HW.out.blk
    have hs9 := slice_sum9 g9
    have ss : (!((strN X).toList == (strN X).toList)) = false := by simp
    have rr : (r != r) = false := by simp
    have hst := HST.out
    refine wp_region_held_drew (S := fun W => Below wc.heap.size wc W) (by kernel_rfl) (Below.refl _ _).drew (fun hHeld => ?_)
    refine wpAnyH_take (i := 0) (v := ?_) (by simp; rfl) (by kernel_rfl) (by kernel_rfl) (by kernel_rfl) (by exact fun _ _ _ h => h) (Or.inl ⟨by rfl, fun wx hSx => ?_⟩) hHeld ?_
    rotate_left
    · clear hSx; go_simp; (try with_reducible rfl)
    simp only [Act.put, List.setIfInBounds_toArray, List.set_cons_zero, List.set_cons_succ]
    refine wpAnyH_take (i := 1) (v := ?_) (by simp; rfl) (by kernel_rfl) (by kernel_rfl) (by kernel_rfl) (by exact fun _ _ _ h => h) (Or.inl ⟨by rfl, fun wx hSx => ?_⟩) hHeld ?_
    rotate_left
    · have hc := conv_nat (A := some ⟨g9, 0, none⟩) HXL.out 32 (R0.block ((hSx.block _ L9).trans HW.out.blk)); clear hSx; go_simp; (try with_reducible rfl)
    simp only [Act.put, List.setIfInBounds_toArray, List.set_cons_zero, List.set_cons_succ]
    refine wpAnyH_take (i := 2) (v := ?_) (by simp; rfl) (by kernel_rfl) (by kernel_rfl) (by kernel_rfl) (by exact fun _ _ _ h => h) (Or.inl ⟨by rfl, fun wx hSx => ?_⟩) hHeld ?_
    rotate_left
    · clear hSx; go_simp; (try with_reducible rfl)
    simp only [Act.put, List.setIfInBounds_toArray, List.set_cons_zero, List.set_cons_succ]
    refine wpAnyH_take (i := 3) (v := ?_) (by simp; rfl) (by kernel_rfl) (by kernel_rfl) (by kernel_rfl) (by exact fun _ _ _ h => h) (Or.inl ⟨by rfl, fun wx hSx => ?_⟩) hHeld ?_
    rotate_left
    · clear hSx; go_simp; (try with_reducible rfl)
    simp only [Act.put, List.setIfInBounds_toArray, List.set_cons_zero, List.set_cons_succ]
    refine wpAnyH_ready (rs := [4]) (by kernel_rfl) (by simp) ?_
    refine AllReadyH.cons (by simp; rfl) (fun K0 hK0 => ?_) AllReadyH.nil
    go_simp
    refine (HRM.out wc.drew (HW.out.below.trans ((Below.refl _ wc).drew.mono HW.out.below.size))).mono ?_
    rintro e v0 ⟨vr, rfl, hor, hb⟩
    have HV := Lib.hid (show Below wc.heap.size wc v0 from (Below.refl _ wc).drew.trans hb)
    obtain ⟨AR, cr, rfl, hR0, _, _⟩ := own_r0 hor
    refine hK0.out _ _ HV.out (fun hHeld => ?_)
    clear hK0 K0 hb hor
    have hc5 := conv_nat HXL.out cr hR0
    refine wpAnyH_ready (rs := [5]) (by kernel_rfl) (by simp) ?_
    refine AllReadyH.cons (by simp; rfl) (fun K0 hK0 => ?_) AllReadyH.nil
    go_simp
    refine hK0.out _ _ HV.out (fun hHeld => ?_)
    clear hK0 K0 hc5 hR0
    refine wpAnyH_take (i := 6) (v := ?_) (by simp; rfl) (by kernel_rfl) (by kernel_rfl) (by kernel_rfl) (by exact fun _ _ _ h => h) (Or.inl ⟨by rfl, fun wx hSx => ?_⟩) hHeld ?_
    rotate_left
    · clear hSx; go_simp; (try with_reducible rfl)
    simp only [Act.put, List.setIfInBounds_toArray, List.set_cons_zero, List.set_cons_succ]
    refine wpAnyH_take (i := 7) (v := ?_) (by simp; rfl) (by kernel_rfl) (by kernel_rfl) (by kernel_rfl) (by exact fun _ _ _ h => h) (Or.inl ⟨by rfl, fun wx hSx => ?_⟩) hHeld ?_
    rotate_left
    · clear hSx; go_simp; (try with_reducible rfl)
    simp only [Act.put, List.setIfInBounds_toArray, List.set_cons_zero, List.set_cons_succ]
    refine wpAnyH_take (i := 8) (v := ?_) (by simp; rfl) (by kernel_rfl) (by kernel_rfl) (by kernel_rfl) (by exact fun _ _ _ h => h) (Or.inl ⟨by rfl, fun wx hSx => ?_⟩) hHeld ?_
    rotate_left
    · clear hSx; go_simp; (try with_reducible rfl)
    simp only [Act.put, List.setIfInBounds_toArray, List.set_cons_zero, List.set_cons_succ]
    refine wpAnyH_take (i := 9) (v := ?_) (by simp; rfl) (by kernel_rfl) (by kernel_rfl) (by kernel_rfl) (by exact fun _ _ _ h => h) (Or.inl ⟨by rfl, fun wx hSx => ?_⟩) hHeld ?_
    rotate_left
    · clear hSx; go_simp; (try with_reducible rfl)
    simp only [Act.put, List.setIfInBounds_toArray, List.set_cons_zero, List.set_cons_succ]
    refine wpAnyH_take (i := 11) (v := ?_) (by simp; rfl) (by kernel_rfl) (by kernel_rfl) (by kernel_rfl) (by exact fun _ _ _ h => h) (Or.inl ⟨by rfl, fun wx hSx => ?_⟩) hHeld ?_
    rotate_left
    · clear hSx; go_simp; (try with_reducible rfl)
    simp only [Act.put, List.setIfInBounds_toArray, List.set_cons_zero, List.set_cons_succ]
    refine wpAnyH_take (i := 12) (v := ?_) (by simp; rfl) (by kernel_rfl) (by kernel_rfl) (by kernel_rfl) (by exact fun _ _ _ h => h) (Or.inl ⟨by rfl, fun wx hSx => ?_⟩) hHeld ?_
    rotate_left
    · have hc := HCK.out wx (HW.out.below.trans (hSx.mono HW.out.below.size)); clear hSx; go_simp; (try with_reducible rfl)
    simp only [Act.put, List.setIfInBounds_toArray, List.set_cons_zero, List.set_cons_succ]
    refine wpAnyH_take (i := 13) (v := ?_) (by simp; rfl) (by kernel_rfl) (by kernel_rfl) (by kernel_rfl) (by exact fun _ _ _ h => h) (Or.inl ⟨by rfl, fun wx hSx => ?_⟩) hHeld ?_
    rotate_left
    · clear hSx; go_simp; (try with_reducible rfl)
    simp only [Act.put, List.setIfInBounds_toArray, List.set_cons_zero, List.set_cons_succ]
    refine wpAnyH_take (i := 14) (v := ?_) (by simp; rfl) (by kernel_rfl) (by kernel_rfl) (by kernel_rfl) (by exact fun _ _ _ h => h) (Or.inl ⟨by rfl, fun wx hSx => ?_⟩) hHeld ?_
    rotate_left
    · have hc := HCB.out wx (HW.out.below.trans (hSx.mono HW.out.below.size)); clear hSx; go_simp; (try with_reducible rfl)
    simp only [Act.put, List.setIfInBounds_toArray, List.set_cons_zero, List.set_cons_succ]
    refine wpAnyH_take (i := 15) (v := ?_) (by simp; rfl) (by kernel_rfl) (by kernel_rfl) (by kernel_rfl) (by exact fun _ _ _ h => h) (Or.inl ⟨by rfl, fun wx hSx => ?_⟩) hHeld ?_
    rotate_left
    · clear hSx; go_simp; (try with_reducible rfl)
    simp only [Act.put, List.setIfInBounds_toArray, List.set_cons_zero, List.set_cons_succ]
    refine wpAnyH_ready (rs := [10]) (by kernel_rfl) (by simp) ?_
    refine AllReadyH.cons (by simp; rfl) (fun K0 hK0 => ?_) AllReadyH.nil
    go_simp
    refine (HEQ.out v0 (HW.out.below.trans (HV.out.mono HW.out.below.size))).mono ?_
    rintro e wq ⟨rfl, rfl⟩
    refine hK0.out _ _ HV.out (fun hHeld => ?_)
    clear hK0 K0
    refine wpAnyH_take (i := 16) (v := ?_) (by simp; rfl) (by kernel_rfl) (by kernel_rfl) (by kernel_rfl) (by exact fun _ _ _ h => h) (Or.inl ⟨by rfl, fun wx hSx => ?_⟩) hHeld ?_
    rotate_left
    · clear hSx; go_simp; (try with_reducible rfl)
    simp only [Act.put, List.setIfInBounds_toArray, List.set_cons_zero, List.set_cons_succ]
    refine wpAnyH_take (i := 17) (v := ?_) (by simp; rfl) (by kernel_rfl) (by kernel_rfl) (by kernel_rfl) (by exact fun _ _ _ h => h) (Or.inl ⟨by rfl, fun wx hSx => ?_⟩) hHeld ?_
    rotate_left
    · clear hSx; go_simp; (try with_reducible rfl)
    simp only [Act.put, List.setIfInBounds_toArray, List.set_cons_zero, List.set_cons_succ]
    refine wpAnyH_done (by kernel_rfl) ?_ _
    have HW2 := Lib.hid (HW.out.to HV.out)
    clear hHeld HW HV HRM HEQ HST HCK HCB ss rr hst
    by_cases q8 : 8 ≤ nm
    · by_cases q32 : nm ≤ 32
      · rw [decide_eq_true q8, decide_eq_true q32, Bool.true_and, Bool.true_and] at HRI
        generalize eqS mk (X.take nm) = z at HRI HBG
        have zz : (z == z) = true := by simp
        have p8 : (8 : Int) ≤ (nm : Int) := by omega
        have p32 : (nm : Int) ≤ 32 := by omega
        go_wp2_with fail
        refine (alive4_any v0 (HT.out.to HW2.out.below)).mono ?_
        rintro e w3 ⟨rfl, hb3⟩
        have HW3 := Lib.hid (HW2.out.to hb3)
        clear hb3 HW2
        go_wp2_with fail
        have HW4 := Lib.hid (HW3.out.to ((Below.refl _ _).alloc (Nat.le_refl _) (.cells #[.slice B nb cb] 22)))
        refine (HRI.out _ _ HW4.out.below (heap_alloc_new _ _)).mono ?_
        rintro e w5 ⟨rfl, hb5⟩
        have HW5 := Lib.hid (HW4.out.to hb5)
        clear hb5 HW4 HW3
        go_wp2_with fail
        refine (HBG.out _ g9 HW5.out.below HW5.out.blk (by omega)).mono ?_
        rintro e w6 ⟨rfl, hb6⟩
        have HW6 := Lib.hid (HW5.out.to hb6)
        clear hb6 HW5
        go_wp2
        go_ret
        exact ⟨rfl, HW6.out.below⟩
      · rw [decide_eq_false q32, Bool.and_false, Bool.false_and] at HRI
        have p8 : (8 : Int) ≤ (nm : Int) := by omega
        have p32 : (32 : Int) < (nm : Int) := by omega
        go_wp2_with fail
        refine (alive4_any v0 (HT.out.to HW2.out.below)).mono ?_
        rintro e w3 ⟨rfl, hb3⟩
        have HW3 := Lib.hid (HW2.out.to hb3)
        clear hb3 HW2
        go_wp2_with fail
        have HW4 := Lib.hid (HW3.out.to ((Below.refl _ _).alloc (Nat.le_refl _) (.cells #[.slice B nb cb] 22)))
        refine (HRI.out _ _ HW4.out.below (heap_alloc_new _ _)).mono ?_
        rintro e w5 ⟨rfl, hb5⟩
        have HW5 := Lib.hid (HW4.out.to hb5)
        clear hb5 HW4 HW3
        go_wp2
        go_ret
        exact ⟨rfl, HW5.out.below⟩
    · rw [decide_eq_false q8, Bool.false_and, Bool.false_and] at HRI
      have p8 : (nm : Int) < 8 := by omega
      go_wp2_with fail
      refine (alive4_any v0 (HT.out.to HW2.out.below)).mono ?_
      rintro e w3 ⟨rfl, hb3⟩
      have HW3 := Lib.hid (HW2.out.to hb3)
      clear hb3 HW2
      go_wp2_with fail
      have HW4 := Lib.hid (HW3.out.to ((Below.refl _ _).alloc (Nat.le_refl _) (.cells #[.slice B nb cb] 22)))
      refine (HRI.out _ _ HW4.out.below (heap_alloc_new _ _)).mono ?_
      rintro e w5 ⟨rfl, hb5⟩
      have HW5 := Lib.hid (HW4.out.to hb5)
      clear hb5 HW4 HW3
      go_wp2
      go_ret
      exact ⟨rfl, HW5.out.below⟩
end Go.Proofs.YtakfcdemoaogfaaDoor
