/-
  Proved here, where the table of constants is as the program lays it, for every key and every row of slices that read as bytes: mac's Mark answers their mark, as 'markS' says, and nothing that was there is changed.
-/
import Derived.Test.YtakfcdemoaogfaaDoorMMark0
import Derived.Deep.DeepCutAuto
import Derived.Deep.RegionHeld
import Derived.Deep.DrawnRows
namespace Go.Proofs.YtakfcdemoaogfaaDoor
open Go.RowKit
theorem wpAnyH_store {P : Program} {ops : Array Oper} {Q : Exit → Act → World → Prop} {md : Region.Mode} {S : World → Prop} {fuel : Nat} {listed : Array Bool} {a : Act} {w : World} {o : Oper} (n : Nat) (hr : Region.ready md ops listed = [n]) (hn : ops[n]? = some o) (hgd : o.guard = none)
    (ty : TypeId) (x y : Operand) (ho : o.op = .store ty x y) (g off : Nat) (cells : List Value) (hx : a.eval x = .pointer (some ⟨g, off, none⟩)) (hy : a.eval y = .agg cells.toArray)
    (t : TypeId) (cur : List Value) (hg : w.heap[g]? = some (.cells cur.toArray t (0, 0))) (hi : (P.info? ty).map (·.size) = some cells.length)
    (hf : off + cells.length ≤ cur.length) (h1 : ∀ v ∈ cells, v.oneCell' = true) (new : List Value) (hnew : cur.take off ++ cells ++ cur.drop (off + cells.length) = new)
    (hS : S (w.setRow g new.toArray)) (h : wpAnyH P md ops Q S fuel (listed.setIfInBounds n true) (a.put o.dst undef) (w.setRow g new.toArray)) : wpAnyH P md ops Q S (fuel + 1) listed a w :=
  wpAnyH_ready hr (by simp) (AllReadyH.cons hn (fun _ hK => step_store_at hgd ty x y ho g off cells hx hy t cur hg hi hf h1 new hnew (hK.out _ _ hS fun _ => h)) AllReadyH.nil)
/-- What there is while the inner sum is made. -/
structure MR (w : World) (K : List Nat) (g6 g7 gs : Nat) (bs : List Nat) (U : World) : Prop where
  ans : U.heap[w.heap.size]? = some (.cells (V8 Z32).toArray 29 (0, 0))
  inner : U.heap[g6]? = some (.cells (V8 (xorS K 54)).toArray 35 (0, 0))
  outer : U.heap[g7]? = some (.cells (V8 (xorS K 92)).toArray 35 (0, 0))
  below : Below w.heap.size w U
  sha : IsSha U gs bs
  lo6 : w.heap.size < g6
  lo7 : w.heap.size < g7
  los : w.heap.size < gs
  n6 : g6 ≠ gs
  n7 : g7 ≠ gs
theorem MR.next {w : World} {K : List Nat} {g6 g7 gs : Nat} {bs cs : List Nat} {U V : World} (h : MR w K g6 g7 gs bs U) (hS : IsSha V gs cs) (hO : Only gs U V) : MR w K g6 g7 gs cs V :=
  ⟨(hO.block _ (lt_of_blk h.ans) (by have := h.los; omega)).trans h.ans, (hO.block _ (lt_of_blk h.inner) h.n6).trans h.inner, (hO.block _ (lt_of_blk h.outer) h.n7).trans h.outer, hO.below h.below (by have := h.los; omega) h.below.size, hS, h.lo6, h.lo7, h.los, h.n6, h.n7⟩
theorem sha_lt {w : World} {g : Nat} {bs : List Nat} (h : IsSha w g bs) : g < w.heap.size := by
  obtain ⟨s, rest, n, hH, hO⟩ := h
  exact lt_of_blk hH.blk
theorem MR.to {w : World} {K : List Nat} {g6 g7 gs : Nat} {bs : List Nat} {U V : World} (h : MR w K g6 g7 gs bs U) (hb : Below U.heap.size U V) : MR w K g6 g7 gs bs V :=
  ⟨(hb.block _ (lt_of_blk h.ans)).trans h.ans, (hb.block _ (lt_of_blk h.inner)).trans h.inner, (hb.block _ (lt_of_blk h.outer)).trans h.outer, h.below.trans (hb.mono h.below.size), sha_to h.sha hb (sha_lt h.sha), h.lo6, h.lo7, h.los, h.n6, h.n7⟩
theorem R0.apart {w : World} {b off g : Nat} {cs : List Nat} (h : R0 w (some ⟨b, off, none⟩) cs) (hg : b ≠ g) : Rd w g (some ⟨b, off, none⟩) cs := fun hl => by
  obtain ⟨b', off', e, hlt, hc⟩ := h hl
  obtain ⟨rfl, rfl⟩ : b = b' ∧ off = off' := by simpa using e
  exact ⟨b, off, rfl, hlt, hg, hc⟩
theorem Tab.to_ {w w' : World} (h : Tab w) (hb : Below w.heap.size w w') : Tab w' := h.to hb
theorem RS.two {w : World} {g : Nat} {A1 A2 : Option Addr} {b1 b2 : List Nat} {c1 c2 : Nat} {t : TypeId} (h : w.heap[g]? = some (.cells #[.slice A1 b1.length c1, .slice A2 b2.length c2] t (0, 0))) (h1 : R0 w A1 b1) (h2 : R0 w A2 b2) (hc1 : b1.length ≤ c1) (hc2 : b2.length ≤ c2) (hm1 : c1 ≤ maxLen) (hm2 : c2 ≤ maxLen) : RS w (some ⟨g, 0, none⟩) [b1, b2] := fun _ =>
  ⟨g, 0, rfl, (Array.getElem?_eq_some_iff.1 h).1, fun i hi => by
    have hi' : i = 0 ∨ i = 1 := by simp at hi; omega
    rcases hi' with rfl | rfl
    · exact ⟨A1, c1, by rw [cell_of_row w g 0 _ _ _ h]; rfl, h1, hc1, hm1⟩
    · exact ⟨A2, c2, by rw [cell_of_row w g (0 + 1) _ _ _ h]; rfl, h2, hc2, hm2⟩⟩
def markS (key bs : List Nat) : List Nat := sumS (xorS (fillK key) 92 ++ sumS (xorS (fillK key) 54 ++ bs))
theorem xored_54 (l : List Nat) (w : World) (hl : l.length = 64) : Calls Tryd.prog 31 #[.agg (V8 l).toArray, .int .u8 54] w fun e w' => e = .returned (.agg (V8 (xorS l 54)).toArray) ∧ Below w.heap.size w w' := xored_any l 54 w hl
theorem xored_92 (l : List Nat) (w : World) (hl : l.length = 64) : Calls Tryd.prog 31 #[.agg (V8 l).toArray, .int .u8 92] w fun e w' => e = .returned (.agg (V8 (xorS l 92)).toArray) ∧ Below w.heap.size w w' := xored_any l 92 w hl
set_option maxRecDepth 100000 in
set_option maxHeartbeats 1000000 in
theorem mark_any (key : List Nat) (ps : List (List Nat)) (A B : Option Addr) (cap capB : Nat) (w : World) (hK : R0 w A key) (hcap : key.length ≤ cap) (hm : cap ≤ maxLen) (hR : RS w B ps) (hcapB : ps.length ≤ capB) (hmB : capB ≤ maxLen) (hT : Tab w) (hn : key.length < 1152921504606846000) (hn2 : ps.flatten.length < 1152921504606840000) :
    Calls Tryd.prog 18 #[.slice A key.length cap, .slice B ps.length capB] w fun e w' => e = .returned (.agg (V8 (markS key ps.flatten)).toArray) ∧ Below w.heap.size w w' := by
  have hmB' := hmB
  unfold maxLen at hmB'
  have HR := Lib.hid hR
  have HT := Lib.hid hT
  have hA : ∀ o : Obj, Below w.heap.size w (w.alloc o) := fun o => (Below.refl _ _).alloc (Nat.le_refl _) _
  have HX := Lib.hid (fun o : Obj => filled_any key A cap (w.alloc o) (hK.to (hA o)) hcap hm (hT.to (hA o)) hn)
  have HKK := Lib.hid (length_fillK key)
  have HMS := Lib.hid (show markS key ps.flatten = sumS (xorS (fillK key) 92 ++ sumS (xorS (fillK key) 54 ++ ps.flatten)) from rfl)
  generalize markS key ps.flatten = MS at HMS ⊢
  generalize fillK key = K at HX HKK HMS
  clear hK hcap hm hR hT hmB hn
  go_enter Tryd.func18, Tryd.ntmps18
  go_wp2_with fail
  refine (HX.out _).mono ?_
  rintro e w1 ⟨rfl, hb1⟩
  have F1 : w1.heap[w.heap.size]? = some (.cells (V8 Z32).toArray 29 (0, 0)) := (hb1.block _ (by simp)).trans (heap_alloc_new _ _)
  have F2 : Below w.heap.size w w1 := (hA _).trans (hb1.mono (by simp))
  have F3 : w.heap.size + 1 ≤ w1.heap.size := by have := hb1.size; simp at this; omega
  have HB1 := Lib.hid F1
  have HB2 := Lib.hid F2
  have HS := Lib.hid (show (Tryd.prog.info? 35).map (·.size) = some (V8 K).toArray.size by rw [List.size_toArray, length_V8, HKK.out]; exact info35)
  have HE := Lib.hid (show (V8 Z64).toArray.size = (V8 K).toArray.size by simp [HKK.out, Z64])
  have HO := Lib.hid (show (V8 K).toArray.all (·.oneCell') = true by simpa using one_V8 K)
  clear hb1 F1 F2 hA HX
  go_upto_region 2 with (refine wpList_store_row rfl 35 _ _ rfl w1.heap.size (V8 K).toArray rfl rfl 35 (V8 Z64).toArray (heap_alloc_new _ _) HS.out HE.out HO.out ?_)
  obtain ⟨U, hU, G1, G2, G3⟩ : ∃ U : World, U = (w1.alloc (.cells ZK 35)).setRow w1.heap.size (V8 K).toArray ∧ U.heap[w.heap.size]? = some (.cells (V8 Z32).toArray 29 (0, 0)) ∧ U.heap[w1.heap.size]? = some (.cells (V8 K).toArray 35 (0, 0)) ∧ Below w.heap.size w U :=
    ⟨_, rfl, (setRow_other _ _ _ _ (by omega)).trans ((old_block _ _ _ (by omega)).trans HB1.out), setRow_heap _ _ _ _ _ _ (heap_alloc_new _ _), below_setRow (HB2.out.alloc (by omega) _) (by omega) _⟩
  unfold ZK at hU
  rw [← hU]
  clear hU HB1 HB2 HE HO
  obtain ⟨gf, hgf⟩ : ∃ gf, w1.heap.size = gf := ⟨_, rfl⟩
  rw [hgf] at G2 F3 ⊢
  clear hgf
  have J0 := Lib.hid G1
  have JK := Lib.hid G2
  have JB := Lib.hid G3
  clear G1 G2 G3
  simp only [Act.put]
  go_cut [6, 7] (fun s6 s7 wx => ∃ g6 g7 : Nat, s6 = .pointer (some ⟨g6, 0, none⟩) ∧ s7 = .pointer (some ⟨g7, 0, none⟩) ∧ Hid (MK w K g6 g7 wx))
  case first =>
    refine wp_region_held_drew (S := fun w' => w'.heap[gf]? = some (.cells (V8 K).toArray 35 (0, 0))) (by kernel_rfl) JK.out (fun hHeld => ?_)
    refine wpAnyH_take (i := 0) (v := ?_) (by simp; rfl) (by kernel_rfl) (by kernel_rfl) (by kernel_rfl) (by exact fun _ _ _ h => h) (Or.inl ⟨by rfl, fun wx hSx => ?_⟩) hHeld ?_
    rotate_left
    · refine exec_load_row 35 (.tmp 5) ?_ gf ?_ 35 (V8 K).toArray (0, 0) _ hSx Tryd.underlying35 rfl HS.out <;> rfl
    simp only [Act.put, List.setIfInBounds_toArray, List.set_cons_zero, List.set_cons_succ]
    refine wpAnyH_take (i := 2) (v := ?_) (by simp; rfl) (by kernel_rfl) (by kernel_rfl) (by kernel_rfl) (by exact fun _ _ _ h => h) (Or.inl ⟨by rfl, fun wx hSx => ?_⟩) hHeld ?_
    rotate_left
    · refine exec_load_row 35 (.tmp 5) ?_ gf ?_ 35 (V8 K).toArray (0, 0) _ hSx Tryd.underlying35 rfl HS.out <;> rfl
    simp only [Act.put, List.setIfInBounds_toArray, List.set_cons_zero, List.set_cons_succ]
    have hz : gf < U.drew.heap.size := (Array.getElem?_eq_some_iff.1 JK.out).1
    have N0 := Lib.hid (show NK w K gf none none U.drew from ⟨J0.out, JK.out, JB.out.drew, by omega, (fun g h => by cases h), (fun g h => by cases h)⟩)
    clear J0 JK JB hz
    generalize U.drew = U0 at N0 hHeld ⊢
    have HI := Lib.hid (show ∀ y, (Tryd.prog.info? 35).map (·.size) = some (V8 (xorS K y)).length from fun y => by rw [length_V8, length_xorS, HKK.out]; exact info35)
    have HF := Lib.hid (show ∀ y, 0 + (V8 (xorS K y)).length ≤ (V8 Z64).length from fun y => by rw [length_V8, length_xorS, HKK.out]; simp [Z64])
    have HN := Lib.hid (show ∀ y, (V8 Z64).take 0 ++ V8 (xorS K y) ++ (V8 Z64).drop (0 + (V8 (xorS K y)).length) = V8 (xorS K y) from fun y => by rw [length_V8, length_xorS, HKK.out, List.drop_of_length_le (by simp [Z64])]; simp)
    refine wpAnyH_ready (rs := [1, 4, 5]) (by kernel_rfl) (by simp) ?_
    refine AllReadyH.cons (by simp; rfl) (fun K0 hK0 => ?_) (AllReadyH.cons (by simp; rfl) (fun K0 hK0 => ?_) (AllReadyH.cons (by simp; rfl) (fun K0 hK0 => ?_) AllReadyH.nil))
    · go_simp
      refine (xored_54 K _ HKK.out).mono ?_
      rintro e w21 ⟨rfl, hb⟩
      have N1 := Lib.hid (N0.out.to hb)
      refine hK0.out _ _ N1.out.key (fun hHeld => ?_)
      clear hK0 K0 N0 hb
      refine wpAnyH_ready (rs := [3, 4, 5]) (by kernel_rfl) (by simp) ?_
      refine AllReadyH.cons (by simp; rfl) (fun K0 hK0 => ?_) (AllReadyH.cons (by simp; rfl) (fun K0 hK0 => ?_) (AllReadyH.cons (by simp; rfl) (fun K0 hK0 => ?_) AllReadyH.nil))
      · go_simp
        refine (xored_92 K _ HKK.out).mono ?_
        rintro e w22 ⟨rfl, hb⟩
        have N2 := Lib.hid (N1.out.to hb)
        refine hK0.out _ _ N2.out.key (fun hHeld => ?_)
        clear hK0 K0 N1 hb
        refine wpAnyH_ready (rs := [4, 5]) (by kernel_rfl) (by simp) ?_
        refine AllReadyH.cons (by simp; rfl) (fun K0 hK0 => ?_) (AllReadyH.cons (by simp; rfl) (fun K0 hK0 => ?_) AllReadyH.nil)
        · go_simp
          have N3 := Lib.hid (N2.out.new6 ZK ZK_eq)
          unfold ZK at N3
          refine hK0.out _ _ N3.out.key (fun hHeld => ?_)
          clear hK0 K0 N2
          generalize (w22.alloc _) = w23 at N3 hHeld ⊢
          generalize w22.heap.size = g6 at N3 ⊢
          refine wpAnyH_ready (rs := [5]) (by kernel_rfl) (by simp) ?_
          refine AllReadyH.cons (by simp; rfl) (fun K0 hK0 => ?_) AllReadyH.nil
          · go_simp
            have N4 := Lib.hid (N3.out.new7 ZK ZK_eq)
            unfold ZK at N4
            refine hK0.out _ _ N4.out.key (fun hHeld => ?_)
            clear hK0 K0 N3
            generalize (w23.alloc _) = w24 at N4 hHeld ⊢
            generalize w23.heap.size = g7 at N4 ⊢
            obtain ⟨e6, l6⟩ := N4.out.in6 _ rfl
            obtain ⟨e7, l7, hne⟩ := N4.out.in7 _ rfl
            have m1 := setRow_heap _ _ _ (V8 (xorS K 54)).toArray _ _ e6
            have m2 := (setRow_other _ _ _ (V8 (xorS K 54)).toArray (fun e => hne (congrArg some e.symm))).trans e7
            have m3 := (setRow_other _ g6 gf (V8 (xorS K 54)).toArray (by omega)).trans N4.out.key
            have m4 := (setRow_other _ g7 gf (V8 (xorS K 92)).toArray (by omega)).trans m3
            refine wpAnyH_store 6 (by kernel_rfl) (by simp; rfl) (by rfl) 35 (.tmp 6) (.tmp 16) (by rfl) g6 0 (V8 (xorS K 54)) (by rfl) (by rfl) 35 (V8 Z64) e6 (HI.out 54) (HF.out 54) (one_V8 _) (V8 (xorS K 54)) (HN.out 54) m3 ?_
            simp only [Act.put]
            refine wpAnyH_store 7 (by kernel_rfl) (by simp; rfl) (by rfl) 35 (.tmp 7) (.tmp 18) (by rfl) g7 0 (V8 (xorS K 92)) (by rfl) (by rfl) 35 (V8 Z64) m2 (HI.out 92) (HF.out 92) (one_V8 _) (V8 (xorS K 92)) (HN.out 92) m4 ?_
            simp only [Act.put]
            refine wpAnyH_done (by kernel_rfl) ?_ _
            have hlo := N4.out.lo
            go_wp2_with fail
            go_meet
            exact ⟨_, _, rfl, rfl, Lib.hid ⟨(setRow_other _ _ _ _ (by omega)).trans ((setRow_other _ _ _ _ (by omega)).trans N4.out.ans), (setRow_other _ _ _ _ (fun e => hne (congrArg some e))).trans m1, setRow_heap _ _ _ _ _ _ m2, below_setRow (below_setRow N4.out.below (by omega) _) (by omega) _, by omega, by omega⟩⟩
        · go_simp
          have N5 := Lib.hid (N2.out.new7 ZK ZK_eq)
          unfold ZK at N5
          refine hK0.out _ _ N5.out.key (fun hHeld => ?_)
          clear hK0 K0 N2
          generalize (w22.alloc _) = w25 at N5 hHeld ⊢
          generalize w22.heap.size = g7 at N5 ⊢
          refine wpAnyH_ready (rs := [4]) (by kernel_rfl) (by simp) ?_
          refine AllReadyH.cons (by simp; rfl) (fun K0 hK0 => ?_) AllReadyH.nil
          · go_simp
            have N6 := Lib.hid (N5.out.new6 ZK ZK_eq)
            unfold ZK at N6
            refine hK0.out _ _ N6.out.key (fun hHeld => ?_)
            clear hK0 K0 N5
            generalize (w25.alloc _) = w26 at N6 hHeld ⊢
            generalize w25.heap.size = g6 at N6 ⊢
            obtain ⟨e6, l6⟩ := N6.out.in6 _ rfl
            obtain ⟨e7, l7, hne⟩ := N6.out.in7 _ rfl
            have m1 := setRow_heap _ _ _ (V8 (xorS K 54)).toArray _ _ e6
            have m2 := (setRow_other _ _ _ (V8 (xorS K 54)).toArray (fun e => hne (congrArg some e.symm))).trans e7
            have m3 := (setRow_other _ g6 gf (V8 (xorS K 54)).toArray (by omega)).trans N6.out.key
            have m4 := (setRow_other _ g7 gf (V8 (xorS K 92)).toArray (by omega)).trans m3
            refine wpAnyH_store 6 (by kernel_rfl) (by simp; rfl) (by rfl) 35 (.tmp 6) (.tmp 16) (by rfl) g6 0 (V8 (xorS K 54)) (by rfl) (by rfl) 35 (V8 Z64) e6 (HI.out 54) (HF.out 54) (one_V8 _) (V8 (xorS K 54)) (HN.out 54) m3 ?_
            simp only [Act.put]
            refine wpAnyH_store 7 (by kernel_rfl) (by simp; rfl) (by rfl) 35 (.tmp 7) (.tmp 18) (by rfl) g7 0 (V8 (xorS K 92)) (by rfl) (by rfl) 35 (V8 Z64) m2 (HI.out 92) (HF.out 92) (one_V8 _) (V8 (xorS K 92)) (HN.out 92) m4 ?_
            simp only [Act.put]
            refine wpAnyH_done (by kernel_rfl) ?_ _
            have hlo := N6.out.lo
            go_wp2_with fail
            go_meet
            exact ⟨_, _, rfl, rfl, Lib.hid ⟨(setRow_other _ _ _ _ (by omega)).trans ((setRow_other _ _ _ _ (by omega)).trans N6.out.ans), (setRow_other _ _ _ _ (fun e => hne (congrArg some e))).trans m1, setRow_heap _ _ _ _ _ _ m2, below_setRow (below_setRow N6.out.below (by omega) _) (by omega) _, by omega, by omega⟩⟩
      · go_simp
        have N7 := Lib.hid (N1.out.new6 ZK ZK_eq)
        unfold ZK at N7
        refine hK0.out _ _ N7.out.key (fun hHeld => ?_)
        clear hK0 K0 N1
        generalize (w21.alloc _) = w27 at N7 hHeld ⊢
        generalize w21.heap.size = g6 at N7 ⊢
        refine wpAnyH_ready (rs := [3, 5]) (by kernel_rfl) (by simp) ?_
        refine AllReadyH.cons (by simp; rfl) (fun K0 hK0 => ?_) (AllReadyH.cons (by simp; rfl) (fun K0 hK0 => ?_) AllReadyH.nil)
        · go_simp
          refine (xored_92 K _ HKK.out).mono ?_
          rintro e w28 ⟨rfl, hb⟩
          have N8 := Lib.hid (N7.out.to hb)
          refine hK0.out _ _ N8.out.key (fun hHeld => ?_)
          clear hK0 K0 N7 hb
          refine wpAnyH_ready (rs := [5]) (by kernel_rfl) (by simp) ?_
          refine AllReadyH.cons (by simp; rfl) (fun K0 hK0 => ?_) AllReadyH.nil
          · go_simp
            have N9 := Lib.hid (N8.out.new7 ZK ZK_eq)
            unfold ZK at N9
            refine hK0.out _ _ N9.out.key (fun hHeld => ?_)
            clear hK0 K0 N8
            generalize (w28.alloc _) = w29 at N9 hHeld ⊢
            generalize w28.heap.size = g7 at N9 ⊢
            obtain ⟨e6, l6⟩ := N9.out.in6 _ rfl
            obtain ⟨e7, l7, hne⟩ := N9.out.in7 _ rfl
            have m1 := setRow_heap _ _ _ (V8 (xorS K 54)).toArray _ _ e6
            have m2 := (setRow_other _ _ _ (V8 (xorS K 54)).toArray (fun e => hne (congrArg some e.symm))).trans e7
            have m3 := (setRow_other _ g6 gf (V8 (xorS K 54)).toArray (by omega)).trans N9.out.key
            have m4 := (setRow_other _ g7 gf (V8 (xorS K 92)).toArray (by omega)).trans m3
            refine wpAnyH_store 6 (by kernel_rfl) (by simp; rfl) (by rfl) 35 (.tmp 6) (.tmp 16) (by rfl) g6 0 (V8 (xorS K 54)) (by rfl) (by rfl) 35 (V8 Z64) e6 (HI.out 54) (HF.out 54) (one_V8 _) (V8 (xorS K 54)) (HN.out 54) m3 ?_
            simp only [Act.put]
            refine wpAnyH_store 7 (by kernel_rfl) (by simp; rfl) (by rfl) 35 (.tmp 7) (.tmp 18) (by rfl) g7 0 (V8 (xorS K 92)) (by rfl) (by rfl) 35 (V8 Z64) m2 (HI.out 92) (HF.out 92) (one_V8 _) (V8 (xorS K 92)) (HN.out 92) m4 ?_
            simp only [Act.put]
            refine wpAnyH_done (by kernel_rfl) ?_ _
            have hlo := N9.out.lo
            go_wp2_with fail
            go_meet
            exact ⟨_, _, rfl, rfl, Lib.hid ⟨(setRow_other _ _ _ _ (by omega)).trans ((setRow_other _ _ _ _ (by omega)).trans N9.out.ans), (setRow_other _ _ _ _ (fun e => hne (congrArg some e))).trans m1, setRow_heap _ _ _ _ _ _ m2, below_setRow (below_setRow N9.out.below (by omega) _) (by omega) _, by omega, by omega⟩⟩
        · go_simp
          have N10 := Lib.hid (N7.out.new7 ZK ZK_eq)
          unfold ZK at N10
          refine hK0.out _ _ N10.out.key (fun hHeld => ?_)
          clear hK0 K0 N7
          generalize (w27.alloc _) = w30 at N10 hHeld ⊢
          generalize w27.heap.size = g7 at N10 ⊢
          refine wpAnyH_ready (rs := [3]) (by kernel_rfl) (by simp) ?_
          refine AllReadyH.cons (by simp; rfl) (fun K0 hK0 => ?_) AllReadyH.nil
          · go_simp
            refine (xored_92 K _ HKK.out).mono ?_
            rintro e w31 ⟨rfl, hb⟩
            have N11 := Lib.hid (N10.out.to hb)
            refine hK0.out _ _ N11.out.key (fun hHeld => ?_)
            clear hK0 K0 N10 hb
            obtain ⟨e6, l6⟩ := N11.out.in6 _ rfl
            obtain ⟨e7, l7, hne⟩ := N11.out.in7 _ rfl
            have m1 := setRow_heap _ _ _ (V8 (xorS K 54)).toArray _ _ e6
            have m2 := (setRow_other _ _ _ (V8 (xorS K 54)).toArray (fun e => hne (congrArg some e.symm))).trans e7
            have m3 := (setRow_other _ g6 gf (V8 (xorS K 54)).toArray (by omega)).trans N11.out.key
            have m4 := (setRow_other _ g7 gf (V8 (xorS K 92)).toArray (by omega)).trans m3
            refine wpAnyH_store 6 (by kernel_rfl) (by simp; rfl) (by rfl) 35 (.tmp 6) (.tmp 16) (by rfl) g6 0 (V8 (xorS K 54)) (by rfl) (by rfl) 35 (V8 Z64) e6 (HI.out 54) (HF.out 54) (one_V8 _) (V8 (xorS K 54)) (HN.out 54) m3 ?_
            simp only [Act.put]
            refine wpAnyH_store 7 (by kernel_rfl) (by simp; rfl) (by rfl) 35 (.tmp 7) (.tmp 18) (by rfl) g7 0 (V8 (xorS K 92)) (by rfl) (by rfl) 35 (V8 Z64) m2 (HI.out 92) (HF.out 92) (one_V8 _) (V8 (xorS K 92)) (HN.out 92) m4 ?_
            simp only [Act.put]
            refine wpAnyH_done (by kernel_rfl) ?_ _
            have hlo := N11.out.lo
            go_wp2_with fail
            go_meet
            exact ⟨_, _, rfl, rfl, Lib.hid ⟨(setRow_other _ _ _ _ (by omega)).trans ((setRow_other _ _ _ _ (by omega)).trans N11.out.ans), (setRow_other _ _ _ _ (fun e => hne (congrArg some e))).trans m1, setRow_heap _ _ _ _ _ _ m2, below_setRow (below_setRow N11.out.below (by omega) _) (by omega) _, by omega, by omega⟩⟩
      · go_simp
        have N12 := Lib.hid (N1.out.new7 ZK ZK_eq)
        unfold ZK at N12
        refine hK0.out _ _ N12.out.key (fun hHeld => ?_)
        clear hK0 K0 N1
        generalize (w21.alloc _) = w32 at N12 hHeld ⊢
        generalize w21.heap.size = g7 at N12 ⊢
        refine wpAnyH_ready (rs := [3, 4]) (by kernel_rfl) (by simp) ?_
        refine AllReadyH.cons (by simp; rfl) (fun K0 hK0 => ?_) (AllReadyH.cons (by simp; rfl) (fun K0 hK0 => ?_) AllReadyH.nil)
        · go_simp
          refine (xored_92 K _ HKK.out).mono ?_
          rintro e w33 ⟨rfl, hb⟩
          have N13 := Lib.hid (N12.out.to hb)
          refine hK0.out _ _ N13.out.key (fun hHeld => ?_)
          clear hK0 K0 N12 hb
          refine wpAnyH_ready (rs := [4]) (by kernel_rfl) (by simp) ?_
          refine AllReadyH.cons (by simp; rfl) (fun K0 hK0 => ?_) AllReadyH.nil
          · go_simp
            have N14 := Lib.hid (N13.out.new6 ZK ZK_eq)
            unfold ZK at N14
            refine hK0.out _ _ N14.out.key (fun hHeld => ?_)
            clear hK0 K0 N13
            generalize (w33.alloc _) = w34 at N14 hHeld ⊢
            generalize w33.heap.size = g6 at N14 ⊢
            obtain ⟨e6, l6⟩ := N14.out.in6 _ rfl
            obtain ⟨e7, l7, hne⟩ := N14.out.in7 _ rfl
            have m1 := setRow_heap _ _ _ (V8 (xorS K 54)).toArray _ _ e6
            have m2 := (setRow_other _ _ _ (V8 (xorS K 54)).toArray (fun e => hne (congrArg some e.symm))).trans e7
            have m3 := (setRow_other _ g6 gf (V8 (xorS K 54)).toArray (by omega)).trans N14.out.key
            have m4 := (setRow_other _ g7 gf (V8 (xorS K 92)).toArray (by omega)).trans m3
            refine wpAnyH_store 6 (by kernel_rfl) (by simp; rfl) (by rfl) 35 (.tmp 6) (.tmp 16) (by rfl) g6 0 (V8 (xorS K 54)) (by rfl) (by rfl) 35 (V8 Z64) e6 (HI.out 54) (HF.out 54) (one_V8 _) (V8 (xorS K 54)) (HN.out 54) m3 ?_
            simp only [Act.put]
            refine wpAnyH_store 7 (by kernel_rfl) (by simp; rfl) (by rfl) 35 (.tmp 7) (.tmp 18) (by rfl) g7 0 (V8 (xorS K 92)) (by rfl) (by rfl) 35 (V8 Z64) m2 (HI.out 92) (HF.out 92) (one_V8 _) (V8 (xorS K 92)) (HN.out 92) m4 ?_
            simp only [Act.put]
            refine wpAnyH_done (by kernel_rfl) ?_ _
            have hlo := N14.out.lo
            go_wp2_with fail
            go_meet
            exact ⟨_, _, rfl, rfl, Lib.hid ⟨(setRow_other _ _ _ _ (by omega)).trans ((setRow_other _ _ _ _ (by omega)).trans N14.out.ans), (setRow_other _ _ _ _ (fun e => hne (congrArg some e))).trans m1, setRow_heap _ _ _ _ _ _ m2, below_setRow (below_setRow N14.out.below (by omega) _) (by omega) _, by omega, by omega⟩⟩
        · go_simp
          have N15 := Lib.hid (N12.out.new6 ZK ZK_eq)
          unfold ZK at N15
          refine hK0.out _ _ N15.out.key (fun hHeld => ?_)
          clear hK0 K0 N12
          generalize (w32.alloc _) = w35 at N15 hHeld ⊢
          generalize w32.heap.size = g6 at N15 ⊢
          refine wpAnyH_ready (rs := [3]) (by kernel_rfl) (by simp) ?_
          refine AllReadyH.cons (by simp; rfl) (fun K0 hK0 => ?_) AllReadyH.nil
          · go_simp
            refine (xored_92 K _ HKK.out).mono ?_
            rintro e w36 ⟨rfl, hb⟩
            have N16 := Lib.hid (N15.out.to hb)
            refine hK0.out _ _ N16.out.key (fun hHeld => ?_)
            clear hK0 K0 N15 hb
            obtain ⟨e6, l6⟩ := N16.out.in6 _ rfl
            obtain ⟨e7, l7, hne⟩ := N16.out.in7 _ rfl
            have m1 := setRow_heap _ _ _ (V8 (xorS K 54)).toArray _ _ e6
            have m2 := (setRow_other _ _ _ (V8 (xorS K 54)).toArray (fun e => hne (congrArg some e.symm))).trans e7
            have m3 := (setRow_other _ g6 gf (V8 (xorS K 54)).toArray (by omega)).trans N16.out.key
            have m4 := (setRow_other _ g7 gf (V8 (xorS K 92)).toArray (by omega)).trans m3
            refine wpAnyH_store 6 (by kernel_rfl) (by simp; rfl) (by rfl) 35 (.tmp 6) (.tmp 16) (by rfl) g6 0 (V8 (xorS K 54)) (by rfl) (by rfl) 35 (V8 Z64) e6 (HI.out 54) (HF.out 54) (one_V8 _) (V8 (xorS K 54)) (HN.out 54) m3 ?_
            simp only [Act.put]
            refine wpAnyH_store 7 (by kernel_rfl) (by simp; rfl) (by rfl) 35 (.tmp 7) (.tmp 18) (by rfl) g7 0 (V8 (xorS K 92)) (by rfl) (by rfl) 35 (V8 Z64) m2 (HI.out 92) (HF.out 92) (one_V8 _) (V8 (xorS K 92)) (HN.out 92) m4 ?_
            simp only [Act.put]
            refine wpAnyH_done (by kernel_rfl) ?_ _
            have hlo := N16.out.lo
            go_wp2_with fail
            go_meet
            exact ⟨_, _, rfl, rfl, Lib.hid ⟨(setRow_other _ _ _ _ (by omega)).trans ((setRow_other _ _ _ _ (by omega)).trans N16.out.ans), (setRow_other _ _ _ _ (fun e => hne (congrArg some e))).trans m1, setRow_heap _ _ _ _ _ _ m2, below_setRow (below_setRow N16.out.below (by omega) _) (by omega) _, by omega, by omega⟩⟩
    · go_simp
      have N17 := Lib.hid (N0.out.new6 ZK ZK_eq)
      unfold ZK at N17
      refine hK0.out _ _ N17.out.key (fun hHeld => ?_)
      clear hK0 K0 N0
      generalize (U0.alloc _) = w37 at N17 hHeld ⊢
      generalize U0.heap.size = g6 at N17 ⊢
      refine wpAnyH_ready (rs := [1, 5]) (by kernel_rfl) (by simp) ?_
      refine AllReadyH.cons (by simp; rfl) (fun K0 hK0 => ?_) (AllReadyH.cons (by simp; rfl) (fun K0 hK0 => ?_) AllReadyH.nil)
      · go_simp
        refine (xored_54 K _ HKK.out).mono ?_
        rintro e w38 ⟨rfl, hb⟩
        have N18 := Lib.hid (N17.out.to hb)
        refine hK0.out _ _ N18.out.key (fun hHeld => ?_)
        clear hK0 K0 N17 hb
        refine wpAnyH_ready (rs := [3, 5]) (by kernel_rfl) (by simp) ?_
        refine AllReadyH.cons (by simp; rfl) (fun K0 hK0 => ?_) (AllReadyH.cons (by simp; rfl) (fun K0 hK0 => ?_) AllReadyH.nil)
        · go_simp
          refine (xored_92 K _ HKK.out).mono ?_
          rintro e w39 ⟨rfl, hb⟩
          have N19 := Lib.hid (N18.out.to hb)
          refine hK0.out _ _ N19.out.key (fun hHeld => ?_)
          clear hK0 K0 N18 hb
          refine wpAnyH_ready (rs := [5]) (by kernel_rfl) (by simp) ?_
          refine AllReadyH.cons (by simp; rfl) (fun K0 hK0 => ?_) AllReadyH.nil
          · go_simp
            have N20 := Lib.hid (N19.out.new7 ZK ZK_eq)
            unfold ZK at N20
            refine hK0.out _ _ N20.out.key (fun hHeld => ?_)
            clear hK0 K0 N19
            generalize (w39.alloc _) = w40 at N20 hHeld ⊢
            generalize w39.heap.size = g7 at N20 ⊢
            obtain ⟨e6, l6⟩ := N20.out.in6 _ rfl
            obtain ⟨e7, l7, hne⟩ := N20.out.in7 _ rfl
            have m1 := setRow_heap _ _ _ (V8 (xorS K 54)).toArray _ _ e6
            have m2 := (setRow_other _ _ _ (V8 (xorS K 54)).toArray (fun e => hne (congrArg some e.symm))).trans e7
            have m3 := (setRow_other _ g6 gf (V8 (xorS K 54)).toArray (by omega)).trans N20.out.key
            have m4 := (setRow_other _ g7 gf (V8 (xorS K 92)).toArray (by omega)).trans m3
            refine wpAnyH_store 6 (by kernel_rfl) (by simp; rfl) (by rfl) 35 (.tmp 6) (.tmp 16) (by rfl) g6 0 (V8 (xorS K 54)) (by rfl) (by rfl) 35 (V8 Z64) e6 (HI.out 54) (HF.out 54) (one_V8 _) (V8 (xorS K 54)) (HN.out 54) m3 ?_
            simp only [Act.put]
            refine wpAnyH_store 7 (by kernel_rfl) (by simp; rfl) (by rfl) 35 (.tmp 7) (.tmp 18) (by rfl) g7 0 (V8 (xorS K 92)) (by rfl) (by rfl) 35 (V8 Z64) m2 (HI.out 92) (HF.out 92) (one_V8 _) (V8 (xorS K 92)) (HN.out 92) m4 ?_
            simp only [Act.put]
            refine wpAnyH_done (by kernel_rfl) ?_ _
            have hlo := N20.out.lo
            go_wp2_with fail
            go_meet
            exact ⟨_, _, rfl, rfl, Lib.hid ⟨(setRow_other _ _ _ _ (by omega)).trans ((setRow_other _ _ _ _ (by omega)).trans N20.out.ans), (setRow_other _ _ _ _ (fun e => hne (congrArg some e))).trans m1, setRow_heap _ _ _ _ _ _ m2, below_setRow (below_setRow N20.out.below (by omega) _) (by omega) _, by omega, by omega⟩⟩
        · go_simp
          have N21 := Lib.hid (N18.out.new7 ZK ZK_eq)
          unfold ZK at N21
          refine hK0.out _ _ N21.out.key (fun hHeld => ?_)
          clear hK0 K0 N18
          generalize (w38.alloc _) = w41 at N21 hHeld ⊢
          generalize w38.heap.size = g7 at N21 ⊢
          refine wpAnyH_ready (rs := [3]) (by kernel_rfl) (by simp) ?_
          refine AllReadyH.cons (by simp; rfl) (fun K0 hK0 => ?_) AllReadyH.nil
          · go_simp
            refine (xored_92 K _ HKK.out).mono ?_
            rintro e w42 ⟨rfl, hb⟩
            have N22 := Lib.hid (N21.out.to hb)
            refine hK0.out _ _ N22.out.key (fun hHeld => ?_)
            clear hK0 K0 N21 hb
            obtain ⟨e6, l6⟩ := N22.out.in6 _ rfl
            obtain ⟨e7, l7, hne⟩ := N22.out.in7 _ rfl
            have m1 := setRow_heap _ _ _ (V8 (xorS K 54)).toArray _ _ e6
            have m2 := (setRow_other _ _ _ (V8 (xorS K 54)).toArray (fun e => hne (congrArg some e.symm))).trans e7
            have m3 := (setRow_other _ g6 gf (V8 (xorS K 54)).toArray (by omega)).trans N22.out.key
            have m4 := (setRow_other _ g7 gf (V8 (xorS K 92)).toArray (by omega)).trans m3
            refine wpAnyH_store 6 (by kernel_rfl) (by simp; rfl) (by rfl) 35 (.tmp 6) (.tmp 16) (by rfl) g6 0 (V8 (xorS K 54)) (by rfl) (by rfl) 35 (V8 Z64) e6 (HI.out 54) (HF.out 54) (one_V8 _) (V8 (xorS K 54)) (HN.out 54) m3 ?_
            simp only [Act.put]
            refine wpAnyH_store 7 (by kernel_rfl) (by simp; rfl) (by rfl) 35 (.tmp 7) (.tmp 18) (by rfl) g7 0 (V8 (xorS K 92)) (by rfl) (by rfl) 35 (V8 Z64) m2 (HI.out 92) (HF.out 92) (one_V8 _) (V8 (xorS K 92)) (HN.out 92) m4 ?_
            simp only [Act.put]
            refine wpAnyH_done (by kernel_rfl) ?_ _
            have hlo := N22.out.lo
            go_wp2_with fail
            go_meet
            exact ⟨_, _, rfl, rfl, Lib.hid ⟨(setRow_other _ _ _ _ (by omega)).trans ((setRow_other _ _ _ _ (by omega)).trans N22.out.ans), (setRow_other _ _ _ _ (fun e => hne (congrArg some e))).trans m1, setRow_heap _ _ _ _ _ _ m2, below_setRow (below_setRow N22.out.below (by omega) _) (by omega) _, by omega, by omega⟩⟩
      · go_simp
        have N23 := Lib.hid (N17.out.new7 ZK ZK_eq)
        unfold ZK at N23
        refine hK0.out _ _ N23.out.key (fun hHeld => ?_)
        clear hK0 K0 N17
        generalize (w37.alloc _) = w43 at N23 hHeld ⊢
        generalize w37.heap.size = g7 at N23 ⊢
        refine wpAnyH_ready (rs := [1]) (by kernel_rfl) (by simp) ?_
        refine AllReadyH.cons (by simp; rfl) (fun K0 hK0 => ?_) AllReadyH.nil
        · go_simp
          refine (xored_54 K _ HKK.out).mono ?_
          rintro e w44 ⟨rfl, hb⟩
          have N24 := Lib.hid (N23.out.to hb)
          refine hK0.out _ _ N24.out.key (fun hHeld => ?_)
          clear hK0 K0 N23 hb
          refine wpAnyH_ready (rs := [3]) (by kernel_rfl) (by simp) ?_
          refine AllReadyH.cons (by simp; rfl) (fun K0 hK0 => ?_) AllReadyH.nil
          · go_simp
            refine (xored_92 K _ HKK.out).mono ?_
            rintro e w45 ⟨rfl, hb⟩
            have N25 := Lib.hid (N24.out.to hb)
            refine hK0.out _ _ N25.out.key (fun hHeld => ?_)
            clear hK0 K0 N24 hb
            obtain ⟨e6, l6⟩ := N25.out.in6 _ rfl
            obtain ⟨e7, l7, hne⟩ := N25.out.in7 _ rfl
            have m1 := setRow_heap _ _ _ (V8 (xorS K 54)).toArray _ _ e6
            have m2 := (setRow_other _ _ _ (V8 (xorS K 54)).toArray (fun e => hne (congrArg some e.symm))).trans e7
            have m3 := (setRow_other _ g6 gf (V8 (xorS K 54)).toArray (by omega)).trans N25.out.key
            have m4 := (setRow_other _ g7 gf (V8 (xorS K 92)).toArray (by omega)).trans m3
            refine wpAnyH_store 6 (by kernel_rfl) (by simp; rfl) (by rfl) 35 (.tmp 6) (.tmp 16) (by rfl) g6 0 (V8 (xorS K 54)) (by rfl) (by rfl) 35 (V8 Z64) e6 (HI.out 54) (HF.out 54) (one_V8 _) (V8 (xorS K 54)) (HN.out 54) m3 ?_
            simp only [Act.put]
            refine wpAnyH_store 7 (by kernel_rfl) (by simp; rfl) (by rfl) 35 (.tmp 7) (.tmp 18) (by rfl) g7 0 (V8 (xorS K 92)) (by rfl) (by rfl) 35 (V8 Z64) m2 (HI.out 92) (HF.out 92) (one_V8 _) (V8 (xorS K 92)) (HN.out 92) m4 ?_
            simp only [Act.put]
            refine wpAnyH_done (by kernel_rfl) ?_ _
            have hlo := N25.out.lo
            go_wp2_with fail
            go_meet
            exact ⟨_, _, rfl, rfl, Lib.hid ⟨(setRow_other _ _ _ _ (by omega)).trans ((setRow_other _ _ _ _ (by omega)).trans N25.out.ans), (setRow_other _ _ _ _ (fun e => hne (congrArg some e))).trans m1, setRow_heap _ _ _ _ _ _ m2, below_setRow (below_setRow N25.out.below (by omega) _) (by omega) _, by omega, by omega⟩⟩
    · go_simp
      have N26 := Lib.hid (N0.out.new7 ZK ZK_eq)
      unfold ZK at N26
      refine hK0.out _ _ N26.out.key (fun hHeld => ?_)
      clear hK0 K0 N0
      generalize (U0.alloc _) = w46 at N26 hHeld ⊢
      generalize U0.heap.size = g7 at N26 ⊢
      refine wpAnyH_ready (rs := [1, 4]) (by kernel_rfl) (by simp) ?_
      refine AllReadyH.cons (by simp; rfl) (fun K0 hK0 => ?_) (AllReadyH.cons (by simp; rfl) (fun K0 hK0 => ?_) AllReadyH.nil)
      · go_simp
        refine (xored_54 K _ HKK.out).mono ?_
        rintro e w47 ⟨rfl, hb⟩
        have N27 := Lib.hid (N26.out.to hb)
        refine hK0.out _ _ N27.out.key (fun hHeld => ?_)
        clear hK0 K0 N26 hb
        refine wpAnyH_ready (rs := [3, 4]) (by kernel_rfl) (by simp) ?_
        refine AllReadyH.cons (by simp; rfl) (fun K0 hK0 => ?_) (AllReadyH.cons (by simp; rfl) (fun K0 hK0 => ?_) AllReadyH.nil)
        · go_simp
          refine (xored_92 K _ HKK.out).mono ?_
          rintro e w48 ⟨rfl, hb⟩
          have N28 := Lib.hid (N27.out.to hb)
          refine hK0.out _ _ N28.out.key (fun hHeld => ?_)
          clear hK0 K0 N27 hb
          refine wpAnyH_ready (rs := [4]) (by kernel_rfl) (by simp) ?_
          refine AllReadyH.cons (by simp; rfl) (fun K0 hK0 => ?_) AllReadyH.nil
          · go_simp
            have N29 := Lib.hid (N28.out.new6 ZK ZK_eq)
            unfold ZK at N29
            refine hK0.out _ _ N29.out.key (fun hHeld => ?_)
            clear hK0 K0 N28
            generalize (w48.alloc _) = w49 at N29 hHeld ⊢
            generalize w48.heap.size = g6 at N29 ⊢
            obtain ⟨e6, l6⟩ := N29.out.in6 _ rfl
            obtain ⟨e7, l7, hne⟩ := N29.out.in7 _ rfl
            have m1 := setRow_heap _ _ _ (V8 (xorS K 54)).toArray _ _ e6
            have m2 := (setRow_other _ _ _ (V8 (xorS K 54)).toArray (fun e => hne (congrArg some e.symm))).trans e7
            have m3 := (setRow_other _ g6 gf (V8 (xorS K 54)).toArray (by omega)).trans N29.out.key
            have m4 := (setRow_other _ g7 gf (V8 (xorS K 92)).toArray (by omega)).trans m3
            refine wpAnyH_store 6 (by kernel_rfl) (by simp; rfl) (by rfl) 35 (.tmp 6) (.tmp 16) (by rfl) g6 0 (V8 (xorS K 54)) (by rfl) (by rfl) 35 (V8 Z64) e6 (HI.out 54) (HF.out 54) (one_V8 _) (V8 (xorS K 54)) (HN.out 54) m3 ?_
            simp only [Act.put]
            refine wpAnyH_store 7 (by kernel_rfl) (by simp; rfl) (by rfl) 35 (.tmp 7) (.tmp 18) (by rfl) g7 0 (V8 (xorS K 92)) (by rfl) (by rfl) 35 (V8 Z64) m2 (HI.out 92) (HF.out 92) (one_V8 _) (V8 (xorS K 92)) (HN.out 92) m4 ?_
            simp only [Act.put]
            refine wpAnyH_done (by kernel_rfl) ?_ _
            have hlo := N29.out.lo
            go_wp2_with fail
            go_meet
            exact ⟨_, _, rfl, rfl, Lib.hid ⟨(setRow_other _ _ _ _ (by omega)).trans ((setRow_other _ _ _ _ (by omega)).trans N29.out.ans), (setRow_other _ _ _ _ (fun e => hne (congrArg some e))).trans m1, setRow_heap _ _ _ _ _ _ m2, below_setRow (below_setRow N29.out.below (by omega) _) (by omega) _, by omega, by omega⟩⟩
        · go_simp
          have N30 := Lib.hid (N27.out.new6 ZK ZK_eq)
          unfold ZK at N30
          refine hK0.out _ _ N30.out.key (fun hHeld => ?_)
          clear hK0 K0 N27
          generalize (w47.alloc _) = w50 at N30 hHeld ⊢
          generalize w47.heap.size = g6 at N30 ⊢
          refine wpAnyH_ready (rs := [3]) (by kernel_rfl) (by simp) ?_
          refine AllReadyH.cons (by simp; rfl) (fun K0 hK0 => ?_) AllReadyH.nil
          · go_simp
            refine (xored_92 K _ HKK.out).mono ?_
            rintro e w51 ⟨rfl, hb⟩
            have N31 := Lib.hid (N30.out.to hb)
            refine hK0.out _ _ N31.out.key (fun hHeld => ?_)
            clear hK0 K0 N30 hb
            obtain ⟨e6, l6⟩ := N31.out.in6 _ rfl
            obtain ⟨e7, l7, hne⟩ := N31.out.in7 _ rfl
            have m1 := setRow_heap _ _ _ (V8 (xorS K 54)).toArray _ _ e6
            have m2 := (setRow_other _ _ _ (V8 (xorS K 54)).toArray (fun e => hne (congrArg some e.symm))).trans e7
            have m3 := (setRow_other _ g6 gf (V8 (xorS K 54)).toArray (by omega)).trans N31.out.key
            have m4 := (setRow_other _ g7 gf (V8 (xorS K 92)).toArray (by omega)).trans m3
            refine wpAnyH_store 6 (by kernel_rfl) (by simp; rfl) (by rfl) 35 (.tmp 6) (.tmp 16) (by rfl) g6 0 (V8 (xorS K 54)) (by rfl) (by rfl) 35 (V8 Z64) e6 (HI.out 54) (HF.out 54) (one_V8 _) (V8 (xorS K 54)) (HN.out 54) m3 ?_
            simp only [Act.put]
            refine wpAnyH_store 7 (by kernel_rfl) (by simp; rfl) (by rfl) 35 (.tmp 7) (.tmp 18) (by rfl) g7 0 (V8 (xorS K 92)) (by rfl) (by rfl) 35 (V8 Z64) m2 (HI.out 92) (HF.out 92) (one_V8 _) (V8 (xorS K 92)) (HN.out 92) m4 ?_
            simp only [Act.put]
            refine wpAnyH_done (by kernel_rfl) ?_ _
            have hlo := N31.out.lo
            go_wp2_with fail
            go_meet
            exact ⟨_, _, rfl, rfl, Lib.hid ⟨(setRow_other _ _ _ _ (by omega)).trans ((setRow_other _ _ _ _ (by omega)).trans N31.out.ans), (setRow_other _ _ _ _ (fun e => hne (congrArg some e))).trans m1, setRow_heap _ _ _ _ _ _ m2, below_setRow (below_setRow N31.out.below (by omega) _) (by omega) _, by omega, by omega⟩⟩
      · go_simp
        have N32 := Lib.hid (N26.out.new6 ZK ZK_eq)
        unfold ZK at N32
        refine hK0.out _ _ N32.out.key (fun hHeld => ?_)
        clear hK0 K0 N26
        generalize (w46.alloc _) = w52 at N32 hHeld ⊢
        generalize w46.heap.size = g6 at N32 ⊢
        refine wpAnyH_ready (rs := [1]) (by kernel_rfl) (by simp) ?_
        refine AllReadyH.cons (by simp; rfl) (fun K0 hK0 => ?_) AllReadyH.nil
        · go_simp
          refine (xored_54 K _ HKK.out).mono ?_
          rintro e w53 ⟨rfl, hb⟩
          have N33 := Lib.hid (N32.out.to hb)
          refine hK0.out _ _ N33.out.key (fun hHeld => ?_)
          clear hK0 K0 N32 hb
          refine wpAnyH_ready (rs := [3]) (by kernel_rfl) (by simp) ?_
          refine AllReadyH.cons (by simp; rfl) (fun K0 hK0 => ?_) AllReadyH.nil
          · go_simp
            refine (xored_92 K _ HKK.out).mono ?_
            rintro e w54 ⟨rfl, hb⟩
            have N34 := Lib.hid (N33.out.to hb)
            refine hK0.out _ _ N34.out.key (fun hHeld => ?_)
            clear hK0 K0 N33 hb
            obtain ⟨e6, l6⟩ := N34.out.in6 _ rfl
            obtain ⟨e7, l7, hne⟩ := N34.out.in7 _ rfl
            have m1 := setRow_heap _ _ _ (V8 (xorS K 54)).toArray _ _ e6
            have m2 := (setRow_other _ _ _ (V8 (xorS K 54)).toArray (fun e => hne (congrArg some e.symm))).trans e7
            have m3 := (setRow_other _ g6 gf (V8 (xorS K 54)).toArray (by omega)).trans N34.out.key
            have m4 := (setRow_other _ g7 gf (V8 (xorS K 92)).toArray (by omega)).trans m3
            refine wpAnyH_store 6 (by kernel_rfl) (by simp; rfl) (by rfl) 35 (.tmp 6) (.tmp 16) (by rfl) g6 0 (V8 (xorS K 54)) (by rfl) (by rfl) 35 (V8 Z64) e6 (HI.out 54) (HF.out 54) (one_V8 _) (V8 (xorS K 54)) (HN.out 54) m3 ?_
            simp only [Act.put]
            refine wpAnyH_store 7 (by kernel_rfl) (by simp; rfl) (by rfl) 35 (.tmp 7) (.tmp 18) (by rfl) g7 0 (V8 (xorS K 92)) (by rfl) (by rfl) 35 (V8 Z64) m2 (HI.out 92) (HF.out 92) (one_V8 _) (V8 (xorS K 92)) (HN.out 92) m4 ?_
            simp only [Act.put]
            refine wpAnyH_done (by kernel_rfl) ?_ _
            have hlo := N34.out.lo
            go_wp2_with fail
            go_meet
            exact ⟨_, _, rfl, rfl, Lib.hid ⟨(setRow_other _ _ _ _ (by omega)).trans ((setRow_other _ _ _ _ (by omega)).trans N34.out.ans), (setRow_other _ _ _ _ (fun e => hne (congrArg some e))).trans m1, setRow_heap _ _ _ _ _ _ m2, below_setRow (below_setRow N34.out.below (by omega) _) (by omega) _, by omega, by omega⟩⟩
  case rest =>
    obtain ⟨g6, g7, rfl, rfl, HM⟩ := hcut
    clear J0 JK JB HS F3
    go_wp2_with fail
    refine (new_any _).mono ?_
    rintro e w2 ⟨rfl, hs2, hz2, hb2⟩
    have l6 := lt_of_blk HM.out.inner
    have l7 := lt_of_blk HM.out.outer
    have p6 := HM.out.lo6
    have p7 := HM.out.lo7
    have H0 := Lib.hid (show MR w K g6 g7 wc.heap.size [] w2 from ⟨(hb2.block _ (by omega)).trans HM.out.ans, (hb2.block _ l6).trans HM.out.inner, (hb2.block _ l7).trans HM.out.outer, HM.out.below.trans (hb2.mono HM.out.below.size), hs2, p6, p7, by omega, by omega, by omega⟩)
    clear hs2 hz2 hb2 HM l6 l7
    generalize wc.heap.size = gs at H0 ⊢
    have pS := H0.out.los
    have hs := slice_arr35 g6
    have R6 : R0 w2 (some ⟨g6, 0, none⟩) (xorS K 54) := R0.block H0.out.inner
    have hl6 : (xorS K 54).length = 64 := by rw [length_xorS]; exact HKK.out
    have HX := Lib.hid (add_any [] (xorS K 54) gs (some ⟨g6, 0, none⟩) 64 w2 H0.out.sha (R6.apart H0.out.n6) (by omega) (by unfold maxLen; omega) (HT.out.to_ H0.out.below) (by omega) (by simp [hl6]))
    rw [hl6, List.nil_append] at HX
    clear R6 
    have HL6 := Lib.hid hl6
    clear hl6
    go_wp2_with fail
    refine HX.out.mono ?_
    rintro e w3 ⟨rfl, hS3, hO3⟩
    have H1 := Lib.hid (show MR w K g6 g7 gs (xorS K 54 ++ (ps.take 0).flatten) w3 from by simpa using H0.out.next hS3 hO3)
    clear hS3 hO3 HX H0 hs
    go_wp2
    go_loopw [10, 25] (fun _ i wr => ∃ k : Nat, k ≤ ps.length ∧ i = .int .i64 k ∧ Hid (MR w K g6 g7 gs (xorS K 54 ++ (ps.take k).flatten) wr)) (fun _ i _ => ps.length - (intOf i).toNat)
    case atStart => exact ⟨0, by omega, rfl, H1⟩
    case round =>
      obtain ⟨k, hk, rfl, HK⟩ := hrel
      clear H1
      by_cases hlt : k < ps.length
      · obtain ⟨b, off, rfl, hbl, hc⟩ := HR.out (by omega)
        obtain ⟨A', c', hc1, hr1, hl1, hm1⟩ := hc k hlt
        clear hc
        have hcw : wr.cell? ⟨b, off + k, none⟩ = some (.slice A' (ps.getD k []).length c') := (HK.out.below.cell (p := ⟨b, off + k, none⟩) hbl).trans hc1
        obtain ⟨p, hp⟩ : ∃ p, ps.getD k [] = p := ⟨_, rfl⟩
        rw [hp] at hcw hr1 hl1
        have HP := Lib.hid (show (ps.take (k + 1)).flatten = (ps.take k).flatten ++ p by rw [← hp]; exact len_flat ps k hlt)
        have hle := len_flat_le ps (k + 1)
        rw [HP.out, List.length_append] at hle
        have HX := Lib.hid (add_any (xorS K 54 ++ (ps.take k).flatten) p gs A' c' wr HK.out.sha (hr1.rd HK.out.below (by omega)) hl1 hm1 (HT.out.to_ HK.out.below) (by omega) (by rw [List.length_append, HL6.out]; omega))
        clear hc1 hr1 hl1 hm1 hp hle
        go_wp2_with fail
        refine HX.out.mono ?_
        rintro e w4 ⟨rfl, hS4, hO4⟩
        have HK2 := Lib.hid (show MR w K g6 g7 gs (xorS K 54 ++ (ps.take (k + 1)).flatten) w4 from by rw [HP.out, ← List.append_assoc]; exact HK.out.next hS4 hO4)
        clear hS4 hO4 HX HK
        go_wp2
        go_roundw
        case rel => exact ⟨k + 1, by omega, by go_num, HK2⟩
        case measure => simp [intOf]; omega
      · obtain rfl : k = ps.length := by omega
        rw [List.take_length] at HK
        have HX := Lib.hid (sum_any (xorS K 54 ++ ps.flatten) gs wr HK.out.sha (HT.out.to_ HK.out.below) (by rw [List.length_append, HL6.out]; omega))
        obtain ⟨X, hX⟩ : ∃ X, sumS (xorS K 54 ++ ps.flatten) = X := ⟨_, rfl⟩
        have hXl : X.length = 32 := by rw [← hX]; exact length_sumS _
        rw [hX] at HX HMS
        clear hX
        go_wp2_with fail
        refine HX.out.mono ?_
        rintro e w4 ⟨rfl, hb4⟩
        have HK4 := Lib.hid (HK.out.to hb4)
        clear hb4 HX HK
        have HS := Lib.hid (show (Tryd.prog.info? 29).map (·.size) = some (V8 X).toArray.size by rw [List.size_toArray, length_V8, hXl]; exact info29)
        have HE := Lib.hid (show (V8 Z32).toArray.size = (V8 X).toArray.size by simp [hXl, Z32])
        have HA := Lib.hid (show (V8 X).toArray.all (·.oneCell') = true by simpa using one_V8 X)
        have HXL := Lib.hid hXl
        clear hXl
        go_upto_region 11 with (refine wpList_store_row rfl 29 _ _ rfl w4.heap.size (V8 X).toArray rfl rfl 29 (V8 Z32).toArray (heap_alloc_new _ _) HS.out HE.out HA.out ?_)
        obtain ⟨U, hU, G1, G2, G3, G4⟩ : ∃ U : World, U = (w4.alloc (.cells ZL 29)).setRow w4.heap.size (V8 X).toArray ∧ U.heap[w.heap.size]? = some (.cells (V8 Z32).toArray 29 (0, 0)) ∧ U.heap[g7]? = some (.cells (V8 (xorS K 92)).toArray 35 (0, 0)) ∧ U.heap[w4.heap.size]? = some (.cells (V8 X).toArray 29 (0, 0)) ∧ Below w.heap.size w U :=
          ⟨_, rfl, (setRow_other _ _ _ _ (by have := lt_of_blk HK4.out.ans; omega)).trans ((old_block _ _ _ (lt_of_blk HK4.out.ans)).trans HK4.out.ans), (setRow_other _ _ _ _ (by have := lt_of_blk HK4.out.outer; omega)).trans ((old_block _ _ _ (lt_of_blk HK4.out.outer)).trans HK4.out.outer), setRow_heap _ _ _ _ _ _ (heap_alloc_new _ _), below_setRow (HK4.out.below.alloc HK4.out.below.size _) HK4.out.below.size _⟩
        unfold ZL at hU
        rw [← hU]
        clear hU HK4
        generalize w4.heap.size = gx at G3 ⊢
        have hl92 : (xorS K 92).length = 64 := by rw [length_xorS]; exact HKK.out
        have hAll : ∀ o : Obj, Below w.heap.size w (U.drew.alloc o) := fun o => G4.drew.alloc G4.drew.size _
        have HOF := Lib.hid (fun (t : TypeId) => of_any_n [xorS K 92, X] 2 rfl (some ⟨U.drew.heap.size, 0, none⟩) 2 (U.drew.alloc (.cells #[.slice (some ⟨g7, 0, none⟩) 64 64, .slice (some ⟨gx, 0, none⟩) 32 32] t)) (RS.two (A1 := some ⟨g7, 0, none⟩) (A2 := some ⟨gx, 0, none⟩) (c1 := 64) (c2 := 32) (by rw [hl92, HXL.out]; exact heap_alloc_new _ _) (R0.block ((old_block U.drew _ _ (lt_of_blk G2)).trans G2)) (R0.block ((old_block U.drew _ _ (lt_of_blk G3)).trans G3)) (by omega) (by rw [HXL.out]; omega) (by unfold maxLen; omega) (by unfold maxLen; omega)) (by omega) (by unfold maxLen; omega) (HT.out.to_ (hAll _)) (by simp [hl92, HXL.out]))
        rw [show [xorS K 92, X].flatten = xorS K 92 ++ X by simp, ← HMS.out] at HOF
        have hml : MS.length = 32 := by rw [HMS.out]; exact length_sumS _
        have HML := Lib.hid hml
        have HAL := Lib.hid hAll
        have J1 := Lib.hid G1
        clear HMS hAll hml hl92 G1 G2 G3 G4
        have hs1 := slice_arr35 g7
        have hs2 := slice_arr29 gx
        refine wp_region_held_drew (S := fun _ => True) (by kernel_rfl) trivial (fun hHeld => ?_)
        refine wpAnyH_take (i := 0) (v := ?_) (by simp; rfl) (by kernel_rfl) (by kernel_rfl) (by kernel_rfl) (by exact fun _ _ _ h => h) (Or.inl ⟨by rfl, fun wx hSx => ?_⟩) hHeld ?_
        rotate_left
        · clear hSx; go_simp; (try with_reducible rfl)
        simp only [Act.put, List.setIfInBounds_toArray, List.set_cons_zero, List.set_cons_succ]
        refine wpAnyH_take (i := 1) (v := ?_) (by simp; rfl) (by kernel_rfl) (by kernel_rfl) (by kernel_rfl) (by exact fun _ _ _ h => h) (Or.inl ⟨by rfl, fun wx hSx => ?_⟩) hHeld ?_
        rotate_left
        · clear hSx; go_simp; (try with_reducible rfl)
        simp only [Act.put, List.setIfInBounds_toArray, List.set_cons_zero, List.set_cons_succ]
        clear hs1 hs2
        refine wpAnyH_ready (rs := [2]) (by kernel_rfl) (by simp) ?_
        refine AllReadyH.cons (by simp; rfl) (fun K0 hK0 => ?_) AllReadyH.nil
        go_simp
        refine hK0.out _ _ trivial (fun hHeld => ?_)
        clear hK0 K0
        refine wpAnyH_ready (rs := [3]) (by kernel_rfl) (by simp) ?_
        refine AllReadyH.cons (by simp; rfl) (fun K0 hK0 => ?_) AllReadyH.nil
        go_simp
        refine (HOF.out _).mono ?_
        rintro e w5 ⟨rfl, hb5⟩
        refine hK0.out _ _ trivial (fun hHeld => ?_)
        clear hK0 K0 HOF
        have L1 : w5.heap[w.heap.size]? = some (.cells (V8 Z32).toArray 29 (0, 0)) := (hb5.block _ (by have := lt_of_blk J1.out; simp; omega)).trans ((old_block U.drew _ _ (lt_of_blk J1.out)).trans J1.out)
        have L2 : Below w.heap.size w w5 := (HAL.out _).trans (hb5.mono (HAL.out _).size)
        have HS2 : (Tryd.prog.info? 29).map (·.size) = some (V8 MS).length := by rw [length_V8, HML.out]; exact info29
        clear hb5 HAL
        refine wpAnyH_store 4 (by kernel_rfl) (by simp; rfl) (by rfl) 29 (.tmp 4) (.tmp 41) (by rfl) w.heap.size 0 (V8 MS) (by rfl) (by rfl) 29 (V8 Z32) L1 HS2 (by simp [HML.out, Z32]) (one_V8 _) (V8 MS) (by rw [length_V8, HML.out, List.drop_of_length_le (by simp [Z32])]; simp) trivial ?_
        simp only [Act.put]
        refine wpAnyH_done (by kernel_rfl) ?_ _
        go_wp2_with fail
        exact bodyPost_ret (v := .agg (V8 MS).toArray) (results_cell_row (p := 4) (ty := 29) Tryd.results18 _ _ w.heap.size 29 _ (0, 0) _ rfl (setRow_heap _ _ _ _ _ _ L1) Tryd.underlying29 rfl (by rw [List.size_toArray]; exact HS2)) rfl ⟨rfl, below_setRow L2 (Nat.le_refl _) _⟩
end Go.Proofs.YtakfcdemoaogfaaDoor
