/-
  Proved here, where the table of constants is as the program lays it: the law ShaSums answers true for every bytes, and nothing that was there is changed; and the document's own 'Of' answers the sum.
-/
import Derived.Test.YtakfcdemoaogfaaDoorRWith
import Derived.Test.YtakfcdemoaogfaaDoorSAsks
import Derived.Laws.BytesArg
import Derived.Deep.DeepCutAuto
import Derived.Deep.RegionHeld
import Derived.Deep.DrawnRows
namespace Go.Proofs.YtakfcdemoaogfaaDoor
open Go.RowKit
theorem rof_any (bs : List Nat) (B : Option Addr) (cb : Nat) (w : World) (hB : R0 w B bs) (hnB : B = none → cb = 0) (hcb : bs.length ≤ cb) (hb : ∀ j, bs.getD j 0 < 256) (hl : bs.length ≤ 1000) :
    Calls Tryd.prog 15 #[.slice B bs.length cb] w fun e w' => ∃ v, e = .returned v ∧ w'.ownsRow w.heap.size 5 1 v 32 (V8 (sumS bs)) ∧ Below w.heap.size w w' := by
  have HC := Lib.hid (constants_any w)
  have HW := Lib.hid (fun (w1 : World) (hb1 : Below w.heap.size w w1) (K S : Option Addr) (ck cs : Nat) hK hS => with_any bs B K S cb ck cs w1 (hB.to hb1) hnB hcb hb hl hK hS)
  generalize sumS bs = X at HW ⊢
  clear hB hnB hcb hb hl
  go_enter Tryd.func15, Tryd.ntmps15
  go_wp2_with fail
  refine HC.out.mono ?_
  rintro e w1 ⟨A, B', ca, cb', rfl, r1, r2, hb1⟩
  have HX := Lib.hid (HW.out w1 hb1 A B' ca cb' r1 r2)
  clear HC HW r1 r2
  go_wp2_with fail
  refine HX.out.mono ?_
  rintro e w2 ⟨v, rfl, ho, hb2⟩
  have HE := Lib.hid (And.intro (own_base ho hb1.size) (hb1.trans (hb2.mono hb1.size)))
  clear ho hb2 hb1 HX
  go_wp2
  go_ret
  exact ⟨v, rfl, HE.out.1, HE.out.2⟩
theorem heldStrong {P : Program} {md : Region.Mode} {ops : Array Oper} {Q : Exit → Act → World → Prop} {S S' : World → Prop} (h : ∀ w, S' w → S w) :
    ∀ (fuel : Nat) (listed : Array Bool) (a : Act) (w : World), wpAnyH P md ops Q S' fuel listed a w → wpAnyH P md ops Q S fuel listed a w
  | 0, _, _, _, x => x
  | fuel + 1, _, _, _, x => ⟨x.1, fun i hi => wpOp_mono (fun a' w' h' => ⟨h _ h'.1, heldStrong h fuel _ a' w' h'.2⟩) (x.2 i hi)⟩
theorem conv_r0 {w : World} {b off : Nat} {bs : List Nat} {n : Nat} (hn : bs.length = n) (c : Nat) (h : ∀ i, i < bs.length → w.cell? ⟨b, off + i, none⟩ = some (.int .u8 (bs.getD i 0 : Nat))) :
    (convert 22 9 (.slice (some ⟨b, off, none⟩) n c)).run Tryd.prog w = .ok (.string (strOfNums (bs.map fun n : Nat => (n : Int)))) w :=
  run_convert_bytes_arg w 22 5 Tryd.underlying22 Tryd.underlying5 b off n c _ (by simpa using hn) (fun i hi => by
    rw [h i (by omega)]
    have : i < bs.length := by omega
    simp [List.getD_eq_getElem?_getD, this]) 9 Tryd.underlying9
theorem sha_lt' {w : World} {g : Nat} {bs : List Nat} (h : IsSha w g bs) : g < w.heap.size := by
  obtain ⟨s, rest, n, hH, hO⟩ := h
  exact (Array.getElem?_eq_some_iff.1 hH.blk).1
theorem lt_blk {W : World} {g : Nat} {o : Obj} (h : W.heap[g]? = some o) : g < W.heap.size := (Array.getElem?_eq_some_iff.1 h).1
theorem slice_sum (g : Nat) (W : World) : (Instr.sliceAt 29 (.pointer (some ⟨g, 0, none⟩)) none none none).run Tryd.prog W = .ok (.slice (some ⟨g, 0, none⟩) 32 32) W := by
  have ha : (⟨g, 0, none⟩ : Addr).add 0 = ⟨g, 0, none⟩ := rfl
  simp [Instr.sliceAt, Instr.sureAddr, run_underlying Tryd.underlying29, Instr.sliceBounds, ha]
theorem R0.cells {w : World} {g : Nat} {bs : List Nat} {t : TypeId} {fr : Nat × Nat} (h : w.heap[g]? = some (.cells (V8 bs).toArray t fr)) (i : Nat) (hi : i < bs.length) : w.cell? ⟨g, 0 + i, none⟩ = some (.int .u8 (bs.getD i 0 : Nat)) := by
  rw [Nat.zero_add, cell_of_row w g i _ _ _ h]; simpa using V8_get hi
/-- What there is while the law's calls are made. -/
structure SQ (w : World) (bs X : List Nat) (gs : Nat) (g5 g7 gz : Option Nat) (U : World) : Prop where
  sha : IsSha U gs bs
  below : Below w.heap.size w U
  b5 : ∀ g, g5 = some g → U.heap[g]? = some (.cells (V8 X).toArray 29 (0, 0))
  b7 : ∀ g, g7 = some g → U.heap[g]? = some (.cells (V8 X).toArray 29 (0, 0))
  z0 : ∀ g, gz = some g → U.heap[g]? = some (.cells (shaL false S0 (List.replicate 64 0) 0).toArray 38 (0, 0))
theorem SQ.to {w : World} {bs X : List Nat} {gs : Nat} {g5 g7 gz : Option Nat} {U V : World} (h : SQ w bs X gs g5 g7 gz U) (hb : Below U.heap.size U V) : SQ w bs X gs g5 g7 gz V :=
  ⟨sha_to h.sha hb (sha_lt' h.sha), h.below.trans (hb.mono h.below.size), fun g e => (hb.block _ (lt_blk (h.b5 g e))).trans (h.b5 g e), fun g e => (hb.block _ (lt_blk (h.b7 g e))).trans (h.b7 g e), fun g e => (hb.block _ (lt_blk (h.z0 g e))).trans (h.z0 g e)⟩
theorem below_row (U : World) (o : Obj) (cs : Array Value) : Below U.heap.size U ((U.alloc o).setRow U.heap.size cs) := below_setRow ((Below.refl _ _).alloc (Nat.le_refl _) _) (Nat.le_refl _) _
set_option maxHeartbeats 1000000 in
theorem sums_long (A : Option Addr) (len cap : Nat) (w : World) (hT : Tab w) (h : 300 < len) : Calls Tryd.prog 3 #[.slice A len cap] w fun e w' => e = .returned (.bool true) ∧ Below w.heap.size w w' := by
  have hd : (300 : Int) < (len : Int) := by omega
  have HT := Lib.hid hT
  clear hT
  go_enter Tryd.func3, Tryd.ntmps3
  go_wp2_with fail
  refine (alive_any w HT.out).mono ?_
  rintro e w1 ⟨rfl, hb⟩
  go_wp2
  go_ret
  exact ⟨rfl, hb⟩
set_option maxRecDepth 100000 in
set_option maxHeartbeats 4000000 in
theorem sums_short (bs : List Nat) (A : Option Addr) (cap : Nat) (w : World) (hT : Tab w) (hR : R0 w A bs) (hcap : bs.length ≤ cap) (hm : cap ≤ maxLen) (hnA : A = none → cap = 0) (hb : ∀ j, bs.getD j 0 < 256) (hl : bs.length ≤ 300) :
    Calls Tryd.prog 3 #[.slice A bs.length cap] w fun e w' => e = .returned (.bool true) ∧ Below w.heap.size w w' := by
  have hd : ¬ (300 : Int) < (bs.length : Int) := by omega
  have HADD := Lib.hid (fun (w1 : World) (hb1 : Below w.heap.size w w1) hs => add_any [] bs w.heap.size A cap w1 hs (hR.rd hb1 (Nat.le_refl _)) hcap hm (hT.to hb1) hT.big (by simp <;> omega))
  have HOF := Lib.hid (fun (W : World) (g : Nat) (hW : Below w.heap.size w W) (hg : W.heap[g]? = some (.cells #[.slice A bs.length cap] 22 (0, 0))) => of_any_n [bs] 1 rfl (some ⟨g, 0, none⟩) 1 W (RS.one hg (hR.to hW) hcap hm) (Nat.le_refl _) (by unfold maxLen; omega) (hT.to hW) (by simp; omega))
  have HREF := Lib.hid (fun (W : World) (hW : Below w.heap.size w W) => rof_any bs A cap W (hR.to hW) hnA hcap hb (by omega))
  have HSUM := Lib.hid (fun (W : World) (hW : Below w.heap.size w W) hs => sum_any bs w.heap.size W hs (hT.to hW) (by omega))
  have HLEN := Lib.hid (fun (W : World) hs => len_any bs w.heap.size W hs (by omega))
  rw [List.nil_append] at HADD
  rw [show [bs].flatten = bs by simp] at HOF
  have HXL := Lib.hid (length_sumS bs)
  generalize sumS bs = X at HOF HREF HSUM HXL
  obtain ⟨n, hn⟩ : ∃ n, bs.length = n := ⟨_, rfl⟩
  rw [hn] at hd hl HADD HOF HREF HLEN ⊢
  have HSX := Lib.hid (show (Tryd.prog.info? 29).map (·.size) = some (V8 X).toArray.size by rw [List.size_toArray, length_V8, HXL.out]; exact info29)
  have HEX := Lib.hid (show (V8 Z32).toArray.size = (V8 X).toArray.size by simp [HXL.out, Z32])
  have HOX := Lib.hid (show (V8 X).toArray.all (·.oneCell') = true by simpa using one_V8 X)
  have heq := eqSum X X HXL.out HXL.out
  rw [beq_self_eq_true] at heq
  have HEQ := Lib.hid heq
  have HT := Lib.hid hT
  clear hT hR hcap hm hnA hb heq hn
  go_enter Tryd.func3, Tryd.ntmps3
  go_wp2_with fail
  refine (new_any w).mono ?_
  rintro e w1 ⟨rfl, hs1, hz1, hb1⟩
  have HA := Lib.hid (HADD.out w1 hb1 hs1)
  clear HADD hs1 hz1
  go_wp2_with fail
  refine HA.out.mono ?_
  rintro e w2 ⟨rfl, hs2, ho2⟩
  have hb2 : Below w.heap.size w w2 := ho2.below hb1 (Nat.le_refl _) hb1.size
  have Q2 := Lib.hid (show SQ w bs X w.heap.size none none none w2 from ⟨hs2, hb2, (fun g h => by cases h), (fun g h => by cases h), (fun g h => by cases h)⟩)
  clear hs2 ho2 hb1 hb2 HA
  have HC := Lib.hid (HSUM.out w2 Q2.out.below Q2.out.sha)
  go_wp2_with fail
  refine HC.out.mono ?_
  rintro e w3 ⟨rfl, hb3⟩
  have Q3 := Lib.hid (Q2.out.to hb3)
  clear hb3 HC Q2 HSUM
  go_upto_region 6 with (refine wpList_store_row rfl 29 _ _ rfl w3.heap.size (V8 X).toArray rfl rfl 29 (V8 Z32).toArray (heap_alloc_new _ _) HSX.out HEX.out HOX.out ?_)
  obtain ⟨U5, hU, Q5⟩ : ∃ U : World, U = (w3.alloc (.cells ZL 29)).setRow w3.heap.size (V8 X).toArray ∧ SQ w bs X w.heap.size (some w3.heap.size) none none U := by
    have q := Q3.out.to (below_row w3 (.cells ZL 29) (V8 X).toArray)
    exact ⟨_, rfl, q.sha, q.below, (fun g h => by cases h; exact setRow_heap _ _ _ _ _ _ (heap_alloc_new w3 (.cells (V8 Z32).toArray 29))), q.b7, q.z0⟩
  unfold ZL at hU
  rw [← hU]
  clear hU Q3
  generalize w3.heap.size = g5 at Q5 ⊢
  have Q5 := Lib.hid Q5
  have HC := Lib.hid (HOF.out (U5.alloc (.cells #[.slice A n cap] 22)) U5.heap.size (Q5.out.below.alloc Q5.out.below.size _) (heap_alloc_new _ _))
  go_wp2_with fail
  refine HC.out.mono ?_
  rintro e w6 ⟨rfl, hb6⟩
  have Q6 := Lib.hid (Q5.out.to (((Below.refl _ U5).alloc (Nat.le_refl _) (.cells #[.slice A n cap] 22)).trans (hb6.mono (by simp))))
  clear hb6 HC Q5 HOF
  go_upto_region 7 with (refine wpList_store_row rfl 29 _ _ rfl w6.heap.size (V8 X).toArray rfl rfl 29 (V8 Z32).toArray (heap_alloc_new _ _) HSX.out HEX.out HOX.out ?_)
  obtain ⟨U7, hU, Q7⟩ : ∃ U : World, U = (w6.alloc (.cells ZL 29)).setRow w6.heap.size (V8 X).toArray ∧ SQ w bs X w.heap.size (some g5) (some w6.heap.size) none U := by
    have q := Q6.out.to (below_row w6 (.cells ZL 29) (V8 X).toArray)
    exact ⟨_, rfl, q.sha, q.below, q.b5, (fun g h => by cases h; exact setRow_heap _ _ _ _ _ _ (heap_alloc_new w6 (.cells (V8 Z32).toArray 29))), q.z0⟩
  unfold ZL at hU
  rw [← hU]
  clear hU Q6
  generalize w6.heap.size = g7 at Q7 ⊢
  have Q7 := Lib.hid Q7
  have z38 := zero38
  go_upto_region 9 with fail
  clear z38
  rw [show ([0, 0, 0, 0, 0, 0, 0, 0, 0, 0, 0, 0, 0, 0, 0, 0, 0, 0, 0, 0, 0, 0, 0, 0, 0, 0, 0, 0, 0, 0, 0, 0, 0, 0, 0, 0, 0, 0, 0, 0, 0, 0, 0, 0, 0, 0, 0, 0, 0, 0, 0, 0, 0, 0, 0, 0, 0, 0, 0, 0, 0, 0, 0, 0] : List Nat) = List.replicate 64 0 from rfl]
  obtain ⟨U8, hU, Q8⟩ : ∃ U : World, U = U7.alloc (.cells (shaL false S0 (List.replicate 64 0) 0).toArray 38) ∧ SQ w bs X w.heap.size (some g5) (some g7) (some U7.heap.size) U := by
    have q := Q7.out.to ((Below.refl _ U7).alloc (Nat.le_refl _) (.cells (shaL false S0 (List.replicate 64 0) 0).toArray 38))
    exact ⟨_, rfl, q.sha, q.below, q.b5, q.b7, (fun g h => by cases h; exact heap_alloc_new _ _)⟩
  rw [← hU]
  clear hU Q7
  generalize U7.heap.size = gz at Q8 ⊢
  have Q8 := Lib.hid Q8
  go_wp2_with fail
  refine (sum_nil U8).mono ?_
  rintro e w9 ⟨rfl, hb9⟩
  have Q9 := Lib.hid (Q8.out.to hb9)
  clear hb9 Q8
  go_upto_region 10 with (refine wpList_store_row rfl 29 _ _ rfl w9.heap.size (V8 Z32).toArray rfl rfl 29 (V8 Z32).toArray (heap_alloc_new _ _) info29 rfl (by decide +kernel) ?_)
  obtain ⟨U9, hU, Q9⟩ : ∃ U : World, U = (w9.alloc (.cells ZL 29)).setRow w9.heap.size (V8 Z32).toArray ∧ SQ w bs X w.heap.size (some g5) (some g7) (some gz) U := ⟨_, rfl, Q9.out.to (below_row w9 (.cells ZL 29) (V8 Z32).toArray)⟩
  unfold ZL at hU
  rw [← hU]
  clear hU
  have Q9 := Lib.hid Q9
  have hz9 : U9.cell? ⟨gz, 0, none⟩ = some (.bool false) := by rw [cell_of_row U9 gz 0 _ _ _ (Q9.out.z0 gz rfl)]; rfl
  have HC := Lib.hid (sum_zero gz U9 hz9)
  clear hz9
  go_wp2_with fail
  refine HC.out.mono ?_
  rintro e w10 ⟨rfl, hb10⟩
  have QA := Lib.hid (Q9.out.to hb10)
  clear hb10 HC
  go_upto_region 11 with (refine wpList_store_row rfl 29 _ _ rfl w10.heap.size (V8 Z32).toArray rfl rfl 29 (V8 Z32).toArray (heap_alloc_new _ _) info29 rfl (by decide +kernel) ?_)
  obtain ⟨U, hU, QB⟩ : ∃ U : World, U = (w10.alloc (.cells ZL 29)).setRow w10.heap.size (V8 Z32).toArray ∧ SQ w bs X w.heap.size (some g5) (some g7) (some gz) U := ⟨_, rfl, QA.out.to (below_row w10 (.cells ZL 29) (V8 Z32).toArray)⟩
  unfold ZL at hU
  rw [← hU]
  clear hU QA
  have QB := Lib.hid QB
  have hq := HEQ.out
  have hs5 := slice_sum g5
  have L5 := lt_blk (QB.out.b5 g5 rfl)
  have L7 := lt_blk (QB.out.b7 g7 rfl)
  refine wp_region_held_drew (S := fun W => Below U.heap.size U W) (by kernel_rfl) (Below.refl _ _).drew (fun hHeld => ?_)
  refine wpAnyH_ready (rs := [0]) (by kernel_rfl) (by simp) ?_
  refine AllReadyH.cons (by simp; rfl) (fun K0 hK0 => ?_) AllReadyH.nil
  go_simp
  refine (alive_any U.drew (HT.out.to QB.out.below.drew)).mono ?_
  rintro e v0 ⟨rfl, hb⟩
  have hv0 := Lib.hid (show Below U.heap.size U v0 from (Below.refl _ U).drew.trans hb)
  refine hK0.out _ _ hv0.out (fun hHeld => ?_)
  clear hK0 K0 hb
  refine wpAnyH_take (i := 1) (v := ?_) (by simp; rfl) (by kernel_rfl) (by kernel_rfl) (by kernel_rfl) (by exact fun _ _ _ h => h) (Or.inl ⟨by rfl, fun wx hSx => ?_⟩) hHeld ?_
  rotate_left
  · clear hSx; go_simp; (try with_reducible rfl)
  simp only [Act.put, List.setIfInBounds_toArray, List.set_cons_zero, List.set_cons_succ]
  refine wpAnyH_take (i := 2) (v := ?_) (by simp; rfl) (by kernel_rfl) (by kernel_rfl) (by kernel_rfl) (by exact fun _ _ _ h => h) (Or.inl ⟨by rfl, fun wx hSx => ?_⟩) hHeld ?_
  rotate_left
  · clear hSx; go_simp; (try with_reducible rfl)
  simp only [Act.put, List.setIfInBounds_toArray, List.set_cons_zero, List.set_cons_succ]
  refine wpAnyH_take (i := 3) (v := ?_) (by simp; rfl) (by kernel_rfl) (by kernel_rfl) (by kernel_rfl) (by exact fun _ _ _ h => h) (Or.inl ⟨by rfl, fun wx hSx => ?_⟩) hHeld ?_
  rotate_left
  · clear hSx; go_simp; (try with_reducible rfl)
  simp only [Act.put, List.setIfInBounds_toArray, List.set_cons_zero, List.set_cons_succ]
  refine wpAnyH_take (i := 4) (v := ?_) (by simp; rfl) (by kernel_rfl) (by kernel_rfl) (by kernel_rfl) (by exact fun _ _ _ h => h) (Or.inl ⟨by rfl, fun wx hSx => ?_⟩) hHeld ?_
  rotate_left
  · clear hSx; go_simp; (try with_reducible rfl)
  simp only [Act.put, List.setIfInBounds_toArray, List.set_cons_zero, List.set_cons_succ]
  refine wpAnyH_take (i := 5) (v := ?_) (by simp; rfl) (by kernel_rfl) (by kernel_rfl) (by kernel_rfl) (by exact fun _ _ _ h => h) (Or.inl ⟨by rfl, fun wx hSx => ?_⟩) hHeld ?_
  rotate_left
  · clear hSx; go_simp; (try with_reducible rfl)
  simp only [Act.put, List.setIfInBounds_toArray, List.set_cons_zero, List.set_cons_succ]
  refine wpAnyH_take (i := 6) (v := ?_) (by simp; rfl) (by kernel_rfl) (by kernel_rfl) (by kernel_rfl) (by exact fun _ _ _ h => h) (Or.inl ⟨by rfl, fun wx hSx => ?_⟩) hHeld ?_
  rotate_left
  · clear hSx; go_simp; (try with_reducible rfl)
  simp only [Act.put, List.setIfInBounds_toArray, List.set_cons_zero, List.set_cons_succ]
  refine wpAnyH_take (i := 7) (v := ?_) (by simp; rfl) (by kernel_rfl) (by kernel_rfl) (by kernel_rfl) (by exact fun _ _ _ h => h) (Or.inl ⟨by rfl, fun wx hSx => ?_⟩) hHeld ?_
  rotate_left
  · clear hSx; go_simp; (try with_reducible rfl)
  simp only [Act.put, List.setIfInBounds_toArray, List.set_cons_zero, List.set_cons_succ]
  refine wpAnyH_take (i := 8) (v := ?_) (by simp; rfl) (by kernel_rfl) (by kernel_rfl) (by kernel_rfl) (by exact fun _ _ _ h => h) (Or.inl ⟨by rfl, fun wx hSx => ?_⟩) hHeld ?_
  rotate_left
  · clear hSx; go_simp; (try with_reducible rfl)
  simp only [Act.put, List.setIfInBounds_toArray, List.set_cons_zero, List.set_cons_succ]
  refine wpAnyH_take (i := 9) (v := ?_) (by simp; rfl) (by kernel_rfl) (by kernel_rfl) (by kernel_rfl) (by exact fun _ _ _ h => h) (Or.inl ⟨by rfl, fun wx hSx => ?_⟩) hHeld ?_
  rotate_left
  · clear hSx; go_simp; (try with_reducible rfl)
  simp only [Act.put, List.setIfInBounds_toArray, List.set_cons_zero, List.set_cons_succ]
  refine wpAnyH_take (i := 10) (v := ?_) (by simp; rfl) (by kernel_rfl) (by kernel_rfl) (by kernel_rfl) (by exact fun _ _ _ h => h) (Or.inl ⟨by rfl, fun wx hSx => ?_⟩) hHeld ?_
  rotate_left
  · refine exec_load_row 29 (.tmp 5) ?_ g5 ?_ 29 (V8 X).toArray (0, 0) _ ((hSx.block _ L5).trans (QB.out.b5 g5 rfl)) Tryd.underlying29 rfl HSX.out <;> rfl
  simp only [Act.put, List.setIfInBounds_toArray, List.set_cons_zero, List.set_cons_succ]
  refine wpAnyH_take (i := 11) (v := ?_) (by simp; rfl) (by kernel_rfl) (by kernel_rfl) (by kernel_rfl) (by exact fun _ _ _ h => h) (Or.inl ⟨by rfl, fun wx hSx => ?_⟩) hHeld ?_
  rotate_left
  · refine exec_load_row 29 (.tmp 7) ?_ g7 ?_ 29 (V8 X).toArray (0, 0) _ ((hSx.block _ L7).trans (QB.out.b7 g7 rfl)) Tryd.underlying29 rfl HSX.out <;> rfl
  simp only [Act.put, List.setIfInBounds_toArray, List.set_cons_zero, List.set_cons_succ]
  refine wpAnyH_take (i := 12) (v := ?_) (by simp; rfl) (by kernel_rfl) (by kernel_rfl) (by kernel_rfl) (by exact fun _ _ _ h => h) (Or.inl ⟨by rfl, fun wx hSx => ?_⟩) hHeld ?_
  rotate_left
  · clear hSx; go_simp; (try with_reducible rfl)
  simp only [Act.put, List.setIfInBounds_toArray, List.set_cons_zero, List.set_cons_succ]
  refine wpAnyH_take (i := 13) (v := ?_) (by simp; rfl) (by kernel_rfl) (by kernel_rfl) (by kernel_rfl) (by exact fun _ _ _ h => h) (Or.inl ⟨by rfl, fun wx hSx => ?_⟩) hHeld ?_
  rotate_left
  · clear hSx; go_simp; (try with_reducible rfl)
  simp only [Act.put, List.setIfInBounds_toArray, List.set_cons_zero, List.set_cons_succ]
  refine wpAnyH_take (i := 14) (v := ?_) (by simp; rfl) (by kernel_rfl) (by kernel_rfl) (by kernel_rfl) (by exact fun _ _ _ h => h) (Or.inl ⟨by rfl, fun wx hSx => ?_⟩) hHeld ?_
  rotate_left
  · clear hSx; go_simp; (try with_reducible rfl)
  simp only [Act.put, List.setIfInBounds_toArray, List.set_cons_zero, List.set_cons_succ]
  refine wpAnyH_take (i := 15) (v := ?_) (by simp; rfl) (by kernel_rfl) (by kernel_rfl) (by kernel_rfl) (by exact fun _ _ _ h => h) (Or.inl ⟨by rfl, fun wx hSx => ?_⟩) hHeld ?_
  rotate_left
  · clear hSx; go_simp; (try with_reducible rfl)
  simp only [Act.put, List.setIfInBounds_toArray, List.set_cons_zero, List.set_cons_succ]
  refine wpAnyH_take (i := 16) (v := ?_) (by simp; rfl) (by kernel_rfl) (by kernel_rfl) (by kernel_rfl) (by exact fun _ _ _ h => h) (Or.inl ⟨by rfl, fun wx hSx => ?_⟩) hHeld ?_
  rotate_left
  · have hc := conv_r0 (b := g5) (off := 0) HXL.out 32 (R0.cells ((hSx.block _ L5).trans (QB.out.b5 g5 rfl))); clear hSx; go_simp; (try with_reducible rfl)
  simp only [Act.put, List.setIfInBounds_toArray, List.set_cons_zero, List.set_cons_succ]
  refine wpAnyH_take (i := 17) (v := ?_) (by simp; rfl) (by kernel_rfl) (by kernel_rfl) (by kernel_rfl) (by exact fun _ _ _ h => h) (Or.inl ⟨by rfl, fun wx hSx => ?_⟩) hHeld ?_
  rotate_left
  · clear hSx; go_simp; (try with_reducible rfl)
  simp only [Act.put, List.setIfInBounds_toArray, List.set_cons_zero, List.set_cons_succ]
  refine wpAnyH_ready (rs := [18]) (by kernel_rfl) (by simp) ?_
  refine AllReadyH.cons (by simp; rfl) (fun K0 hK0 => ?_) AllReadyH.nil
  go_simp
  refine (HREF.out v0 (QB.out.below.trans (hv0.out.mono QB.out.below.size))).mono ?_
  rintro e v1 ⟨vr, rfl, hor, hb⟩
  have hbT := Lib.hid (show Below U.heap.size U v1 from hv0.out.trans (hb.mono hv0.out.size))
  obtain ⟨gr, cr, rfl, _, hgr⟩ := hor.form (by omega)
  have HRC := Lib.hid (fun i (hi : i < X.length) => (hor.cellAt i (by have := HXL.out; omega)).trans (V8_get hi))
  have HSH := Lib.hid (QB.out.to hbT.out)
  refine hK0.out _ _ hbT.out (fun hHeld => ?_)
  clear hK0 K0 hb hor hHeld
  refine heldStrong (S' := fun W => Below v1.heap.size v1 W) (fun _ h => hbT.out.trans (h.mono hbT.out.size)) _ _ _ _ ?_
  have hHeld : Below v1.heap.size v1 v1 := Below.refl _ _
  refine wpAnyH_take (i := 19) (v := ?_) (by simp; rfl) (by kernel_rfl) (by kernel_rfl) (by kernel_rfl) (by exact fun _ _ _ h => h) (Or.inl ⟨by rfl, fun wx hSx => ?_⟩) hHeld ?_
  rotate_left
  · have hc := conv_r0 (w := wx) (b := gr) (off := 0) HXL.out cr (fun i hi => by rw [Nat.zero_add]; exact (hSx.cell (p := ⟨gr, i, none⟩) hgr).trans (HRC.out i hi)); clear hSx; go_simp; (try with_reducible rfl)
  simp only [Act.put, List.setIfInBounds_toArray, List.set_cons_zero, List.set_cons_succ]
  refine wpAnyH_take (i := 20) (v := ?_) (by simp; rfl) (by kernel_rfl) (by kernel_rfl) (by kernel_rfl) (by exact fun _ _ _ h => h) (Or.inl ⟨by rfl, fun wx hSx => ?_⟩) hHeld ?_
  rotate_left
  · clear hSx; go_simp; (try with_reducible rfl)
  simp only [Act.put, List.setIfInBounds_toArray, List.set_cons_zero, List.set_cons_succ]
  refine wpAnyH_take (i := 21) (v := ?_) (by simp; rfl) (by kernel_rfl) (by kernel_rfl) (by kernel_rfl) (by exact fun _ _ _ h => h) (Or.inl ⟨by rfl, fun wx hSx => ?_⟩) hHeld ?_
  rotate_left
  · clear hSx; go_simp; (try with_reducible rfl)
  simp only [Act.put, List.setIfInBounds_toArray, List.set_cons_zero, List.set_cons_succ]
  refine wpAnyH_take (i := 22) (v := ?_) (by simp; rfl) (by kernel_rfl) (by kernel_rfl) (by kernel_rfl) (by exact fun _ _ _ h => h) (Or.inl ⟨by rfl, fun wx hSx => ?_⟩) hHeld ?_
  rotate_left
  · clear hSx; go_simp; (try with_reducible rfl)
  simp only [Act.put, List.setIfInBounds_toArray, List.set_cons_zero, List.set_cons_succ]
  refine wpAnyH_take (i := 23) (v := ?_) (by simp; rfl) (by kernel_rfl) (by kernel_rfl) (by kernel_rfl) (by exact fun _ _ _ h => h) (Or.inl ⟨by rfl, fun wx hSx => ?_⟩) hHeld ?_
  rotate_left
  · clear hSx; go_simp; (try with_reducible rfl)
  simp only [Act.put, List.setIfInBounds_toArray, List.set_cons_zero, List.set_cons_succ]
  refine wpAnyH_take (i := 25) (v := ?_) (by simp; rfl) (by kernel_rfl) (by kernel_rfl) (by kernel_rfl) (by exact fun _ _ _ h => h) (Or.inl ⟨by rfl, fun wx hSx => ?_⟩) hHeld ?_
  rotate_left
  · clear hSx; go_simp; (try with_reducible rfl)
  simp only [Act.put, List.setIfInBounds_toArray, List.set_cons_zero, List.set_cons_succ]
  refine wpAnyH_take (i := 26) (v := ?_) (by simp; rfl) (by kernel_rfl) (by kernel_rfl) (by kernel_rfl) (by exact fun _ _ _ h => h) (Or.inl ⟨by rfl, fun wx hSx => ?_⟩) hHeld ?_
  rotate_left
  · clear hSx; go_simp; (try with_reducible rfl)
  simp only [Act.put, List.setIfInBounds_toArray, List.set_cons_zero, List.set_cons_succ]
  refine wpAnyH_ready (rs := [24]) (by kernel_rfl) (by simp) ?_
  refine AllReadyH.cons (by simp; rfl) (fun K0 hK0 => ?_) AllReadyH.nil
  go_simp
  refine (HLEN.out v1 HSH.out.sha).mono ?_
  rintro e wq ⟨rfl, hwq⟩
  subst hwq
  refine hK0.out _ _ hHeld (fun _ => ?_)
  clear hK0 K0
  refine wpAnyH_take (i := 27) (v := ?_) (by simp; rfl) (by kernel_rfl) (by kernel_rfl) (by kernel_rfl) (by exact fun _ _ _ h => h) (Or.inl ⟨by rfl, fun wx hSx => ?_⟩) hHeld ?_
  rotate_left
  · clear hSx; go_simp; (try with_reducible rfl)
  simp only [Act.put, List.setIfInBounds_toArray, List.set_cons_zero, List.set_cons_succ]
  refine wpAnyH_take (i := 28) (v := ?_) (by simp; rfl) (by kernel_rfl) (by kernel_rfl) (by kernel_rfl) (by exact fun _ _ _ h => h) (Or.inl ⟨by rfl, fun wx hSx => ?_⟩) hHeld ?_
  rotate_left
  · clear hSx; go_simp; (try with_reducible rfl)
  simp only [Act.put, List.setIfInBounds_toArray, List.set_cons_zero, List.set_cons_succ]
  refine wpAnyH_take (i := 29) (v := ?_) (by simp; rfl) (by kernel_rfl) (by kernel_rfl) (by kernel_rfl) (by exact fun _ _ _ h => h) (Or.inl ⟨by rfl, fun wx hSx => ?_⟩) hHeld ?_
  rotate_left
  · clear hSx; go_simp; (try with_reducible rfl)
  simp only [Act.put, List.setIfInBounds_toArray, List.set_cons_zero, List.set_cons_succ]
  refine wpAnyH_take (i := 30) (v := ?_) (by simp; rfl) (by kernel_rfl) (by kernel_rfl) (by kernel_rfl) (by exact fun _ _ _ h => h) (Or.inl ⟨by rfl, fun wx hSx => ?_⟩) hHeld ?_
  rotate_left
  · clear hSx; go_simp; (try with_reducible rfl)
  simp only [Act.put, List.setIfInBounds_toArray, List.set_cons_zero, List.set_cons_succ]
  refine wpAnyH_take (i := 31) (v := ?_) (by simp; rfl) (by kernel_rfl) (by kernel_rfl) (by kernel_rfl) (by exact fun _ _ _ h => h) (Or.inl ⟨by rfl, fun wx hSx => ?_⟩) hHeld ?_
  rotate_left
  · clear hSx; go_simp; (try with_reducible rfl)
  simp only [Act.put, List.setIfInBounds_toArray, List.set_cons_zero, List.set_cons_succ]
  refine wpAnyH_take (i := 32) (v := ?_) (by simp; rfl) (by kernel_rfl) (by kernel_rfl) (by kernel_rfl) (by exact fun _ _ _ h => h) (Or.inl ⟨by rfl, fun wx hSx => ?_⟩) hHeld ?_
  rotate_left
  · clear hSx; go_simp; (try with_reducible rfl)
  simp only [Act.put, List.setIfInBounds_toArray, List.set_cons_zero, List.set_cons_succ]
  refine wpAnyH_take (i := 33) (v := ?_) (by simp; rfl) (by kernel_rfl) (by kernel_rfl) (by kernel_rfl) (by exact fun _ _ _ h => h) (Or.inl ⟨by rfl, fun wx hSx => ?_⟩) hHeld ?_
  rotate_left
  · clear hSx; go_simp; (try with_reducible rfl)
  simp only [Act.put, List.setIfInBounds_toArray, List.set_cons_zero, List.set_cons_succ]
  refine wpAnyH_take (i := 34) (v := ?_) (by simp; rfl) (by kernel_rfl) (by kernel_rfl) (by kernel_rfl) (by exact fun _ _ _ h => h) (Or.inl ⟨by rfl, fun wx hSx => ?_⟩) hHeld ?_
  rotate_left
  · clear hSx; go_simp; (try with_reducible rfl)
  simp only [Act.put, List.setIfInBounds_toArray, List.set_cons_zero, List.set_cons_succ]
  refine wpAnyH_take (i := 35) (v := ?_) (by simp; rfl) (by kernel_rfl) (by kernel_rfl) (by kernel_rfl) (by exact fun _ _ _ h => h) (Or.inl ⟨by rfl, fun wx hSx => ?_⟩) hHeld ?_
  rotate_left
  · clear hSx; go_simp; (try with_reducible rfl)
  simp only [Act.put, List.setIfInBounds_toArray, List.set_cons_zero, List.set_cons_succ]
  refine wpAnyH_take (i := 36) (v := ?_) (by simp; rfl) (by kernel_rfl) (by kernel_rfl) (by kernel_rfl) (by exact fun _ _ _ h => h) (Or.inl ⟨by rfl, fun wx hSx => ?_⟩) hHeld ?_
  rotate_left
  · clear hSx; go_simp; (try with_reducible rfl)
  simp only [Act.put, List.setIfInBounds_toArray, List.set_cons_zero, List.set_cons_succ]
  refine wpAnyH_take (i := 37) (v := ?_) (by simp; rfl) (by kernel_rfl) (by kernel_rfl) (by kernel_rfl) (by exact fun _ _ _ h => h) (Or.inl ⟨by rfl, fun wx hSx => ?_⟩) hHeld ?_
  rotate_left
  · clear hSx; go_simp; (try with_reducible rfl)
  simp only [Act.put, List.setIfInBounds_toArray, List.set_cons_zero, List.set_cons_succ]
  refine wpAnyH_take (i := 38) (v := ?_) (by simp; rfl) (by kernel_rfl) (by kernel_rfl) (by kernel_rfl) (by exact fun _ _ _ h => h) (Or.inl ⟨by rfl, fun wx hSx => ?_⟩) hHeld ?_
  rotate_left
  · clear hSx; go_simp; (try with_reducible rfl)
  simp only [Act.put, List.setIfInBounds_toArray, List.set_cons_zero, List.set_cons_succ]
  refine wpAnyH_take (i := 39) (v := ?_) (by simp; rfl) (by kernel_rfl) (by kernel_rfl) (by kernel_rfl) (by exact fun _ _ _ h => h) (Or.inl ⟨by rfl, fun wx hSx => ?_⟩) hHeld ?_
  rotate_left
  · clear hSx; go_simp; (try with_reducible rfl)
  simp only [Act.put, List.setIfInBounds_toArray, List.set_cons_zero, List.set_cons_succ]
  refine wpAnyH_ready (rs := [40]) (by kernel_rfl) (by simp) ?_
  refine AllReadyH.cons (by simp; rfl) (fun K0 hK0 => ?_) AllReadyH.nil
  go_simp
  refine (add_nil A n cap v1).mono ?_
  rintro e wq ⟨rfl, hwq⟩
  subst hwq
  refine hK0.out _ _ hHeld (fun _ => ?_)
  clear hK0 K0
  refine wpAnyH_take (i := 41) (v := ?_) (by simp; rfl) (by kernel_rfl) (by kernel_rfl) (by kernel_rfl) (by exact fun _ _ _ h => h) (Or.inl ⟨by rfl, fun wx hSx => ?_⟩) hHeld ?_
  rotate_left
  · clear hSx; go_simp; (try with_reducible rfl)
  simp only [Act.put, List.setIfInBounds_toArray, List.set_cons_zero, List.set_cons_succ]
  refine wpAnyH_take (i := 42) (v := ?_) (by simp; rfl) (by kernel_rfl) (by kernel_rfl) (by kernel_rfl) (by exact fun _ _ _ h => h) (Or.inl ⟨by rfl, fun wx hSx => ?_⟩) hHeld ?_
  rotate_left
  · clear hSx; go_simp; (try with_reducible rfl)
  simp only [Act.put, List.setIfInBounds_toArray, List.set_cons_zero, List.set_cons_succ]
  refine wpAnyH_take (i := 43) (v := ?_) (by simp; rfl) (by kernel_rfl) (by kernel_rfl) (by kernel_rfl) (by exact fun _ _ _ h => h) (Or.inl ⟨by rfl, fun wx hSx => ?_⟩) hHeld ?_
  rotate_left
  · clear hSx; go_simp; (try with_reducible rfl)
  simp only [Act.put, List.setIfInBounds_toArray, List.set_cons_zero, List.set_cons_succ]
  refine wpAnyH_take (i := 44) (v := ?_) (by simp; rfl) (by kernel_rfl) (by kernel_rfl) (by kernel_rfl) (by exact fun _ _ _ h => h) (Or.inl ⟨by rfl, fun wx hSx => ?_⟩) hHeld ?_
  rotate_left
  · clear hSx; go_simp; (try with_reducible rfl)
  simp only [Act.put, List.setIfInBounds_toArray, List.set_cons_zero, List.set_cons_succ]
  refine wpAnyH_ready (rs := [45]) (by kernel_rfl) (by simp) ?_
  refine AllReadyH.cons (by simp; rfl) (fun K0 hK0 => ?_) AllReadyH.nil
  go_simp
  refine (add_zero gz A n cap v1 (by rw [cell_of_row v1 gz 0 _ _ _ (HSH.out.z0 gz rfl)]; rfl)).mono ?_
  rintro e wq ⟨rfl, hwq⟩
  subst hwq
  refine hK0.out _ _ hHeld (fun _ => ?_)
  clear hK0 K0
  refine wpAnyH_take (i := 46) (v := ?_) (by simp; rfl) (by kernel_rfl) (by kernel_rfl) (by kernel_rfl) (by exact fun _ _ _ h => h) (Or.inl ⟨by rfl, fun wx hSx => ?_⟩) hHeld ?_
  rotate_left
  · clear hSx; go_simp; (try with_reducible rfl)
  simp only [Act.put, List.setIfInBounds_toArray, List.set_cons_zero, List.set_cons_succ]
  refine wpAnyH_take (i := 47) (v := ?_) (by simp; rfl) (by kernel_rfl) (by kernel_rfl) (by kernel_rfl) (by exact fun _ _ _ h => h) (Or.inl ⟨by rfl, fun wx hSx => ?_⟩) hHeld ?_
  rotate_left
  · clear hSx; go_simp; (try with_reducible rfl)
  simp only [Act.put, List.setIfInBounds_toArray, List.set_cons_zero, List.set_cons_succ]
  refine wpAnyH_take (i := 48) (v := ?_) (by simp; rfl) (by kernel_rfl) (by kernel_rfl) (by kernel_rfl) (by exact fun _ _ _ h => h) (Or.inl ⟨by rfl, fun wx hSx => ?_⟩) hHeld ?_
  rotate_left
  · clear hSx; go_simp; (try with_reducible rfl)
  simp only [Act.put, List.setIfInBounds_toArray, List.set_cons_zero, List.set_cons_succ]
  refine wpAnyH_take (i := 49) (v := ?_) (by simp; rfl) (by kernel_rfl) (by kernel_rfl) (by kernel_rfl) (by exact fun _ _ _ h => h) (Or.inl ⟨by rfl, fun wx hSx => ?_⟩) hHeld ?_
  rotate_left
  · clear hSx; go_simp; (try with_reducible rfl)
  simp only [Act.put, List.setIfInBounds_toArray, List.set_cons_zero, List.set_cons_succ]
  refine wpAnyH_ready (rs := [50]) (by kernel_rfl) (by simp) ?_
  refine AllReadyH.cons (by simp; rfl) (fun K0 hK0 => ?_) AllReadyH.nil
  go_simp
  refine (len_nil v1).mono ?_
  rintro e wq ⟨rfl, hwq⟩
  subst hwq
  refine hK0.out _ _ hHeld (fun _ => ?_)
  clear hK0 K0
  refine wpAnyH_ready (rs := [51]) (by kernel_rfl) (by simp) ?_
  refine AllReadyH.cons (by simp; rfl) (fun K0 hK0 => ?_) AllReadyH.nil
  go_simp
  refine (len_at gz 0 v1 (by rw [cell_of_row v1 gz 73 _ _ _ (HSH.out.z0 gz rfl)]; rfl) (by omega)).mono ?_
  rintro e wq ⟨rfl, hwq⟩
  subst hwq
  refine hK0.out _ _ hHeld (fun _ => ?_)
  clear hK0 K0
  refine wpAnyH_take (i := 52) (v := ?_) (by simp; rfl) (by kernel_rfl) (by kernel_rfl) (by kernel_rfl) (by exact fun _ _ _ h => h) (Or.inl ⟨by rfl, fun wx hSx => ?_⟩) hHeld ?_
  rotate_left
  · clear hSx; go_simp; (try with_reducible rfl)
  simp only [Act.put, List.setIfInBounds_toArray, List.set_cons_zero, List.set_cons_succ]
  refine wpAnyH_take (i := 53) (v := ?_) (by simp; rfl) (by kernel_rfl) (by kernel_rfl) (by kernel_rfl) (by exact fun _ _ _ h => h) (Or.inl ⟨by rfl, fun wx hSx => ?_⟩) hHeld ?_
  rotate_left
  · clear hSx; go_simp; (try with_reducible rfl)
  simp only [Act.put, List.setIfInBounds_toArray, List.set_cons_zero, List.set_cons_succ]
  refine wpAnyH_take (i := 54) (v := ?_) (by simp; rfl) (by kernel_rfl) (by kernel_rfl) (by kernel_rfl) (by exact fun _ _ _ h => h) (Or.inl ⟨by rfl, fun wx hSx => ?_⟩) hHeld ?_
  rotate_left
  · clear hSx; go_simp; (try with_reducible rfl)
  simp only [Act.put, List.setIfInBounds_toArray, List.set_cons_zero, List.set_cons_succ]
  refine wpAnyH_take (i := 55) (v := ?_) (by simp; rfl) (by kernel_rfl) (by kernel_rfl) (by kernel_rfl) (by exact fun _ _ _ h => h) (Or.inl ⟨by rfl, fun wx hSx => ?_⟩) hHeld ?_
  rotate_left
  · clear hSx; go_simp; (try with_reducible rfl)
  simp only [Act.put, List.setIfInBounds_toArray, List.set_cons_zero, List.set_cons_succ]
  refine wpAnyH_done (by kernel_rfl) ?_ _
  go_wp2
  go_ret
  exact ⟨rfl, QB.out.below.trans ((hbT.out.trans (hHeld.mono hbT.out.size)).mono QB.out.below.size)⟩
end Go.Proofs.YtakfcdemoaogfaaDoor
