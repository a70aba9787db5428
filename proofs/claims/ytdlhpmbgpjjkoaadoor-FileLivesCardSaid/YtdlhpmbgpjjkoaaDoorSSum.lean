/-
  Proved here, where the table of constants is as the program lays it: Sum tells the sum of what a Sha holds, as 'sumS' says, and changes nothing that was there (at nil, and at one that no call made: ErrNil).
-/
import Derived.Test.YtdlhpmbgpjjkoaaDoorSNew
import Derived.Laws.OwnMore
namespace Go.Proofs.YtdlhpmbgpjjkoaaDoor
open Go.RowKit
/-- The answer of two: an array that lies in a block, and a number. -/
theorem results_cell_tmp {P : Program} {fn : Func} {p q : Tmp} {ty : TypeId} (h : fn.results = #[.cell p ty, .tmp q]) (tmps : Array Value) (w : World) (g : Nat) (t : TypeId) (cs : Array Value) (fr : Nat × Nat) (d : TypeDesc) (u : Value)
    (hp : tmps.getD p undef = .pointer (some ⟨g, 0, none⟩)) (hq : tmps.getD q undef = u) (hg : w.heap[g]? = some (.cells cs t fr))
    (hu : P.underlying ty = some d) (hd : (match d with | .struct _ | .array _ _ => true | _ => false) = true) (hi : (P.info? ty).map (·.size) = some cs.size) :
    (results fn tmps).run P w = .ok (.tuple #[.agg cs, u]) w := by
  have hp' : tmps[p]?.getD undef = .pointer (some ⟨g, 0, none⟩) := by simpa using hp
  have hq' : tmps[q]?.getD undef = u := by simpa using hq
  simp [results, h, hp', hq', asAddr, run_loadVar_row w g t ty cs fr d hg hu hd hi]

def Z32 : List Nat := List.replicate 32 0
set_option maxRecDepth 100000 in
set_option maxHeartbeats 1000000 in
theorem sum_nil (w : World) : Calls Tryd.prog 43 #[.pointer none] w fun e w' => e = .returned (.tuple #[.agg (V8 Z32).toArray, .int .i64 6]) ∧ Below w.heap.size w w' := by
  go_enter Tryd.func43, Tryd.ntmps43
  go_wp2_with (first | refine wpList_build_to rfl 32 _ rfl (V8 Z32).toArray (by kernel_rfl) ?_ | refine wpList_store_row rfl 32 _ _ rfl w.heap.size (V8 Z32).toArray rfl rfl 32 (V8 Z32).toArray (heap_alloc_new _ _) info29 rfl (by decide +kernel) ?_)
  exact bodyPost_ret (results_cell_tmp Tryd.results43 _ _ w.heap.size 32 (V8 Z32).toArray (0, 0) _ (.int .i64 6) rfl rfl (setRow_heap _ _ _ _ _ _ (heap_alloc_new _ _)) Tryd.underlying32 rfl info29) rfl ⟨rfl, below_setRow ((Below.refl _ _).alloc (Nat.le_refl _) _) (Nat.le_refl _) _⟩
set_option maxRecDepth 100000 in
set_option maxHeartbeats 1000000 in
theorem sum_zero (g : Nat) (w : World) (hc : w.cell? ⟨g, 0, none⟩ = some (.bool false)) : Calls Tryd.prog 43 #[.pointer (some ⟨g, 0, none⟩)] w fun e w' => e = .returned (.tuple #[.agg (V8 Z32).toArray, .int .i64 6]) ∧ Below w.heap.size w w' := by
  have hlt : g < w.heap.size := block_lt_of_cell hc
  have hc' : ∀ o, (w.alloc o).cell? ⟨g, 0, none⟩ = some (.bool false) := fun o => (World.cell?_of_block (Below.heap_alloc w o g hlt)).trans hc
  clear hc
  go_enter Tryd.func43, Tryd.ntmps43
  go_wp2_with (first | refine wpList_build_to rfl 32 _ rfl (V8 Z32).toArray (by kernel_rfl) ?_ | refine wpList_store_row rfl 32 _ _ rfl w.heap.size (V8 Z32).toArray rfl rfl 32 (V8 Z32).toArray (heap_alloc_new _ _) info29 rfl (by decide +kernel) ?_)
  exact bodyPost_ret (results_cell_tmp Tryd.results43 _ _ w.heap.size 32 (V8 Z32).toArray (0, 0) _ (.int .i64 6) rfl rfl (setRow_heap _ _ _ _ _ _ (heap_alloc_new _ _)) Tryd.underlying32 rfl info29) rfl ⟨rfl, below_setRow ((Below.refl _ _).alloc (Nat.le_refl _) _) (Nat.le_refl _) _⟩

theorem info38 : (Tryd.prog.info? 85).map (·.size) = some 74 := by kernel_rfl
theorem one_shaL (m : Bool) (s : S8) (rest : List Nat) (n : Nat) : ∀ v ∈ shaL m s rest n, v.oneCell' = true := by
  intro v hv
  simp only [shaL, List.mem_cons, List.mem_append] at hv
  rcases hv with rfl | h | h | h
  · rfl
  · exact one_V32 _ _ h
  · exact one_V8 _ _ h
  · simp at h; subst h; rfl
def S0 : S8 := ⟨0, 0, 0, 0, 0, 0, 0, 0⟩
theorem zero38 (W : World) : (zeroValue 85).run Tryd.prog W = .ok (.agg (shaL false S0 (List.replicate 64 0) 0).toArray) W := by kernel_rfl
theorem own_rd {w : World} {base g : Nat} {v : Value} {n : Nat} {cs : List Nat} (h : w.ownsRow base 5 1 v n (V8 cs)) (hg : g < base) : ∃ A cap, v = .slice A n cap ∧ Rd w g A cs ∧ n ≤ cap ∧ cap ≤ maxLen := by
  obtain ⟨hl, ⟨rfl, rfl⟩ | ⟨b, cap, cur, rfl, hb, hblk, hnc, hmx, hsz, htk⟩⟩ := id h
  · refine ⟨none, 0, rfl, fun hp => ?_, Nat.le_refl _, by unfold maxLen; omega⟩
    simp at hl
    rw [hl] at hp
    simp at hp
  · refine ⟨_, cap, rfl, fun hp => ⟨b, 0, rfl, (Array.getElem?_eq_some_iff.1 hblk).1, by omega, fun i hi => ?_⟩, hnc, hmx⟩
    have hn : cs.length = n := by simpa using hl
    have := h.cellAt i (by omega)
    rw [Nat.zero_add, this, V8_get hi]
theorem length_outS (s : S8) : (outS s).length = 32 := length_sb _ _
theorem length_sumS (bs : List Nat) : (sumS bs).length = 32 := length_sb _ _

set_option maxRecDepth 100000 in
set_option maxHeartbeats 1000000 in
theorem sum_any (bs : List Nat) (g : Nat) (w : World) (hS : IsSha w g bs) (hT : Tab w) (hn : bs.length < 1152921504606846000) :
    Calls Tryd.prog 43 #[.pointer (some ⟨g, 0, none⟩)] w fun e w' => e = .returned (.tuple #[.agg (V8 (sumS bs)).toArray, .int .i64 0]) ∧ Below w.heap.size w w' := by
  obtain ⟨s, rest, n, hH, hO⟩ := id hS
  have hlt : g < w.heap.size := block_lt_of_cell hH.made
  have hnb : n < 1152921504606846000 := by rw [hO.size]; exact hn
  have m0 : ∀ o, (w.alloc o).cell? ⟨g, 0, none⟩ = some (.bool true) := fun o => (World.cell?_of_block (Below.heap_alloc w o g hlt)).trans hH.made
  have HI := Lib.hid (show (Tryd.prog.info? 85).map (·.size) = some (shaL true s rest n).toArray.size by rw [List.size_toArray, length_shaL, hH.len]; exact info38)
  have HH := Lib.hid hH
  have HO := Lib.hid hO
  have HT := Lib.hid hT
  clear hH hO hT hS
  have z38 := zero38
  have HA := Lib.hid (show (shaL true s rest n).toArray.all (·.oneCell') = true by simpa using one_shaL true s rest n)
  have HZ := Lib.hid (show (shaL false S0 (List.replicate 64 0) 0).toArray.size = (shaL true s rest n).toArray.size by simp [length_shaL, HH.out.len])
  have c73 : ∀ (o1 o2 : Obj) (cs : Array Value), (((w.alloc o1).alloc o2).setRow (w.heap.size + 1) cs).cell? ⟨g, 73, none⟩ = some (.int .u64 (n : Int)) := fun o1 o2 cs => (World.cell?_of_block ((setRow_other _ _ g cs (by omega)).trans ((old_block _ o2 g (by simp; omega)).trans (old_block _ o1 g hlt)))).trans HH.out.size
  go_enter Tryd.func43, Tryd.ntmps43
  go_wp2_with (first | refine wpList_load_row rfl 85 _ rfl g rfl 85 (shaL true s rest n).toArray (0, 0) _ ((Below.heap_alloc w _ g hlt).trans HH.out.blk) Tryd.underlying85 rfl HI.out ?_ | (refine wpList_store_row rfl 85 _ _ rfl (w.heap.size + 1) (shaL true s rest n).toArray rfl rfl 85 (shaL false S0 (List.replicate 64 0) 0).toArray ?hg HI.out HZ.out HA.out ?_))
  case hg => exact new_block _ _ _ (by simp)
  clear c73 z38 m0 HA HZ HI
  have hA : ∀ (o1 o2 : Obj) (cs : Array Value), Below w.heap.size w (((w.alloc o1).alloc o2).setRow (w.heap.size + 1) cs) := fun o1 o2 cs => below_setRow (((Below.refl _ _).alloc (Nat.le_refl _) _).alloc (by simp) _) (by omega) _
  refine (filling_any n _ (by omega)).mono ?_
  rintro e w1 ⟨v, rfl, hown, hb⟩
  have F1 : w1.heap[w.heap.size + 1]? = some (.cells (shaL true s rest n).toArray 85 (0, 0)) := (hb.block _ (by simp)).trans (setRow_heap _ _ _ _ _ _ (new_block _ _ _ (by simp)))
  have F2 : w1.heap[w.heap.size]? = some (.cells (V8 Z32).toArray 32 (0, 0)) := (hb.block _ (by simp; omega)).trans ((setRow_other _ _ _ _ (by omega)).trans ((old_block _ _ _ (by simp)).trans (heap_alloc_new _ _)))
  have F3 : Below w.heap.size w w1 := (hA _ _ _).trans (hb.mono (by simp; omega))
  have F4 : w.heap.size + 2 ≤ w1.heap.size := by have := hb.size; simp at this; omega
  have F5 : w1.ownsRow (w.heap.size + 2) 5 1 v (fillS n).length (V8 (fillS n)) := by simpa using hown
  clear hA hb hown
  have HS1 := Lib.hid (show IsSha w1 (w.heap.size + 1) bs from ⟨s, rest, n, ⟨HH.out.len, F1⟩, HO.out⟩)
  have HT1 := Lib.hid (HT.out.to F3)
  obtain ⟨A, cap, rfl, hRd, hcap, hmx⟩ : ∃ A cap, v = .slice A (fillS n).length cap ∧ Rd w1 (w.heap.size + 1) A (fillS n) ∧ (fillS n).length ≤ cap ∧ cap ≤ maxLen := own_rd F5 (by omega)
  have hfl : (fillS n).length ≤ 72 := by simp [fillS, length_be, noughts]; omega
  have HX := Lib.hid (take_any bs (fillS n) (w.heap.size + 1) A cap w1 HS1.out hRd hcap hmx HT1.out (by omega) (by omega))
  have HF := Lib.hid F2
  have HB := Lib.hid F3
  clear F1 F2 F3 F5 hRd hcap hmx hfl HH HS1
  go_wp2_with fail
  refine HX.out.mono ?_
  rintro e w2 ⟨rfl, hS2, hO2⟩
  obtain ⟨s2, rest2, n2, hH2, hOf2⟩ := hS2
  have HH2 := Lib.hid hH2
  have hst : s2 = stOf (bs ++ fillS bs.length) := by rw [hOf2.st, HO.out.size]
  have HF2 := Lib.hid (show w2.heap[w.heap.size]? = some (.cells (V8 Z32).toArray 32 (0, 0)) from (hO2.block _ (by omega) (by omega)).trans HF.out)
  have HB2 := Lib.hid (show Below w.heap.size w w2 from hO2.below HB.out (by omega) (by omega))
  have HST := Lib.hid hst
  have hz2 : w.heap.size + 2 ≤ w2.heap.size := Nat.le_trans F4 hO2.size
  clear hH2 hOf2 hst hO2 HF HB HX F4
  go_wp2_with (first | (refine wpList_load_at rfl 82 _ rfl (w.heap.size + 1) 1 rfl (V32 s2.list) _ HH2.out.stCell Tryd.underlying82 rfl (info34l s2) ?_) | fail)
  refine (stateBytes_any s2 _).mono ?_
  rintro e w3 ⟨rfl, hb3⟩
  have HS := Lib.hid (show (Tryd.prog.info? 32).map (·.size) = some (V8 (outS s2)).toArray.size by rw [List.size_toArray, length_V8, length_outS]; exact info29)
  have HF3 := Lib.hid (show w3.heap[w.heap.size]? = some (.cells (V8 Z32).toArray 32 (0, 0)) from (hb3.block _ (by omega)).trans HF2.out)
  have HB3 := Lib.hid (show Below w.heap.size w w3 from HB2.out.trans (hb3.mono HB2.out.size))
  clear hb3 HF2 HB2 HH2
  go_wp2_with (first | refine wpList_store_row rfl 32 _ _ rfl w.heap.size (V8 (outS s2)).toArray rfl rfl 32 (V8 Z32).toArray HF3.out HS.out ?c1 ?c2 ?_)
  case c1 => simp [length_outS, Z32]
  case c2 => simpa using one_V8 (outS s2)
  refine bodyPost_ret (results_cell_tmp Tryd.results43 _ _ w.heap.size 32 (V8 (outS s2)).toArray (0, 0) _ (.int .i64 0) rfl rfl (setRow_heap _ _ _ _ _ _ HF3.out) Tryd.underlying32 rfl HS.out) rfl ⟨?_, below_setRow HB3.out (Nat.le_refl _) _⟩
  rw [HST.out]
  rfl
end Go.Proofs.YtdlhpmbgpjjkoaaDoor
