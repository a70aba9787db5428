/-
  Proved here, where the table of constants is as the program lays it, for every slice that reads as bytes: mac's filled answers the key of 64 bytes, as 'fillK' says, and nothing that was there is changed.
-/
import Derived.Test.YtakfcdemoaogfaaDoorMXor
import Derived.Test.YtakfcdemoaogfaaDoorSAsks
namespace Go.Proofs.YtakfcdemoaogfaaDoor
open Go.RowKit
/-- A key of 64 bytes. -/
def fillK (key : List Nat) : List Nat := if key.length ≤ 64 then key ++ List.replicate (64 - key.length) 0 else sumS key ++ List.replicate 32 0
theorem length_fillK (key : List Nat) : (fillK key).length = 64 := by
  unfold fillK
  split
  · simp; omega
  · simp [length_sumS]
theorem splice_zero (cs : List Nat) : splice (V8 (List.replicate 64 0)) 0 (V8 cs) = V8 (cs ++ List.replicate (64 - cs.length) 0) := by
  have e : ∀ n, V8 (List.replicate n 0) = List.replicate n (.int .u8 0) := fun n => by simp only [V8, List.map_replicate]; rfl
  rw [V8_append, e, e, splice, List.take_zero, List.nil_append, Nat.zero_add, List.drop_replicate, length_V8]
theorem slice_arr35 (g : Nat) (W : World) : (Instr.sliceAt 35 (.pointer (some ⟨g, 0, none⟩)) none none none).run Tryd.prog W = .ok (.slice (some ⟨g, 0, none⟩) 64 64) W := by
  have ha : (⟨g, 0, none⟩ : Addr).add 0 = ⟨g, 0, none⟩ := rfl
  simp [Instr.sliceAt, Instr.sureAddr, run_underlying Tryd.underlying35, Instr.sliceBounds, ha]
theorem slice_arr29 (g : Nat) (W : World) : (Instr.sliceAt 29 (.pointer (some ⟨g, 0, none⟩)) none none none).run Tryd.prog W = .ok (.slice (some ⟨g, 0, none⟩) 32 32) W := by
  have ha : (⟨g, 0, none⟩ : Addr).add 0 = ⟨g, 0, none⟩ := rfl
  simp [Instr.sliceAt, Instr.sureAddr, run_underlying Tryd.underlying29, Instr.sliceBounds, ha]
def Z64 : List Nat := List.replicate 64 0

set_option maxRecDepth 100000 in
set_option maxHeartbeats 1000000 in
theorem filled_short (key : List Nat) (A : Option Addr) (cap : Nat) (w : World) (hR : R0 w A key) (h : key.length ≤ 64) : Calls Tryd.prog 30 #[.slice A key.length cap] w fun e w' => e = .returned (.agg (V8 (fillK key)).toArray) ∧ Below w.heap.size w w' := by
  have hd : decide (64 < key.length) = false := by simpa using h
  have hs := slice_arr35 (w.heap.size + 1)
  have HR := Lib.hid hR
  have HF := Lib.hid (show fillK key = key ++ List.replicate (64 - key.length) 0 from if_pos h)
  clear hR
  go_enter Tryd.func30, Tryd.ntmps30
  go_wp2_with (with_reducible refine wpList_copy_splice rfl (.tmp 14) (.tmp 15) 22 22 rfl 5 Tryd.underlying22 sizeByte (some ⟨w.heap.size + 1, 0, none⟩) A 64 64 key.length cap rfl rfl (w.heap.size + 1) 0 (V8 Z64) 35 ?hg (V8 key) ?hn ?hpos ?hfit (one_V8 key) (w.heap.size + 1) _ (Below.refl _ _) (Nat.le_refl _) ?_)
  case hg => exact new_block _ _ _ (by simp)
  case hn => rw [length_V8]; exact (Nat.min_eq_left h).symm
  case hfit => simp [Z64]; omega
  case hpos =>
    intro hp
    obtain ⟨b, off, e, hlt, hc⟩ := HR.out (by simpa using hp)
    refine ⟨_, e, fun j v hv => ?_⟩
    have hj : j < key.length := by simpa using (List.getElem?_eq_some_iff.1 hv).1
    rw [V8_get hj] at hv
    have hadd : (⟨b, off, none⟩ : Addr).add j = ⟨b, off + j, none⟩ := by unfold Addr.add; split <;> simp_all
    rw [hadd, ← hv, ← hc j hj]
    exact World.cell?_of_block ((old_block _ _ _ (by simp; omega)).trans (old_block _ _ _ hlt))
  intro w1 hg1 hb1
  have F1 : w1.heap[w.heap.size + 1]? = some (.cells (V8 (fillK key)).toArray 35 (0, 0)) := by
    have := hg1.out
    rw [show V8 Z64 = V8 (List.replicate 64 0) from rfl, splice_zero key, ← HF.out] at this
    exact this
  have F2 : w1.heap[w.heap.size]? = some (.cells (V8 Z64).toArray 35 (0, 0)) := (hb1.block _ (by omega)).trans ((old_block _ _ _ (by simp)).trans (heap_alloc_new _ _))
  have F3 : Below w.heap.size w w1 := (((Below.refl _ _).alloc (Nat.le_refl _) _).alloc (by simp) _).trans (hb1.mono (by omega))
  have H1 := Lib.hid F1
  have H2 := Lib.hid F2
  clear hg1 hb1 F1 F2 hs HF
  have HS := Lib.hid (show (Tryd.prog.info? 35).map (·.size) = some (V8 (fillK key)).toArray.size by rw [List.size_toArray, length_V8, length_fillK]; exact info35)
  go_wp2_with (first | refine wpList_load_row rfl 35 _ rfl (w.heap.size + 1) rfl 35 (V8 (fillK key)).toArray (0,0) _ H1.out Tryd.underlying35 rfl HS.out ?_ | refine wpList_store_row rfl 35 _ _ rfl w.heap.size _ rfl rfl 35 (V8 Z64).toArray H2.out HS.out ?c1 ?c2 ?_)
  case c1 => simp [length_fillK, Z64]
  case c2 => simpa using one_V8 (fillK key)
  exact bodyPost_ret (v := .agg (V8 (fillK key)).toArray) (results_cell_row (p := 2) (ty := 35) Tryd.results30 _ _ w.heap.size 35 _ (0, 0) _ rfl (setRow_heap _ _ _ _ _ _ H2.out) Tryd.underlying35 rfl HS.out) rfl ⟨rfl, below_setRow F3 (Nat.le_refl _) _⟩

set_option maxRecDepth 100000 in
set_option maxHeartbeats 1000000 in
theorem filled_long (key : List Nat) (A : Option Addr) (cap : Nat) (w : World) (hR : R0 w A key) (hcap : key.length ≤ cap) (hm : cap ≤ maxLen) (hT : Tab w) (h : 64 < key.length) (hn : key.length < 1152921504606846000) : Calls Tryd.prog 30 #[.slice A key.length cap] w fun e w' => e = .returned (.agg (V8 (fillK key)).toArray) ∧ Below w.heap.size w w' := by
  have hd : decide (64 < key.length) = true := by simpa using h
  have HR := Lib.hid hR
  have HT := Lib.hid hT
  have HC := Lib.hid (And.intro hcap hm)
  have HF := Lib.hid (show fillK key = sumS key ++ List.replicate 32 0 from if_neg (by omega))
  clear hR hT hcap hm
  have hbA : ∀ o1 o2 o3 : Obj, Below w.heap.size w (((w.alloc o1).alloc o2).alloc o3) := fun o1 o2 o3 => (((Below.refl _ _).alloc (Nat.le_refl _) _).alloc (by simp) _).alloc (by simp; omega) _
  have HBA := Lib.hid hbA
  clear hbA
  go_enter Tryd.func30, Tryd.ntmps30
  go_wp2_with fail
  refine (of_any_n [key] 1 rfl (some ⟨w.heap.size + 1 + 1, 0, none⟩) 1 _ (RS.one (A := A) (c := cap) (new_block _ _ _ (by simp)) (HR.out.to (HBA.out _ _ _)) HC.out.1 HC.out.2) (Nat.le_refl _) (by unfold maxLen; omega) (HT.out.to (HBA.out _ _ _)) (by simpa using hn)).mono ?_
  rintro e w1 ⟨rfl, hb1⟩
  rw [show [key].flatten = key by simp]
  have F1 : w1.heap[w.heap.size + 1]? = some (.cells (V8 Z64).toArray 35 (0, 0)) := (hb1.block _ (by simp)).trans ((old_block _ _ _ (by simp)).trans (new_block _ _ _ (by simp)))
  have F2 : w1.heap[w.heap.size]? = some (.cells (V8 Z64).toArray 35 (0, 0)) := (hb1.block _ (by simp; omega)).trans ((old_block _ _ _ (by simp; omega)).trans ((old_block _ _ _ (by simp)).trans (heap_alloc_new _ _)))
  have F3 : Below w.heap.size w w1 := (HBA.out _ _ _).trans (hb1.mono (by simp; omega))
  have F4 : w.heap.size + 3 ≤ w1.heap.size := by have := hb1.size; simp at this; omega
  obtain ⟨X, hX⟩ : ∃ X, sumS key = X := ⟨_, rfl⟩
  rw [hX]
  have hXl : X.length = 32 := by rw [← hX]; exact length_sumS key
  have HX := Lib.hid (And.intro hX hXl)
  have HS := Lib.hid (show (Tryd.prog.info? 29).map (·.size) = some (V8 X).toArray.size by rw [List.size_toArray, length_V8, hXl]; exact info29)
  have HE := Lib.hid (show (V8 Z32).toArray.size = (V8 X).toArray.size by simp [hXl, Z32])
  have HO := Lib.hid (show (V8 X).toArray.all (·.oneCell') = true by simpa using one_V8 X)
  have H1 := Lib.hid F1
  have H2 := Lib.hid F2
  have H3 := Lib.hid F3
  clear hb1 HBA HR HT F1 F2 F3 hX
  go_wp2_with (refine wpList_store_row rfl 29 _ _ rfl w1.heap.size (V8 X).toArray rfl rfl 29 (V8 Z32).toArray (heap_alloc_new _ _) HS.out HE.out HO.out ?_)
  have hbU : ∀ (o : Obj) (cs : Array Value), Below w1.heap.size w1 ((w1.alloc o).setRow w1.heap.size cs) := fun o cs => below_setRow ((Below.refl _ _).alloc (Nat.le_refl _) _) (Nat.le_refl _) _
  obtain ⟨U, hU, G1, G2, G3, G4⟩ : ∃ U : World, U = (w1.alloc (.cells ZL 29)).setRow w1.heap.size (V8 X).toArray ∧ U.heap[w.heap.size + 1]? = some (.cells (V8 Z64).toArray 35 (0, 0)) ∧ U.heap[w.heap.size]? = some (.cells (V8 Z64).toArray 35 (0, 0)) ∧ U.heap[w1.heap.size]? = some (.cells (V8 X).toArray 29 (0, 0)) ∧ Below w.heap.size w U :=
    ⟨_, rfl, ((hbU _ _).block _ (by omega)).trans H1.out, ((hbU _ _).block _ (by omega)).trans H2.out, setRow_heap _ _ _ _ _ _ (heap_alloc_new _ _), H3.out.trans ((hbU _ _).mono (by omega))⟩
  unfold ZL at hU
  rw [← hU]
  clear hU hbU H1 H2 H3
  obtain ⟨gs, hgs⟩ : ∃ gs, w1.heap.size = gs := ⟨_, rfl⟩
  rw [hgs] at G3 F4 ⊢
  clear hgs
  have hs := slice_arr35 (w.heap.size + 1)
  have hs2 := slice_arr29 gs
  have K1 := Lib.hid (show (V8 X).length = Nat.min 32 64 by simp [hXl])
  have K2 := Lib.hid (show 0 + (V8 X).length ≤ (V8 Z64).length by simp [hXl, Z64])
  have K3 := Lib.hid (show (V8 Z64).take 0 ++ V8 X ++ (V8 Z64).drop (0 + (V8 X).length) = V8 (fillK key) by
    rw [HF.out, HX.out.1]
    have := splice_zero X
    rw [hXl] at this
    exact this)
  have K4 := Lib.hid (show ∀ j v, (V8 X)[j]? = some v → U.cell? ((⟨gs, 0, none⟩ : Addr).add j) = some v from by
    intro j v hv
    have hadd : (⟨gs, 0, none⟩ : Addr).add j = ⟨gs, j, none⟩ := by unfold Addr.add; split <;> simp_all
    rw [hadd, cell_of_row _ _ j _ _ _ G3, List.getElem?_toArray]
    exact hv)
  have J1 := Lib.hid G1
  have J2 := Lib.hid G2
  have J4 := Lib.hid G4
  clear G1 G2 G3 G4 hXl HO HE HS
  go_region_law (refine step_copy_at rfl (.tmp 11) (.tmp 12) 22 22 rfl 5 Tryd.underlying22 sizeByte 64 64 32 32 (w.heap.size + 1) 0 ⟨gs, 0, none⟩ (by simp [Act.eval, Act.put]) (by simp [Act.eval, Act.put]) (V8 Z64) 35 J1.out (V8 X) K1.out K4.out K2.out (one_V8 _) (V8 (fillK key)) K3.out ?_)
  have L1 := Lib.hid (show (U.drew.setRow (w.heap.size + 1) (V8 (fillK key)).toArray).heap[w.heap.size + 1]? = some (.cells (V8 (fillK key)).toArray 35 (0, 0)) from setRow_heap _ _ _ _ _ _ J1.out)
  have L2 := Lib.hid (show (U.drew.setRow (w.heap.size + 1) (V8 (fillK key)).toArray).heap[w.heap.size]? = some (.cells (V8 Z64).toArray 35 (0, 0)) from (setRow_other _ _ _ _ (by omega)).trans J2.out)
  have L3 := Lib.hid (show Below w.heap.size w (U.drew.setRow (w.heap.size + 1) (V8 (fillK key)).toArray) from below_setRow J4.out.drew (by omega) _)
  clear J1 J2 J4 K1 K2 K3 K4 hs hs2
  generalize U.drew.setRow (w.heap.size + 1) (V8 (fillK key)).toArray = W at L1 L2 L3 ⊢
  have HS := Lib.hid (show (Tryd.prog.info? 35).map (·.size) = some (V8 (fillK key)).toArray.size by rw [List.size_toArray, length_V8, length_fillK]; exact info35)
  go_wp2_with (first | refine wpList_load_row rfl 35 _ rfl (w.heap.size + 1) rfl 35 (V8 (fillK key)).toArray (0,0) _ L1.out Tryd.underlying35 rfl HS.out ?_ | refine wpList_store_row rfl 35 _ _ rfl w.heap.size _ rfl rfl 35 (V8 Z64).toArray L2.out HS.out ?c1 ?c2 ?_)
  case c1 => simp [length_fillK, Z64]
  case c2 => simpa using one_V8 (fillK key)
  exact bodyPost_ret (v := .agg (V8 (fillK key)).toArray) (results_cell_row (p := 2) (ty := 35) Tryd.results30 _ _ w.heap.size 35 _ (0, 0) _ rfl (setRow_heap _ _ _ _ _ _ L2.out) Tryd.underlying35 rfl HS.out) rfl ⟨rfl, below_setRow L3.out (Nat.le_refl _) _⟩

theorem filled_any (key : List Nat) (A : Option Addr) (cap : Nat) (w : World) (hR : R0 w A key) (hcap : key.length ≤ cap) (hm : cap ≤ maxLen) (hT : Tab w) (hn : key.length < 1152921504606846000) : Calls Tryd.prog 30 #[.slice A key.length cap] w fun e w' => e = .returned (.agg (V8 (fillK key)).toArray) ∧ Below w.heap.size w w' := by
  by_cases h : key.length ≤ 64
  · exact filled_short key A cap w hR h
  · exact filled_long key A cap w hR hcap hm hT (by omega) hn
end Go.Proofs.YtakfcdemoaogfaaDoor
