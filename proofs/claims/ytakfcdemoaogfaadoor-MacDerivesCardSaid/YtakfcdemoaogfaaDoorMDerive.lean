/-
  Proved here, where the table of constants is as the program lays it, for every secret that reads as bytes, every label and every number: mac's Derive answers the first 16 bytes of the mark of the label, a nought and the number, or tells why not, as 'deriveS' says; nothing that was there is changed.
-/
import Derived.Test.YtakfcdemoaogfaaDoorMMark
import Derived.Lib.ConvBytes
namespace Go.Proofs.YtakfcdemoaogfaaDoor
open Go.RowKit
def Z16 : List Nat := List.replicate 16 0
def ZM : Array Value := #[.int .u8 0, .int .u8 0, .int .u8 0, .int .u8 0, .int .u8 0, .int .u8 0, .int .u8 0, .int .u8 0, .int .u8 0, .int .u8 0, .int .u8 0, .int .u8 0, .int .u8 0, .int .u8 0, .int .u8 0, .int .u8 0]
theorem ZM_eq : ZM = (V8 Z16).toArray := by kernel_rfl
/-- A string's bytes. -/
def labS (s : ByteArray) : List Nat := s.data.toList.map fun b => b.toNat
theorem length_labS (s : ByteArray) : (labS s).length = s.size := by rw [labS, List.length_map]; rfl
theorem lab_r0 (w : World) (e : TypeId) (s : ByteArray) : R0 (Lib.bytesWorld w e s) (some ⟨w.heap.size, 0, none⟩) (labS s) := fun _ =>
  ⟨w.heap.size, 0, rfl, by rw [Lib.bytesWorld_size]; omega, fun i hi => by
    rw [length_labS] at hi
    have hi' : i < s.data.size := hi
    rw [Nat.zero_add, Lib.bytesWorld_cell w e s i hi]
    have h1 : s.data.toList[i]? = some (s.data[i]) := by simp
    simp only [labS, List.getD_eq_getElem?_getD, List.getElem?_map, h1, Option.map_some, Option.getD_some]⟩
theorem lab_below (w : World) (e : TypeId) (s : ByteArray) : Below w.heap.size w (Lib.bytesWorld w e s) :=
  ⟨rfl, rfl, rfl, by rw [Lib.bytesWorld_size]; omega, fun k hk => Lib.bytesWorld_at_old w e s k hk⟩
theorem info50 : (Tryd.prog.info? 50).map (·.size) = some 16 := by kernel_rfl
theorem slice_arr50 (g : Nat) (W : World) : (Instr.sliceAt 50 (.pointer (some ⟨g, 0, none⟩)) none none none).run Tryd.prog W = .ok (.slice (some ⟨g, 0, none⟩) 16 16) W := by
  have ha : (⟨g, 0, none⟩ : Addr).add 0 = ⟨g, 0, none⟩ := rfl
  simp [Instr.sliceAt, Instr.sureAddr, run_underlying Tryd.underlying50, Instr.sliceBounds, ha]
/-- The key that comes of a secret. -/
def keyS (secret : List Nat) (lab : List Nat) (i : Nat) : List Nat := (markS secret (lab ++ [0, i])).take 16
theorem length_keyS (secret lab : List Nat) (i : Nat) : (keyS secret lab i).length = 16 := by simp [keyS, markS, length_sumS]

set_option maxRecDepth 100000 in
set_option maxHeartbeats 1000000 in
theorem derive_none (A : Option Addr) (cap : Nat) (s : ByteArray) (i : Int) (w : World) : Calls Tryd.prog 23 #[.slice A 0 cap, .string s, .int .i64 i] w fun e w' => e = .returned (.tuple #[.agg (V8 Z16).toArray, .int .i64 1]) ∧ Below w.heap.size w w' := by
  go_enter Tryd.func23, Tryd.ntmps23
  go_wp2_with (first | refine wpList_build_to rfl 50 _ rfl (V8 Z16).toArray (by kernel_rfl) ?_ | refine wpList_store_row rfl 50 _ _ rfl w.heap.size (V8 Z16).toArray rfl rfl 50 (V8 Z16).toArray (heap_alloc_new _ _) info50 rfl (by decide +kernel) ?_)
  exact bodyPost_ret (results_cell_tmp Tryd.results23 _ _ w.heap.size 50 (V8 Z16).toArray (0, 0) _ (.int .i64 1) rfl rfl (setRow_heap _ _ _ _ _ _ (heap_alloc_new _ _)) Tryd.underlying50 rfl info50) rfl ⟨rfl, below_setRow ((Below.refl _ _).alloc (Nat.le_refl _) _) (Nat.le_refl _) _⟩
theorem mark_lab (key : List Nat) (A : Option Addr) (cap : Nat) (s : ByteArray) (i : Nat) (w : World) (o : Obj) (c : Nat) (hc : c = grownCap (w.alloc o) s.size 0 5) (hK : R0 w A key) (hcap : key.length ≤ cap) (hm : cap ≤ maxLen) (hs : s.size ≤ 32) (hT : Tab w) (hn : key.length < 1152921504606846000) :
    Calls Tryd.prog 18 #[.slice A key.length cap, .slice (some ⟨w.heap.size + 2 + 1, 0, none⟩) 2 2] (((Lib.bytesWorld (w.alloc o) 5 s).alloc (.cells #[.int .u8 0, .int .u8 (i : Int)] 5)).alloc (.cells #[.slice (some ⟨w.heap.size + 1, 0, none⟩) s.size c, .slice (some ⟨w.heap.size + 2, 0, none⟩) 2 2] 22)) fun e w' => e = .returned (.agg (V8 (markS key (labS s ++ [0, i]))).toArray) ∧
      Below (w.heap.size + 4) (((Lib.bytesWorld (w.alloc o) 5 s).alloc (.cells #[.int .u8 0, .int .u8 (i : Int)] 5)).alloc (.cells #[.slice (some ⟨w.heap.size + 1, 0, none⟩) s.size c, .slice (some ⟨w.heap.size + 2, 0, none⟩) 2 2] 22)) w' := by
  have z0 : (Lib.bytesWorld (w.alloc o) 5 s).heap.size = w.heap.size + 2 := by rw [Lib.bytesWorld_size]; simp
  have b1 : Below w.heap.size w (Lib.bytesWorld (w.alloc o) 5 s) := ((Below.refl _ _).alloc (Nat.le_refl _) _).trans ((lab_below _ _ _).mono (by simp))
  have r1 := lab_r0 (w.alloc o) 5 s
  rw [show (w.alloc o).heap.size = w.heap.size + 1 by simp] at r1
  generalize Lib.bytesWorld (w.alloc o) 5 s = B at z0 b1 r1 ⊢
  have b2 : Below B.heap.size B ((B.alloc (.cells #[.int .u8 0, .int .u8 (i : Int)] 5)).alloc (.cells #[.slice (some ⟨w.heap.size + 1, 0, none⟩) s.size c, .slice (some ⟨w.heap.size + 2, 0, none⟩) 2 2] 22)) :=
    ((Below.refl _ _).alloc (Nat.le_refl _) _).alloc (by simp) _
  have h1 : ((B.alloc (.cells #[.int .u8 0, .int .u8 (i : Int)] 5)).alloc (.cells #[.slice (some ⟨w.heap.size + 1, 0, none⟩) s.size c, .slice (some ⟨w.heap.size + 2, 0, none⟩) 2 2] 22)).heap[w.heap.size + 2]? = some (.cells (V8 [0, i]).toArray 5 (0, 0)) := by
    rw [← z0]
    exact (old_block _ _ _ (by simp)).trans (heap_alloc_new _ _)
  have h2 : ((B.alloc (.cells #[.int .u8 0, .int .u8 (i : Int)] 5)).alloc (.cells #[.slice (some ⟨w.heap.size + 1, 0, none⟩) s.size c, .slice (some ⟨w.heap.size + 2, 0, none⟩) 2 2] 22)).heap[w.heap.size + 2 + 1]? = some (.cells #[.slice (some ⟨w.heap.size + 1, 0, none⟩) (labS s).length c, .slice (some ⟨w.heap.size + 2, 0, none⟩) [0, i].length 2] 22 (0, 0)) := by
    rw [← z0, length_labS]
    exact new_block _ _ _ (by simp)
  have h3 := r1.to b2
  have z2 : ((B.alloc (.cells #[.int .u8 0, .int .u8 (i : Int)] 5)).alloc (.cells #[.slice (some ⟨w.heap.size + 1, 0, none⟩) s.size c, .slice (some ⟨w.heap.size + 2, 0, none⟩) 2 2] 22)).heap.size = w.heap.size + 4 := by simp [z0]
  have b3 := b1.trans (b2.mono (by omega))
  generalize ((B.alloc (.cells #[.int .u8 0, .int .u8 (i : Int)] 5)).alloc (.cells #[.slice (some ⟨w.heap.size + 1, 0, none⟩) s.size c, .slice (some ⟨w.heap.size + 2, 0, none⟩) 2 2] 22)) = W at h1 h2 h3 z2 b3 ⊢
  have hge := grownCap_ge (w.alloc o) s.size 0 5
  have hle := grownCap_le_maxLen (w.alloc o) s.size 0 5 (by unfold maxLen; omega)
  have := mark_any key [labS s, [0, i]] A _ cap 2 W (hK.to b3) hcap hm
    (RS.two h2 h3 (R0.block h1) (by rw [length_labS]; omega) (Nat.le_refl _) (by omega) (by unfold maxLen; omega)) (Nat.le_refl _) (by unfold maxLen; omega) (hT.to b3) hn (by simp [length_labS]; omega)
  rw [z2] at this
  simpa using this
set_option maxRecDepth 100000 in
set_option maxHeartbeats 1000000 in
theorem derive_some (key : List Nat) (A : Option Addr) (cap : Nat) (s : ByteArray) (i : Nat) (w : World) (hK : R0 w A key) (hcap : key.length ≤ cap) (hm : cap ≤ maxLen) (h0 : 0 < key.length) (hi : i < 256) (hs : s.size ≤ 32) (hT : Tab w) (hn : key.length < 1152921504606846000) :
    Calls Tryd.prog 23 #[.slice A key.length cap, .string s, .int .i64 (i : Int)] w fun e w' => e = .returned (.tuple #[.agg (V8 (keyS key (labS s) i)).toArray, .int .i64 0]) ∧ Below w.heap.size w w' := by
  have hd : ((key.length : Int) == 0) = false := by rw [beq_eq_false_iff_ne]; omega
  have hd2 : ¬ (255 : Int) < (i : Int) := by omega
  have hd3 : ¬ (32 : Int) < (s.size : Int) := by omega
  have hcv := fun W : World => Lib.run_convert_string_bytes (P := Tryd.prog) W 9 22 5 s Tryd.underlying9 Tryd.underlying22 Tryd.underlying5
  have hbz : ∀ o : Obj, (Lib.bytesWorld (w.alloc o) 5 s).heap.size = w.heap.size + 2 := fun o => by rw [Lib.bytesWorld_size]; simp
  have hi8 : (i : Int) % 256 = (i : Int) := by omega
  have HM := Lib.hid (fun (o : Obj) (c : Nat) hc => mark_lab key A cap s i w o c hc hK hcap hm hs hT hn)
  have HB := Lib.hid (fun o : Obj => (show Below w.heap.size w (Lib.bytesWorld (w.alloc o) 5 s) from ((Below.refl _ _).alloc (Nat.le_refl _) _).trans ((lab_below _ _ _).mono (by simp))))
  have HO := Lib.hid (fun o : Obj => (show (Lib.bytesWorld (w.alloc o) 5 s).heap[w.heap.size]? = some o from (Lib.bytesWorld_at_old _ _ _ _ (by simp)).trans (heap_alloc_new _ _)))
  have HKS := Lib.hid (show keyS key (labS s) i = (markS key (labS s ++ [0, i])).take 16 from rfl)
  have HXL := Lib.hid (show (markS key (labS s ++ [0, i])).length = 32 from length_sumS _)
  generalize keyS key (labS s) i = Y at HKS ⊢
  generalize markS key (labS s ++ [0, i]) = X at HM HKS HXL
  clear hK hcap hm hT hn hs
  go_enter Tryd.func23, Tryd.ntmps23
  go_wp2_with fail
  refine (HM.out _ _ rfl).mono ?_
  rintro e w1 ⟨rfl, hb1⟩
  have E1 : w1.heap[w.heap.size]? = some (.cells (V8 Z16).toArray 50 (0, 0)) := (hb1.block _ (by omega)).trans ((old_block _ _ _ (by simp [hbz]; omega)).trans ((old_block _ _ _ (by simp [hbz])).trans ((HO.out _).trans (by rw [← ZM_eq]; rfl))))
  have E2 : Below w.heap.size w w1 := (((HB.out _).alloc (by simp [hbz]) _).alloc (by simp [hbz]; omega) _).trans (hb1.mono (by omega))
  have E3 : w.heap.size + 4 ≤ w1.heap.size := by have := hb1.size; simp [hbz] at this; omega
  have F1 := Lib.hid E1
  have F2 := Lib.hid E2
  have HS := Lib.hid (show (Tryd.prog.info? 29).map (·.size) = some (V8 X).toArray.size by rw [List.size_toArray, length_V8, HXL.out]; exact info29)
  have HE := Lib.hid (show (V8 Z32).toArray.size = (V8 X).toArray.size by simp [HXL.out, Z32])
  have HOC := Lib.hid (show (V8 X).toArray.all (·.oneCell') = true by simpa using one_V8 X)
  clear hb1 HM HB HO E1 E2 hbz hcv
  go_upto_region 7 with (refine wpList_store_row rfl 29 _ _ rfl w1.heap.size (V8 X).toArray rfl rfl 29 (V8 Z32).toArray (heap_alloc_new _ _) HS.out HE.out HOC.out ?_)
  obtain ⟨U, hU, G1, G2, G3, G4⟩ : ∃ U : World, U = ((w1.alloc (.cells ZL 29)).setRow w1.heap.size (V8 X).toArray).alloc (.cells ZM 50) ∧ U.heap[w.heap.size]? = some (.cells (V8 Z16).toArray 50 (0, 0)) ∧ U.heap[w1.heap.size]? = some (.cells (V8 X).toArray 29 (0, 0)) ∧ U.heap[w1.heap.size + 1]? = some (.cells (V8 Z16).toArray 50 (0, 0)) ∧ Below w.heap.size w U :=
    ⟨_, rfl, (old_block _ _ _ (by simp; omega)).trans ((setRow_other _ _ _ _ (by omega)).trans ((old_block _ _ _ (by omega)).trans F1.out)), (old_block _ _ _ (by simp)).trans (setRow_heap _ _ _ _ _ _ (heap_alloc_new _ _)), (new_block _ _ _ (by simp)).trans (by rw [ZM_eq]), ((below_setRow (F2.out.alloc (by omega) _) (by omega) _).alloc (by simp; omega) _)⟩
  unfold ZL ZM at hU
  rw [← hU]
  clear hU F1 F2 HE HOC
  obtain ⟨gs, hgs⟩ : ∃ gs, w1.heap.size = gs := ⟨_, rfl⟩
  rw [hgs] at G2 G3 E3 ⊢
  clear hgs
  have hs1 := slice_arr50 (gs + 1)
  have hs2 := slice_arr29 gs
  have K1 := Lib.hid (show (V8 (X.take 16)).length = Nat.min 32 16 by simp [HXL.out])
  have K2 := Lib.hid (show 0 + (V8 (X.take 16)).length ≤ (V8 Z16).length by simp [HXL.out, Z16])
  have K3 := Lib.hid (show (V8 Z16).take 0 ++ V8 (X.take 16) ++ (V8 Z16).drop (0 + (V8 (X.take 16)).length) = V8 Y by
    rw [List.drop_of_length_le (by simp [HXL.out, Z16]), HKS.out]; simp)
  have K4 := Lib.hid (show ∀ j v, (V8 (X.take 16))[j]? = some v → U.cell? ((⟨gs, 0, none⟩ : Addr).add j) = some v from by
    intro j v hv
    have hadd : (⟨gs, 0, none⟩ : Addr).add j = ⟨gs, j, none⟩ := by unfold Addr.add; split <;> simp_all
    rw [hadd, cell_of_row _ _ j _ _ _ G2, List.getElem?_toArray, ← hv]
    have hj : j < 16 := by have := (List.getElem?_eq_some_iff.1 hv).1; simp at this; omega
    simp [V8, hj])
  have J1 := Lib.hid G3
  have J2 := Lib.hid G1
  have J4 := Lib.hid G4
  clear G1 G2 G3 G4 HS
  go_region_law (refine step_copy_at rfl (.tmp 36) (.tmp 37) 22 22 rfl 5 Tryd.underlying22 sizeByte 16 16 32 32 (gs + 1) 0 ⟨gs, 0, none⟩ (by simp [Act.eval, Act.put]) (by simp [Act.eval, Act.put]) (V8 Z16) 50 J1.out (V8 (X.take 16)) K1.out K4.out K2.out (one_V8 _) (V8 Y) K3.out ?_)
  have HYL : Y.length = 16 := by rw [HKS.out]; simp [HXL.out]
  have L1 := Lib.hid (show (U.drew.setRow (gs + 1) (V8 Y).toArray).heap[gs + 1]? = some (.cells (V8 Y).toArray 50 (0, 0)) from setRow_heap _ _ _ _ _ _ J1.out)
  have L2 := Lib.hid (show (U.drew.setRow (gs + 1) (V8 Y).toArray).heap[w.heap.size]? = some (.cells (V8 Z16).toArray 50 (0, 0)) from (setRow_other _ _ _ _ (by omega)).trans J2.out)
  have L3 := Lib.hid (show Below w.heap.size w (U.drew.setRow (gs + 1) (V8 Y).toArray) from below_setRow J4.out.drew (by omega) _)
  have HS := Lib.hid (show (Tryd.prog.info? 50).map (·.size) = some (V8 Y).toArray.size by rw [List.size_toArray, length_V8, HYL]; exact info50)
  have HE := Lib.hid (show (V8 Z16).toArray.size = (V8 Y).toArray.size by simp [HYL, Z16])
  have HOC := Lib.hid (show (V8 Y).toArray.all (·.oneCell') = true by simpa using one_V8 Y)
  clear J1 J2 J4 K1 K2 K3 K4 hs1 hs2 HYL
  generalize U.drew.setRow (gs + 1) (V8 Y).toArray = W at L1 L2 L3 ⊢
  go_wp2_with (first | refine wpList_load_row rfl 50 _ rfl (gs + 1) rfl 50 (V8 Y).toArray (0,0) _ L1.out Tryd.underlying50 rfl HS.out ?_ | refine wpList_store_row rfl 50 _ _ rfl w.heap.size _ rfl rfl 50 (V8 Z16).toArray L2.out HS.out HE.out HOC.out ?_)
  exact bodyPost_ret (results_cell_tmp Tryd.results23 _ _ w.heap.size 50 (V8 Y).toArray (0, 0) _ (.int .i64 0) rfl rfl (setRow_heap _ _ _ _ _ _ L2.out) Tryd.underlying50 rfl HS.out) rfl ⟨rfl, below_setRow L3.out (Nat.le_refl _) _⟩
end Go.Proofs.YtakfcdemoaogfaaDoor
