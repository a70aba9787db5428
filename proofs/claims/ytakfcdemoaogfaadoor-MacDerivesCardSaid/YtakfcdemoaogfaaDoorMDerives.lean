/-
  Proved here, where the table of constants is as the program lays it: the law MacDerives answers true at every secret, label and number, and nothing that was there is changed.
-/
import Derived.Test.YtakfcdemoaogfaaDoorMDer3
import Derived.Deep.RegionHeld
import Derived.Deep.DrawnRows
import Derived.Deep.DeepCutAuto
namespace Go.Proofs.YtakfcdemoaogfaaDoor
open Go.RowKit
set_option maxHeartbeats 1000000 in
theorem derives_out (A : Option Addr) (l cap : Nat) (s : ByteArray) (i : Int) (w : World) (hT : Tab w) (h : 150 < l ∨ 100 < s.size) :
    Calls Tryd.prog 7 #[.slice A l cap, .string s, .int .i64 i] w fun e w' => e = .returned (.bool true) ∧ Below w.heap.size w w' := by
  have HT := Lib.hid hT
  clear hT
  by_cases h1 : (150 : Int) < (l : Int)
  · clear h
    go_enter Tryd.func7, Tryd.ntmps7
    go_wp2_with fail
    refine (alive4_any w HT.out).mono ?_
    rintro e w1 ⟨rfl, hb⟩
    go_wp2
    go_ret
    exact ⟨rfl, hb⟩
  have h2 : (100 : Int) < (s.size : Int) := by omega
  clear h
  go_enter Tryd.func7, Tryd.ntmps7
  go_wp2_with fail
  refine (alive4_any w HT.out).mono ?_
  rintro e w1 ⟨rfl, hb⟩
  go_wp2
  go_ret
  exact ⟨rfl, hb⟩
set_option maxRecDepth 100000 in
set_option maxHeartbeats 2000000 in
theorem derives_in (l : Nat) (A : Option Addr) (cap : Nat) (s : ByteArray) (i : Int) (w : World) (hT : Tab w) (Y : List Nat) (n : Int) (hY : Y.length = 16)
    (HD : Hid (∀ W, Below w.heap.size w W → Calls Tryd.prog 23 #[.slice A l cap, .string s, .int .i64 i] W fun e w' => e = .returned (.tuple #[.agg (V8 Y).toArray, .int .i64 n]) ∧ Below W.heap.size W w'))
    (HR : Hid (∀ W, Below w.heap.size w W → Calls Tryd.prog 24 #[.slice A l cap, .string s, .int .i64 i] W (RDer Y n W))) (h1 : l ≤ 150) (h2 : s.size ≤ 100) :
    Calls Tryd.prog 7 #[.slice A l cap, .string s, .int .i64 i] w fun e w' => e = .returned (.bool true) ∧ Below w.heap.size w w' := by
  have t1 : ¬ (150 : Int) < (l : Int) := by omega
  have t2 : ¬ (100 : Int) < (s.size : Int) := by omega
  have HT := Lib.hid hT
  have HSY := Lib.hid (show (Tryd.prog.info? 50).map (·.size) = some (V8 Y).toArray.size by rw [List.size_toArray, length_V8, hY]; exact info50)
  have HEY := Lib.hid (show (V8 Z16).toArray.size = (V8 Y).toArray.size by simp [hY, Z16])
  have HOY := Lib.hid (show (V8 Y).toArray.all (·.oneCell') = true by simpa using one_V8 Y)
  have HYL := Lib.hid hY
  clear hT hY h1 h2
  go_enter Tryd.func7, Tryd.ntmps7
  go_wp2_with fail
  refine (HD.out w (Below.refl _ _)).mono ?_
  rintro e w2 ⟨rfl, hb2⟩
  have HB2 := Lib.hid hb2
  clear hb2 HD t1 t2
  go_upto_region 4 with (refine wpList_store_row rfl 50 _ _ rfl w2.heap.size (V8 Y).toArray rfl rfl 50 (V8 Z16).toArray (heap_alloc_new _ _) HSY.out HEY.out HOY.out ?_)
  obtain ⟨V, hV, G2, G3⟩ : ∃ V : World, V = (w2.alloc (.cells ZM 50)).setRow w2.heap.size (V8 Y).toArray ∧ V.heap[w2.heap.size]? = some (.cells (V8 Y).toArray 50 (0, 0)) ∧ Below w.heap.size w V :=
    ⟨_, rfl, setRow_heap _ _ _ _ _ _ (heap_alloc_new _ _), below_setRow (HB2.out.alloc HB2.out.size _) HB2.out.size _⟩
  unfold ZM at hV
  rw [← hV]
  clear hV HB2 HEY HOY HSY
  generalize w2.heap.size = y at G2 ⊢
  have HG2 := Lib.hid G2
  have HG3 := Lib.hid G3
  clear G2 G3
  go_wp2_with fail
  refine (HR.out V HG3.out).mono ?_
  rintro e U ⟨g, c, rfl, hcell, hg, hb⟩
  have HGU := Lib.hid ((hb.block _ (lt_of_blk HG2.out)).trans HG2.out)
  have HBU := Lib.hid (HG3.out.trans (hb.mono HG3.out.size))
  have HCU := Lib.hid (fun (wx : World) (hx : Below U.heap.size U wx) => show R0 wx (some ⟨g, 0, none⟩) Y from fun _ => ⟨g, 0, rfl, Nat.lt_of_lt_of_le hg hx.size, fun j hj => by
    rw [Nat.zero_add]
    exact (hx.cell (p := ⟨g, j, none⟩) hg).trans (hcell j (by have := HYL.out; omega))⟩)
  have Ly := lt_of_blk HGU.out
  clear hcell hg hb HG2 HG3 HR
  have hs7 := slice_arr50 y
  have ss : ((strN Y).toList == (strN Y).toList) = true := by simp
  have nn : (n == n) = true := by simp
  go_upto_region 5 with fail
  refine wp_region_held_drew (S := fun W => Below U.heap.size U W) (by kernel_rfl) (Below.refl _ _).drew (fun hHeld => ?_)
  refine wpAnyH_ready (rs := [0]) (by kernel_rfl) (by simp) ?_
  refine AllReadyH.cons (by simp; rfl) (fun K0 hK0 => ?_) AllReadyH.nil
  go_simp
  refine (alive4_any U.drew (HT.out.to HBU.out.drew)).mono ?_
  rintro e v0 ⟨rfl, hb⟩
  have HV := Lib.hid (show Below U.heap.size U v0 from (Below.refl _ U).drew.trans hb)
  refine hK0.out _ _ HV.out (fun hHeld => ?_)
  clear hK0 K0 hb
  refine wpAnyH_take (i := 1) (v := ?_) (by simp; rfl) (by kernel_rfl) (by kernel_rfl) (by kernel_rfl) (by exact fun _ _ _ h => h) (Or.inl ⟨by rfl, fun wx hSx => ?_⟩) hHeld ?_
  rotate_left
  · clear hSx; go_simp; (try with_reducible rfl)
  simp only [Act.put, List.setIfInBounds_toArray, List.set_cons_zero, List.set_cons_succ]
  refine wpAnyH_take (i := 2) (v := ?_) (by simp; rfl) (by kernel_rfl) (by kernel_rfl) (by kernel_rfl) (by exact fun _ _ _ h => h) (Or.inl ⟨by rfl, fun wx hSx => ?_⟩) hHeld ?_
  rotate_left
  · clear hSx; go_simp; (try with_reducible rfl)
  simp only [Act.put, List.setIfInBounds_toArray, List.set_cons_zero, List.set_cons_succ]
  refine wpAnyH_take (i := 3) (v := ?_) (by simp; rfl) (by kernel_rfl) (by kernel_rfl) (by kernel_rfl) (by exact fun _ _ _ h => h) (Or.inl ⟨by rfl, fun wx hSx => ?_⟩) hHeld ?_
  rotate_left
  · have hc := conv_nat (A := some ⟨y, 0, none⟩) HYL.out 16 (R0.block ((hSx.block _ Ly).trans HGU.out)); clear hSx; go_simp; (try with_reducible rfl)
  simp only [Act.put, List.setIfInBounds_toArray, List.set_cons_zero, List.set_cons_succ]
  refine wpAnyH_take (i := 4) (v := ?_) (by simp; rfl) (by kernel_rfl) (by kernel_rfl) (by kernel_rfl) (by exact fun _ _ _ h => h) (Or.inl ⟨by rfl, fun wx hSx => ?_⟩) hHeld ?_
  rotate_left
  · clear hSx; go_simp; (try with_reducible rfl)
  simp only [Act.put, List.setIfInBounds_toArray, List.set_cons_zero, List.set_cons_succ]
  refine wpAnyH_take (i := 5) (v := ?_) (by simp; rfl) (by kernel_rfl) (by kernel_rfl) (by kernel_rfl) (by exact fun _ _ _ h => h) (Or.inl ⟨by rfl, fun wx hSx => ?_⟩) hHeld ?_
  rotate_left
  · have hc := conv_nat HYL.out c (HCU.out wx hSx); clear hSx; go_simp; (try with_reducible rfl)
  simp only [Act.put, List.setIfInBounds_toArray, List.set_cons_zero, List.set_cons_succ]
  refine wpAnyH_take (i := 6) (v := ?_) (by simp; rfl) (by kernel_rfl) (by kernel_rfl) (by kernel_rfl) (by exact fun _ _ _ h => h) (Or.inl ⟨by rfl, fun wx hSx => ?_⟩) hHeld ?_
  rotate_left
  · clear hSx; go_simp; (try with_reducible rfl)
  simp only [Act.put, List.setIfInBounds_toArray, List.set_cons_zero, List.set_cons_succ]
  refine wpAnyH_take (i := 7) (v := ?_) (by simp; rfl) (by kernel_rfl) (by kernel_rfl) (by kernel_rfl) (by exact fun _ _ _ h => h) (Or.inl ⟨by rfl, fun wx hSx => ?_⟩) hHeld ?_
  rotate_left
  · clear hSx; go_simp; (try with_reducible rfl)
  simp only [Act.put, List.setIfInBounds_toArray, List.set_cons_zero, List.set_cons_succ]
  refine wpAnyH_take (i := 8) (v := ?_) (by simp; rfl) (by kernel_rfl) (by kernel_rfl) (by kernel_rfl) (by exact fun _ _ _ h => h) (Or.inl ⟨by rfl, fun wx hSx => ?_⟩) hHeld ?_
  rotate_left
  · clear hSx; go_simp; (try with_reducible rfl)
  simp only [Act.put, List.setIfInBounds_toArray, List.set_cons_zero, List.set_cons_succ]
  refine wpAnyH_take (i := 9) (v := ?_) (by simp; rfl) (by kernel_rfl) (by kernel_rfl) (by kernel_rfl) (by exact fun _ _ _ h => h) (Or.inl ⟨by rfl, fun wx hSx => ?_⟩) hHeld ?_
  rotate_left
  · clear hSx; go_simp; (try with_reducible rfl)
  simp only [Act.put, List.setIfInBounds_toArray, List.set_cons_zero, List.set_cons_succ]
  refine wpAnyH_take (i := 10) (v := ?_) (by simp; rfl) (by kernel_rfl) (by kernel_rfl) (by kernel_rfl) (by exact fun _ _ _ h => h) (Or.inl ⟨by rfl, fun wx hSx => ?_⟩) hHeld ?_
  rotate_left
  · clear hSx; go_simp; (try with_reducible rfl)
  simp only [Act.put, List.setIfInBounds_toArray, List.set_cons_zero, List.set_cons_succ]
  refine wpAnyH_take (i := 11) (v := ?_) (by simp; rfl) (by kernel_rfl) (by kernel_rfl) (by kernel_rfl) (by exact fun _ _ _ h => h) (Or.inl ⟨by rfl, fun wx hSx => ?_⟩) hHeld ?_
  rotate_left
  · clear hSx; go_simp; (try with_reducible rfl)
  simp only [Act.put, List.setIfInBounds_toArray, List.set_cons_zero, List.set_cons_succ]
  refine wpAnyH_take (i := 12) (v := ?_) (by simp; rfl) (by kernel_rfl) (by kernel_rfl) (by kernel_rfl) (by exact fun _ _ _ h => h) (Or.inl ⟨by rfl, fun wx hSx => ?_⟩) hHeld ?_
  rotate_left
  · clear hSx; go_simp; (try with_reducible rfl)
  simp only [Act.put, List.setIfInBounds_toArray, List.set_cons_zero, List.set_cons_succ]
  refine wpAnyH_take (i := 13) (v := ?_) (by simp; rfl) (by kernel_rfl) (by kernel_rfl) (by kernel_rfl) (by exact fun _ _ _ h => h) (Or.inl ⟨by rfl, fun wx hSx => ?_⟩) hHeld ?_
  rotate_left
  · clear hSx; go_simp; (try with_reducible rfl)
  simp only [Act.put, List.setIfInBounds_toArray, List.set_cons_zero, List.set_cons_succ]
  refine wpAnyH_done (by kernel_rfl) ?_ _
  go_wp2
  go_ret
  exact ⟨rfl, HBU.out.trans (HV.out.mono HBU.out.size)⟩
theorem z16_len : Z16.length = 16 := rfl
theorem derives_any (key : List Nat) (A : Option Addr) (cap : Nat) (s : ByteArray) (i : Int) (w : World) (hT : Tab w) (hK : R0 w A key) (hnA : A = none → cap = 0) (hcap : key.length ≤ cap) (hm : cap ≤ maxLen) (ha : ∀ j, key.getD j 0 < 256) (h1 : key.length ≤ 150) (h2 : s.size ≤ 100) :
    Calls Tryd.prog 7 #[.slice A key.length cap, .string s, .int .i64 i] w fun e w' => e = .returned (.bool true) ∧ Below w.heap.size w w' := by
  by_cases h0 : key.length = 0
  · refine derives_in key.length A cap s i w hT Z16 1 z16_len (Lib.hid fun W _ => ?_) (Lib.hid fun W _ => rderive_bad A key.length cap s i W (.inl h0)) h1 h2
    rw [h0]
    exact derive_none A cap s i W
  by_cases hi : i < 0 ∨ 255 < i
  · exact derives_in key.length A cap s i w hT Z16 1 z16_len (Lib.hid fun W _ => derive_bad A key.length cap s i W (by omega) hi) (Lib.hid fun W _ => rderive_bad A key.length cap s i W (.inr hi)) h1 h2
  by_cases hs : 32 < s.size
  · exact derives_in key.length A cap s i w hT Z16 2 z16_len (Lib.hid fun W _ => derive_long A key.length cap s i W (by omega) (by omega) (by omega) hs) (Lib.hid fun W _ => rderive_long A key.length cap s i W (by omega) (by omega) (by omega) hs) h1 h2
  · obtain ⟨N, rfl⟩ : ∃ N : Nat, i = (N : Int) := ⟨i.toNat, by omega⟩
    exact derives_in key.length A cap s N w hT (keyS key (labS s) N) 0 (length_keyS _ _ _) (Lib.hid fun W hb => derive_some key A cap s N W (hK.to hb) hcap hm (by omega) (by omega) (by omega) (hT.to hb) (by omega)) (Lib.hid fun W hb => rderive_some key A cap s N W (hK.to hb) hnA hcap ha (by omega) (by omega) (by omega) (by omega)) h1 h2
end Go.Proofs.YtakfcdemoaogfaaDoor
