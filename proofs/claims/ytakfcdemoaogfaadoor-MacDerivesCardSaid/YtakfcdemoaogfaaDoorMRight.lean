/-
  Proved here, where the table of constants is as the program lays it, for every key, every bytes and every row of slices that read as bytes: mac's Right tells whether the bytes are at least eight, at most 32, and the beginning of the rows' mark; nothing that was there is changed.
-/
import Derived.Test.YtakfcdemoaogfaaDoorMMark
namespace Go.Proofs.YtakfcdemoaogfaaDoor
open Go.RowKit
theorem byAt_lt (x j : Nat) : byAt x j < 256 := by
  unfold byAt
  split <;> simp only [by0, by1, by2, by3] <;> omega
theorem set_lt {l : List Nat} {n v : Nat} (h : ∀ i, l.getD i 0 < 256) (hv : v < 256) (i : Nat) : (l.set n v).getD i 0 < 256 := by
  have := h i
  simp only [List.getD_eq_getElem?_getD, List.getElem?_set] at this ⊢
  split
  · split
    · simpa using hv
    · simp
  · exact this
theorem sb_lt (l : List Nat) : ∀ n i, (sb l n).getD i 0 < 256
  | 0, i => by
    simp only [sb, List.getD_eq_getElem?_getD, List.getElem?_replicate]
    split <;> simp
  | n + 1, i => by
    rw [sb]
    exact set_lt (sb_lt l n) (byAt_lt _ _) i
theorem sumS_lt (bs : List Nat) (i : Nat) : (sumS bs).getD i 0 < 256 := sb_lt _ _ _
theorem markS_lt (key bs : List Nat) (i : Nat) : (markS key bs).getD i 0 < 256 := sb_lt _ _ _
theorem length_markS (key bs : List Nat) : (markS key bs).length = 32 := length_sumS _
theorem take_lt {l : List Nat} (h : ∀ i, l.getD i 0 < 256) (n i : Nat) : (l.take n).getD i 0 < 256 := by
  have := h i
  simp only [List.getD_eq_getElem?_getD, List.getElem?_take] at this ⊢
  split
  · exact this
  · simp
/-- The first n of what a slice reads as. -/
theorem R0.front {w : World} {A : Option Addr} {cs : List Nat} (h : R0 w A cs) (n : Nat) : R0 w A (cs.take n) := fun hl => by
  have hl' : 0 < cs.length := by simp at hl; omega
  obtain ⟨b, off, e, hlt, hc⟩ := h hl'
  refine ⟨b, off, e, hlt, fun i hi => ?_⟩
  have hi' : i < n ∧ i < cs.length := by simp at hi; omega
  rw [hc i hi'.2]
  simp [List.getD_eq_getElem?_getD, hi'.1]
theorem slice_arr29_to (g n : Nat) (hn : n ≤ 32) (W : World) : (Instr.sliceAt 29 (.pointer (some ⟨g, 0, none⟩)) none (some (.int .i64 (n : Int))) none).run Tryd.prog W = .ok (.slice (some ⟨g, 0, none⟩) n 32) W := by
  have h1 : (n : Int) ≤ 32 := by omega
  have ha : (⟨g, 0, none⟩ : Addr).add 0 = ⟨g, 0, none⟩ := rfl
  simp [Instr.sliceAt, Instr.sureAddr, run_underlying Tryd.underlying29, Instr.sliceBounds, run_sliceBound, h1, ha]
/-- Is it the beginning of a mark? -/
def rightS (key mk bs : List Nat) : Bool := decide (8 ≤ mk.length) && decide (mk.length ≤ 32) && eqS mk ((markS key bs).take mk.length)
theorem right_few (K M B : Option Addr) (lk ck lm cm lb cb : Nat) (w : World) (h : lm < 8) : Calls Tryd.prog 21 #[.slice K lk ck, .slice M lm cm, .slice B lb cb] w fun e w' => e = .returned (.bool false) ∧ w = w' := by
  have hd : decide (lm < 8) = true := by simpa using h
  go_enter Tryd.func21, Tryd.ntmps21
  go_wp2
  go_ret
  exact ⟨rfl, rfl⟩
theorem right_many (K M B : Option Addr) (lk ck lm cm lb cb : Nat) (w : World) (h : 32 < lm) : Calls Tryd.prog 21 #[.slice K lk ck, .slice M lm cm, .slice B lb cb] w fun e w' => e = .returned (.bool false) ∧ w = w' := by
  have hd : decide (lm < 8) = false := by simp; omega
  have hd2 : decide (32 < lm) = true := by simpa using h
  go_enter Tryd.func21, Tryd.ntmps21
  go_wp2
  go_ret
  exact ⟨rfl, rfl⟩
set_option maxRecDepth 100000 in
set_option maxHeartbeats 1000000 in
theorem right_some (key mk : List Nat) (ps : List (List Nat)) (A M B : Option Addr) (cap capM capB : Nat) (w : World) (hK : R0 w A key) (hcap : key.length ≤ cap) (hm : cap ≤ maxLen) (hM : R0 w M mk) (hmk : ∀ i, mk.getD i 0 < 256) (h8 : 8 ≤ mk.length) (h32 : mk.length ≤ 32) (hR : RS w B ps) (hcapB : ps.length ≤ capB) (hmB : capB ≤ maxLen) (hT : Tab w) (hn : key.length < 1152921504606846000) (hn2 : ps.flatten.length < 1152921504606840000) :
    Calls Tryd.prog 21 #[.slice A key.length cap, .slice M mk.length capM, .slice B ps.length capB] w fun e w' => e = .returned (.bool (eqS mk ((markS key ps.flatten).take mk.length))) ∧ Below w.heap.size w w' := by
  have hd : decide (mk.length < 8) = false := by simp; omega
  have hd2 : decide (32 < mk.length) = false := by simp; omega
  have HX := Lib.hid (mark_any key ps A B cap capB w hK hcap hm hR hcapB hmB hT hn hn2)
  have HML := Lib.hid (length_markS key ps.flatten)
  have HLT := Lib.hid (markS_lt key ps.flatten)
  generalize markS key ps.flatten = X at HX HML HLT ⊢
  have HS := Lib.hid (show (Tryd.prog.info? 29).map (·.size) = some (V8 X).toArray.size by rw [List.size_toArray, length_V8, HML.out]; exact info29)
  have HE := Lib.hid (show (V8 Z32).toArray.size = (V8 X).toArray.size by simp [HML.out, Z32])
  have HO := Lib.hid (show (V8 X).toArray.all (·.oneCell') = true by simpa using one_V8 X)
  have HM := Lib.hid hM
  have HB := Lib.hid hmk
  generalize hL : mk.length = L at *
  have HL := Lib.hid hL
  clear hL hK hcap hm hM hmk hR hcapB hmB hT hn hn2
  have hs := fun g => slice_arr29_to g L h32
  go_enter Tryd.func21, Tryd.ntmps21
  go_wp2_with fail
  refine HX.out.mono ?_
  rintro e w1 ⟨rfl, hb1⟩
  have HM1 := Lib.hid (HM.out.to hb1)
  have HB1 := Lib.hid hb1
  clear hb1 HX HM
  go_wp2_with (refine wpList_store_row rfl 29 _ _ rfl w1.heap.size (V8 X).toArray rfl rfl 29 (V8 Z32).toArray (heap_alloc_new _ _) HS.out HE.out HO.out ?_)
  have hbU : ∀ (o : Obj) (cs : Array Value), Below w1.heap.size w1 ((w1.alloc o).setRow w1.heap.size cs) := fun o cs => below_setRow ((Below.refl _ _).alloc (Nat.le_refl _) _) (Nat.le_refl _) _
  refine (equal_same mk (X.take L) L HL.out (by simp [HML.out]; omega) M (some ⟨w1.heap.size, 0, none⟩) capM 32 _ (HM1.out.to (hbU _ _)) (R0.front (R0.block (setRow_heap _ _ _ _ _ _ (heap_alloc_new _ _))) L) (by omega)).mono ?_
  rintro e w2 ⟨rfl, rfl⟩
  have := unl_eq mk (X.take L) HB.out (take_lt HLT.out L) (by simp [HML.out, HL.out]; omega)
  rw [HL.out] at this
  rw [this]
  go_wp2
  go_ret
  exact ⟨rfl, HB1.out.trans ((hbU _ _).mono HB1.out.size)⟩
theorem right_any (key mk : List Nat) (ps : List (List Nat)) (A M B : Option Addr) (cap capM capB : Nat) (w : World) (hK : R0 w A key) (hcap : key.length ≤ cap) (hm : cap ≤ maxLen) (hM : R0 w M mk) (hmk : ∀ i, mk.getD i 0 < 256) (hR : RS w B ps) (hcapB : ps.length ≤ capB) (hmB : capB ≤ maxLen) (hT : Tab w) (hn : key.length < 1152921504606846000) (hn2 : ps.flatten.length < 1152921504606840000) :
    Calls Tryd.prog 21 #[.slice A key.length cap, .slice M mk.length capM, .slice B ps.length capB] w fun e w' => e = .returned (.bool (rightS key mk ps.flatten)) ∧ Below w.heap.size w w' := by
  unfold rightS
  by_cases h8 : mk.length < 8
  · rw [decide_eq_false (show ¬ 8 ≤ mk.length by omega), Bool.false_and, Bool.false_and]
    exact (right_few _ _ _ _ _ _ _ _ _ w h8).mono fun e w' ⟨h, h'⟩ => ⟨h, h' ▸ Below.refl _ _⟩
  · by_cases h32 : 32 < mk.length
    · rw [decide_eq_false (show ¬ mk.length ≤ 32 by omega), Bool.and_false, Bool.false_and]
      exact (right_many _ _ _ _ _ _ _ _ _ w h32).mono fun e w' ⟨h, h'⟩ => ⟨h, h' ▸ Below.refl _ _⟩
    · rw [decide_eq_true (show 8 ≤ mk.length by omega), decide_eq_true (show mk.length ≤ 32 by omega), Bool.true_and, Bool.true_and]
      exact right_some key mk ps A M B cap capM capB w hK hcap hm hM hmk (by omega) (by omega) hR hcapB hmB hT hn hn2
end Go.Proofs.YtakfcdemoaogfaaDoor
