/-
  Proved here: of a sender: Info; Costs, where nothing is told.
-/
import Derived.Test.YtdlhpmbgpjjkoaaDoorFif
set_option linter.unusedSimpArgs false
set_option linter.unusedVariables false
namespace Go.Proofs.YtdlhpmbgpjjkoaaDoor
open Go.RowKit
theorem info_snd : (Tryd.prog.info? 57).map (·.size) = some 40 := by kernel_rfl
def Z40 : List Value := sdL 0 ⟨#[]⟩ 0 Z32 (.slice none 0 0) 0 0 0 false
section
variable {w : World} {g : Nat} {id : Nat} {nm : ByteArray} {sum : List Nat} {bs : List Int} {N b p : Nat} {z : Bool}
set_option maxRecDepth 100000 in
theorem finfo_sd (h : Sd w g id nm sum bs N b p z) : Calls Tryd.prog 24 #[.pointer (some ⟨g, 0, none⟩)] w fun e w' => e = .returned (.agg (infL id nm bs.length sum).toArray) ∧ Below w.heap.size w w' := by
  have hal := (Below.refl w.heap.size w).alloc (Nat.le_refl _) (.cells (infL 0 ⟨#[]⟩ 0 Z32).toArray 34)
  have hs := h.below hal
  have HN := Lib.hid (none_sd hs)
  obtain ⟨n, hn⟩ : ∃ n, bs.length = n := ⟨_, rfl⟩
  have HC := Lib.hid (show ∀ (j : Nat) v, (infL id nm n sum)[j]? = some v → (w.alloc (.cells (infL 0 ⟨#[]⟩ 0 Z32).toArray 34)).cell? ⟨g, 0 + j, none⟩ = some v from fun j v hv => by
    rw [Nat.zero_add]
    exact hs.cellOf fun d => sdL_inf h.sum32 (by rw [hn]; exact hv))
  have HS := Lib.hid (show (Tryd.prog.info? 34).map (·.size) = some (infL id nm n sum).length by rw [infL_len h.sum32]; exact info_inf)
  have HSR := Lib.hid (show (Tryd.prog.info? 34).map (·.size) = some (infL id nm n sum).toArray.size by rw [List.size_toArray, infL_len h.sum32]; exact info_inf)
  have HE := Lib.hid (show (infL 0 ⟨#[]⟩ 0 Z32).toArray.size = (infL id nm n sum).toArray.size by rw [List.size_toArray, List.size_toArray, infL_len h.sum32, infL_len (by simp [Z32])])
  have HA := Lib.hid (show (infL id nm n sum).toArray.all (·.oneCell') = true by simpa using infL_one id nm n sum)
  have HB := Lib.hid (below_setRow hal (Nat.le_refl _) (infL id nm n sum).toArray)
  rw [hn]
  clear h hs hal hn
  go_enter Tryd.func24, Tryd.ntmps24
  go_wp2_with (first | (go_at_call 38; refine HN.out.mono ?_; rintro e wx ⟨rfl, rfl⟩) | (refine wpList_load_at rfl 34 (.tmp 8) rfl g 0 rfl (infL id nm n sum) _ HC.out Tryd.underlying34 rfl HS.out ?_) | (refine wpList_store_row rfl 34 _ _ rfl w.heap.size (infL id nm n sum).toArray rfl rfl 34 (infL 0 ⟨#[]⟩ 0 Z32).toArray (heap_alloc_new _ _) HSR.out HE.out HA.out ?_))
  exact bodyPost_ret (v := .agg (infL id nm n sum).toArray) (results_cell_row Tryd.results24 _ _ w.heap.size 34 _ (0, 0) _ rfl (setRow_heap _ _ _ _ _ _ (heap_alloc_new _ _)) Tryd.underlying34 rfl HSR.out) rfl ⟨rfl, HB.out⟩
/-- A copy of a sender, in a block of its own. -/
theorem Sd.copy (h : Sd w g id nm sum bs N b p z) {A : Option Addr} {c : Nat} (hh : w.heap[g]? = some (.cells (sdL id nm bs.length sum (.slice A bs.length c) N b p z).toArray 57 (0, 0))) :
    Sd ((w.alloc (.cells Z40.toArray 57)).setRow w.heap.size (sdL id nm bs.length sum (.slice A bs.length c) N b p z).toArray) w.heap.size id nm sum bs N b p z := by
  obtain ⟨A2, c2, hh2, hr, hlt, h1, h2, h3⟩ := h.ex
  rw [hh] at hh2
  injection hh2 with hh2
  injection hh2 with hh2 _ _
  have e : (sdL id nm bs.length sum (.slice A bs.length c) N b p z)[35 + 0]? = (sdL id nm bs.length sum (.slice A2 bs.length c2) N b p z)[35 + 0]? := by
    have := congrArg Array.toList hh2
    simp only at this
    rw [this]
  rw [sdL_at h.sum32, sdL_at h.sum32] at e
  simp at e
  obtain ⟨rfl, rfl⟩ := e
  have hb := below_setRow ((Below.refl w.heap.size w).alloc (Nat.le_refl _) (.cells Z40.toArray 57)) (Nat.le_refl _) (sdL id nm bs.length sum (.slice A bs.length c) N b p z).toArray
  exact ⟨⟨A, c, setRow_heap _ _ _ _ _ _ (heap_alloc_new _ _), hr.below hb, fun a ha => Nat.lt_trans (hlt a ha) h.lt, h1, h2, h3⟩, h.id1, h.sum32, h.right, h.num, h.size, h.at64⟩
set_option maxRecDepth 100000 in
theorem costs_stop (h : Sd w g id nm sum bs N b p z) (hz : stS z N b ≠ 0) (most : Int) : Calls Tryd.prog 26 #[.pointer (some ⟨g, 0, none⟩), .int .i64 most] w fun e w' => e = .returned (.slice none 0 0) ∧ Below w.heap.size w w' := by
  have HN := Lib.hid (none_sd h)
  obtain ⟨A, c, hh, _⟩ := h.ex
  have HK := Lib.hid (h.copy hh)
  obtain ⟨L, hL⟩ : ∃ L, (sdL id nm bs.length sum (.slice A bs.length c) N b p z).toArray = L := ⟨_, rfl⟩
  have HSR := Lib.hid (show (Tryd.prog.info? 57).map (·.size) = some L.size by rw [← hL, List.size_toArray, sdL_len h.sum32]; exact info_snd)
  have HE := Lib.hid (show Z40.toArray.size = L.size by rw [← hL, List.size_toArray, List.size_toArray, sdL_len h.sum32]; rfl)
  have HA := Lib.hid (show L.all (·.oneCell') = true by rw [← hL]; simpa using sdL_one (d := .slice A bs.length c) rfl)
  rw [hL] at hh HK
  have HH := Lib.hid hh
  have HB := Lib.hid (below_setRow ((Below.refl w.heap.size w).alloc (Nat.le_refl _) (.cells Z40.toArray 57)) (Nat.le_refl _) L)
  have HZ := Lib.hid hz
  clear h hh hL hz
  go_enter Tryd.func26, Tryd.ntmps26
  go_wp2_with (first | (go_at_call 38; refine HN.out.mono ?_; rintro e wx ⟨rfl, rfl⟩) | (refine wpList_load_row rfl 57 (.tmp 12) rfl g rfl 57 L (0, 0) _ HH.out Tryd.underlying57 rfl HSR.out ?_) | (refine wpList_store_row rfl 57 _ _ rfl w.heap.size L rfl rfl 57 Z40.toArray (heap_alloc_new _ _) HSR.out HE.out HA.out ?_))
  obtain ⟨Y, hY⟩ : ∃ Y, (w.alloc (.cells Z40.toArray 57)).setRow w.heap.size L = Y := ⟨_, rfl⟩
  simp only [Act.put]
  change Code.wp _ _ _ _ ((w.alloc (.cells Z40.toArray 57)).setRow w.heap.size L)
  rw [hY] at HK HB ⊢
  obtain ⟨k, hk⟩ : ∃ k, w.heap.size = k := ⟨_, rfl⟩
  rw [hk] at HK ⊢
  have HKK := Lib.hid hk
  clear hY hk HH HSR HE HA
  go_loopw [5] (fun lv wr => lv = .slice none 0 0 ∧ Hid (Below Y.heap.size Y wr)) (fun _ _ => 0)
  case atStart => exact ⟨rfl, Lib.hid (Below.refl _ _)⟩
  case round =>
    obtain ⟨rfl, HB2⟩ := hrel
    by_cases hm : (0 : Int) < most
    · have d1 : decide ((0 : Int) < most) = true := decide_eq_true hm
      have HX := Lib.hid (next_stop (HK.out.below HB2.out) HZ.out)
      go_wp2_with fail
      refine HX.out.mono ?_
      rintro e wz ⟨rfl, hz⟩
      have HB3 := Lib.hid (HB2.out.trans (hz.mono HB2.out.size))
      clear hz HX
      go_wp2
      go_ret
      exact ⟨rfl, HB.out.trans (HB3.out.mono HB.out.size)⟩
    · have d1 : decide ((0 : Int) < most) = false := decide_eq_false hm
      go_wp2
      go_ret
      exact ⟨rfl, HB.out.trans (HB2.out.mono HB.out.size)⟩
end
end Go.Proofs.YtdlhpmbgpjjkoaaDoor
