/-
  Proved here: of the laws of view: alive.
-/
import Derived.Test.YtjihcpnaebghnaaDoorIg
import Derived.Test.YtjihcpnaebghnaaDoorIi
set_option linter.unusedSimpArgs false
set_option linter.unusedVariables false
namespace Go.Proofs.YtjihcpnaebghnaaDoor
open Go.RowKit
theorem conv_text {w : World} {A : Option Addr} {bs : List Int} {n : Nat} (hn : bs.length = n) (c : Nat) (h : RI .u8 w A bs) :
    (convert 25 9 (.slice A n c)).run Tryd.prog w = .ok (.string (strOfNums bs)) w := by
  subst hn
  rcases Nat.eq_zero_or_pos bs.length with h0 | h0
  · obtain rfl : bs = [] := List.eq_nil_of_length_eq_zero h0
    rcases A with _ | ad
    · exact run_convert_bytes_nil (P := Tryd.prog) w 25 5 Tryd.underlying25 Tryd.underlying5 0 c 9 Tryd.underlying9
    · rw [run_convert_bytes_string w 25 9 5 _ _ c Tryd.underlying25 Tryd.underlying5 Tryd.underlying9]
      exact run_bytesToString w ad 0 c [] (run_loadCells_list (P := Tryd.prog) w ad [] (fun j v hj => by simp at hj))
  · obtain ⟨b, off, rfl, _, hc⟩ := h h0
    exact run_convert_bytes_arg (P := Tryd.prog) w 25 5 Tryd.underlying25 Tryd.underlying5 b off _ c bs rfl hc 9 Tryd.underlying9
theorem bytes8 {w : World} {v : Value} {xs : List Int} {W : World} (h : Own8 w v xs W) : ∃ A c, v = .slice A xs.length c ∧ xs.length ≤ c ∧ c ≤ maxLen ∧ RB W W.heap.size A xs := by
  obtain ⟨A, c, rfl, h1, h2, _⟩ := own_slice h.own
  exact ⟨A, c, rfl, h1, h2, h.ri.1⟩
theorem first_cr {W : World} {b : Nat} (h : W.heap[b]? = some (.cells #[.int .i32 32, .int .u8 0, .int .u32 0, .int .u32 0] 88 (0, 0))) : CR W (some ⟨b, 0, none⟩) [blC] := fun _ => ⟨b, 0, rfl, lt_of_block h, fun i hi j v hv => by
  have hi0 : i = 0 := by simpa using hi
  subst hi0
  unfold World.cell?
  simp only [h]
  simpa [gC, ceAt, blC] using hv⟩
theorem ok_bl : ∀ c ∈ [blC], CeOk c := fun c hc => by
  obtain rfl : c = blC := by simpa using hc
  exact ⟨by decide, by decide, by decide⟩
theorem right_first : rightW 1 1 0 0 [blC] = true := by decide +kernel
theorem bytes_first : viewB 1 1 0 0 true [blC] = [1, 1, 0, 0, 1, 1, 0, 0, 0, 32] := by decide +kernel
theorem lok_bl : LOk [blC] := fun c hc => by
  obtain rfl : c = blC := by simpa using hc
  exact ⟨ok_bl _ (by simp), by decide +kernel⟩
theorem view_first : isView [1, 1, 0, 0, 1, 1, 0, 0, 0, 32] 1 1 0 0 true [blC] := ⟨right_first, lok_bl, bytes_first.symm⟩
theorem same_first : sameW 1 1 0 0 true [blC] 1 1 0 0 true [blC] = true := by unfold sameW; simp
theorem bytes_const : Bytes [1, 1, 0, 0, 1, 1, 0, 0, 0, 32] := bytes_of_mem (by decide)
set_option maxRecDepth 100000 in
set_option maxHeartbeats 4000000 in
theorem p_first (w : World) : Calls Tryd.prog 23 #[] w fun e w' => ∃ b, e = .returned (.agg #[.int .i64 1, .int .i64 1, .slice (some ⟨b, 0, none⟩) 1 1, .int .i64 0, .int .i64 0, .bool true]) ∧ w'.heap[b]? = some (.cells #[.int .i32 32, .int .u8 0, .int .u32 0, .int .u32 0] 88 (0, 0)) ∧ w.heap.size ≤ b ∧ Below w.heap.size w w' := by
  have HB0 := (Below.refl w.heap.size w).alloc (Nat.le_refl _) (.cells #[.int .i64 0, .int .i64 0, .slice none 0 0, .int .i64 0, .int .i64 0, .bool false] 24)
  have HC0 := heap_alloc_new w (.cells #[.int .i64 0, .int .i64 0, .slice none 0 0, .int .i64 0, .int .i64 0, .bool false] 24)
  obtain ⟨rb, hrb⟩ : ∃ r, w.heap.size = r := ⟨_, rfl⟩
  have HRB := Lib.hid hrb
  go_enter Tryd.func23, Tryd.ntmps23
  go_upto_region 1 with fail
  simp only [hrb] at HC0 ⊢
  generalize (w.alloc (.cells #[.int .i64 0, .int .i64 0, .slice none 0 0, .int .i64 0, .int .i64 0, .bool false] 24)) = U at HB0 HC0 ⊢
  have HU := Lib.hid HB0
  have HZ := Lib.hid HC0
  clear HB0 HC0 hrb
  go_wp2_with fail
  refine ((blank_any _).mono (R' := fun e w' => e = .returned (.agg #[.int .i32 32, .int .u8 0, .int .u32 0, .int .u32 0]) ∧ Below U.heap.size U w') (fun e w' h => h)).mono ?_
  rintro e w1 ⟨rfl, b1⟩
  have hba := (Below.refl w1.heap.size w1).alloc (Nat.le_refl _) (.cells #[.int .i32 32, .int .u8 0, .int .u32 0, .int .u32 0] 88)
  have HN := Lib.hid (heap_alloc_new w1 (.cells #[.int .i32 32, .int .u8 0, .int .u32 0, .int .u32 0] 88))
  have h1 := (b1.block _ (lt_of_block HZ.out)).trans HZ.out
  have HZ1 := Lib.hid ((hba.block _ (lt_of_block h1)).trans h1)
  have HB1 := Lib.hid (HU.out.trans ((b1.trans (hba.mono b1.size)).mono HU.out.size))
  have HGE := Lib.hid (show w.heap.size ≤ w1.heap.size from by have := HU.out.size; have := b1.size; omega)
  have HNE := Lib.hid (show rb ≠ w1.heap.size from by have := lt_of_block h1; omega)
  clear b1 hba h1 HU HZ
  go_wp2_with (refine wpList_store_row rfl 24 (.tmp 0) (.tmp 3) rfl rb #[.int .i64 1, .int .i64 1, .slice (some ⟨w1.heap.size, 0, none⟩) 1 1, .int .i64 0, .int .i64 0, .bool true] rfl rfl 24 _ HZ1.out info_view rfl (by simp [Value.oneCell']) ?_)
  refine bodyPost_ret (results_cell_row Tryd.results23 _ _ rb 24 #[.int .i64 1, .int .i64 1, .slice (some ⟨w1.heap.size, 0, none⟩) 1 1, .int .i64 0, .int .i64 0, .bool true] (0, 0) _ rfl (setRow_heap _ _ _ #[.int .i64 1, .int .i64 1, .slice (some ⟨w1.heap.size, 0, none⟩) 1 1, .int .i64 0, .int .i64 0, .bool true] _ _ HZ1.out) Tryd.underlying24 rfl info_view) rfl ⟨w1.heap.size, rfl, ?_, HGE.out, below_setRow HB1.out (by rw [HRB.out]; exact Nat.le_refl _) _⟩
  exact ((grown_setRow _ rb _).block _ (lt_of_block HN.out) (by intro e; injection e with e; exact HNE.out e.symm)).trans HN.out
theorem p_isnone (w : World) : Calls Tryd.prog 94 #[.pointer none] w fun e w' => e = .returned (.bool true) ∧ w = w' := by
  go_enter Tryd.func94, Tryd.ntmps94
  go_wp2
  go_ret
  exact ⟨rfl, rfl⟩
theorem p_gridnone (w : World) : Calls Tryd.prog 89 #[.pointer none] w fun e w' => e = .returned (.pointer none) ∧ w = w' := by
  go_enter Tryd.func89, Tryd.ntmps89
  go_wp2_with fail
  refine (p_isnone _).mono ?_
  rintro e w1 ⟨rfl, rfl⟩
  go_wp2
  go_ret
  exact ⟨rfl, rfl⟩
set_option maxRecDepth 100000 in
theorem p_ofnone (w : World) : Calls Tryd.prog 69 #[.pointer none] w fun e w' => e = .returned (.tuple #[.agg #[.int .i64 0, .int .i64 0, .slice none 0 0, .int .i64 0, .int .i64 0, .bool false], .int .i64 6]) ∧ Below w.heap.size w w' := by
  have HB0 := Lib.hid ((Below.refl w.heap.size w).alloc (Nat.le_refl _) (.cells #[.int .i64 0, .int .i64 0, .slice none 0 0, .int .i64 0, .int .i64 0, .bool false] 24))
  go_enter Tryd.func69, Tryd.ntmps69
  go_wp2_with fail
  refine (p_gridnone _).mono ?_
  rintro e w1 ⟨rfl, rfl⟩
  go_wp2
  exact bodyPost_ret (results_cell_tmp Tryd.results69 _ _ w.heap.size 24 #[.int .i64 0, .int .i64 0, .slice none 0 0, .int .i64 0, .int .i64 0, .bool false] (0, 0) _ (.int .i64 6) rfl rfl (heap_alloc_new w _) Tryd.underlying24 rfl info_view) rfl ⟨rfl, HB0.out⟩
end Go.Proofs.YtjihcpnaebghnaaDoor
