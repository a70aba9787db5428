/-
  Proved here: of the document's grids: At.
-/
import Derived.Test.YtahmnipcdkcpiaaGx
set_option linter.unusedSimpArgs false
set_option linter.unusedVariables false
namespace Go.Proofs.Ytahmnipcdkcpiaa
open Go.RowKit
theorem flatY_get : ∀ (L : List Ce) (i j : Nat) (hi : i < L.length), j < 11 → (flatY L)[i * 11 + j]? = (yC (L[i]))[j]?
  | c :: L, 0, j, _, hj => by
    rw [show flatY (c :: L) = yC c ++ flatY L from rfl, Nat.zero_mul, Nat.zero_add, List.getElem?_append_left (by rw [yC_len]; exact hj)]; rfl
  | c :: L, i + 1, j, hi, hj => by
    rw [show flatY (c :: L) = yC c ++ flatY L from rfl, List.getElem?_append_right (by rw [yC_len, Nat.succ_mul]; omega), yC_len, show (i + 1) * 11 + j - 11 = i * 11 + j by omega]
    exact flatY_get L i j (by simpa using hi) hj
/-- A row of the document's cells, read. -/
def YR (W : World) (b : Nat) (L : List Ce) : Prop := b < W.heap.size ∧ ∀ j v, (flatY L)[j]? = some v → W.cell? ⟨b, j, none⟩ = some v
theorem YR.below {W W' : World} {b : Nat} {L : List Ce} (h : YR W b L) (hb : Below W.heap.size W W') : YR W' b L := ⟨Nat.lt_of_lt_of_le h.1 hb.size, fun j v hv => (hb.cell (p := ⟨b, j, none⟩) h.1).trans (h.2 j v hv)⟩
set_option maxRecDepth 100000 in
set_option maxHeartbeats 4000000 in
theorem rat_any {R C b n cap : Nat} {L : List Ce} {w : World} (h : YR w b L) (hn : L.length = n) (hm : n ≤ 1000) {i j o k : Nat} (ho : i * C = o) (hk : o + j = k) (hkn : k < n) (hC : C ≤ 1000) {c : Ce} (hc : ceAt L k = c) : Calls Try.prog 14 #[.agg #[.int .i64 R, .int .i64 C, .slice (some ⟨b, 0, none⟩) n cap], .int .i64 i, .int .i64 j] w fun e w' => e = .returned (yV c) ∧ Below w.heap.size w w' := by
  have hbu : Below w.heap.size w ((w.alloc (.cells #[.int .i64 R, .int .i64 C, .slice (some ⟨b, 0, none⟩) n cap] 29)).alloc (.cells #[.int .i32 0, .bool false, .bool false, .bool false, .bool false, .bool false, .bool false, .bool false, .bool false, .int .u32 0, .int .u32 0] 49)) := ((Below.refl _ _).alloc (Nat.le_refl _) _).alloc (by simp) _
  have hrow : ((w.alloc (.cells #[.int .i64 R, .int .i64 C, .slice (some ⟨b, 0, none⟩) n cap] 29)).alloc (.cells #[.int .i32 0, .bool false, .bool false, .bool false, .bool false, .bool false, .bool false, .bool false, .bool false, .int .u32 0, .int .u32 0] 49)).heap[w.heap.size + 1]? = some (.cells #[.int .i32 0, .bool false, .bool false, .bool false, .bool false, .bool false, .bool false, .bool false, .bool false, .int .u32 0, .int .u32 0] 49 (0, 0)) := by
    have := heap_alloc_new (w.alloc (.cells #[.int .i64 R, .int .i64 C, .slice (some ⟨b, 0, none⟩) n cap] 29)) (.cells #[.int .i32 0, .bool false, .bool false, .bool false, .bool false, .bool false, .bool false, .bool false, .bool false, .int .u32 0, .int .u32 0] 49)
    simpa using this
  have hbox : ((w.alloc (.cells #[.int .i64 R, .int .i64 C, .slice (some ⟨b, 0, none⟩) n cap] 29)).alloc (.cells #[.int .i32 0, .bool false, .bool false, .bool false, .bool false, .bool false, .bool false, .bool false, .bool false, .int .u32 0, .int .u32 0] 49)).heap[w.heap.size]? = some (.cells #[.int .i64 R, .int .i64 C, .slice (some ⟨b, 0, none⟩) n cap] 29 (0, 0)) :=
    (((Below.refl (w.alloc (.cells #[.int .i64 R, .int .i64 C, .slice (some ⟨b, 0, none⟩) n cap] 29)).heap.size (w.alloc (.cells #[.int .i64 R, .int .i64 C, .slice (some ⟨b, 0, none⟩) n cap] 29))).alloc (Nat.le_refl _) (.cells #[.int .i32 0, .bool false, .bool false, .bool false, .bool false, .bool false, .bool false, .bool false, .bool false, .int .u32 0, .int .u32 0] 49)).block w.heap.size (by simp)).trans (heap_alloc_new w _)
  have hY := h.below hbu
  have hkl : k < L.length := by rw [hn]; exact hkn
  have hce : L[k] = c := by rw [← hc]; unfold ceAt; simp [List.getD, hkl]
  obtain ⟨p, f, gg, bb⟩ := c
  obtain ⟨f0, f1, f2, f3, f4, f5, f6, f7, hf⟩ := eight (ofF_len 8 f)
  have hyc : yC ⟨p, f, gg, bb⟩ = [.int .i32 p, .bool f0, .bool f1, .bool f2, .bool f3, .bool f4, .bool f5, .bool f6, .bool f7, .int .u32 gg, .int .u32 bb] := by unfold yC; dsimp only; rw [hf]; rfl
  have at_ : ∀ q v, q < 11 → [.int .i32 p, .bool f0, .bool f1, .bool f2, .bool f3, .bool f4, .bool f5, .bool f6, .bool f7, .int .u32 gg, .int .u32 bb][q]? = some v → ((w.alloc (.cells #[.int .i64 R, .int .i64 C, .slice (some ⟨b, 0, none⟩) n cap] 29)).alloc (.cells #[.int .i32 0, .bool false, .bool false, .bool false, .bool false, .bool false, .bool false, .bool false, .bool false, .int .u32 0, .int .u32 0] 49)).cell? ⟨b, k * 11 + q, none⟩ = some v := fun q v hq hv => hY.2 _ v (by rw [flatY_get L k q hkl hq, hce, hyc]; exact hv)
  have y0 := at_ 0 _ (by omega) rfl
  have y1 := at_ 1 _ (by omega) rfl
  have y2 := at_ 2 _ (by omega) rfl
  have y3 := at_ 3 _ (by omega) rfl
  have y4 := at_ 4 _ (by omega) rfl
  have y5 := at_ 5 _ (by omega) rfl
  have y6 := at_ 6 _ (by omega) rfl
  have y7 := at_ 7 _ (by omega) rfl
  have y8 := at_ 8 _ (by omega) rfl
  have y9 := at_ 9 _ (by omega) rfl
  have y10 := at_ 10 _ (by omega) rfl
  rw [Nat.add_zero] at y0
  have w1 : IntKind.i64.wrap ((i : Int) * (C : Int)) = (o : Int) := by rw [← Int.natCast_mul, ho]; exact IntWalk.i64_in _ (by omega)
  have w2 : IntKind.i64.wrap ((o : Int) + (j : Int)) = (k : Int) := by rw [← Int.natCast_add, hk]; exact IntWalk.i64_in _ (by omega)
  have g1 : (0 : Int) ≤ (k : Int) := by omega
  have g2 : (k : Int) < (n : Int) := by omega
  have HROW := Lib.hid hrow
  obtain ⟨x0, x1, x2⟩ : ((w.alloc (.cells #[.int .i64 R, .int .i64 C, .slice (some ⟨b, 0, none⟩) n cap] 29)).alloc (.cells #[.int .i32 0, .bool false, .bool false, .bool false, .bool false, .bool false, .bool false, .bool false, .bool false, .int .u32 0, .int .u32 0] 49)).cell? ⟨w.heap.size, 0, none⟩ = some (.int .i64 R) ∧ ((w.alloc (.cells #[.int .i64 R, .int .i64 C, .slice (some ⟨b, 0, none⟩) n cap] 29)).alloc (.cells #[.int .i32 0, .bool false, .bool false, .bool false, .bool false, .bool false, .bool false, .bool false, .bool false, .int .u32 0, .int .u32 0] 49)).cell? ⟨w.heap.size, 1, none⟩ = some (.int .i64 C) ∧ ((w.alloc (.cells #[.int .i64 R, .int .i64 C, .slice (some ⟨b, 0, none⟩) n cap] 29)).alloc (.cells #[.int .i32 0, .bool false, .bool false, .bool false, .bool false, .bool false, .bool false, .bool false, .bool false, .int .u32 0, .int .u32 0] 49)).cell? ⟨w.heap.size, 2, none⟩ = some (.slice (some ⟨b, 0, none⟩) n cap) := by
    refine ⟨?_, ?_, ?_⟩ <;> (unfold World.cell?; simp only [hbox]; rfl)
  have HB := Lib.hid (below_setRow hbu (Nat.le_succ w.heap.size) #[.int .i32 p, .bool f0, .bool f1, .bool f2, .bool f3, .bool f4, .bool f5, .bool f6, .bool f7, .int .u32 gg, .int .u32 bb])
  have HFE := Lib.hid (fun (_ : Unit) => hyc)
  clear h hn ho hk hkn hc hbu hrow hbox hY hkl hce hf hyc at_
  go_enter Try.func14, Try.ntmps14
  go_upto_region 1 with fail
  generalize ((w.alloc (.cells #[.int .i64 R, .int .i64 C, .slice (some ⟨b, 0, none⟩) n cap] 29)).alloc (.cells #[.int .i32 0, .bool false, .bool false, .bool false, .bool false, .bool false, .bool false, .bool false, .bool false, .int .u32 0, .int .u32 0] 49)) = U at *
  go_wp2_with (refine wpList_store_row rfl 49 (.tmp 6) (.tmp 16) rfl (w.heap.size + 1) #[.int .i32 p, .bool f0, .bool f1, .bool f2, .bool f3, .bool f4, .bool f5, .bool f6, .bool f7, .int .u32 gg, .int .u32 bb] rfl rfl 49 _ HROW.out info_yc rfl (by simp [Value.oneCell']) ?_)
  exact bodyPost_ret (v := yV ⟨p, f, gg, bb⟩) (results_cell_row (p := 6) (ty := 49) Try.results14 _ _ (w.heap.size + 1) 49 (yC ⟨p, f, gg, bb⟩).toArray (0, 0) _ rfl (by rw [HFE.out ()]; exact setRow_heap _ _ _ _ _ _ HROW.out) Try.underlying49 rfl (by rw [HFE.out ()]; exact info_yc)) rfl ⟨rfl, HB.out⟩
end Go.Proofs.Ytahmnipcdkcpiaa
