/-
  Proved here: of the document's grids: Put.
-/
import Derived.Test.YtahmnipcdkcpiaaHb
set_option linter.unusedSimpArgs false
set_option linter.unusedVariables false
namespace Go.Proofs.Ytahmnipcdkcpiaa
open Go.RowKit
theorem yC_form (c : Ce) : ∃ p f0 f1 f2 f3 f4 f5 f6 f7 gg bb, yC c = [.int .i32 p, .bool f0, .bool f1, .bool f2, .bool f3, .bool f4, .bool f5, .bool f6, .bool f7, .int .u32 gg, .int .u32 bb] := by
  obtain ⟨p, f, gg, bb⟩ := c
  obtain ⟨f0, f1, f2, f3, f4, f5, f6, f7, hf⟩ := eight (ofF_len 8 f)
  exact ⟨p, f0, f1, f2, f3, f4, f5, f6, f7, gg, bb, by unfold yC; dsimp only; rw [hf]; rfl⟩
/-- What a call of a document's grid has laid: the grid, a cell, its answer's place. -/
structure Bx (w : World) (R C : Nat) (S : Value) (c : Ce) (U : World) : Prop where
  g : U.heap[w.heap.size]? = some (.cells #[.int .i64 R, .int .i64 C, S] 29 (0, 0))
  c : U.heap[w.heap.size + 1]? = some (.cells (yC c).toArray 49 (0, 0))
  z : U.heap[w.heap.size + 2]? = some (.cells #[.int .i64 0, .int .i64 0, .slice none 0 0] 29 (0, 0))
  b : Below w.heap.size w U
section
variable {w U W : World} {R C : Nat} {S : Value} {c : Ce}
theorem Bx.next (H : Bx w R C S c U) (hb : Below U.heap.size U W) : Bx w R C S c W :=
  ⟨(hb.block _ (lt_of_block H.g)).trans H.g, (hb.block _ (lt_of_block H.c)).trans H.c, (hb.block _ (lt_of_block H.z)).trans H.z, H.b.trans (hb.mono H.b.size)⟩
theorem Bx.grown (H : Bx w R C S c U) {k : Nat} (hg : U.grownBy W (some k)) (hk : w.heap.size + 3 ≤ k) : Bx w R C S c W :=
  ⟨(hg.block _ (lt_of_block H.g) (fun e => by injection e; omega)).trans H.g, (hg.block _ (lt_of_block H.c) (fun e => by injection e; omega)).trans H.c, (hg.block _ (lt_of_block H.z) (fun e => by injection e; omega)).trans H.z, H.b.grown hg H.b.size (fun j e => by injection e; omega)⟩
theorem Bx.three (H : Bx w R C S c U) : U.cell? ⟨w.heap.size, 0, none⟩ = some (.int .i64 R) ∧ U.cell? ⟨w.heap.size, 1, none⟩ = some (.int .i64 C) ∧ U.cell? ⟨w.heap.size, 2, none⟩ = some S := by
  refine ⟨?_, ?_, ?_⟩ <;> (unfold World.cell?; simp only [H.g]; rfl)
theorem Bx.end_ (H : Bx w R C S c U) (A : Array Value) : (U.setRow (w.heap.size + 2) A).heap[w.heap.size + 2]? = some (.cells A 29 (0, 0)) ∧ Below w.heap.size w (U.setRow (w.heap.size + 2) A) :=
  ⟨setRow_heap _ _ _ _ _ _ H.z, below_setRow H.b (by omega) _⟩
theorem Bx.new (w : World) (R C : Nat) (S : Value) (c : Ce) (A : Array Value) (hA : A = (yC c).toArray) : Bx w R C S c (((w.alloc (.cells #[.int .i64 R, .int .i64 C, S] 29)).alloc (.cells A 49)).alloc (.cells #[.int .i64 0, .int .i64 0, .slice none 0 0] 29)) := by
  subst hA
  have b1 := (Below.refl (w.alloc (.cells #[.int .i64 R, .int .i64 C, S] 29)).heap.size (w.alloc (.cells #[.int .i64 R, .int .i64 C, S] 29))).alloc (Nat.le_refl _) (.cells (yC c).toArray 49)
  have b2 := (Below.refl ((w.alloc (.cells #[.int .i64 R, .int .i64 C, S] 29)).alloc (.cells (yC c).toArray 49)).heap.size ((w.alloc (.cells #[.int .i64 R, .int .i64 C, S] 29)).alloc (.cells (yC c).toArray 49))).alloc (Nat.le_refl _) (.cells #[.int .i64 0, .int .i64 0, .slice none 0 0] 29)
  refine ⟨?_, ?_, ?_, ?_⟩
  · exact (b2.block w.heap.size (by simp; omega)).trans ((b1.block w.heap.size (by simp)).trans (heap_alloc_new w _))
  · refine (b2.block (w.heap.size + 1) (by simp)).trans ?_
    have := heap_alloc_new (w.alloc (.cells #[.int .i64 R, .int .i64 C, S] 29)) (.cells (yC c).toArray 49)
    simpa using this
  · have := heap_alloc_new ((w.alloc (.cells #[.int .i64 R, .int .i64 C, S] 29)).alloc (.cells (yC c).toArray 49)) (.cells #[.int .i64 0, .int .i64 0, .slice none 0 0] 29)
    simpa using this
  · exact (((Below.refl _ _).alloc (Nat.le_refl _) _).alloc (by simp) _).alloc (by simp; omega) _
theorem cells11 {k : Nat} {t : TypeId} {c0 c1 c2 c3 c4 c5 c6 c7 c8 c9 c10 : Value} (h : U.heap[k]? = some (.cells #[c0, c1, c2, c3, c4, c5, c6, c7, c8, c9, c10] t (0, 0))) :
    U.cell? ⟨k, 0, none⟩ = some c0 ∧ U.cell? ⟨k, 1, none⟩ = some c1 ∧ U.cell? ⟨k, 2, none⟩ = some c2 ∧ U.cell? ⟨k, 3, none⟩ = some c3 ∧ U.cell? ⟨k, 4, none⟩ = some c4 ∧ U.cell? ⟨k, 5, none⟩ = some c5 ∧ U.cell? ⟨k, 6, none⟩ = some c6 ∧ U.cell? ⟨k, 7, none⟩ = some c7 ∧ U.cell? ⟨k, 8, none⟩ = some c8 ∧ U.cell? ⟨k, 9, none⟩ = some c9 ∧ U.cell? ⟨k, 10, none⟩ = some c10 := by
  refine ⟨?_, ?_, ?_, ?_, ?_, ?_, ?_, ?_, ?_, ?_, ?_⟩ <;> (unfold World.cell?; simp only [h]; rfl)
theorem YR.eleven {k : Nat} {b : Nat} {L : List Ce} (h : YR U b L) (hk : k < L.length) {c0 c1 c2 c3 c4 c5 c6 c7 c8 c9 c10 : Value} (e : yC (ceAt L k) = [c0, c1, c2, c3, c4, c5, c6, c7, c8, c9, c10]) :
    U.cell? ⟨b, k * 11, none⟩ = some c0 ∧ U.cell? ⟨b, k * 11 + 1, none⟩ = some c1 ∧ U.cell? ⟨b, k * 11 + 2, none⟩ = some c2 ∧ U.cell? ⟨b, k * 11 + 3, none⟩ = some c3 ∧ U.cell? ⟨b, k * 11 + 4, none⟩ = some c4 ∧ U.cell? ⟨b, k * 11 + 5, none⟩ = some c5 ∧ U.cell? ⟨b, k * 11 + 6, none⟩ = some c6 ∧ U.cell? ⟨b, k * 11 + 7, none⟩ = some c7 ∧ U.cell? ⟨b, k * 11 + 8, none⟩ = some c8 ∧ U.cell? ⟨b, k * 11 + 9, none⟩ = some c9 ∧ U.cell? ⟨b, k * 11 + 10, none⟩ = some c10 := by
  have at_ : ∀ q v, q < 11 → [c0, c1, c2, c3, c4, c5, c6, c7, c8, c9, c10][q]? = some v → U.cell? ⟨b, k * 11 + q, none⟩ = some v := fun q v hq hv => h.2 _ v (by rw [flatY_get L k q hk hq, ceAt_get hk, e]; exact hv)
  exact ⟨at_ 0 _ (by omega) rfl, at_ 1 _ (by omega) rfl, at_ 2 _ (by omega) rfl, at_ 3 _ (by omega) rfl, at_ 4 _ (by omega) rfl, at_ 5 _ (by omega) rfl, at_ 6 _ (by omega) rfl, at_ 7 _ (by omega) rfl, at_ 8 _ (by omega) rfl, at_ 9 _ (by omega) rfl, at_ 10 _ (by omega) rfl⟩
end
/-- A grid of the document's, as a value. -/
abbrev XV (R C b n cap : Nat) : Value := .agg #[.int .i64 R, .int .i64 C, .slice (some ⟨b, 0, none⟩) n cap]
set_option maxRecDepth 100000 in
set_option maxHeartbeats 4000000 in
theorem rput_no {R C b n cap : Nat} {w : World} {row col : Int} (hq : hasC R C row col = false) (c : Ce) : Calls Try.prog 33 #[XV R C b n cap, .int .i64 row, .int .i64 col, yV c] w fun e w' => e = .returned (.tuple #[XV R C b n cap, .int .i64 1]) ∧ Below w.heap.size w w' := by
  obtain ⟨p, f0, f1, f2, f3, f4, f5, f6, f7, gg, bb, hc⟩ := yC_form c
  have HU0 := Bx.new w R C (.slice (some ⟨b, 0, none⟩) n cap) c _ (congrArg List.toArray hc).symm
  rw [show yV c = .agg #[.int .i32 p, .bool f0, .bool f1, .bool f2, .bool f3, .bool f4, .bool f5, .bool f6, .bool f7, .int .u32 gg, .int .u32 bb] from by unfold yV; rw [hc]]
  have HC := Lib.hid (fun (_ : Unit) => hc)
  clear hc
  go_enter Try.func33, Try.ntmps33
  go_upto_region 1 with fail
  generalize (((w.alloc (.cells #[.int .i64 R, .int .i64 C, .slice (some ⟨b, 0, none⟩) n cap] 29)).alloc (.cells #[.int .i32 p, .bool f0, .bool f1, .bool f2, .bool f3, .bool f4, .bool f5, .bool f6, .bool f7, .int .u32 gg, .int .u32 bb] 49)).alloc (.cells #[.int .i64 0, .int .i64 0, .slice none 0 0] 29)) = U at HU0 ⊢
  obtain ⟨x0, x1, x2⟩ := HU0.three
  have HU := Lib.hid HU0
  clear HU0
  go_wp2_with fail
  refine (rhas_any _ _ _ _ _ _ _ _).mono ?_
  rintro e w1 ⟨rfl, hb1⟩
  obtain ⟨z0, z1, z2⟩ := (HU.out.next hb1).three
  have HE := Lib.hid ((HU.out.next hb1).end_ #[.int .i64 R, .int .i64 C, .slice (some ⟨b, 0, none⟩) n cap])
  have HZ := Lib.hid (HU.out.next hb1).z
  clear x0 x1 x2 hb1 HU
  rw [hq]
  go_wp2_with (refine wpList_store_row rfl 29 (.tmp 8) (.tmp 16) rfl (w.heap.size + 2) #[.int .i64 R, .int .i64 C, .slice (some ⟨b, 0, none⟩) n cap] rfl rfl 29 _ HZ.out gy_info rfl (gy_one R C rfl) ?_)
  exact bodyPost_ret (results_cell_tmp Try.results33 _ _ (w.heap.size + 2) 29 _ (0, 0) _ (.int .i64 1) rfl rfl HE.out.1 Try.underlying29 rfl gy_info) rfl ⟨rfl, HE.out.2⟩
/-- What a call of a document's grid answers: another grid. -/
def XPost (w : World) (R C n : Nat) (L : List Ce) (f : Value → Value) (e : Ending) (w' : World) : Prop :=
  ∃ b' cap', e = .returned (f (XV R C b' n cap')) ∧ w.heap.size ≤ b' ∧ RowY w' b' cap' L ∧ Below w.heap.size w w'
set_option maxRecDepth 100000 in
set_option maxHeartbeats 4000000 in
theorem rput_yes {R C b n cap : Nat} {L : List Ce} {w : World} (h : YR w b L) (hn : L.length = n) (hm : n ≤ 1000) (hC : C ≤ 1000) {i j o k : Nat} (hq : hasC R C i j = true) (ho : i * C = o) (hk : o + j = k) (hkn : k < n) (c : Ce) : Calls Try.prog 33 #[XV R C b n cap, .int .i64 i, .int .i64 j, yV c] w (XPost w R C n (L.set k c) (fun x => .tuple #[x, .int .i64 0])) := by
  obtain ⟨p, f0, f1, f2, f3, f4, f5, f6, f7, gg, bb, hc⟩ := yC_form c
  have HU0 := Bx.new w R C (.slice (some ⟨b, 0, none⟩) n cap) c _ (congrArg List.toArray hc).symm
  have hyv : yV c = .agg #[.int .i32 p, .bool f0, .bool f1, .bool f2, .bool f3, .bool f4, .bool f5, .bool f6, .bool f7, .int .u32 gg, .int .u32 bb] := by unfold yV; rw [hc]
  rw [hyv]
  have HC := Lib.hid (fun (_ : Unit) => hc)
  have HYV := Lib.hid (fun (_ : Unit) => hyv)
  have w1 : IntKind.i64.wrap ((i : Int) * (C : Int)) = (o : Int) := by rw [← Int.natCast_mul, ho]; exact IntWalk.i64_in _ (by omega)
  have w2 : IntKind.i64.wrap ((o : Int) + (j : Int)) = (k : Int) := by rw [← Int.natCast_add, hk]; exact IntWalk.i64_in _ (by omega)
  have g1 : (0 : Int) ≤ (k : Int) := by omega
  have g2 : (k : Int) < (n : Int) := by omega
  have hk0 : k < L.length := by omega
  have HN := Lib.hid (And.intro hn hk0)
  clear hc hyv ho hk hkn hk0 hn
  go_enter Try.func33, Try.ntmps33
  go_upto_region 1 with fail
  generalize (((w.alloc (.cells #[.int .i64 R, .int .i64 C, .slice (some ⟨b, 0, none⟩) n cap] 29)).alloc (.cells #[.int .i32 p, .bool f0, .bool f1, .bool f2, .bool f3, .bool f4, .bool f5, .bool f6, .bool f7, .int .u32 gg, .int .u32 bb] 49)).alloc (.cells #[.int .i64 0, .int .i64 0, .slice none 0 0] 29)) = U at HU0 ⊢
  obtain ⟨x0, x1, x2⟩ := HU0.three
  have HU := Lib.hid HU0
  clear HU0
  go_wp2_with fail
  refine (rhas_any _ _ _ _ _ _ _ _).mono ?_
  rintro e w3 ⟨rfl, hb1⟩
  have H3 := HU.out.next hb1
  obtain ⟨z0, z1, z2⟩ := H3.three
  have hY := (h.below HU.out.b).below hb1
  obtain ⟨b2, cap2, w4, hr, hR, hB2, hb4⟩ := app_rowY (cap := cap) hY HN.out.1 (by omega) (by omega)
  have H4 := H3.next hb4
  obtain ⟨y0, y1, y2⟩ := H4.three
  have hc4 := H4.c
  rw [HC.out ()] at hc4
  obtain ⟨v0, v1, v2, v3, v4, v5, v6, v7, v8, v9, v10⟩ := cells11 hc4
  have HR := Lib.hid hR
  have HB2 := Lib.hid (show w.heap.size + 3 ≤ b2 from by have := lt_of_block H3.z; omega)
  have H4' := Lib.hid H4
  clear x0 x1 x2 hb1 HU h H3 hY hR hB2 hb4 H4 hc4
  rw [hq]
  go_wp2_with (first | (at_builtin; refine wpList_appY rfl (.tmp 17) (.tmp 19) _ rfl _ _ rfl rfl hr ?_) | (refine wpList_storeY rfl (.tmp 29) (.tmp 28) rfl HR.out (k := k) HN.out.2 rfl (HYV.out ()).symm (fun V hV hgV => ?_); have HV := Lib.hid hV; have HG := Lib.hid (H4'.out.grown hgV HB2.out); obtain ⟨u0, u1, u2⟩ := HG.out.three; clear hV hgV y0 y1 y2 v0 v1 v2 v3 v4 v5 v6 v7 v8 v9 v10 hr H4'))
  refine (rwith_any _ _ _ _ _ _ _ _ _).mono ?_
  rintro e w5 ⟨rfl, hb5⟩
  have HZ := Lib.hid (HG.out.next hb5).z
  have HE := Lib.hid ((HG.out.next hb5).end_ #[.int .i64 R, .int .i64 C, .slice (some ⟨b2, 0, none⟩) n cap2])
  have HQ := Lib.hid ((show XPost w R C n (L.set k c) (fun x => .tuple #[x, .int .i64 0]) (.returned (.tuple #[XV R C b2 n cap2, .int .i64 0])) (w5.setRow (w.heap.size + 2) #[.int .i64 R, .int .i64 C, .slice (some ⟨b2, 0, none⟩) n cap2]) from
    ⟨b2, cap2, rfl, by have := HB2.out; omega, (HV.out.below hb5).grown (grown_setRow _ _ _) (fun e => by injection e; have := HB2.out; omega), HE.out.2⟩))
  clear hb5 u0 u1 u2 HG
  go_wp2_with (refine wpList_store_row rfl 29 (.tmp 8) (.tmp 32) rfl (w.heap.size + 2) #[.int .i64 R, .int .i64 C, .slice (some ⟨b2, 0, none⟩) n cap2] rfl rfl 29 _ HZ.out gy_info rfl (gy_one R C rfl) ?_)
  exact bodyPost_ret (results_cell_tmp Try.results33 _ _ (w.heap.size + 2) 29 _ (0, 0) _ (.int .i64 0) rfl rfl HE.out.1 Try.underlying29 rfl gy_info) rfl HQ.out
end Go.Proofs.Ytahmnipcdkcpiaa
