/-
  Proved here: a grid of the program's in memory; New.
-/
import Derived.Test.YtahmnipcdkcpiaaGb
set_option linter.unusedSimpArgs false
set_option linter.unusedVariables false
namespace Go.Proofs.Ytahmnipcdkcpiaa
open Go.RowKit
/-- A grid in block g, its cells in block b. -/
structure Gr (g b cap R C : Nat) (L : List Ce) (W : World) : Prop where
  blk : W.heap[g]? = some (.cells #[.int .i64 R, .int .i64 C, .slice (some ⟨b, 0, none⟩) (R * C) cap] 57 (0, 0))
  row : RowAt W b cap L
  len : L.length = R * C
  pos : 1 ≤ R ∧ R ≤ 12 ∧ 1 ≤ C ∧ C ≤ 40
section
variable {g b cap R C : Nat} {L : List Ce} {W W' : World}
theorem Gr.ne (h : Gr g b cap R C L W) : g ≠ b := fun e => by
  obtain ⟨cur, h1, _⟩ := h.row
  have h2 := h.blk
  rw [e, h1] at h2
  injection h2 with h2
  injection h2 with _ h2 _
  exact absurd h2 (by decide)
theorem Gr.lt (h : Gr g b cap R C L W) : g < W.heap.size := lt_of_block h.blk
theorem Gr.below (h : Gr g b cap R C L W) (hb : Below W.heap.size W W') : Gr g b cap R C L W' := ⟨(hb.block g h.lt).trans h.blk, h.row.below hb, h.len, h.pos⟩
theorem Gr.grown (h : Gr g b cap R C L W) {row : Option Nat} (hg : W.grownBy W' row) (h1 : some g ≠ row) (h2 : some b ≠ row) : Gr g b cap R C L W' := ⟨(hg.block g h.lt h1).trans h.blk, h.row.grown hg h2, h.len, h.pos⟩
theorem Gr.cells (h : Gr g b cap R C L W) : W.cell? ⟨g, 0, none⟩ = some (.int .i64 R) ∧ W.cell? ⟨g, 1, none⟩ = some (.int .i64 C) ∧ W.cell? ⟨g, 2, none⟩ = some (.slice (some ⟨b, 0, none⟩) (R * C) cap) := by
  refine ⟨?_, ?_, ?_⟩ <;> (unfold World.cell?; simp only [h.blk]; rfl)
/-- The cells are others now. -/
theorem Gr.put (h : Gr g b cap R C L W) {L' : List Ce} (hr : RowAt W' b cap L') (hl : L'.length = L.length) (hg : W.grownBy W' (some b)) : Gr g b cap R C L' W' :=
  ⟨(hg.block g h.lt (fun e => h.ne (by injection e))).trans h.blk, hr, hl.trans h.len, h.pos⟩
theorem Gr.room (h : Gr g b cap R C L W) : R * C ≤ cap ∧ R * C ≤ 480 ∧ cap ≤ maxLen := by
  obtain ⟨cur, _, _, h3, h4, _⟩ := h.row
  rw [h.len] at h3
  exact ⟨h3, Nat.mul_le_mul h.pos.2.1 h.pos.2.2.2, h4⟩
end
def rightB (r c : Int) : Bool := decide (1 ≤ r) && decide (r ≤ 12) && decide (1 ≤ c) && decide (c ≤ 40)
theorem right_any (r c : Int) (w : World) : Calls Try.prog 31 #[.int .i64 r, .int .i64 c] w fun e w' => e = .returned (.bool (rightB r c)) ∧ w = w' := by
  obtain ⟨q, hq⟩ : ∃ q, rightB r c = q := ⟨_, rfl⟩
  rw [hq]
  unfold rightB at hq
  by_cases h1 : 1 ≤ r
  · by_cases h2 : r ≤ 12
    · by_cases h3 : 1 ≤ c
      · by_cases h4 : c ≤ 40
        · have d1 : decide (1 ≤ r) = true := by simpa using h1
          have d2 : decide (r ≤ 12) = true := by simpa using h2
          have d3 : decide (1 ≤ c) = true := by simpa using h3
          have d4 : decide (c ≤ 40) = true := by simpa using h4
          rw [d1, d2, d3, d4] at hq
          subst hq
          clear h1 h2 h3 h4
          go_enter Try.func31, Try.ntmps31
          go_wp2
          go_ret
          exact ⟨rfl, rfl⟩
        · have d1 : decide (1 ≤ r) = true := by simpa using h1
          have d2 : decide (r ≤ 12) = true := by simpa using h2
          have d3 : decide (1 ≤ c) = true := by simpa using h3
          have d4 : decide (c ≤ 40) = false := by simpa using h4
          rw [d1, d2, d3, d4] at hq
          subst hq
          clear h1 h2 h3 h4
          go_enter Try.func31, Try.ntmps31
          go_wp2
          go_ret
          exact ⟨rfl, rfl⟩
      · have d1 : decide (1 ≤ r) = true := by simpa using h1
        have d2 : decide (r ≤ 12) = true := by simpa using h2
        have d3 : decide (1 ≤ c) = false := by simpa using h3
        rw [d1, d2, d3] at hq
        subst hq
        clear h1 h2 h3
        go_enter Try.func31, Try.ntmps31
        go_wp2
        go_ret
        exact ⟨rfl, rfl⟩
    · have d1 : decide (1 ≤ r) = true := by simpa using h1
      have d2 : decide (r ≤ 12) = false := by simpa using h2
      rw [d1, d2] at hq
      subst hq
      clear h1 h2
      go_enter Try.func31, Try.ntmps31
      go_wp2
      go_ret
      exact ⟨rfl, rfl⟩
  · have d1 : decide (1 ≤ r) = false := by simpa using h1
    rw [d1] at hq
    subst hq
    clear h1
    go_enter Try.func31, Try.ntmps31
    go_wp2
    go_ret
    exact ⟨rfl, rfl⟩
theorem info_cell {a b c d : Value} : (Try.prog.info? 39).map (·.size) = some (#[a, b, c, d] : Array Value).size := by
  have h : (Try.prog.info? 39).map (·.size) = some 4 := by kernel_rfl
  exact h
def blC : Ce := ⟨32, 0, 0, 0⟩
set_option maxRecDepth 100000 in
theorem blank_any (w : World) : Calls Try.prog 29 #[] w fun e w' => e = .returned (cV blC) ∧ Below w.heap.size w w' := by
  go_enter Try.func29, Try.ntmps29
  go_wp2
  exact bodyPost_ret (results_cell_row Try.results29 _ _ w.heap.size 39 #[.int .i32 32, .int .u8 0, .int .u32 0, .int .u32 0] (0, 0) _ rfl (heap_alloc_new w _) Try.underlying39 rfl info_cell) rfl ⟨rfl, (Below.refl _ _).alloc (Nat.le_refl _) _⟩
theorem full_any {w : World} {R C n : Nat} (hn : R * C = n) (hp : 1 ≤ R ∧ R ≤ 12 ∧ 1 ≤ C ∧ C ≤ 40) (c : Ce) :
    Calls Try.prog 32 #[.int .i64 R, .int .i64 C, cV c] w fun e w' => ∃ g b, e = .returned (.pointer (some ⟨g, 0, none⟩)) ∧ w.heap.size ≤ g ∧ w.heap.size ≤ b ∧ Gr g b n R C (rep n c) w' ∧ Below w.heap.size w w' := by
  have h1 : 1 ≤ n := by rw [← hn]; exact Nat.mul_pos hp.1 hp.2.2.1
  have h2 : n ≤ 480 := by rw [← hn]; exact Nat.mul_le_mul hp.2.1 hp.2.2.2
  have w1 : IntKind.i64.wrap ((R : Int) * (C : Int)) = (n : Int) := by rw [← Int.natCast_mul, hn]; exact IntWalk.i64_in _ (by omega)
  have HN := Lib.hid (fun (_ : Unit) => hn)
  clear hn
  obtain ⟨p, f, gg, bb⟩ := c
  unfold cV
  go_enter Try.func32, Try.ntmps32
  go_wp2_with fail
  have hb0 : Below w.heap.size w ((w.alloc (.cells #[.int .i32 p, .int .u8 f, .int .u32 gg, .int .u32 bb] 39)).alloc (.cells #[.int .i32 p, .int .u8 f, .int .u32 gg, .int .u32 bb] 39)) := ((Below.refl _ _).alloc (Nat.le_refl _) _).alloc (by simp) _
  have hblk : ((w.alloc (.cells #[.int .i32 p, .int .u8 f, .int .u32 gg, .int .u32 bb] 39)).alloc (.cells #[.int .i32 p, .int .u8 f, .int .u32 gg, .int .u32 bb] 39)).heap[w.heap.size + 1]? = some (.cells #[.int .i32 p, .int .u8 f, .int .u32 gg, .int .u32 bb] 39 (0, 0)) := by
    have := heap_alloc_new (w.alloc (.cells #[.int .i32 p, .int .u8 f, .int .u32 gg, .int .u32 bb] 39)) (.cells #[.int .i32 p, .int .u8 f, .int .u32 gg, .int .u32 bb] 39)
    simpa using this
  have hlt : w.heap.size + 1 < ((w.alloc (.cells #[.int .i32 p, .int .u8 f, .int .u32 gg, .int .u32 bb] 39)).alloc (.cells #[.int .i32 p, .int .u8 f, .int .u32 gg, .int .u32 bb] 39)).heap.size := by simp
  generalize ((w.alloc (.cells #[.int .i32 p, .int .u8 f, .int .u32 gg, .int .u32 bb] 39)).alloc (.cells #[.int .i32 p, .int .u8 f, .int .u32 gg, .int .u32 bb] 39)) = U at hb0 hblk hlt ⊢
  have HRP := Lib.hid (repeat_any (w := U) (b0 := w.heap.size + 1) (c := ⟨p, f, gg, bb⟩) hlt (fun j v hj => by
    unfold World.cell?
    simp only [hblk]
    simpa [gC] using hj) h1 (by omega))
  have HB0 := Lib.hid hb0
  clear hb0 hblk hlt
  refine HRP.out.mono ?_
  rintro e w2 ⟨b, rfl, hbl, hR, hb2⟩
  have HG := Lib.hid (show Gr w2.heap.size b n R C (rep n ⟨p, f, gg, bb⟩) (w2.alloc (.cells #[.int .i64 R, .int .i64 C, .slice (some ⟨b, 0, none⟩) n n] 57)) from
    ⟨by rw [HN.out ()]; exact heap_alloc_new w2 _, hR.below ((Below.refl _ _).alloc (Nat.le_refl _) _), by rw [rep_len, HN.out ()], hp⟩)
  have HB2 := Lib.hid (show Below w.heap.size w w2 from HB0.out.trans (hb2.mono HB0.out.size))
  have HBL := Lib.hid (show w.heap.size ≤ b from Nat.le_trans HB0.out.size hbl)
  clear hR hb2 hbl HRP HB0
  go_wp2
  go_ret
  exact ⟨w2.heap.size, b, rfl, HB2.out.size, HBL.out, HG.out, HB2.out.alloc HB2.out.size _⟩
/-- New. -/
theorem new_any (r c : Int) (w : World) : Calls Try.prog 7 #[.int .i64 r, .int .i64 c] w fun e w' =>
    (rightB r c = false → e = .returned (.tuple #[.pointer none, .int .i64 1])) ∧
    (∀ R C : Nat, r = R → c = C → rightB r c = true → ∃ g b, e = .returned (.tuple #[.pointer (some ⟨g, 0, none⟩), .int .i64 0]) ∧ w.heap.size ≤ g ∧ w.heap.size ≤ b ∧ Gr g b (R * C) R C (rep (R * C) blC) w') ∧ Below w.heap.size w w' := by
  cases hq : rightB r c with
  | false =>
    go_enter Try.func7, Try.ntmps7
    go_wp2_with fail
    refine (right_any r c _).mono ?_
    rintro e wx ⟨rfl, rfl⟩
    rw [hq]
    go_wp2
    go_ret2
    exact ⟨fun _ => rfl, fun R C _ _ h => by simp at h, Below.refl _ _⟩
  | true =>
    have hp : 1 ≤ r ∧ r ≤ 12 ∧ 1 ≤ c ∧ c ≤ 40 := by
      unfold rightB at hq
      simp at hq
      omega
    obtain ⟨R, rfl⟩ : ∃ R : Nat, r = R := ⟨r.toNat, by omega⟩
    obtain ⟨C, rfl⟩ : ∃ C : Nat, c = C := ⟨c.toNat, by omega⟩
    have HF := Lib.hid (fun W => full_any (w := W) (R := R) (C := C) rfl (by omega) blC)
    go_enter Try.func7, Try.ntmps7
    go_wp2_with fail
    refine (right_any _ _ _).mono ?_
    rintro e wx ⟨rfl, rfl⟩
    rw [hq]
    go_wp2_with fail
    refine (blank_any _).mono ?_
    rintro e w1 ⟨rfl, hb1⟩
    have HB1 := Lib.hid hb1
    clear hb1 hq hp
    go_wp2_with fail
    refine (HF.out _).mono ?_
    rintro e w2 ⟨g, b, rfl, hg, hb, hG, hb2⟩
    have HZ := Lib.hid (show w.heap.size ≤ g ∧ w.heap.size ≤ b ∧ Gr g b (R * C) R C (rep (R * C) blC) w2 ∧ Below w.heap.size w w2 from ⟨Nat.le_trans HB1.out.size hg, Nat.le_trans HB1.out.size hb, hG, HB1.out.trans (hb2.mono HB1.out.size)⟩)
    clear hg hb hG hb2 HF HB1
    go_wp2
    go_ret2
    refine ⟨fun h => by simp at h, fun R' C' e1 e2 _ => ?_, HZ.out.2.2.2⟩
    obtain rfl : R = R' := by omega
    obtain rfl : C = C' := by omega
    exact ⟨g, b, rfl, HZ.out.1, HZ.out.2.1, HZ.out.2.2.1⟩
end Go.Proofs.Ytahmnipcdkcpiaa
