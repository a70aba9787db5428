/-
  Proved here: what a sender that is nil, or that no call made, answers.
-/
import Derived.Test.YtdlhpmbgpjjkoaaDoorFrg
set_option linter.unusedSimpArgs false
set_option linter.unusedVariables false
namespace Go.Proofs.YtdlhpmbgpjjkoaaDoor
open Go.RowKit
theorem next_nil (w : World) : Calls Tryd.prog 33 #[.pointer none] w fun e w' => e = .returned (.tuple #[.int .i64 0, .bool false]) ∧ w = w' := by
  have HN := Lib.hid (none_nil w)
  go_enter Tryd.func33, Tryd.ntmps33
  go_upto_region 1 with fail
  go_step3
  go_wp2_with (go_at_call 38; refine HN.out.mono ?_; rintro e wx ⟨rfl, rfl⟩)
  rw [Exit.noGoto_ret]
  go_ret2
  exact ⟨rfl, rfl⟩
theorem next_zero {w : World} {g : Nat} (h : w.cell? ⟨g, 0, none⟩ = some (.int .u64 0)) : Calls Tryd.prog 33 #[.pointer (some ⟨g, 0, none⟩)] w fun e w' => e = .returned (.tuple #[.int .i64 0, .bool false]) ∧ w = w' := by
  have HN := Lib.hid (none_zero h)
  clear h
  go_enter Tryd.func33, Tryd.ntmps33
  go_upto_region 1 with fail
  go_step3
  go_wp2_with (go_at_call 38; refine HN.out.mono ?_; rintro e wx ⟨rfl, rfl⟩)
  rw [Exit.noGoto_ret]
  go_ret2
  exact ⟨rfl, rfl⟩
theorem pnext_nil (w : World) : Calls Tryd.prog 14 #[.pointer none] w fun e w' => e = .returned (.tuple #[.int .i64 0, .slice none 0 0, .bool false]) ∧ w = w' := by
  have HN := Lib.hid (next_nil w)
  go_enter Tryd.func14, Tryd.ntmps14
  go_wp2_with (go_at_call 33; refine HN.out.mono ?_; rintro e wx ⟨rfl, rfl⟩)
  go_returns
  exact ⟨rfl, rfl⟩
theorem peek_zero {w : World} {g : Nat} (h : w.cell? ⟨g, 0, none⟩ = some (.int .u64 0)) : Calls Tryd.prog 9 #[.pointer (some ⟨g, 0, none⟩)] w fun e w' => e = .returned (.tuple #[.int .i64 0, .bool false]) ∧ w = w' := by
  have HN := Lib.hid (next_zero h)
  clear h
  go_enter Tryd.func9, Tryd.ntmps9
  go_wp2_with (go_at_call 33; refine HN.out.mono ?_; rintro e wx ⟨rfl, rfl⟩)
  go_returns
  exact ⟨rfl, rfl⟩
theorem refusal_nil (n c : Int) (w : World) : Calls Tryd.prog 36 #[.pointer none, .agg #[.int .i64 n, .int .u64 c]] w fun e w' => e = .returned (.int .i64 6) ∧ Below w.heap.size w w' := by
  have HB := Lib.hid ((Below.refl _ w).alloc (Nat.le_refl _) (.cells #[.int .i64 n, .int .u64 c] 38))
  go_enter Tryd.func36, Tryd.ntmps36
  go_wp2_with (go_at_call 38; refine (none_nil _).mono ?_; rintro e wx ⟨rfl, rfl⟩)
  go_ret
  exact ⟨rfl, HB.out⟩
theorem refusal_zero {w : World} {g : Nat} (h : w.cell? ⟨g, 0, none⟩ = some (.int .u64 0)) (hg : g < w.heap.size) (n c : Int) : Calls Tryd.prog 36 #[.pointer (some ⟨g, 0, none⟩), .agg #[.int .i64 n, .int .u64 c]] w fun e w' => e = .returned (.int .i64 6) ∧ Below w.heap.size w w' := by
  have hb := (Below.refl w.heap.size w).alloc (Nat.le_refl _) (.cells #[.int .i64 n, .int .u64 c] 38)
  have HB := Lib.hid hb
  have HN := Lib.hid (none_zero ((hb.cell (p := ⟨g, 0, none⟩) hg).trans h))
  clear h hg hb
  go_enter Tryd.func36, Tryd.ntmps36
  go_wp2_with (go_at_call 38; refine HN.out.mono ?_; rintro e wx ⟨rfl, rfl⟩)
  go_ret
  exact ⟨rfl, HB.out⟩
theorem know_nil (n c : Int) (w : World) : Calls Tryd.prog 15 #[.pointer none, .agg #[.int .i64 n, .int .u64 c]] w fun e w' => e = .returned (.int .i64 6) ∧ Below w.heap.size w w' := by
  have HB := Lib.hid ((Below.refl _ w).alloc (Nat.le_refl _) (.cells #[.int .i64 n, .int .u64 c] 38))
  obtain ⟨c0, c1⟩ := And.intro (MB.new w n c).c0 (MB.new w n c).c1
  go_enter Tryd.func15, Tryd.ntmps15
  go_wp2_with fail
  refine (refusal_nil n c _).mono ?_
  rintro e wx ⟨rfl, hx⟩
  have HX := Lib.hid (HB.out.trans (hx.mono HB.out.size))
  clear hx c0 c1
  go_wp2
  go_ret
  exact ⟨rfl, HX.out⟩
theorem anew_zero {w : World} {g : Nat} (h : w.cell? ⟨g, 0, none⟩ = some (.int .u64 0)) (hg : g < w.heap.size) (n c : Int) : Calls Tryd.prog 17 #[.pointer (some ⟨g, 0, none⟩), .agg #[.int .i64 n, .int .u64 c]] w fun e w' => e = .returned (.int .i64 6) ∧ Below w.heap.size w w' := by
  have hb := (Below.refl w.heap.size w).alloc (Nat.le_refl _) (.cells #[.int .i64 n, .int .u64 c] 38)
  have HB := Lib.hid hb
  have HR := Lib.hid (refusal_zero ((hb.cell (p := ⟨g, 0, none⟩) hg).trans h) (Nat.lt_of_lt_of_le hg hb.size) n c)
  obtain ⟨c0, c1⟩ := And.intro (MB.new w n c).c0 (MB.new w n c).c1
  clear h hg hb
  go_enter Tryd.func17, Tryd.ntmps17
  go_wp2_with fail
  refine HR.out.mono ?_
  rintro e wx ⟨rfl, hx⟩
  have HX := Lib.hid (HB.out.trans (hx.mono HB.out.size))
  clear hx c0 c1
  go_wp2
  go_ret
  exact ⟨rfl, HX.out⟩
theorem cancel_nil (w : World) : Calls Tryd.prog 18 #[.pointer none] w fun e w' => e = .returned (.int .i64 6) ∧ w = w' := by
  go_enter Tryd.func18, Tryd.ntmps18
  go_wp2_with (go_at_call 38; refine (none_nil _).mono ?_; rintro e wx ⟨rfl, rfl⟩)
  go_ret
  exact ⟨rfl, rfl⟩
theorem left_nil (w : World) : Calls Tryd.prog 20 #[.pointer none] w fun e w' => e = .returned (.int .i64 0) ∧ w = w' := by
  go_enter Tryd.func20, Tryd.ntmps20
  go_wp2_with (go_at_call 38; refine (none_nil _).mono ?_; rintro e wx ⟨rfl, rfl⟩)
  go_ret
  exact ⟨rfl, rfl⟩
theorem state_nil (w : World) : Calls Tryd.prog 22 #[.pointer none] w fun e w' => e = .returned (.int .i64 0) ∧ w = w' := by
  go_enter Tryd.func22, Tryd.ntmps22
  go_wp2_with (go_at_call 38; refine (none_nil _).mono ?_; rintro e wx ⟨rfl, rfl⟩)
  go_ret
  exact ⟨rfl, rfl⟩
theorem state_zero {w : World} {g : Nat} (h : w.cell? ⟨g, 0, none⟩ = some (.int .u64 0)) : Calls Tryd.prog 22 #[.pointer (some ⟨g, 0, none⟩)] w fun e w' => e = .returned (.int .i64 0) ∧ w = w' := by
  have HN := Lib.hid (none_zero h)
  clear h
  go_enter Tryd.func22, Tryd.ntmps22
  go_wp2_with (go_at_call 38; refine HN.out.mono ?_; rintro e wx ⟨rfl, rfl⟩)
  go_ret
  exact ⟨rfl, rfl⟩
end Go.Proofs.YtdlhpmbgpjjkoaaDoor
