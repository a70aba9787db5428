/-
  Proved here, for every number that a uint64 can hold and every world whose table of sizes is as the program lays it: sizeMark and Size answer as 'markOf' and 'sizeOf' say, and leave the world as it was.
-/
import Derived.Test.YtjihcpnaebghnaaDoorVM
import Derived.WalkKit
import Derived.Handy
namespace Go.Proofs.YtjihcpnaebghnaaDoor
open Go.RowKit

/-- The table of sizes, as it lies in memory. -/
structure Tab (w : World) : Prop where
  c0 : w.cell? ⟨0, 0, none⟩ = some (.int .i64 1)
  c1 : w.cell? ⟨0, 1, none⟩ = some (.int .i64 2)
  c2 : w.cell? ⟨0, 2, none⟩ = some (.int .i64 4)
  c3 : w.cell? ⟨0, 3, none⟩ = some (.int .i64 8)
  big : 0 < w.heap.size

theorem Tab.below {B : Nat} {w w' : World} (h : Tab w) (hb : Below B w w') (hB : 0 < B) : Tab w' :=
  ⟨(hb.cell hB).trans h.c0, (hb.cell hB).trans h.c1, (hb.cell hB).trans h.c2, (hb.cell hB).trans h.c3, Nat.lt_of_lt_of_le h.big hb.size⟩

theorem ix0 : ∀ w, (Instr.index 147 (.agg #[.int .i64 1, .int .i64 2, .int .i64 4, .int .i64 8]) (.int .i64 0)).run Tryd.prog w = .ok (.int .i64 1) w := fun _ => by kernel_rfl
theorem ix1 : ∀ w, (Instr.index 147 (.agg #[.int .i64 1, .int .i64 2, .int .i64 4, .int .i64 8]) (.int .i64 1)).run Tryd.prog w = .ok (.int .i64 2) w := fun _ => by kernel_rfl
theorem ix2 : ∀ w, (Instr.index 147 (.agg #[.int .i64 1, .int .i64 2, .int .i64 4, .int .i64 8]) (.int .i64 2)).run Tryd.prog w = .ok (.int .i64 4) w := fun _ => by kernel_rfl
theorem ix3 : ∀ w, (Instr.index 147 (.agg #[.int .i64 1, .int .i64 2, .int .i64 4, .int .i64 8]) (.int .i64 3)).run Tryd.prog w = .ok (.int .i64 8) w := fun _ => by kernel_rfl

/-- sizeMark, one of its five ways. -/
def MarkWay (v m : Int) (ok : Bool) : Prop :=
  (v < 64 ∧ m = 0 ∧ ok = true) ∨ (64 ≤ v ∧ v < 16384 ∧ m = 1 ∧ ok = true) ∨ (16384 ≤ v ∧ v < 1073741824 ∧ m = 2 ∧ ok = true) ∨ (1073741824 ≤ v ∧ v < 4611686018427387904 ∧ m = 3 ∧ ok = true) ∨ (4611686018427387904 ≤ v ∧ m = 0 ∧ ok = false)

def MarkPost (v : Int) (w : World) (e : Ending) (w' : World) : Prop := ∃ (m : Int) (ok : Bool), e = .returned (.tuple #[.int .i64 m, .bool ok]) ∧ w = w' ∧ MarkWay v m ok

theorem mw0 {v : Int} (h : (v / 64 == 0) = true) : MarkWay v 0 true := by
  have := eq_of_beq h
  exact .inl ⟨by omega, rfl, rfl⟩
theorem mw1 {v : Int} (h0 : 0 ≤ v) (a : (v / 64 == 0) = false) (h : (v / 16384 == 0) = true) : MarkWay v 1 true := by
  have := eq_of_beq h
  have := ne_of_beq_false a
  exact .inr (.inl ⟨by omega, by omega, rfl, rfl⟩)
theorem mw2 {v : Int} (h0 : 0 ≤ v) (a : (v / 16384 == 0) = false) (h : (v / 1073741824 == 0) = true) : MarkWay v 2 true := by
  have := eq_of_beq h
  have := ne_of_beq_false a
  exact .inr (.inr (.inl ⟨by omega, by omega, rfl, rfl⟩))
theorem mw3 {v : Int} (h0 : 0 ≤ v) (a : (v / 1073741824 == 0) = false) (h : (v / 4611686018427387904 == 0) = true) : MarkWay v 3 true := by
  have := eq_of_beq h
  have := ne_of_beq_false a
  exact .inr (.inr (.inr (.inl ⟨by omega, by omega, rfl, rfl⟩)))
theorem mw4 {v : Int} (_h0 : 0 ≤ v) (a : (v / 4611686018427387904 == 0) = false) : MarkWay v 0 false := by
  have := ne_of_beq_false a
  exact .inr (.inr (.inr (.inr ⟨by omega, rfl, rfl⟩)))

set_option maxHeartbeats 400000 in
theorem sizeMark_any (v : Int) (w : World) (h0 : 0 ≤ v) (_h1 : v < 18446744073709551616) (hT : Tab w) :
    Calls Tryd.prog 98 #[.int .u64 v] w (MarkPost v w) := by
  obtain ⟨c0, c1, c2, c3, _⟩ := hT
  have i0 := ix0
  have i1 := ix1
  have i2 := ix2
  have i3 := ix3
  go_enter Tryd.func98, Tryd.ntmps98
  go_wp2
  go_rounds 5
  all_goals go_ret2
  · exact ⟨0, true, rfl, rfl, mw0 ‹_›⟩
  · exact ⟨1, true, rfl, rfl, mw1 h0 ‹_› ‹_›⟩
  · exact ⟨2, true, rfl, rfl, mw2 h0 ‹_› ‹_›⟩
  · exact ⟨3, true, rfl, rfl, mw3 h0 ‹_› ‹_›⟩
  · exact ⟨0, false, rfl, rfl, mw4 h0 ‹_›⟩

set_option maxHeartbeats 400000 in
theorem size_any (v : Int) (w : World) (h0 : 0 ≤ v) (h1 : v < 18446744073709551616) (hT : Tab w) :
    Calls Tryd.prog 84 #[.int .u64 v] w fun e w' => e = .returned (.int .i64 (szOf v)) ∧ w = w' := by
  obtain ⟨c0, c1, c2, c3, hbig⟩ := id hT
  go_enter Tryd.func84, Tryd.ntmps84
  go_wp2_with fail
  refine (sizeMark_any v _ h0 h1 hT).mono ?_
  rintro e w' ⟨m, ok, rfl, rfl, hm⟩
  rcases hm with ⟨ha, rfl, rfl⟩ | ⟨ha, hb, rfl, rfl⟩ | ⟨ha, hb, rfl, rfl⟩ | ⟨ha, hb, rfl, rfl⟩ | ⟨ha, rfl, rfl⟩
  all_goals go_wp2
  all_goals go_ret
  · exact ⟨ret_int (by rw [szOf, if_pos ha]), rfl⟩
  · exact ⟨ret_int (by rw [szOf, if_neg (by omega), if_pos hb]), rfl⟩
  · exact ⟨ret_int (by rw [szOf, if_neg (by omega), if_neg (by omega), if_pos hb]), rfl⟩
  · exact ⟨ret_int (by rw [szOf, if_neg (by omega), if_neg (by omega), if_neg (by omega), if_pos hb]), rfl⟩
  · exact ⟨ret_int (by rw [szOf, if_neg (by omega), if_neg (by omega), if_neg (by omega), if_neg (by omega)]), rfl⟩
end Go.Proofs.YtjihcpnaebghnaaDoor
