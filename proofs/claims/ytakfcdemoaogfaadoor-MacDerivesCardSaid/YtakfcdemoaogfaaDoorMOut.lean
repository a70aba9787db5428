/-
  Proved here: the law MacMarks answers true where its guard strikes; and the document's own 'Derive' tells why there is no key.
-/
import Derived.Test.YtakfcdemoaogfaaDoorMAlive
import Derived.Test.YtakfcdemoaogfaaDoorMDer2
namespace Go.Proofs.YtakfcdemoaogfaaDoor
open Go.RowKit
set_option maxHeartbeats 1000000 in
theorem marks_out (A B C : Option Addr) (lk ca lb cb lm cm : Nat) (i : Int) (w : World) (hT : Tab w) (h : 150 < lk ∨ 150 < lb ∨ 60 < lm ∨ i < 0 ∨ lb < i) :
    Calls Tryd.prog 6 #[.slice A lk ca, .slice B lb cb, .slice C lm cm, .int .i64 i] w fun e w' => e = .returned (.bool true) ∧ Below w.heap.size w w' := by
  have HT := Lib.hid hT
  clear hT
  by_cases h1 : (150 : Int) < (lk : Int)
  · clear h
    go_enter Tryd.func6, Tryd.ntmps6
    go_wp2_with fail
    refine (alive4_any w HT.out).mono ?_
    rintro e w1 ⟨rfl, hb⟩
    go_wp2
    go_ret
    exact ⟨rfl, hb⟩
  by_cases h2 : (150 : Int) < (lb : Int)
  · clear h
    go_enter Tryd.func6, Tryd.ntmps6
    go_wp2_with fail
    refine (alive4_any w HT.out).mono ?_
    rintro e w1 ⟨rfl, hb⟩
    go_wp2
    go_ret
    exact ⟨rfl, hb⟩
  by_cases h3 : (60 : Int) < (lm : Int)
  · clear h
    go_enter Tryd.func6, Tryd.ntmps6
    go_wp2_with fail
    refine (alive4_any w HT.out).mono ?_
    rintro e w1 ⟨rfl, hb⟩
    go_wp2
    go_ret
    exact ⟨rfl, hb⟩
  by_cases h4 : i < 0
  · clear h
    go_enter Tryd.func6, Tryd.ntmps6
    go_wp2_with fail
    refine (alive4_any w HT.out).mono ?_
    rintro e w1 ⟨rfl, hb⟩
    go_wp2
    go_ret
    exact ⟨rfl, hb⟩
  have h5 : (lb : Int) < i := by omega
  clear h
  go_enter Tryd.func6, Tryd.ntmps6
  go_wp2_with fail
  refine (alive4_any w HT.out).mono ?_
  rintro e w1 ⟨rfl, hb⟩
  go_wp2
  go_ret
  exact ⟨rfl, hb⟩
theorem make16 (W : World) : (Instr.makeSlice 22 (.int .i64 16) (.int .i64 16)).run Tryd.prog W = .ok (.slice (some ⟨W.heap.size, 0, none⟩) 16 16) (W.alloc (.cells (V8 Z16).toArray 5)) := by kernel_rfl
/-- A key's place, and an error. -/
def RDer (X : List Nat) (n : Int) (w : World) (e : Ending) (w' : World) : Prop :=
  ∃ g cap, e = .returned (.tuple #[.slice (some ⟨g, 0, none⟩) 16 cap, .int .i64 n]) ∧ (∀ j, j < 16 → w'.cell? ⟨g, j, none⟩ = some (.int .u8 (X.getD j 0 : Nat))) ∧ g < w'.heap.size ∧ Below w.heap.size w w'
theorem rder_new (n : Int) (w : World) : RDer Z16 n w (.returned (.tuple #[.slice (some ⟨w.heap.size, 0, none⟩) 16 16, .int .i64 n])) (w.alloc (.cells (V8 Z16).toArray 5)) := by
  refine ⟨_, _, rfl, fun j hj => ?_, by simp, (Below.refl _ _).alloc (Nat.le_refl _) _⟩
  rw [cell_of_row _ w.heap.size j _ _ _ (heap_alloc_new w (.cells (V8 Z16).toArray 5))]
  simpa using V8_get (l := Z16) hj
theorem rderive_bad (A : Option Addr) (l cap : Nat) (s : ByteArray) (i : Int) (w : World) (h : l = 0 ∨ i < 0 ∨ 255 < i) : Calls Tryd.prog 24 #[.slice A l cap, .string s, .int .i64 i] w (RDer Z16 1 w) := by
  have hmk := make16
  have HE := Lib.hid (rder_new 1 w)
  generalize (V8 Z16).toArray = Z at hmk HE
  by_cases h0 : l = 0
  · subst h0
    clear h
    go_enter Tryd.func24, Tryd.ntmps24
    go_wp2
    go_ret2
    exact HE.out
  have hd : ((l : Int) == 0) = false := by rw [beq_eq_false_iff_ne]; omega
  by_cases h1 : i < 0
  · clear h h0
    go_enter Tryd.func24, Tryd.ntmps24
    go_wp2
    go_ret2
    exact HE.out
  have h2 : 255 < i := by omega
  clear h h0
  go_enter Tryd.func24, Tryd.ntmps24
  go_wp2
  go_ret2
  exact HE.out
theorem rderive_long (A : Option Addr) (l cap : Nat) (s : ByteArray) (i : Int) (w : World) (h0 : 0 < l) (h1 : ¬ i < 0) (h2 : ¬ 255 < i) (hs : 32 < s.size) : Calls Tryd.prog 24 #[.slice A l cap, .string s, .int .i64 i] w (RDer Z16 2 w) := by
  have hmk := make16
  have HE := Lib.hid (rder_new 2 w)
  generalize (V8 Z16).toArray = Z at hmk HE
  have hd : ((l : Int) == 0) = false := by rw [beq_eq_false_iff_ne]; omega
  have hd3 : (32 : Int) < (s.size : Int) := by omega
  clear hs h0
  go_enter Tryd.func24, Tryd.ntmps24
  go_wp2
  go_ret2
  exact HE.out
end Go.Proofs.YtakfcdemoaogfaaDoor
