/-
  Proved here: VintSizes, for every two numbers: of the card of the law, its package-level table of sizes tied to the program's text; there are no conditions but what the card itself says.
-/
import Derived.Test.YtdhnhpcmfbiieaaDoorVAlive
import Derived.Test.YtdhnhpcmfbiieaaDoorVCard
namespace Go.Proofs.YtdhnhpcmfbiieaaDoor.vintSizes
open Go.RowKit Go.ChangeShapes Go.WideShapes Go.ChangeAt

theorem szOf_mono {a b : Int} (h : a ≤ b) (hb : b < 4611686018427387904) : szOf a ≤ szOf b := by
  unfold szOf
  repeat' split
  all_goals omega
theorem szOf_some {a : Int} (h : a < 4611686018427387904) : szOf a = 1 ∨ szOf a = 2 ∨ szOf a = 4 ∨ szOf a = 8 := by
  unfold szOf
  repeat' split
  all_goals omega
theorem szOf_none {a : Int} (h : 4611686018427387904 ≤ a) : szOf a = 0 := by
  unfold szOf
  repeat' split
  all_goals omega

abbrev Ok (w : World) (e : Ending) (w' : World) : Prop := e = .returned (.bool true) ∧ Below w.heap.size w w'

set_option maxHeartbeats 1000000 in
theorem walk_no (a b : Int) (w : World) (hT : Tab w) (a0 : 0 ≤ a) (a1 : a < 18446744073709551616) (b0 : 0 ≤ b) (b1 : b < 18446744073709551616) (h : b < a ∨ 4611686018427387903 < b) : Calls Tryd.prog 6 #[.int .u64 a, .int .u64 b] w (Ok w) := by
  have key : ∀ (t : Bool), decide (b < a) = t → (t = false → 4611686018427387903 < b) → Calls Tryd.prog 6 #[.int .u64 a, .int .u64 b] w (Ok w) := by
    intro t ht hb
    by_cases hx : a ≤ 4611686018427387903
    · cases t
      · have hb' := hb rfl
        clear h hb
        go_enter Tryd.func6, Tryd.ntmps6
        go_wp2_with fail
        refine (size_any a _ a0 a1 hT).mono ?_
        rintro e w' ⟨rfl, rfl⟩
        go_wp2_with fail
        refine (size_any b _ b0 b1 hT).mono ?_
        rintro e w' ⟨rfl, rfl⟩
        go_wp2_with fail
        refine (alive_any _ hT).mono ?_
        rintro e w1 ⟨rfl, hb1⟩
        go_wp2
        go_ret
        exact ⟨rfl, hb1⟩
      · clear h hb
        have ht' : b < a := by simpa using ht
        go_enter Tryd.func6, Tryd.ntmps6
        go_wp2_with fail
        refine (size_any a _ a0 a1 hT).mono ?_
        rintro e w' ⟨rfl, rfl⟩
        go_wp2_with fail
        refine (size_any b _ b0 b1 hT).mono ?_
        rintro e w' ⟨rfl, rfl⟩
        go_wp2_with fail
        refine (alive_any _ hT).mono ?_
        rintro e w1 ⟨rfl, hb1⟩
        go_wp2
        go_ret
        exact ⟨rfl, hb1⟩
    · have hz := szOf_none (a := a) (by omega)
      have hxd : decide (a ≤ 4611686018427387903) = false := by simpa using hx
      cases t
      · have hb' := hb rfl
        clear h hb
        go_enter Tryd.func6, Tryd.ntmps6
        go_wp2_with fail
        refine (size_any a _ a0 a1 hT).mono ?_
        rintro e w' ⟨rfl, rfl⟩
        go_wp2_with fail
        refine (size_any b _ b0 b1 hT).mono ?_
        rintro e w' ⟨rfl, rfl⟩
        go_wp2_with fail
        refine (alive_any _ hT).mono ?_
        rintro e w1 ⟨rfl, hb1⟩
        go_wp2
        go_ret
        exact ⟨rfl, hb1⟩
      · clear h hb
        have ht' : b < a := by simpa using ht
        go_enter Tryd.func6, Tryd.ntmps6
        go_wp2_with fail
        refine (size_any a _ a0 a1 hT).mono ?_
        rintro e w' ⟨rfl, rfl⟩
        go_wp2_with fail
        refine (size_any b _ b0 b1 hT).mono ?_
        rintro e w' ⟨rfl, rfl⟩
        go_wp2_with fail
        refine (alive_any _ hT).mono ?_
        rintro e w1 ⟨rfl, hb1⟩
        go_wp2
        go_ret
        exact ⟨rfl, hb1⟩
  refine key _ rfl (fun ht => ?_)
  have : ¬ b < a := by simpa using ht
  omega

set_option maxHeartbeats 1000000 in
theorem walk_yes (a b : Int) (w : World) (hT : Tab w) (a0 : 0 ≤ a) (b0 : 0 ≤ b) (hab : a ≤ b) (hb : b ≤ 4611686018427387903) : Calls Tryd.prog 6 #[.int .u64 a, .int .u64 b] w (Ok w) := by
  have hm := szOf_mono hab (by omega)
  have hs := szOf_some (a := a) (by omega)
  have d1 : decide (b < a) = false := by simpa using hab
  have d2 : decide (4611686018427387903 < b) = false := by simpa using hb
  have HA := Lib.hid (size_any a w a0 (by omega) hT)
  have HB := Lib.hid (size_any b w b0 (by omega) hT)
  obtain ⟨x, hx⟩ : ∃ x, szOf a = x := ⟨_, rfl⟩
  obtain ⟨y, hy⟩ : ∃ y, szOf b = y := ⟨_, rfl⟩
  rw [hx] at HA hm hs
  rw [hy] at HB hm
  clear hx hy
  rcases hs with rfl | rfl | rfl | rfl
  all_goals (
    have d3 : decide (_ ≤ y) = true := decide_eq_true hm
    go_enter Tryd.func6, Tryd.ntmps6
    go_wp2_with fail
    refine HA.out.mono ?_
    rintro e w' ⟨rfl, rfl⟩
    go_wp2_with fail
    refine HB.out.mono ?_
    rintro e w' ⟨rfl, rfl⟩
    go_wp2_with fail
    refine (alive_any _ hT).mono ?_
    rintro e w1 ⟨rfl, hb1⟩
    go_wp2
    go_ret
    exact ⟨rfl, hb1⟩)

theorem walk (a b : Int) (w : World) (hT : Tab w) (a0 : 0 ≤ a) (a1 : a < 18446744073709551616) (b0 : 0 ≤ b) (b1 : b < 18446744073709551616) : Calls Tryd.prog 6 #[.int .u64 a, .int .u64 b] w (Ok w) := by
  by_cases h : a ≤ b ∧ b ≤ 4611686018427387903
  · exact walk_yes a b w hT a0 b0 h.1 h.2
  · exact walk_no a b w hT a0 a1 b0 b1 (by omega)
end Go.Proofs.YtdhnhpcmfbiieaaDoor.vintSizes
