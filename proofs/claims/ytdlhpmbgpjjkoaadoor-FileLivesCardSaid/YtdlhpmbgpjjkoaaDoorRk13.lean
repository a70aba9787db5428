/-
  Kept here: append to rows of numbers of these kinds.
-/
import Derived.Test.YtdlhpmbgpjjkoaaDoorRg
namespace Go.Proofs.YtdlhpmbgpjjkoaaDoor
open Go.RowKit
theorem info_u8 : (Tryd.prog.info? 5).map (fun i => (i.zero, i.size, i.bytes)) = some (some (.int .u8 0), 1, 1) := by kernel_rfl
theorem app_u8 {W : World} {base : Nat} {v : Value} {n : Nat} {xs : List Int} {A : Option Addr} {ys : List Int} {m : Nat} (hm : ys.length = m) (c : Nat) (hR : RI .u8 W A ys) (hA : A = none → c = 0) (hown : W.ownsRow base 5 1 v n (NV .u8 xs)) (hn : n + m ≤ 100000) (hb : base ≤ W.heap.size) :
    ∃ v' w', (Builtin.append_ #[23, 23] 23 #[v, .slice A m c]).run Tryd.prog W = .ok v' w' ∧ w'.ownsRow base 5 1 v' (n + m) (NV .u8 (xs ++ ys)) ∧ W.grownBy w' v.ownBlock := by
  subst hm
  obtain ⟨i0, hi, hz0, hz1, hz2⟩ := info_parts info_u8
  rcases A with _ | ad
  · have h0 : ys.length = 0 := by
      rcases Nat.eq_zero_or_pos ys.length with h | h
      · exact h
      · obtain ⟨_, _, h, _⟩ := hR h
        cases h
    obtain rfl : ys = [] := List.eq_nil_of_length_eq_zero h0
    obtain rfl := hA rfl
    exact ⟨_, W, run_append_owned_none (P := Tryd.prog) (w := W) base 23 23 5 i0 1 Tryd.underlying23 hi _ n _ hown, by simpa using hown, World.grownBy.refl _ _⟩
  · obtain ⟨v', w', hr, ho, hg, _⟩ := run_append_own_at (P := Tryd.prog) W base 23 23 5 i0 _ 1 1 Tryd.underlying23 hi hz0 hz1 hz2 rfl (by decide) v n (NV .u8 xs) hown ad ys.length c (NV .u8 ys) (by simp [NV]) hR.cells
      (fun u hu => by obtain ⟨x, _, rfl⟩ := List.mem_map.1 hu; rfl) (by unfold maxLen; omega) (by omega) hb
    exact ⟨v', w', hr, own_cast ho rfl (by simp [NV]), hg⟩

end Go.Proofs.YtdlhpmbgpjjkoaaDoor
