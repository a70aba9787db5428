/-
  Proved here, for every list of bytes that a slice reads as: bytes.Clone answers a row of the same bytes in memory of its own (a nil slice: nil).
-/
import Derived.Test.YtdhnhpcmfbiieaaDoorVGet
import Derived.WalkSpells
namespace Go.Proofs.YtdhnhpcmfbiieaaDoor
open Go.RowKit

/-- What is answered: a row of the bytes bs, in memory that the call made. -/
def OwnPost (bs : List Int) (w : World) (e : Ending) (w' : World) : Prop :=
  ∃ v, e = .returned v ∧ w'.ownsRow w.heap.size 5 1 v bs.length (B8 bs) ∧ Below w.heap.size w w'

theorem oneCell_B8 (l : List Int) : ∀ u ∈ B8 l, u.oneCell' = true := by
  intro u hu
  obtain ⟨x, _, rfl⟩ := List.mem_map.1 hu
  rfl

theorem RB.cells {w : World} {B : Nat} {ad : Addr} {bs : List Int} (h : RB w B (some ad) bs) : ∀ j u, (B8 bs)[j]? = some u → w.cell? (ad.add j) = some u := by
  intro j u hu
  have hj : j < bs.length := by
    have := (List.getElem?_eq_some_iff.1 hu).1
    simpa using this
  obtain ⟨b, off, e, _, hc⟩ := h (by omega)
  injection e with e
  subst e
  have h1 := hc j hj
  have h2 : u = .int .u8 (bs.getD j 0) := by
    simp only [B8, List.getElem?_map, Option.map_eq_some_iff] at hu
    obtain ⟨x, hx, rfl⟩ := hu
    simp [List.getD, hx]
  rw [h2, ← h1]
  simp only [Addr.add]
  split
  · rename_i h0; simp [h0]
  · rfl

theorem RB.alloc {w : World} {B : Nat} {A : Option Addr} {bs : List Int} (h : RB w B A bs) (hB : B ≤ w.heap.size) (o : Obj) : RB (w.alloc o) B A bs :=
  h.keep fun p hp => World.cell?_of_block (Below.heap_alloc w o p.block (by omega))

set_option maxHeartbeats 400000 in
theorem clone_any (bs : List Int) (A : Option Addr) (cap : Nat) (w : World) (hR : RB w w.heap.size A bs) (hl : bs.length ≤ 140737488351232) (hA : A = none → cap = 0) :
    Calls Tryd.prog 28 #[.slice A bs.length cap] w (OwnPost bs w) := by
  rcases A with _ | ad
  · have hz : bs.length = 0 := by
      rcases Nat.eq_zero_or_pos bs.length with h | h
      · exact h
      · obtain ⟨_, _, h, _⟩ := hR h
        cases h
    obtain rfl : bs = [] := List.eq_nil_of_length_eq_zero hz
    obtain rfl := hA rfl
    have hnil := fun W => Lib.run_eql_slice_nil (P := Tryd.prog) W 23 5 none 0 0 0 0 Tryd.underlying23
    go_enter Tryd.func28, Tryd.ntmps28
    go_wp2
    go_ret
    exact ⟨_, rfl, World.ownsRow_nil _ _ _ _, Below.refl _ _⟩
  · have hnil := fun W => Lib.run_eql_slice_nil (P := Tryd.prog) W 23 5 (some ad) bs.length cap 0 0 Tryd.underlying23
    obtain ⟨i0, hi, hz0, hz1, hz2⟩ := info_parts infoByte
    go_enter Tryd.func28, Tryd.ntmps28
    go_wp2_with (at_builtin; refine wpList_append_own _ rfl _ _ 23 rfl w.heap.size 5 i0 (.int .u8 0) 1 1 Tryd.underlying23 hi hz0 hz1 hz2 rfl (by decide) _ 0 [] rfl (World.ownsRow_made w #[] 0 (Nat.le_refl _) (by unfold maxLen; omega) rfl) ad bs.length cap (B8 bs) rfl (by simp) ?c1 (oneCell_B8 bs) ?c3 ?c4 ?c5 ?_)
    case c1 => exact (hR.alloc (Nat.le_refl _) _).cells
    case c3 => unfold maxLen; omega
    case c4 => omega
    case c5 => simp
    · intro v' w1 hown1 hgrow _
      go_wp2
      go_ret
      refine ⟨v', rfl, by simpa using hown1, ((Below.refl _ _).alloc (Nat.le_refl _) _).grown hgrow (by simp) ?_⟩
      intro k hk
      have : w.heap.size = k := by simpa [Value.ownBlock] using hk
      omega
end Go.Proofs.YtdhnhpcmfbiieaaDoor
