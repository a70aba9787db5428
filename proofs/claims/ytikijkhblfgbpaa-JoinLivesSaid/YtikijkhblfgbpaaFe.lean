/-
  Proved here: Split and Join (frag) on all that they take; a row of zeros that is made.
-/
import Derived.Test.YtikijkhblfgbpaaFj
namespace Go.Proofs.Ytikijkhblfgbpaa
open Go.RowKit

theorem split_good (id : Int) (bs : List Int) (n : Nat) (hn : bs.length = n) (A : Option Addr) (cap : Nat) (w : World) (h0 : 1 ≤ id) (h1 : id ≤ 4611686018427387903) (hl : n ≤ 24000) (hR : RB w w.heap.size A bs) (hA : A = none → cap = 0) :
    Calls Try.prog 17 #[.int .u64 id, .slice A n cap] w (SplitPost id bs w) := by
  subst hn
  rcases Nat.eq_zero_or_pos bs.length with hz | hz
  · obtain rfl : bs = [] := List.eq_nil_of_length_eq_zero hz
    exact split_zero id A cap w h0 h1 hA
  · exact split_main id bs A cap w h0 h1 hl hR hA hz
theorem join_any (ps : List Prt) (n : Nat) (hlen : ps.length = n) (A : Option Addr) (c : Nat) (w : World) (hP : PS w w.heap.size A ps) (hO : POk ps) (hm : n ≤ maxLen) :
    Calls Try.prog 22 #[.slice A n c] w (BytPost (joinS ps) w) := by
  rcases Nat.eq_zero_or_pos n with hz | hz
  · subst hz
    obtain rfl : ps = [] := List.eq_nil_of_length_eq_zero hlen
    exact join_nil A c w
  · exact join_some ps n hlen A c w hP hO hz hm
theorem split_POk {id : Int} {bs : List Int} (h0 : 1 ≤ id) (h1 : id ≤ 4611686018427387903) (hn : bs.length ≤ 24000) : POk (splitS id bs) := fun i hi => by
  rw [splitS_length] at hi
  have := cntS_le hn
  rw [splitS_at hi]
  refine ⟨⟨?_, ?_⟩, ⟨?_, ?_⟩, ?_, ?_⟩ <;> simp only [partS] <;> omega
theorem make_zero (K : Nat) (hK : K ≤ 100000) : ∃ M : Array Value, (∀ i, i < K → M[i]? = some (.int .u8 0)) ∧ ∀ W : World, (Instr.makeSlice 28 (.int .i64 K) (.int .i64 K)).run Try.prog W = .ok (.slice (some ⟨W.heap.size, 0, none⟩) K K) (W.alloc (.cells M 5)) := by
  obtain ⟨i0, hi, hz0, hz1, hz2⟩ := info_parts infoByte
  refine ⟨madeCells (Value.int .u8 0).cells (K * 1), fun i hi => ?_, fun W => ?_⟩
  · have hc : (Value.int .u8 0).cells = #[.int .u8 0] := rfl
    rw [hc]
    simp [madeCells, hi, Nat.mod_one]
  · have h := run_make (P := Try.prog) W 28 5 i0 _ Try.underlying28 hi hz0 .i64 .i64 K K (by omega) (by omega) (by rw [hz2]; omega) (by omega)
    rw [Int.toNat_natCast, hz1] at h
    exact h
theorem zeros_at (n i : Nat) : (List.replicate n (0 : Int)).getD i 0 = 0 := by
  rw [List.getD, List.getElem?_replicate]
  split <;> rfl

end Go.Proofs.Ytikijkhblfgbpaa
