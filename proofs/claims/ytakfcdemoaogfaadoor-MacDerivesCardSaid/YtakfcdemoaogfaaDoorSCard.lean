/-
  Proved here: what the rows' list gives of the table of constants (its cells hold its 64 numbers), a world that holds it, and what is known of slices of bytes, and of slices of these, that come in as arguments.
-/
import Derived.Test.YtakfcdemoaogfaaDoorCards
import Derived.Test.YtakfcdemoaogfaaDoorTie
import Derived.Test.YtakfcdemoaogfaaDoorSOf
import Derived.WalkKit
import Derived.ProofKit
import Derived.OpenShut
import Derived.Deep.DeepHandedRow
import Derived.Deep.Matrix
import Derived.Lib.LaidTab
import Derived.ChangeOld
import Derived.Below
namespace Go.Proofs.YtakfcdemoaogfaaDoor
open Go.ChangeShapes Go.WideShapes Go.ChangeAt Go.RowKit

theorem ownK : ownKnob Tryd.prog.godebug = none := by kernel_rfl
theorem gTab : Tryd.prog.globalNamed "longline/sha.constants" = some 0 := by kernel_rfl
theorem gTabType : (Tryd.prog.globals[0]?).map (·.type) = some 72 := by kernel_rfl
theorem cellsArr : Tryd.prog.cellsOf 72 = 64 := by kernel_rfl
theorem cellsWord : Tryd.prog.cellsOf 33 = 1 := by kernel_rfl
theorem laidOutOk : laidOutB Tryd.prog = true := by kernel_rfl
theorem cellsByte : Tryd.prog.cellsOf 5 = 1 := by kernel_rfl
theorem cellsSlice : Tryd.prog.cellsOf 22 = 1 := by kernel_rfl

/-- The constants, as the row lists them. -/
def kkI : List Int := kk.map fun n : Nat => (n : Int)
theorem kkI_get (i : Nat) (hi : i < 64) : kkI.getD i 0 = ((kk.getD i 0 : Nat) : Int) := by
  have h : i < kk.length := hi
  simp [kkI, List.getD_eq_getElem?_getD, h]

/-- What the list of a row gives: the table of constants. -/
theorem tabOf {W : World} (h : laidMetH Tryd.prog [("longline/sha.constants", Rows.laid_longline_sha_constants)] W) : Tab W := by
  have t : Lib.TabIs Tryd.prog W "longline/sha.constants" .u32 kkI := Lib.tabIs_of_head (rest := []) gTab gTabType Tryd.underlying72 Tryd.underlying33 cellsWord cellsArr h
  have c : ∀ i, i < 64 → W.cell? ⟨0, i, none⟩ = some (.int .u32 (kk.getD i 0 : Nat)) := fun i hi => by
    rw [← kkI_get i hi]
    exact t.cell gTab i (by simpa [kkI] using (show i < kk.length from hi))
  exact ⟨c, World.block_lt_of_cell? W _ (c 0 (by decide))⟩

/-- A world for the witness: the settled one, the table (its block) holding what its initialiser lays. -/
noncomputable def laidWorld (os : Os) : World :=
  { World.holding Tryd.prog os ⟨#[], #[], []⟩ with heap := (World.holding Tryd.prog os ⟨#[], #[], []⟩).heap.modify 0 fun
      | .cells _ t frozen => .cells (V32 kk).toArray t frozen
      | o => o }

theorem getD_take {zs : List Int} {n i : Nat} (hi : i < n) : (zs.take n).getD i 0 = zs.getD i 0 := by
  simp [List.getD, hi]
/-- Numbers of a slice of bytes, as natural numbers. -/
def nats (zs : List Int) (n : Nat) : List Nat := (zs.take n).map Int.toNat
theorem nats_get {zs : List Int} {n i : Nat} (hi : i < n) (hn : n ≤ zs.length) (h : ∀ z ∈ zs, (Lit.int .u8 z).wf = true) : ((nats zs n).getD i 0 : Int) = zs.getD i 0 ∧ (nats zs n).getD i 0 < 256 := by
  have hz : i < zs.length := by omega
  have hm : zs[i] ∈ zs := List.getElem_mem hz
  have hb := bounds_u8 (h _ hm)
  have e1 : (nats zs n).getD i 0 = zs[i].toNat := by
    simp [nats, List.getD_eq_getElem?_getD, hi, hz]
  have e2 : zs.getD i 0 = zs[i] := by simp [List.getD_eq_getElem?_getD, hz]
  rw [e1, e2]
  omega
theorem length_nats {zs : List Int} {n : Nat} (hn : n ≤ zs.length) : (nats zs n).length = n := by simp [nats]; omega

/-- What is known of a slice of bytes. -/
structure Sl (w : World) (A : Option Addr) (len cap : Nat) (bs : List Nat) : Prop where
  len_eq : bs.length = len
  reads : R0 w A bs
  bytes : ∀ i, bs.getD i 0 < 256
  le : len ≤ cap
  max : cap ≤ maxLen
  nil : A = none → cap = 0
theorem nats_lt {zs : List Int} {n : Nat} (hn : n ≤ zs.length) (h : ∀ z ∈ zs, (Lit.int .u8 z).wf = true) (i : Nat) : (nats zs n).getD i 0 < 256 := by
  by_cases hi : i < n
  · exact (nats_get hi hn h).2
  · have : (nats zs n).getD i 0 = 0 := by
      have hl := length_nats hn
      simp [List.getD_eq_getElem?_getD, List.getElem?_eq_none (show (nats zs n).length ≤ i by omega)]
    rw [this]; omega

theorem open_bytes {H : Type} {enc : TypeId × Value → H} {W : World} {base : Nat} {sp : Nat → Bool} {held : Bool} {fuel : Nat} {A : Option Addr} {len cap : Nat} {x : DataW H × List MemPlace}
    (h : DataW.trod enc Tryd.prog W base sp held fuel 22 [.slice A len cap] = some x) : ∃ bs, Sl W A len cap bs := by
  rcases open_ints Tryd.underlying22 Tryd.underlying5 cellsByte h with ⟨hcs, _⟩ | ⟨a, l, c, zs, hcs, _, hl, hm, hz, _, hcell, hwz⟩
  · simp at hcs
    obtain ⟨rfl, rfl, rfl⟩ := hcs
    exact ⟨[], rfl, fun h => absurd h (by simp), fun i => by simp, Nat.le_refl _, by unfold maxLen; omega, fun _ => rfl⟩
  · simp at hcs
    obtain ⟨rfl, rfl, rfl⟩ := hcs
    have hlz : len ≤ zs.length := by
      rw [hz]
      split <;> omega
    refine ⟨nats zs len, length_nats hlz, fun hp => ?_, nats_lt hlz hwz, hl, hm, fun h => by cases h⟩
    rw [length_nats hlz] at hp
    obtain ⟨b, off, rfl, hc⟩ := ints_at hcell (by omega)
    refine ⟨b, off, rfl, World.block_lt_of_cell? W _ (hc 0 (by omega)), fun i hi => ?_⟩
    rw [length_nats hlz] at hi
    rw [(nats_get hi hlz hwz).1]
    exact hc i (by omega)

/-- What is known of a slice of slices of bytes. -/
structure SlS (w : World) (A : Option Addr) (len cap : Nat) (ps : List (List Nat)) : Prop where
  len_eq : ps.length = len
  reads : RS w A ps
  le : len ≤ cap
  max : cap ≤ maxLen
theorem open_rows {H : Type} {enc : TypeId × Value → H} {W : World} {base : Nat} {held : Bool} {fuel : Nat} {A : Option Addr} {len cap : Nat} {x : DataW H × List MemPlace}
    (h : DataW.trod enc Tryd.prog W base (fun _ => true) held fuel 42 [.slice A len cap] = some x) : ∃ ps, SlS W A len cap ps := by
  rcases Deep.open_int_rows Tryd.underlying42 Tryd.underlying22 Tryd.underlying5 cellsSlice cellsByte h with ⟨hcs, _⟩ | ⟨a, l, c, A', L, C, Z, hcs, _, hl, hm, _, hr⟩
  · simp at hcs
    obtain ⟨rfl, rfl, rfl⟩ := hcs
    exact ⟨[], rfl, fun h => absurd h (by simp), Nat.le_refl _, by unfold maxLen; omega⟩
  · simp at hcs
    obtain ⟨rfl, rfl, rfl⟩ := hcs
    refine ⟨(List.range len).map fun r => nats (Z r) (L r), by simp, fun hp => ?_, hl, hm⟩
    have hp' : 0 < len := by simpa using hp
    obtain ⟨b, off, sp⟩ := a
    have hsp : sp = none := by simpa [Addr.add] using World.cell?_spot (hr 0 (by omega)).1
    subst hsp
    · refine ⟨b, off, rfl, World.block_lt_of_cell? W _ (hr 0 (by omega)).1, fun i hi => ?_⟩
      have hi' : i < len := by simpa using hi
      obtain ⟨h1, h2, h3, h4, h5, h6, h7⟩ := hr i (by omega)
      have hlz : L i ≤ (Z i).length := by omega
      have e : ((List.range len).map fun r => nats (Z r) (L r)).getD i [] = nats (Z i) (L i) := by simp [List.getD_eq_getElem?_getD, hi']
      have hadd : (⟨b, off, none⟩ : Addr).add i = ⟨b, off + i, none⟩ := by unfold Addr.add; split <;> simp_all
      rw [hadd] at h1
      rw [e, length_nats hlz]
      refine ⟨A' i, C i, h1, fun hq => ?_, h2, h3⟩
      rw [length_nats hlz] at hq
      cases hA : A' i with
      | none => have := h6 hA; omega
      | some a' =>
        obtain ⟨_, hc⟩ := h7 a' hA
        obtain ⟨b', off', sp'⟩ := a'
        have hsp' : sp' = none := by simpa [Addr.add] using World.cell?_spot (hc 0 (by omega))
        subst hsp'
        · refine ⟨b', off', rfl, World.block_lt_of_cell? W _ (hc 0 (by omega)), fun j hj => ?_⟩
          rw [length_nats hlz] at hj
          have hadd' : (⟨b', off', none⟩ : Addr).add j = ⟨b', off' + j, none⟩ := by unfold Addr.add; split <;> simp_all
          have := hc j (by omega)
          rw [hadd'] at this
          rw [(nats_get hj hlz h5).1]
          exact this
end Go.Proofs.YtakfcdemoaogfaaDoor
