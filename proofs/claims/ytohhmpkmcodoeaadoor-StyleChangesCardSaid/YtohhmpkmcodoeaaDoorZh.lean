/-
  Proved here: what the rows' list gives of the tables of sizes and of flags (their cells hold their numbers), a world that holds both; arguments that are styles, or slices of numbers.
-/
import Derived.Test.YtohhmpkmcodoeaaDoorCards
import Derived.Test.YtohhmpkmcodoeaaDoorTie
import Derived.Test.YtohhmpkmcodoeaaDoorZg
import Derived.Test.YtohhmpkmcodoeaaDoorYj
import Derived.WalkKit
import Derived.ProofKit
import Derived.OpenShut
import Derived.Deep.DeepHandedRow
import Derived.Lib.LaidTab
import Derived.Lib.SmallJoins
import Derived.ChangeSlices
import Derived.ChangeOld
import Derived.Below
namespace Go.Proofs.YtohhmpkmcodoeaaDoor
open Go.ChangeShapes Go.WideShapes Go.ChangeAt Go.RowKit
theorem ownK : ownKnob Tryd.prog.godebug = none := by kernel_rfl
theorem laidOutOk : laidOutB Tryd.prog = true := by kernel_rfl
theorem gTab : Tryd.prog.globalNamed "longline/vint.sizes" = some 1 := by kernel_rfl
theorem gTabType : (Tryd.prog.globals[1]?).map (·.type) = some 72 := by kernel_rfl
theorem cellsArr : Tryd.prog.cellsOf 72 = 4 := by kernel_rfl
theorem cellsInt : Tryd.prog.cellsOf 3 = 1 := by kernel_rfl
theorem gFlag : Tryd.prog.globalNamed "longline/style.flags" = some 0 := by kernel_rfl
theorem gFlagType : (Tryd.prog.globals[0]?).map (·.type) = some 51 := by kernel_rfl
theorem cellsArrF : Tryd.prog.cellsOf 51 = 10 := by kernel_rfl
theorem cellsU8 : Tryd.prog.cellsOf 5 = 1 := by kernel_rfl
theorem laidMet_tl {P : Program} {x : String × DataW Unit} {r : List (String × DataW Unit)} {w : World} (h : laidMet P (x :: r) w) : laidMet P r w := by
  obtain ⟨ps, hv, hnd, hrows⟩ := h
  obtain ⟨n, d⟩ := x
  obtain ⟨g, t, cs, fuel, p, q, _, _, _, _, hq, rfl⟩ := hv
  exact ⟨q, hq, List.Nodup.sublist (List.sublist_append_right _ _) hnd, fun b off hm => hrows b off (List.mem_append_right _ hm)⟩
/-- What the list of a row gives: both tables. -/
structure Both (w : World) : Prop where
  tab : Tab w
  ft : FT w
theorem Both.below {B : Nat} {w w' : World} (h : Both w) (hb : Below B w w') (hB : w.heap.size ≤ B) : Both w' :=
  ⟨h.tab.below hb (Nat.lt_of_lt_of_le h.tab.big hB), h.ft.below hb (Nat.lt_of_lt_of_le h.ft.big hB)⟩
theorem tabOf {W : World} (h : laidMetH Tryd.prog [("longline/vint.sizes", Rows.laid_longline_vint_sizes), ("longline/style.flags", Rows.laid_longline_style_flags)] W) : Both W := by
  have t : Lib.TabIs Tryd.prog W "longline/vint.sizes" .i64 [1, 2, 4, 8] := Lib.tabIs_of_head gTab gTabType Tryd.underlying72 Tryd.underlying3 cellsInt cellsArr h
  have f : Lib.TabIs Tryd.prog W "longline/style.flags" .u8 [0, 1, 2, 4, 8, 16, 0, 32, 64, 128] := Lib.tabIs_of_head (rest := []) gFlag gFlagType Tryd.underlying51 Tryd.underlying5 cellsU8 cellsArrF (laidMet_tl h)
  have c0 : W.cell? ⟨1, 0, none⟩ = some (.int .i64 1) := t.cell gTab 0 (by decide)
  have f0 : W.cell? ⟨0, 0, none⟩ = some (.int .u8 0) := f.cell gFlag 0 (by decide)
  refine ⟨⟨c0, t.cell gTab 1 (by decide), t.cell gTab 2 (by decide), t.cell gTab 3 (by decide), World.block_lt_of_cell? W _ c0⟩, ⟨fun y hy => ?_, World.block_lt_of_cell? W _ f0⟩⟩
  have H := f.cell gFlag y (by simpa using hy)
  match y, hy, H with
  | 0, _, H => exact H
  | 1, _, H => exact H
  | 2, _, H => exact H
  | 3, _, H => exact H
  | 4, _, H => exact H
  | 5, _, H => exact H
  | 6, _, H => exact H
  | 7, _, H => exact H
  | 8, _, H => exact H
  | 9, _, H => exact H
/-- A world for the witness: the settled one, the tables (their blocks) holding what their initialisers lay. -/
noncomputable def laidWorld (os : Os) : World :=
  let h0 := (World.holding Tryd.prog os ⟨#[], #[], []⟩).heap
  let h1 := h0.modify 1 fun o => match o with
      | .cells _ t frozen => .cells #[.int .i64 1, .int .i64 2, .int .i64 4, .int .i64 8] t frozen
      | o => o
  let h2 := h1.modify 0 fun o => match o with
      | .cells _ t frozen => .cells #[.int .u8 0, .int .u8 1, .int .u8 2, .int .u8 4, .int .u8 8, .int .u8 16, .int .u8 0, .int .u8 32, .int .u8 64, .int .u8 128] t frozen
      | o => o
  { World.holding Tryd.prog os ⟨#[], #[], []⟩ with heap := h2 }
theorem getD_take' {zs : List Int} {n i : Nat} (hi : i < n) : (zs.take n).getD i 0 = zs.getD i 0 := by
  simp [List.getD, hi]
/-- What is known of a slice of numbers of a kind. -/
structure SlI (k : IntKind) (w : World) (A : Option Addr) (len cap : Nat) (zs : List Int) : Prop where
  len_eq : zs.length = len
  reads : 0 < zs.length → ∃ b off, A = some ⟨b, off, none⟩ ∧ b < w.heap.size ∧ ∀ i, i < zs.length → w.cell? ⟨b, off + i, none⟩ = some (.int k (zs.getD i 0))
  wf : ∀ i, i < zs.length → (Lit.int k (zs.getD i 0)).wf = true
  le : len ≤ cap
  max : cap ≤ maxLen
  nil : A = none → cap = 0
theorem open_slI {k : IntKind} {t e : TypeId} (ht : Tryd.prog.underlying t = some (.slice e)) (he : Tryd.prog.underlying e = some (.int k)) (hc : Tryd.prog.cellsOf e = 1)
    {H : Type} {enc : TypeId × Value → H} {W : World} {base : Nat} {sp : Nat → Bool} {held : Bool} {fuel : Nat} {A : Option Addr} {len cap : Nat} {x : DataW H × List MemPlace}
    (h : DataW.trod enc Tryd.prog W base sp held fuel t [.slice A len cap] = some x) : ∃ zs, SlI k W A len cap zs := by
  rcases open_ints ht he hc h with ⟨hcs, _⟩ | ⟨a, l, c, zs, hcs, _, hl, hm, hz, _, hcell, hwz⟩
  · simp at hcs
    obtain ⟨rfl, rfl, rfl⟩ := hcs
    exact ⟨[], rfl, fun h => absurd h (by simp), fun i h => absurd h (by simp), Nat.le_refl _, by unfold maxLen; omega, fun _ => rfl⟩
  · simp at hcs
    obtain ⟨rfl, rfl, rfl⟩ := hcs
    have hlz : len ≤ zs.length := by
      rw [hz]
      split <;> omega
    have hlen : (zs.take len).length = len := by simp; omega
    refine ⟨zs.take len, hlen, fun hp => ?_, fun i hi => ?_, hl, hm, fun e => by cases e⟩
    · rw [hlen] at hp
      obtain ⟨b, off, rfl, hc⟩ := ints_at hcell (by omega)
      refine ⟨b, off, rfl, World.block_lt_of_cell? W _ (hc 0 (by omega)), fun i hi => ?_⟩
      rw [hlen] at hi
      rw [getD_take' hi]
      exact hc i (by omega)
    · rw [hlen] at hi
      rw [getD_take' hi]
      have hil : i < zs.length := by omega
      have hm : zs.getD i 0 ∈ zs := by simp [List.getD, hil]
      exact hwz _ hm
theorem slI_ri {k : IntKind} {w : World} {A : Option Addr} {n c : Nat} {zs : List Int} (h : SlI k w A n c zs) : RI k w A zs := h.reads
theorem slI_rb {w : World} {A : Option Addr} {n c : Nat} {zs : List Int} (h : SlI .u8 w A n c zs) : RB w w.heap.size A zs := h.reads
theorem slI_bytes {w : World} {A : Option Addr} {n c : Nat} {zs : List Int} (h : SlI .u8 w A n c zs) : Bytes zs := fun i => by
  by_cases hi : i < zs.length
  · have := bounds_u8 (h.wf i hi)
    omega
  · have : zs.getD i 0 = 0 := by simp [List.getD, hi]
    rw [this]; omega
theorem cellsSty : Tryd.prog.cellsOf 24 = 3 := by kernel_rfl
theorem open_sty {H : Type} {enc : TypeId × Value → H} {W : World} {r : Reach} {b0 base : Nat} {sp : Nat → Bool} {held : Bool} {v : Value} {dd : DataW H} {pl : List MemPlace} (hv : Value.okWide Tryd.prog W r b0 24 v) (h : DataW.Trod enc Tryd.prog W base sp held 24 v dd pl) :
    ∃ s : Sty, v = pV s ∧ Good s := by
  obtain ⟨c0, c1, c2, y0, y1, y2, n, rfl, _, _, hy0, hy1, hy2⟩ := Go.Joins.open_agg3 Tryd.underlying24 (by kernel_rfl) cellsSty hv h
  obtain ⟨t0, e0, _, w0⟩ := DataW.trod_int Tryd.underlying5 hy0
  obtain ⟨t1, e1, _, w1⟩ := DataW.trod_int Tryd.underlying22 hy1
  obtain ⟨t2, e2, _, w2⟩ := DataW.trod_int Tryd.underlying22 hy2
  have hc0 : c0 = .int .u8 t0 := by simpa using e0
  have hc1 : c1 = .int .u32 t1 := by simpa using e1
  have hc2 : c2 = .int .u32 t2 := by simpa using e2
  subst hc0 hc1 hc2
  have b0 := bounds_u8 w0
  have b1 := bounds_u32 w1
  have b2 := bounds_u32 w2
  refine ⟨⟨ofF 8 t0, t1, t2⟩, by simp only [pV]; rw [flagsF_ofF 8 t0 (by omega) (by omega)], ofF_len 8 t0, by dsimp only; omega, by dsimp only; omega⟩
end Go.Proofs.YtohhmpkmcodoeaaDoor
