/-
  Proved here: what is known of a slice of cells, of a view, of a cell, as arguments.
-/
import Derived.Test.YtjihcpnaebghnaaDoorRows
import Derived.Test.YtjihcpnaebghnaaDoorIa
import Derived.WalkKit
import Derived.ProofKit
import Derived.OpenShut
import Derived.ChangeSlices
import Derived.ChangeOld
import Derived.Below
import Derived.Lib.SmallJoins
import Derived.Deep.Slices
set_option linter.unusedVariables false
set_option linter.unusedSimpArgs false
namespace Go.Proofs.YtjihcpnaebghnaaDoor
open Go.ChangeShapes Go.WideShapes Go.ChangeAt Go.RowKit
set_option maxRecDepth 100000 in
theorem ownK : ownKnob Tryd.prog.godebug = none := by kernel_rfl
set_option maxRecDepth 100000 in
theorem laidOutOk : laidOutB Tryd.prog = true := by kernel_rfl
set_option maxRecDepth 100000 in
theorem cellsInt : Tryd.prog.cellsOf 3 = 1 := by kernel_rfl
set_option maxRecDepth 100000 in
theorem cellsU8 : Tryd.prog.cellsOf 5 = 1 := by kernel_rfl
set_option maxRecDepth 100000 in
theorem cellsSty : Tryd.prog.cellsOf 86 = 3 := by kernel_rfl
set_option maxRecDepth 100000 in
theorem cellsCe : Tryd.prog.cellsOf 88 = 4 := by kernel_rfl
set_option maxRecDepth 100000 in
theorem cellsI32 : Tryd.prog.cellsOf 21 = 1 := by kernel_rfl
set_option maxRecDepth 100000 in
theorem cellsU32 : Tryd.prog.cellsOf 76 = 1 := by kernel_rfl
set_option maxRecDepth 100000 in
theorem cellsBo : Tryd.prog.cellsOf 4 = 1 := by kernel_rfl
set_option maxRecDepth 100000 in
theorem cellsCs : Tryd.prog.cellsOf 22 = 1 := by kernel_rfl
set_option maxRecDepth 100000 in
theorem cellsVw : Tryd.prog.cellsOf 24 = 6 := by kernel_rfl
set_option maxRecDepth 100000 in
theorem ceAt_mem {L : List Ce} {i : Nat} (h : i < L.length) : ceAt L i ∈ L := by
  have : ceAt L i = L[i] := by simp [ceAt, List.getD, h]
  rw [this]; exact List.getElem_mem _
set_option maxRecDepth 100000 in
theorem exists_celist {P : Nat → Ce → Prop} : ∀ (n : Nat), (∀ i, i < n → ∃ f, P i f) → ∃ fs : List Ce, fs.length = n ∧ ∀ i, i < n → P i (ceAt fs i)
  | 0, _ => ⟨[], rfl, fun i h => absurd h (by omega)⟩
  | n + 1, h => by
    obtain ⟨fs, hl, hP⟩ := exists_celist n (fun i hi => h i (by omega))
    obtain ⟨f, hf⟩ := h n (by omega)
    refine ⟨fs ++ [f], by simp [hl], fun i hi => ?_⟩
    rcases Nat.lt_or_ge i n with h' | h'
    · have : ceAt (fs ++ [f]) i = ceAt fs i := by simp [ceAt, List.getD, List.getElem?_append_left (show i < fs.length by omega)]
      rw [this]; exact hP i h'
    · obtain rfl : i = n := by omega
      have : ceAt (fs ++ [f]) i = f := by subst hl; simp [ceAt, List.getD]
      rw [this]; exact hf
/-- What is known of a slice of cells. -/
structure SlC (w : World) (A : Option Addr) (len cap : Nat) (L : List Ce) : Prop where
  len_eq : L.length = len
  reads : 0 < len → ∃ b off, A = some ⟨b, off, none⟩ ∧ b < w.heap.size ∧ ∀ i, i < len → ∀ j v, (gC (ceAt L i))[j]? = some v → w.cell? ⟨b, off + i * 4 + j, none⟩ = some v
  ok : ∀ c ∈ L, CeOk c
  le : len ≤ cap
  max : cap ≤ maxLen
set_option maxRecDepth 100000 in
theorem SlC.below {w W : World} {A : Option Addr} {len cap : Nat} {L : List Ce} (h : SlC w A len cap L) (hb : Below w.heap.size w W) : SlC W A len cap L :=
  ⟨h.len_eq, fun hp => by
    obtain ⟨b, off, e, hlt, hr⟩ := h.reads hp
    exact ⟨b, off, e, Nat.lt_of_lt_of_le hlt hb.size, fun i hi j v hv => (hb.cell (p := ⟨b, off + i * 4 + j, none⟩) hlt).trans (hr i hi j v hv)⟩, h.ok, h.le, h.max⟩
set_option maxRecDepth 100000 in
theorem open_ce {H : Type} {enc : TypeId × Value → H} {W : World} {base : Nat} {sp : Nat → Bool} {held : Bool} {fuel : Nat} {cs' : List Value} {x : DataW H × List MemPlace} (hcl : cs'.length = 4)
    (ht : DataW.trod enc Tryd.prog W base sp held fuel 88 cs' = some x) : ∃ c : Ce, cs' = gC c ∧ CeOk c := by
  obtain ⟨zs, n', _, _, _, hzl, hG⟩ := DataW.trod_struct Tryd.underlying88 ht
  match cs', hcl with
  | [c4, c5, c6, c7], _ =>
    match zs, hzl with
    | [z0, z1], _ =>
      have g0 := hG 0 _ rfl
      have g1 := hG 1 _ rfl
      simp [cellsI32, cellsU8, cellsU32, cellsCe, cellsSty] at g0 g1
      obtain ⟨t4, e4, _, w4⟩ := DataW.trod_int Tryd.underlying21 g0
      obtain ⟨qs, n'', _, _, _, hql, hQ⟩ := DataW.trod_struct Tryd.underlying86 g1
      match qs, hql with
      | [q0, q1, q2], _ =>
        have k0 := hQ 0 _ rfl
        have k1 := hQ 1 _ rfl
        have k2 := hQ 2 _ rfl
        simp [cellsI32, cellsU8, cellsU32, cellsCe, cellsSty] at k0 k1 k2
        obtain ⟨t5, e5, _, w5⟩ := DataW.trod_int Tryd.underlying5 k0
        obtain ⟨t6, e6, _, w6⟩ := DataW.trod_int Tryd.underlying76 k1
        obtain ⟨t7, e7, _, w7⟩ := DataW.trod_int Tryd.underlying76 k2
        simp at e4 e5 e6 e7
        subst e4 e5 e6 e7
        have b0 := bounds_u8 w5
        have b1 := bounds_u32 w6
        have b2 := bounds_u32 w7
        exact ⟨⟨t4, t5, t6, t7⟩, rfl, ⟨by dsimp only; omega, by dsimp only; omega, by dsimp only; omega⟩⟩
set_option maxRecDepth 100000 in
theorem open_cells {H : Type} {enc : TypeId × Value → H} {W : World} {base : Nat} {sp : Nat → Bool} {held : Bool} {fuel : Nat} {c2 : Value} {x : DataW H × List MemPlace}
    (h : DataW.trod enc Tryd.prog W base sp held fuel 22 [c2] = some x) : ∃ A len cap L, c2 = .slice A len cap ∧ SlC W A len cap L := by
  rcases Go.Deep.open_slice Tryd.underlying22 h with ⟨hcs, _⟩ | ⟨a, len, cap, m, n, D, Pl, hcs, _, hl, hm, hmm, _, hi⟩
  · simp at hcs
    exact ⟨none, 0, 0, [], hcs, rfl, fun h => absurd h (by simp), fun c h => absurd h (by simp), Nat.le_refl _, by unfold maxLen; omega⟩
  · simp at hcs
    subst hcs
    have hlm : len ≤ m := by rw [hmm]; split <;> omega
    have key : ∀ i, i < len → ∃ c : Ce, CeOk c ∧ ∀ j v, (gC c)[j]? = some v → W.cell? ((a.add (i * 4)).add j) = some v := by
      intro i hil
      obtain ⟨cs', hc, ht⟩ := hi i (by omega)
      rw [cellsCe] at hc
      obtain ⟨_, hcl, hat⟩ := World.cells?_some hc
      obtain ⟨c, rfl, hok⟩ := open_ce hcl ht
      refine ⟨c, hok, fun j v hv => ?_⟩
      have hj : j < 4 := (List.getElem?_eq_some_iff.1 hv).1
      have := hat j (by simpa using hj)
      rw [hv] at this
      exact this
    obtain ⟨L, hzl, hP⟩ := exists_celist len key
    refine ⟨some a, len, cap, L, rfl, hzl, fun hp => ?_, fun c hc => ?_, hl, hm⟩
    · obtain ⟨b, off, spot⟩ := a
      have h0 := (hP 0 (by omega)).2 0 _ rfl
      have hs : spot = none := by simpa [Addr.add] using World.cell?_spot h0
      subst hs
      have hb : b < W.heap.size := by
        have := World.block_lt_of_cell? W _ h0
        rw [add_plain] at this
        exact this
      refine ⟨b, off, rfl, hb, fun i hi j v hv => ?_⟩
      have h1 := (hP i hi).2 j v hv
      rw [add_plain, add_plain] at h1
      exact h1
    · obtain ⟨i, hi, rfl⟩ := List.getElem_of_mem hc
      have := (hP i (by omega)).1
      rwa [show ceAt L i = L[i] by simp [ceAt, List.getD, hi]] at this
set_option maxRecDepth 100000 in
theorem array6 {α : Type} {cs : Array α} (h : cs.size = 6) : ∃ c0 c1 c2 c3 c4 c5, cs = #[c0, c1, c2, c3, c4, c5] := by
  obtain ⟨l⟩ := cs
  match l, h with
  | [c0, c1, c2, c3, c4, c5], _ => exact ⟨c0, c1, c2, c3, c4, c5, rfl⟩
/-- A view as a value; what is known of one that comes in. -/
abbrev vV (R C : Int) (A : Option Addr) (len cap : Nat) (row col : Int) (vis : Bool) : Value := .agg #[.int .i64 R, .int .i64 C, .slice A len cap, .int .i64 row, .int .i64 col, .bool vis]
def VwV (W : World) (v : Value) : Prop := ∃ R C A len cap L row col vis, v = vV R C A len cap row col vis ∧ SlC W A len cap L ∧ (-9223372036854775808 ≤ R ∧ R ≤ 9223372036854775807) ∧ (-9223372036854775808 ≤ C ∧ C ≤ 9223372036854775807) ∧ (-9223372036854775808 ≤ row ∧ row ≤ 9223372036854775807) ∧ (-9223372036854775808 ≤ col ∧ col ≤ 9223372036854775807)
set_option maxRecDepth 100000 in
theorem open_view {H : Type} {enc : TypeId × Value → H} {W : World} {r : Reach} {b0 base : Nat} {sp : Nat → Bool} {held : Bool} {v : Value} {dd : DataW H} {pl : List MemPlace} (hv : Value.okWide Tryd.prog W r b0 24 v) (h : DataW.Trod enc Tryd.prog W base sp held 24 v dd pl) : ∃ u : Unit, VwV W v := by
  obtain ⟨cs, rfl, hsz⟩ := okWide_struct Tryd.underlying24 hv
  obtain ⟨c0, c1, c2, c3, c4, c5, rfl⟩ := array6 (hsz.trans cellsVw)
  obtain ⟨fuel, hf⟩ := h
  obtain ⟨ys, n, _, _, _, hyl, hF⟩ := DataW.trod_struct Tryd.underlying24 hf
  match ys, hyl with
  | [y0, y1, y2, y3, y4, y5], _ =>
    have f0 := hF 0 _ rfl
    have f1 := hF 1 _ rfl
    have f2 := hF 2 _ rfl
    have f3 := hF 3 _ rfl
    have f4 := hF 4 _ rfl
    have f5 := hF 5 _ rfl
    simp [Value.cells, cellsInt, cellsBo, cellsCs] at f0 f1 f2 f3 f4 f5
    obtain ⟨t0, e0, _, w0⟩ := DataW.trod_int Tryd.underlying3 f0
    obtain ⟨t1, e1, _, w1⟩ := DataW.trod_int Tryd.underlying3 f1
    obtain ⟨A, len, cap, L, rfl, hL⟩ := open_cells f2
    obtain ⟨t3, e3, _, w3⟩ := DataW.trod_int Tryd.underlying3 f3
    obtain ⟨t4, e4, _, w4⟩ := DataW.trod_int Tryd.underlying3 f4
    obtain ⟨t5, e5, _⟩ := DataW.trod_bool Tryd.underlying4 f5
    simp at e0 e1 e3 e4 e5
    subst e0 e1 e3 e4 e5
    have b0 := bounds_i64 w0
    have b1 := bounds_i64 w1
    have b3 := bounds_i64 w3
    have b4 := bounds_i64 w4
    exact ⟨(), t0, t1, A, len, cap, L, t3, t4, t5, rfl, hL, by omega, by omega, by omega, by omega⟩
set_option maxRecDepth 100000 in
theorem open_cell {H : Type} {enc : TypeId × Value → H} {W : World} {r : Reach} {b0 base : Nat} {sp : Nat → Bool} {held : Bool} {v : Value} {dd : DataW H} {pl : List MemPlace} (hv : Value.okWide Tryd.prog W r b0 88 v) (h : DataW.Trod enc Tryd.prog W base sp held 88 v dd pl) : ∃ c : Ce, v = cV c ∧ CeOk c := by
  obtain ⟨cs, rfl, hsz⟩ := okWide_struct Tryd.underlying88 hv
  obtain ⟨fuel, hf⟩ := h
  obtain ⟨c, hc, ho⟩ := open_ce (by simpa [Value.cells] using hsz.trans cellsCe) hf
  refine ⟨c, ?_, ho⟩
  have : cs = (gC c).toArray := by cases cs; simp [Value.cells] at hc; rw [hc]
  rw [this]; rfl
end Go.Proofs.YtjihcpnaebghnaaDoor
