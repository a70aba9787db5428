/-
  Proved here: what is known of a slice of law 26's calls that comes in as an argument.
-/
import Derived.Test.YtdlhpmbgpjjkoaaDoorPlM
import Derived.Deep.Slices
import Derived.Deep.Fields
set_option linter.unusedVariables false
set_option linter.unusedSimpArgs false
namespace Go.Proofs.YtdlhpmbgpjjkoaaDoor
open Go.ChangeShapes Go.WideShapes Go.ChangeAt Go.RowKit
/-- A call: its kind, and a map. -/
structure FOp where
  kd : Int
  n : Int
  c : Nat
def atFOp (l : List FOp) (i : Nat) : FOp := l.getD i ⟨0, 0, 0⟩
/-- The cells of one. -/
def cellsFOp (w : World) (b o : Nat) (x : FOp) : Prop := w.cell? ⟨b, o, none⟩ = some (.int .i64 x.kd) ∧ w.cell? ⟨b, o + 1, none⟩ = some (.int .i64 x.n) ∧ w.cell? ⟨b, o + 2, none⟩ = some (.int .u64 x.c)
structure SlFOp (w : World) (A : Option Addr) (len cap : Nat) (l : List FOp) : Prop where
  len_eq : l.length = len
  reads : 0 < l.length → ∃ b off, A = some ⟨b, off, none⟩ ∧ b < w.heap.size ∧ ∀ i, i < l.length → cellsFOp w b (off + i * 3) (atFOp l i)
  ok : ∀ i, i < l.length → (atFOp l i).c < 18446744073709551616
  le : len ≤ cap
  max : cap ≤ maxLen
theorem listFOp {P : Nat → FOp → Prop} : ∀ (n : Nat), (∀ i, i < n → ∃ f, P i f) → ∃ fs : List FOp, fs.length = n ∧ ∀ i, i < n → P i (atFOp fs i)
  | 0, _ => ⟨[], rfl, fun i h => absurd h (by omega)⟩
  | n + 1, h => by
    obtain ⟨fs, hl, hP⟩ := listFOp n (fun i hi => h i (by omega))
    obtain ⟨f, hf⟩ := h n (by omega)
    refine ⟨fs ++ [f], by simp [hl], fun i hi => ?_⟩
    rcases Nat.lt_or_ge i n with h' | h'
    · have : atFOp (fs ++ [f]) i = atFOp fs i := by simp [atFOp, List.getD, List.getElem?_append_left (show i < fs.length by omega)]
      rw [this]; exact hP i h'
    · obtain rfl : i = n := by omega
      have : atFOp (fs ++ [f]) i = f := by subst hl; simp [atFOp, List.getD]
      rw [this]; exact hf
theorem cellsOfFOp : Tryd.prog.cellsOf 40 = 3 := by kernel_rfl
theorem open_FOp {H : Type} {enc : TypeId × Value → H} {W : World} {base : Nat} {sp : Nat → Bool} {held : Bool} {fuel : Nat} {A : Option Addr} {len cap : Nat} {x : DataW H × List MemPlace}
    (h : DataW.trod enc Tryd.prog W base sp held fuel 24 [.slice A len cap] = some x) : ∃ l, SlFOp W A len cap l := by
  rcases Go.Deep.open_slice Tryd.underlying24 h with ⟨hcs, _⟩ | ⟨a, l, c, m, n, D, Pl, hcs, _, hl, hm, hmm, _, hi⟩
  · simp at hcs
    obtain ⟨rfl, rfl, rfl⟩ := hcs
    exact ⟨[], rfl, fun h => absurd h (by simp), fun i h => absurd h (by simp), Nat.le_refl _, by unfold maxLen; omega⟩
  · simp at hcs
    obtain ⟨rfl, rfl, rfl⟩ := hcs
    have hlm : len ≤ m := by rw [hmm]; split <;> omega
    have key : ∀ i, i < len → ∃ x : FOp, x.c < 18446744073709551616 ∧ W.cell? (a.add (i * 3)) = some (.int .i64 x.kd) ∧ W.cell? ((a.add (i * 3)).add 1) = some (.int .i64 x.n) ∧ W.cell? ((a.add (i * 3)).add 2) = some (.int .u64 x.c) := by
      intro i hil
      obtain ⟨cs', hc, ht⟩ := hi i (by omega)
      rw [cellsOfFOp] at hc
      obtain ⟨ys, n', _, _, _, hyl, hf⟩ := DataW.trod_struct Tryd.underlying40 ht
      obtain ⟨_, hcl, hat⟩ := World.cells?_some hc
      match cs', hcl with
      | [u0, u1, u2], _ =>
        have f0 := hf 0 _ rfl
        have f1 := hf 1 _ rfl
        match ys, hyl with
        | [y0, y1], _ =>
          simp [cellsInt, cellsMap] at f0 f1
          obtain ⟨t0, e0, _, w0⟩ := DataW.trod_int Tryd.underlying3 f0
          obtain ⟨zs, n2, _, _, _, hzl, hg⟩ := DataW.trod_struct Tryd.underlying38 f1
          have g0 := hg 0 _ rfl
          have g1 := hg 1 _ rfl
          match zs, hzl with
          | [z0, z1], _ =>
            simp [cellsInt, cellsU64] at g0 g1
            obtain ⟨t1, e1, _, w1⟩ := DataW.trod_int Tryd.underlying3 g0
            obtain ⟨t2, e2, _, w2⟩ := DataW.trod_int Tryd.underlying22 g1
            simp at e0 e1 e2
            subst e0 e1 e2
            have b2 := bounds_u64 w2
            exact ⟨⟨t0, t1, t2.toNat⟩, by show t2.toNat < 18446744073709551616; omega, (hat 0 (by omega)), (hat 1 (by omega)), (by show W.cell? _ = some (.int .u64 ((t2.toNat : Nat) : Int)); rw [show ((t2.toNat : Nat) : Int) = t2 by omega]; exact hat 2 (by omega))⟩
    obtain ⟨ps, hpl, hP⟩ := listFOp len key
    refine ⟨ps, hpl, fun hp => ?_, fun i hi => (hP i (by omega)).1, hl, hm⟩
    obtain ⟨b, off, spot⟩ := a
    obtain ⟨_, h0, _⟩ := hP 0 (by omega)
    have hs : spot = none := by simpa [Addr.add] using World.cell?_spot h0
    subst hs
    have hb : b < W.heap.size := by
      have := World.block_lt_of_cell? W _ h0
      simpa [add_plain] using this
    refine ⟨b, off, rfl, hb, fun i hi => ?_⟩
    have hq := (hP i (by omega)).2
    simp only [add_plain] at hq
    unfold cellsFOp
    exact hq
end Go.Proofs.YtdlhpmbgpjjkoaaDoor
