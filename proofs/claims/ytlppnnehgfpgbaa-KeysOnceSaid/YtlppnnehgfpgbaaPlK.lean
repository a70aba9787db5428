/-
  Proved here: what is known of slices of calls and of steps that come in as arguments.
-/
import Derived.Test.YtlppnnehgfpgbaaPlC
import Derived.Deep.Slices
import Derived.Deep.Fields
import Derived.Lib.SmallJoins
set_option linter.unusedVariables false
set_option linter.unusedSimpArgs false
namespace Go.Proofs.Ytlppnnehgfpgbaa
open Go.ChangeShapes Go.WideShapes Go.ChangeAt Go.RowKit
theorem cellsU64k : Try.prog.cellsOf 29 = 1 := by kernel_rfl
theorem cellsI64k : Try.prog.cellsOf 3 = 1 := by kernel_rfl
theorem cellsSlk : Try.prog.cellsOf 28 = 1 := by kernel_rfl
theorem cellsU8k : Try.prog.cellsOf 5 = 1 := by kernel_rfl
theorem cellsBk : Try.prog.cellsOf 4 = 1 := by kernel_rfl
theorem open_dataK {H : Type} {enc : TypeId × Value → H} {W : World} {base : Nat} {sp : Nat → Bool} {held : Bool} {fuel : Nat} {v : Value} {x : DataW H × List MemPlace}
    (h : DataW.trod enc Try.prog W base sp held fuel 28 [v] = some x) : ∃ A c d, v = .slice A d.length c ∧ SlI .u8 W A d.length c d := by
  have hv : ∃ A len cap, v = .slice A len cap := by
    rcases open_ints Try.underlying28 Try.underlying5 cellsU8k h with ⟨hcs, _⟩ | ⟨a, l, c, zs, hcs, _⟩
    · exact ⟨_, _, _, by simpa using hcs⟩
    · exact ⟨_, _, _, by simpa using hcs⟩
  obtain ⟨A, len, cap, rfl⟩ := hv
  obtain ⟨bs, sl⟩ := open_slI Try.underlying28 Try.underlying5 (by kernel_rfl) h
  have hl := sl.len_eq
  subst hl
  exact ⟨A, cap, bs, rfl, sl⟩
/-- An element of a slice of KOp. -/
structure KOp where
  kd : Int
  n : Nat
  d : List Int
def atKOp (l : List KOp) (i : Nat) : KOp := l.getD i ⟨0, 0, []⟩
/-- The cells of one. -/
def cellsKOp (w : World) (b o : Nat) (x : KOp) : Prop := w.cell? ⟨b, o, none⟩ = some (.int .i64 x.kd) ∧ w.cell? ⟨b, o + 1, none⟩ = some (.int .u64 x.n) ∧ ∃ A c, w.cell? ⟨b, o + 2, none⟩ = some (.slice A x.d.length c) ∧ SlI .u8 w A x.d.length c x.d
structure SlKOp (w : World) (A : Option Addr) (len cap : Nat) (l : List KOp) : Prop where
  len_eq : l.length = len
  reads : 0 < l.length → ∃ b off, A = some ⟨b, off, none⟩ ∧ b < w.heap.size ∧ ∀ i, i < l.length → cellsKOp w b (off + i * 3) (atKOp l i)
  ok : ∀ i, i < l.length → (fun x : KOp => (-9223372036854775808 ≤ x.kd ∧ x.kd ≤ 9223372036854775807) ∧ x.n < 18446744073709551616) (atKOp l i)
  le : len ≤ cap
  max : cap ≤ maxLen
  nil : A = none → cap = 0
theorem listKOp {P : Nat → KOp → Prop} : ∀ (n : Nat), (∀ i, i < n → ∃ f, P i f) → ∃ fs : List KOp, fs.length = n ∧ ∀ i, i < n → P i (atKOp fs i)
  | 0, _ => ⟨[], rfl, fun i h => absurd h (by omega)⟩
  | n + 1, h => by
    obtain ⟨fs, hl, hP⟩ := listKOp n (fun i hi => h i (by omega))
    obtain ⟨f, hf⟩ := h n (by omega)
    refine ⟨fs ++ [f], by simp [hl], fun i hi => ?_⟩
    rcases Nat.lt_or_ge i n with h' | h'
    · have : atKOp (fs ++ [f]) i = atKOp fs i := by simp [atKOp, List.getD, List.getElem?_append_left (show i < fs.length by omega)]
      rw [this]; exact hP i h'
    · obtain rfl : i = n := by omega
      have : atKOp (fs ++ [f]) i = f := by subst hl; simp [atKOp, List.getD]
      rw [this]; exact hf
theorem cellsOfKOp : Try.prog.cellsOf 33 = 3 := by kernel_rfl
theorem open_KOp {H : Type} {enc : TypeId × Value → H} {W : World} {base : Nat} {sp : Nat → Bool} {held : Bool} {fuel : Nat} {A : Option Addr} {len cap : Nat} {x : DataW H × List MemPlace}
    (h : DataW.trod enc Try.prog W base sp held fuel 22 [.slice A len cap] = some x) : ∃ l, SlKOp W A len cap l := by
  rcases Go.Deep.open_slice Try.underlying22 h with ⟨hcs, _⟩ | ⟨a, l, c, m, n, D, Pl, hcs, _, hl, hm, hmm, _, hi⟩
  · simp at hcs
    obtain ⟨rfl, rfl, rfl⟩ := hcs
    exact ⟨[], rfl, fun h => absurd h (by simp), fun i h => absurd h (by simp), Nat.le_refl _, by unfold maxLen; omega, fun _ => rfl⟩
  · simp at hcs
    obtain ⟨rfl, rfl, rfl⟩ := hcs
    have hlm : len ≤ m := by rw [hmm]; split <;> omega
    have key : ∀ i, i < len → ∃ x : KOp, ((-9223372036854775808 ≤ x.kd ∧ x.kd ≤ 9223372036854775807) ∧ x.n < 18446744073709551616) ∧ W.cell? (a.add (i * 3)) = some (.int .i64 x.kd) ∧ W.cell? ((a.add (i * 3)).add 1) = some (.int .u64 x.n) ∧ ∃ A' c', W.cell? ((a.add (i * 3)).add 2) = some (.slice A' x.d.length c') ∧ SlI .u8 W A' x.d.length c' x.d := by
      intro i hil
      obtain ⟨cs', hc, ht⟩ := hi i (by omega)
      rw [cellsOfKOp] at hc
      obtain ⟨ys, n', _, _, _, hyl, hf⟩ := DataW.trod_struct Try.underlying33 ht
      obtain ⟨_, hcl, hat⟩ := World.cells?_some hc
      match cs', hcl with
      | [u0, u1, u2], _ =>
        have f0 := hf 0 _ rfl
        have f1 := hf 1 _ rfl
        have f2 := hf 2 _ rfl
        match ys, hyl with
        | [y0, y1, y2], _ =>
          obtain ⟨t0, e0, _, w0⟩ := DataW.trod_int Try.underlying3 (by simpa [cellsU64k, cellsI64k, cellsSlk, cellsU8k, cellsBk] using f0)
          have e0' : u0 = .int .i64 t0 := by simpa using e0
          subst e0'
          have b0 := bounds_i64 w0
          obtain ⟨t1, e1, _, w1⟩ := DataW.trod_int Try.underlying29 (by simpa [cellsU64k, cellsI64k, cellsSlk, cellsU8k, cellsBk] using f1)
          have e1' : u1 = .int .u64 t1 := by simpa using e1
          subst e1'
          have b1 := bounds_u64 w1
          obtain ⟨A', c', dd, hd, sl⟩ := open_dataK (v := u2) (by simpa [cellsU64k, cellsI64k, cellsSlk, cellsU8k, cellsBk] using f2)
          subst hd
          exact ⟨⟨t0, t1.toNat, dd⟩, ⟨⟨b0.1, b0.2⟩, by show t1.toNat < 18446744073709551616; omega⟩, (hat 0 (by omega)), (by show W.cell? _ = some (.int .u64 ((t1.toNat : Nat) : Int)); rw [show ((t1.toNat : Nat) : Int) = t1 by omega]; exact hat 1 (by omega)), A', c', (hat 2 (by omega)), sl⟩
    obtain ⟨ps, hpl, hP⟩ := listKOp len key
    refine ⟨ps, hpl, fun hp => ?_, fun i hi => ?_, hl, hm, fun h => by cases h⟩
    · obtain ⟨b, off, spot⟩ := a
      obtain ⟨_, h0, _⟩ := hP 0 (by omega)
      have hs : spot = none := by simpa [Addr.add] using World.cell?_spot h0
      subst hs
      have hb : b < W.heap.size := by
        have := World.block_lt_of_cell? W _ h0
        simpa [add_plain] using this
      refine ⟨b, off, rfl, hb, fun i hi => ?_⟩
      have hq := (hP i (by omega)).2
      simp only [add_plain] at hq
      unfold cellsKOp
      exact hq
    · exact (hP i (by omega)).1
/-- An element of a slice of KStep. -/
structure KStep where
  d : List Int
  send : Bool
  back : Bool
  comes : Nat
def atKStep (l : List KStep) (i : Nat) : KStep := l.getD i ⟨[], false, false, 0⟩
/-- The cells of one. -/
def cellsKStep (w : World) (b o : Nat) (x : KStep) : Prop := w.cell? ⟨b, o + 1, none⟩ = some (.bool x.send) ∧ w.cell? ⟨b, o + 2, none⟩ = some (.bool x.back) ∧ w.cell? ⟨b, o + 3, none⟩ = some (.int .u8 x.comes) ∧ ∃ A c, w.cell? ⟨b, o, none⟩ = some (.slice A x.d.length c) ∧ SlI .u8 w A x.d.length c x.d
structure SlKStep (w : World) (A : Option Addr) (len cap : Nat) (l : List KStep) : Prop where
  len_eq : l.length = len
  reads : 0 < l.length → ∃ b off, A = some ⟨b, off, none⟩ ∧ b < w.heap.size ∧ ∀ i, i < l.length → cellsKStep w b (off + i * 4) (atKStep l i)
  ok : ∀ i, i < l.length → (fun x : KStep => x.comes < 256) (atKStep l i)
  le : len ≤ cap
  max : cap ≤ maxLen
  nil : A = none → cap = 0
theorem listKStep {P : Nat → KStep → Prop} : ∀ (n : Nat), (∀ i, i < n → ∃ f, P i f) → ∃ fs : List KStep, fs.length = n ∧ ∀ i, i < n → P i (atKStep fs i)
  | 0, _ => ⟨[], rfl, fun i h => absurd h (by omega)⟩
  | n + 1, h => by
    obtain ⟨fs, hl, hP⟩ := listKStep n (fun i hi => h i (by omega))
    obtain ⟨f, hf⟩ := h n (by omega)
    refine ⟨fs ++ [f], by simp [hl], fun i hi => ?_⟩
    rcases Nat.lt_or_ge i n with h' | h'
    · have : atKStep (fs ++ [f]) i = atKStep fs i := by simp [atKStep, List.getD, List.getElem?_append_left (show i < fs.length by omega)]
      rw [this]; exact hP i h'
    · obtain rfl : i = n := by omega
      have : atKStep (fs ++ [f]) i = f := by subst hl; simp [atKStep, List.getD]
      rw [this]; exact hf
theorem cellsOfKStep : Try.prog.cellsOf 53 = 4 := by kernel_rfl
theorem open_KStep {H : Type} {enc : TypeId × Value → H} {W : World} {base : Nat} {sp : Nat → Bool} {held : Bool} {fuel : Nat} {A : Option Addr} {len cap : Nat} {x : DataW H × List MemPlace}
    (h : DataW.trod enc Try.prog W base sp held fuel 49 [.slice A len cap] = some x) : ∃ l, SlKStep W A len cap l := by
  rcases Go.Deep.open_slice Try.underlying49 h with ⟨hcs, _⟩ | ⟨a, l, c, m, n, D, Pl, hcs, _, hl, hm, hmm, _, hi⟩
  · simp at hcs
    obtain ⟨rfl, rfl, rfl⟩ := hcs
    exact ⟨[], rfl, fun h => absurd h (by simp), fun i h => absurd h (by simp), Nat.le_refl _, by unfold maxLen; omega, fun _ => rfl⟩
  · simp at hcs
    obtain ⟨rfl, rfl, rfl⟩ := hcs
    have hlm : len ≤ m := by rw [hmm]; split <;> omega
    have key : ∀ i, i < len → ∃ x : KStep, (x.comes < 256) ∧ W.cell? ((a.add (i * 4)).add 1) = some (.bool x.send) ∧ W.cell? ((a.add (i * 4)).add 2) = some (.bool x.back) ∧ W.cell? ((a.add (i * 4)).add 3) = some (.int .u8 x.comes) ∧ ∃ A' c', W.cell? (a.add (i * 4)) = some (.slice A' x.d.length c') ∧ SlI .u8 W A' x.d.length c' x.d := by
      intro i hil
      obtain ⟨cs', hc, ht⟩ := hi i (by omega)
      rw [cellsOfKStep] at hc
      obtain ⟨ys, n', _, _, _, hyl, hf⟩ := DataW.trod_struct Try.underlying53 ht
      obtain ⟨_, hcl, hat⟩ := World.cells?_some hc
      match cs', hcl with
      | [u0, u1, u2, u3], _ =>
        have f0 := hf 0 _ rfl
        have f1 := hf 1 _ rfl
        have f2 := hf 2 _ rfl
        have f3 := hf 3 _ rfl
        match ys, hyl with
        | [y0, y1, y2, y3], _ =>
          obtain ⟨A', c', dd, hd, sl⟩ := open_dataK (v := u0) (by simpa [cellsU64k, cellsI64k, cellsSlk, cellsU8k, cellsBk] using f0)
          subst hd
          obtain ⟨t1, e1, _⟩ := DataW.trod_bool Try.underlying4 (by simpa [cellsU64k, cellsI64k, cellsSlk, cellsU8k, cellsBk] using f1)
          have e1' : u1 = .bool t1 := by simpa using e1
          subst e1'
          obtain ⟨t2, e2, _⟩ := DataW.trod_bool Try.underlying4 (by simpa [cellsU64k, cellsI64k, cellsSlk, cellsU8k, cellsBk] using f2)
          have e2' : u2 = .bool t2 := by simpa using e2
          subst e2'
          obtain ⟨t3, e3, _, w3⟩ := DataW.trod_int Try.underlying5 (by simpa [cellsU64k, cellsI64k, cellsSlk, cellsU8k, cellsBk] using f3)
          have e3' : u3 = .int .u8 t3 := by simpa using e3
          subst e3'
          have b3 := bounds_u8 w3
          exact ⟨⟨dd, t1, t2, t3.toNat⟩, (by show t3.toNat < 256; omega), (hat 1 (by omega)), (hat 2 (by omega)), (by show W.cell? _ = some (.int .u8 ((t3.toNat : Nat) : Int)); rw [show ((t3.toNat : Nat) : Int) = t3 by omega]; exact hat 3 (by omega)), A', c', (hat 0 (by omega)), sl⟩
    obtain ⟨ps, hpl, hP⟩ := listKStep len key
    refine ⟨ps, hpl, fun hp => ?_, fun i hi => ?_, hl, hm, fun h => by cases h⟩
    · obtain ⟨b, off, spot⟩ := a
      obtain ⟨_, _, _, _, _, _, h0, _⟩ := hP 0 (by omega)
      have hs : spot = none := by simpa [Addr.add] using World.cell?_spot h0
      subst hs
      have hb : b < W.heap.size := by
        have := World.block_lt_of_cell? W _ h0
        simpa [add_plain] using this
      refine ⟨b, off, rfl, hb, fun i hi => ?_⟩
      have hq := (hP i (by omega)).2
      simp only [add_plain] at hq
      unfold cellsKStep
      exact hq
    · exact (hP i (by omega)).1
end Go.Proofs.Ytlppnnehgfpgbaa
