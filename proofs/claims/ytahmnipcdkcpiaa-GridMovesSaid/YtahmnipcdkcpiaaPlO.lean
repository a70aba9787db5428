/-
  Proved here: what is known of a slice of what is done to a grid, as an argument.
-/
import Derived.Test.YtahmnipcdkcpiaaPlG
import Derived.OpenShut
import Derived.ChangeOld
import Derived.Deep.Slices
set_option linter.unusedVariables false
set_option linter.unusedSimpArgs false
namespace Go.Proofs.Ytahmnipcdkcpiaa
open Go.ChangeShapes Go.WideShapes Go.ChangeAt Go.RowKit
/-- What is done to a grid. -/
structure Opn where
  kd : Int
  a : Int
  b : Int
  n : Int
  p : Int
  f : Int
  g : Int
  k : Int
def opZ : Opn := ⟨0, 0, 0, 0, 0, 0, 0, 0⟩
def opAt (zs : List Opn) (i : Nat) : Opn := zs.getD i opZ
def opL (o : Opn) : List Value := [.int .i64 o.kd, .int .i64 o.a, .int .i64 o.b, .int .i64 o.n, .int .i32 o.p, .int .u8 o.f, .int .u32 o.g, .int .u32 o.k]
theorem exists_olist {P : Nat → Opn → Prop} : ∀ (n : Nat), (∀ i, i < n → ∃ f, P i f) → ∃ fs : List Opn, fs.length = n ∧ ∀ i, i < n → P i (opAt fs i)
  | 0, _ => ⟨[], rfl, fun i h => absurd h (by omega)⟩
  | n + 1, h => by
    obtain ⟨fs, hl, hP⟩ := exists_olist n (fun i hi => h i (by omega))
    obtain ⟨f, hf⟩ := h n (by omega)
    refine ⟨fs ++ [f], by simp [hl], fun i hi => ?_⟩
    rcases Nat.lt_or_ge i n with h' | h'
    · have : opAt (fs ++ [f]) i = opAt fs i := by simp [opAt, List.getD, List.getElem?_append_left (show i < fs.length by omega)]
      rw [this]; exact hP i h'
    · obtain rfl : i = n := by omega
      have : opAt (fs ++ [f]) i = f := by subst hl; simp [opAt, List.getD]
      rw [this]; exact hf
/-- What is known of a slice of what is done. -/
structure SlO (w : World) (A : Option Addr) (len cap : Nat) (zs : List Opn) : Prop where
  len_eq : zs.length = len
  reads : 0 < len → ∃ b off, A = some ⟨b, off, none⟩ ∧ b < w.heap.size ∧ ∀ i, i < len → ∀ j v, (opL (opAt zs i))[j]? = some v → w.cell? ⟨b, off + i * 8 + j, none⟩ = some v
  ok : ∀ i, i < len → 0 ≤ (opAt zs i).f ∧ (opAt zs i).f < 256
  le : len ≤ cap
  max : cap ≤ maxLen
theorem SlO.below {w W : World} {A : Option Addr} {len cap : Nat} {zs : List Opn} (h : SlO w A len cap zs) (hb : Below w.heap.size w W) : SlO W A len cap zs :=
  ⟨h.len_eq, fun hp => by
    obtain ⟨b, off, e, hlt, hr⟩ := h.reads hp
    exact ⟨b, off, e, Nat.lt_of_lt_of_le hlt hb.size, fun i hi j v hv => (hb.cell (p := ⟨b, off + i * 8 + j, none⟩) hlt).trans (hr i hi j v hv)⟩, h.ok, h.le, h.max⟩
theorem u8_bd {a : Int} (h : (Lit.int .u8 a).wf = true) : 0 ≤ a ∧ a < 256 := by
  have := bounds_u8 h
  omega
set_option maxRecDepth 100000 in
theorem open_ops {H : Type} {enc : TypeId × Value → H} {W : World} {base : Nat} {sp : Nat → Bool} {held : Bool} {fuel : Nat} {A : Option Addr} {len cap : Nat} {x : DataW H × List MemPlace}
    (h : DataW.trod enc Try.prog W base sp held fuel 22 [.slice A len cap] = some x) : ∃ zs, SlO W A len cap zs := by
  rcases Go.Deep.open_slice Try.underlying22 h with ⟨hcs, _⟩ | ⟨a, l, c, m, n, D, Pl, hcs, _, hl, hm, hmm, _, hi⟩
  · simp at hcs
    obtain ⟨rfl, rfl, rfl⟩ := hcs
    exact ⟨[], rfl, fun h => absurd h (by simp), fun i h => absurd h (by simp), Nat.le_refl _, by unfold maxLen; omega⟩
  · simp at hcs
    obtain ⟨rfl, rfl, rfl⟩ := hcs
    have hlm : len ≤ m := by rw [hmm]; split <;> omega
    have key : ∀ i, i < len → ∃ o : Opn, (0 ≤ o.f ∧ o.f < 256) ∧ ∀ j v, (opL o)[j]? = some v → W.cell? ((a.add (i * 8)).add j) = some v := by
      intro i hil
      obtain ⟨cs', hc, ht⟩ := hi i (by omega)
      rw [cellsOp] at hc
      obtain ⟨ys, n', _, _, _, hyl, hf⟩ := DataW.trod_struct Try.underlying41 ht
      obtain ⟨_, hcl, hat⟩ := World.cells?_some hc
      match cs', hcl with
      | [c0, c1, c2, c3, c4, c5, c6, c7], _ =>
        match ys, hyl with
        | [y0, y1, y2, y3, y4], _ =>
          have f0 := hf 0 _ rfl
          have f1 := hf 1 _ rfl
          have f2 := hf 2 _ rfl
          have f3 := hf 3 _ rfl
          have f4 := hf 4 _ rfl
          simp [cellsI, cellsI32, cellsU8, cellsU32, cellsCe, cellsSt] at f0 f1 f2 f3 f4
          obtain ⟨t0, e0, _, w0⟩ := DataW.trod_int Try.underlying3 f0
          obtain ⟨t1, e1, _, w1⟩ := DataW.trod_int Try.underlying3 f1
          obtain ⟨t2, e2, _, w2⟩ := DataW.trod_int Try.underlying3 f2
          obtain ⟨t3, e3, _, w3⟩ := DataW.trod_int Try.underlying3 f3
          obtain ⟨zs, n', _, _, _, hzl, hG⟩ := DataW.trod_struct Try.underlying39 f4
          match zs, hzl with
          | [z0, z1], _ =>
            have g0 := hG 0 _ rfl
            have g1 := hG 1 _ rfl
            simp [cellsI, cellsI32, cellsU8, cellsU32, cellsCe, cellsSt] at g0 g1
            obtain ⟨t4, e4, _, w4⟩ := DataW.trod_int Try.underlying21 g0
            obtain ⟨qs, n'', _, _, _, hql, hQ⟩ := DataW.trod_struct Try.underlying37 g1
            match qs, hql with
            | [q0, q1, q2], _ =>
              have k0 := hQ 0 _ rfl
              have k1 := hQ 1 _ rfl
              have k2 := hQ 2 _ rfl
              simp [cellsI, cellsI32, cellsU8, cellsU32, cellsCe, cellsSt] at k0 k1 k2
              obtain ⟨t5, e5, _, w5⟩ := DataW.trod_int Try.underlying5 k0
              obtain ⟨t6, e6, _, w6⟩ := DataW.trod_int Try.underlying35 k1
              obtain ⟨t7, e7, _, w7⟩ := DataW.trod_int Try.underlying35 k2
              simp at e0 e1 e2 e3 e4 e5 e6 e7
              subst e0 e1 e2 e3 e4 e5 e6 e7
              refine ⟨⟨t0, t1, t2, t3, t4, t5, t6, t7⟩, u8_bd w5, fun j v hv => ?_⟩
              have hj : j < 8 := (List.getElem?_eq_some_iff.1 hv).1
              have := hat j (by simpa using hj)
              rw [show [Value.int .i64 t0, .int .i64 t1, .int .i64 t2, .int .i64 t3, .int .i32 t4, .int .u8 t5, .int .u32 t6, .int .u32 t7][j]? = some v from hv] at this
              exact this
    obtain ⟨zs, hzl, hP⟩ := exists_olist len key
    refine ⟨zs, hzl, fun hp => ?_, fun i hi => (hP i hi).1, hl, hm⟩
    obtain ⟨b, off, spot⟩ := a
    have h0 := (hP 0 (by omega)).2 0 _ rfl
    have hs : spot = none := by simpa [Addr.add] using World.cell?_spot h0
    subst hs
    have hb : b < W.heap.size := by
      have := World.block_lt_of_cell? W _ h0
      rw [add_plain] at this
      exact this
    refine ⟨b, off, rfl, hb, fun i hi j v hv => ?_⟩
    have h1 := (hP i hi).2 j v hv
    rw [add_plain, add_plain] at h1
    exact h1
end Go.Proofs.Ytahmnipcdkcpiaa
