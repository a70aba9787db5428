/-
  Proved here: what is known of a slice of parts, and of a part, that come in as arguments: they read as lists.
-/
import Derived.Test.YtikijkhblfgbpaaOp
import Derived.Test.YtikijkhblfgbpaaFj
import Derived.Deep.Slices
import Derived.Deep.Fields
import Derived.Lib.SmallJoins
namespace Go.Proofs.Ytikijkhblfgbpaa
open Go.ChangeShapes Go.WideShapes Go.ChangeAt Go.RowKit

theorem cellsU64 : Try.prog.cellsOf 27 = 1 := by kernel_rfl
theorem cellsI64 : Try.prog.cellsOf 3 = 1 := by kernel_rfl
theorem cellsSl : Try.prog.cellsOf 28 = 1 := by kernel_rfl
theorem cellsPart : Try.prog.cellsOf 30 = 4 := by kernel_rfl
/-- A part whose numbers are of their kinds. -/
def POk1 (p : Prt) : Prop := (0 ≤ p.id ∧ p.id < 18446744073709551616) ∧ (-9223372036854775808 ≤ p.ct ∧ p.ct < 9223372036854775808) ∧ (-9223372036854775808 ≤ p.ix ∧ p.ix < 9223372036854775808)

theorem exists_plist {P : Nat → Prt → Prop} : ∀ (n : Nat), (∀ i, i < n → ∃ f, P i f) → ∃ fs : List Prt, fs.length = n ∧ ∀ i, i < n → P i (pAt fs i)
  | 0, _ => ⟨[], rfl, fun i h => absurd h (by omega)⟩
  | n + 1, h => by
    obtain ⟨fs, hl, hP⟩ := exists_plist n (fun i hi => h i (by omega))
    obtain ⟨f, hf⟩ := h n (by omega)
    refine ⟨fs ++ [f], by simp [hl], fun i hi => ?_⟩
    rcases Nat.lt_or_ge i n with h' | h'
    · have : pAt (fs ++ [f]) i = pAt fs i := by simp [pAt, List.getD, List.getElem?_append_left (show i < fs.length by omega)]
      rw [this]; exact hP i h'
    · obtain rfl : i = n := by omega
      have : pAt (fs ++ [f]) i = f := by subst hl; simp [pAt, List.getD]
      rw [this]; exact hf

theorem open_data {H : Type} {enc : TypeId × Value → H} {W : World} {base : Nat} {sp : Nat → Bool} {held : Bool} {fuel : Nat} {v : Value} {x : DataW H × List MemPlace}
    (h : DataW.trod enc Try.prog W base sp held fuel 28 [v] = some x) : ∃ A c d, v = .slice A d.length c ∧ Sl W A d.length c d := by
  have hv : ∃ A len cap, v = .slice A len cap := by
    rcases open_ints Try.underlying28 Try.underlying5 cellsByte h with ⟨hcs, _⟩ | ⟨a, l, c, zs, hcs, _⟩
    · exact ⟨_, _, _, by simpa using hcs⟩
    · exact ⟨_, _, _, by simpa using hcs⟩
  obtain ⟨A, len, cap, rfl⟩ := hv
  obtain ⟨bs, sl⟩ := open_bytes h
  have hl := sl.len_eq
  subst hl
  exact ⟨A, cap, bs, rfl, sl⟩

theorem int_bd {a : Int} (h : (Lit.int .i64 a).wf = true) : -9223372036854775808 ≤ a ∧ a < 9223372036854775808 := by
  have := bounds_i64 h
  omega
theorem u64_bd {a : Int} (h : (Lit.int .u64 a).wf = true) : 0 ≤ a ∧ a < 18446744073709551616 := by
  have := bounds_u64 h
  omega

/-- What is known of a slice of parts. -/
structure SlP (w : World) (A : Option Addr) (len cap : Nat) (ps : List Prt) : Prop where
  len_eq : ps.length = len
  reads : PS w w.heap.size A ps
  ok : POk ps
  bytes : ∀ i, i < ps.length → Bytes (pAt ps i).d
  le : len ≤ cap
  max : cap ≤ maxLen
  nil : A = none → cap = 0

set_option maxRecDepth 100000 in
theorem open_parts {H : Type} {enc : TypeId × Value → H} {W : World} {base : Nat} {sp : Nat → Bool} {held : Bool} {fuel : Nat} {A : Option Addr} {len cap : Nat} {x : DataW H × List MemPlace}
    (h : DataW.trod enc Try.prog W base sp held fuel 22 [.slice A len cap] = some x) : ∃ ps, SlP W A len cap ps := by
  rcases Go.Deep.open_slice Try.underlying22 h with ⟨hcs, _⟩ | ⟨a, l, c, m, n, D, Pl, hcs, _, hl, hm, hmm, _, hi⟩
  · simp at hcs
    obtain ⟨rfl, rfl, rfl⟩ := hcs
    exact ⟨[], rfl, fun h => absurd h (by simp), fun i h => absurd h (by simp), fun i h => absurd h (by simp), Nat.le_refl _, by unfold maxLen; omega, fun _ => rfl⟩
  · simp at hcs
    obtain ⟨rfl, rfl, rfl⟩ := hcs
    have hlm : len ≤ m := by rw [hmm]; split <;> omega
    have key : ∀ i, i < len → ∃ p : Prt, (POk1 p ∧ Bytes p.d) ∧ W.cell? (a.add (i * 4)) = some (.int .u64 p.id) ∧ W.cell? ((a.add (i * 4)).add 1) = some (.int .i64 p.ix) ∧ W.cell? ((a.add (i * 4)).add 2) = some (.int .i64 p.ct) ∧ ∃ A' c', W.cell? ((a.add (i * 4)).add 3) = some (.slice A' p.d.length c') ∧ Sl W A' p.d.length c' p.d := by
      intro i hil
      obtain ⟨cs', hc, ht⟩ := hi i (by omega)
      rw [cellsPart] at hc
      obtain ⟨ys, n', _, _, _, hyl, hf⟩ := DataW.trod_struct Try.underlying30 ht
      obtain ⟨_, hcl, hat⟩ := World.cells?_some hc
      match cs', hcl with
      | [u, v, s, d], _ =>
        have f0 := hf 0 _ rfl
        have f1 := hf 1 _ rfl
        have f2 := hf 2 _ rfl
        have f3 := hf 3 _ rfl
        match ys, hyl with
        | [y0, y1, y2, y3], _ =>
          simp [cellsU64, cellsI64] at f0 f1 f2 f3
          obtain ⟨t0, hu, _, w0⟩ := DataW.trod_int Try.underlying27 (by simpa [cellsU64, cellsI64, cellsSl] using f0)
          obtain ⟨t1, hv, _, w1⟩ := DataW.trod_int Try.underlying3 (by simpa [cellsU64, cellsI64, cellsSl] using f1)
          obtain ⟨t2, hs, _, w2⟩ := DataW.trod_int Try.underlying3 (by simpa [cellsU64, cellsI64, cellsSl] using f2)
          obtain ⟨A', c', dd, hd, sl⟩ := open_data (v := d) (by simpa [cellsU64, cellsI64, cellsSl] using f3)
          have hu' : u = .int .u64 t0 := by simpa using hu
          have hv' : v = .int .i64 t1 := by simpa using hv
          have hs' : s = .int .i64 t2 := by simpa using hs
          subst hu' hv' hs' hd
          have c0 := hat 0 (by omega)
          have c1 := hat 1 (by omega)
          have c2 := hat 2 (by omega)
          have c3 := hat 3 (by omega)
          exact ⟨⟨t0, t1, t2, dd⟩, ⟨⟨u64_bd w0, int_bd w2, int_bd w1⟩, sl.bytes⟩, c0, c1, c2, A', c', c3, sl⟩
    obtain ⟨ps, hpl, hP⟩ := exists_plist len key
    refine ⟨ps, hpl, fun hp => ?_, fun i hi => ?_, fun i hi => ?_, hl, hm, fun h => by cases h⟩
    · obtain ⟨b, off, spot⟩ := a
      have h0 := (hP 0 (by omega)).2.1
      have hs : spot = none := by simpa [Addr.add] using World.cell?_spot h0
      subst hs
      have hb : b < W.heap.size := by
        have := World.block_lt_of_cell? W _ h0
        rw [add_plain] at this
        exact this
      refine ⟨b, off, rfl, hb, fun i hi => ?_⟩
      obtain ⟨_, h0, h1, h2, A', c', h3, sl⟩ := hP i (by omega)
      rw [add_plain] at h0 h1 h2 h3
      rw [add_plain] at h1 h2 h3
      exact ⟨h0, h1, h2, A', c', h3, sl.reads, sl.le, sl.max, sl.nil⟩
    · exact (hP i (by omega)).1.1
    · exact (hP i (by omega)).1.2

/-- What is known of a part. -/
structure Sl1 (w : World) (A : Option Addr) (c : Nat) (p : Prt) : Prop where
  ok : POk1 p
  data : Sl w A p.d.length c p.d
theorem open_part {H : Type} {enc : TypeId × Value → H} {W : World} {r : Reach} {b0 base : Nat} {sp : Nat → Bool} {held : Bool} {v : Value} {dd : DataW H} {pl : List MemPlace} (hv : Value.okWide Try.prog W r b0 30 v) (h : DataW.Trod enc Try.prog W base sp held 30 v dd pl) :
    ∃ (p : Prt) (A : Option Addr) (c : Nat), v = PV p.id p.ix p.ct A p.d.length c ∧ Sl1 W A c p := by
  obtain ⟨c0, c1, c2, c3, y0, y1, y2, y3, n, rfl, _, _, hy0, hy1, hy2, hy3⟩ := Go.Joins.open_agg4 Try.underlying30 (by kernel_rfl) cellsPart hv h
  obtain ⟨t0, e0, _, w0⟩ := DataW.trod_int Try.underlying27 hy0
  obtain ⟨t1, e1, _, w1⟩ := DataW.trod_int Try.underlying3 hy1
  obtain ⟨t2, e2, _, w2⟩ := DataW.trod_int Try.underlying3 hy2
  obtain ⟨A, c, d, hd, sl⟩ := open_data hy3
  have hc0 : c0 = .int .u64 t0 := by simpa using e0
  have hc1 : c1 = .int .i64 t1 := by simpa using e1
  have hc2 : c2 = .int .i64 t2 := by simpa using e2
  subst hc0 hc1 hc2 hd
  exact ⟨⟨t0, t1, t2, d⟩, A, c, rfl, ⟨u64_bd w0, int_bd w2, int_bd w1⟩, sl⟩
end Go.Proofs.Ytikijkhblfgbpaa
