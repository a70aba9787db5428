/-
  Proved here: what is known of a slice of fields, and of a slice of numbers, that come in as arguments: they read as lists.
-/
import Derived.Test.YtdhnhpcmfbiieaaDoorVOpen
import Derived.Test.YtdhnhpcmfbiieaaDoorVBack
import Derived.Deep.Slices
import Derived.Deep.Fields
namespace Go.Proofs.YtdhnhpcmfbiieaaDoor
open Go.ChangeShapes Go.WideShapes Go.ChangeAt Go.RowKit

theorem cellsU64 : Tryd.prog.cellsOf 22 = 1 := by kernel_rfl
theorem cellsSl : Tryd.prog.cellsOf 23 = 1 := by kernel_rfl
theorem cellsFld : Tryd.prog.cellsOf 54 = 2 := by kernel_rfl

theorem exists_list {P : Nat → Fld → Prop} : ∀ (n : Nat), (∀ i, i < n → ∃ f, P i f) → ∃ fs : List Fld, fs.length = n ∧ ∀ i, i < n → P i (fAt fs i)
  | 0, _ => ⟨[], rfl, fun i h => absurd h (by omega)⟩
  | n + 1, h => by
    obtain ⟨fs, hl, hP⟩ := exists_list n (fun i hi => h i (by omega))
    obtain ⟨f, hf⟩ := h n (by omega)
    refine ⟨fs ++ [f], by simp [hl], fun i hi => ?_⟩
    rcases Nat.lt_or_ge i n with h' | h'
    · have : fAt (fs ++ [f]) i = fAt fs i := by simp [fAt, List.getD, List.getElem?_append_left (show i < fs.length by omega)]
      rw [this]; exact hP i h'
    · obtain rfl : i = n := by omega
      have : fAt (fs ++ [f]) i = f := by subst hl; simp [fAt, List.getD]
      rw [this]; exact hf

theorem open_dval {H : Type} {enc : TypeId × Value → H} {W : World} {base : Nat} {sp : Nat → Bool} {held : Bool} {fuel : Nat} {v : Value} {x : DataW H × List MemPlace}
    (h : DataW.trod enc Tryd.prog W base sp held fuel 23 [v] = some x) : ∃ d, DVal W W.heap.size v d ∧ Bytes d := by
  have hv : ∃ A len cap, v = .slice A len cap := by
    rcases open_ints Tryd.underlying23 Tryd.underlying5 cellsByte h with ⟨hcs, _⟩ | ⟨a, l, c, zs, hcs, _⟩
    · exact ⟨_, _, _, by simpa using hcs⟩
    · exact ⟨_, _, _, by simpa using hcs⟩
  obtain ⟨A, len, cap, rfl⟩ := hv
  obtain ⟨bs, sl⟩ := open_bytes h
  have hl := sl.len_eq
  subst hl
  exact ⟨bs, ⟨A, cap, rfl, sl.reads, sl.le, sl.max, sl.nil⟩, sl.bytes⟩

/-- What is known of a slice of fields. -/
structure SlF (w : World) (A : Option Addr) (len cap : Nat) (fs : List Fld) : Prop where
  len_eq : fs.length = len
  reads : FS w w.heap.size A fs
  ok : FOk fs
  le : len ≤ cap
  max : cap ≤ maxLen
  nil : A = none → cap = 0

theorem open_fields {H : Type} {enc : TypeId × Value → H} {W : World} {base : Nat} {sp : Nat → Bool} {held : Bool} {fuel : Nat} {A : Option Addr} {len cap : Nat} {x : DataW H × List MemPlace}
    (h : DataW.trod enc Tryd.prog W base sp held fuel 36 [.slice A len cap] = some x) : ∃ fs, SlF W A len cap fs := by
  rcases Go.Deep.open_slice Tryd.underlying36 h with ⟨hcs, _⟩ | ⟨a, l, c, m, n, D, Pl, hcs, _, hl, hm, hmm, _, hi⟩
  · simp at hcs
    obtain ⟨rfl, rfl, rfl⟩ := hcs
    exact ⟨[], rfl, fun h => absurd h (by simp), fun f hf => by simp at hf, Nat.le_refl _, by unfold maxLen; omega, fun _ => rfl⟩
  · simp at hcs
    obtain ⟨rfl, rfl, rfl⟩ := hcs
    have hlm : len ≤ m := by rw [hmm]; split <;> omega
    have key : ∀ i, i < len → ∃ f : Fld, (0 ≤ f.1 ∧ f.1 < 256 ∧ Bytes f.2) ∧ W.cell? (a.add (i * 2)) = some (.int .u8 f.1) ∧ ∃ v, W.cell? ((a.add (i * 2)).add 1) = some v ∧ DVal W W.heap.size v f.2 := by
      intro i hil
      obtain ⟨cs', hc, ht⟩ := hi i (by omega)
      rw [cellsFld] at hc
      obtain ⟨ys, n', _, _, _, hyl, hf⟩ := DataW.trod_struct Tryd.underlying54 ht
      obtain ⟨_, hcl, hat⟩ := World.cells?_some hc
      match cs', hcl with
      | [u, v], _ =>
        have f0 := hf 0 _ rfl
        have f1 := hf 1 _ rfl
        match ys, hyl with
        | [y0, y1], _ =>
          simp at f0 f1
          rw [cellsByte] at f0
          rw [cellsSl] at f1
          obtain ⟨t, hu, _, wt⟩ := DataW.trod_int Tryd.underlying5 f0
          obtain ⟨d, hd, hB⟩ := open_dval (v := v) f1
          have hu' : u = .int .u8 t := by simpa using hu
          subst hu'
          have hb := bounds_u8 wt
          have c0 := hat 0 (by omega)
          have c1 := hat 1 (by omega)
          exact ⟨(t, d), ⟨hb.1, by show t < 256; omega, hB⟩, c0, v, c1, hd⟩
    obtain ⟨fs, hfl, hP⟩ := exists_list len key
    refine ⟨fs, hfl, fun hp => ?_, fun f hf => ?_, hl, hm, fun h => by cases h⟩
    · obtain ⟨b, off, spot⟩ := a
      have h0 := (hP 0 (by omega)).2.1
      have hs : spot = none := by simpa [Addr.add] using World.cell?_spot h0
      subst hs
      have hb : b < W.heap.size := by
        have := World.block_lt_of_cell? W _ h0
        rw [add_plain] at this
        exact this
      refine ⟨b, off, rfl, hb, fun i hi => ?_⟩
      obtain ⟨_, h1, v, h2, A', c', rfl, h3⟩ := hP i (by omega)
      rw [add_plain] at h1 h2
      rw [add_plain] at h2
      exact ⟨h1, A', c', h2, h3⟩
    · obtain ⟨i, hi, rfl⟩ := List.getElem_of_mem hf
      have := (hP i (by omega)).1
      simpa only [fAt, List.getD, List.getElem?_eq_getElem hi, Option.getD_some] using this

/-- What is known of a slice of numbers. -/
theorem open_u64s {H : Type} {enc : TypeId × Value → H} {W : World} {base : Nat} {sp : Nat → Bool} {held : Bool} {fuel : Nat} {A : Option Addr} {len cap : Nat} {x : DataW H × List MemPlace}
    (h : DataW.trod enc Tryd.prog W base sp held fuel 30 [.slice A len cap] = some x) : ∃ ls : List Int, ls.length = len ∧ RU W W.heap.size A ls := by
  rcases open_ints Tryd.underlying30 Tryd.underlying22 cellsU64 h with ⟨hcs, _⟩ | ⟨a, l, c, zs, hcs, _, hl, hm, hz, _, hcell, hwz⟩
  · simp at hcs
    obtain ⟨rfl, rfl, rfl⟩ := hcs
    exact ⟨[], rfl, fun h => absurd h (by simp)⟩
  · simp at hcs
    obtain ⟨rfl, rfl, rfl⟩ := hcs
    have hlz : len ≤ zs.length := by
      rw [hz]
      split <;> omega
    have hlen : (zs.take len).length = len := by simp; omega
    refine ⟨zs.take len, hlen, fun hp => ?_⟩
    rw [hlen] at hp
    obtain ⟨b, off, rfl, hc⟩ := ints_at hcell (by omega)
    refine ⟨b, off, rfl, World.block_lt_of_cell? W _ (hc 0 (by omega)), fun i hi => ?_⟩
    rw [hlen] at hi
    rw [getD_take hi]
    have hm : zs.getD i 0 ∈ zs := by
      have hil : i < zs.length := by omega
      simp [List.getD, hil]
    have := bounds_u64 (hwz _ hm)
    exact ⟨hc i (by omega), this.1, by omega⟩
end Go.Proofs.YtdhnhpcmfbiieaaDoor
