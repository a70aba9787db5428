/-
  Proved here, for every list of bytes that a slice reads as: Fields answers what 'fieldsS' says: the fields in memory of its own, or none and an error.
-/
import Derived.Test.YtdhnhpcmfbiieaaDoorVClone
import Derived.Deep.RegionHeld3
import Derived.Deep.AppendLies
namespace Go.Proofs.YtdhnhpcmfbiieaaDoor
open Go.RowKit

abbrev Fld := Int × List Int

/-- The error of the field at p, with cnt fields ahead of it; 0 if there is none. -/
def stepE (bs : List Int) (p cnt : Nat) : Int :=
  if cnt = 128 then 5
  else if (getS bs ((p : Int) + 1)).2.2 = 0 then
    if 16384 < (getS bs ((p : Int) + 1)).1 then 2
    else if (bs.length : Int) - (getS bs ((p : Int) + 1)).2.1 < (getS bs ((p : Int) + 1)).1 then 10 else 0
  else (getS bs ((p : Int) + 1)).2.2
def cut (bs : List Int) (f n : Nat) : List Int := (bs.drop f).take n
/-- The field at p, and the place behind it. -/
def fldAt (bs : List Int) (p : Nat) : Fld := (bs.getD p 0, cut bs (getS bs ((p : Int) + 1)).2.1.toNat (getS bs ((p : Int) + 1)).1.toNat)
def nextF (bs : List Int) (p : Nat) : Nat := (getS bs ((p : Int) + 1)).2.1.toNat + (getS bs ((p : Int) + 1)).1.toNat
/-- The fields from p on, behind those that there are. -/
def fgo (bs : List Int) : Nat → Nat → List Fld → List Fld × Int
  | 0, _, out => (out, 0)
  | f + 1, p, out => if p < bs.length then (if stepE bs p out.length = 0 then fgo bs f (nextF bs p) (out ++ [fldAt bs p]) else ([], stepE bs p out.length)) else (out, 0)
/-- What Fields answers. -/
def fieldsS (bs : List Int) : List Fld × Int := fgo bs (bs.length + 1) 0 []

theorem getS_ok {bs : List Int} (hB : Bytes bs) {p : Nat} (h : (getS bs (p : Int)).2.2 = 0) : 0 ≤ (getS bs (p : Int)).1 ∧ (getS bs (p : Int)).1 < 4611686018427387904 ∧ (p : Int) < (getS bs (p : Int)).2.1 ∧ (getS bs (p : Int)).2.1 ≤ (bs.length : Int) := by
  unfold getS at h ⊢
  rw [Int.toNat_natCast] at h ⊢
  by_cases h1 : (p : Int) < 0 ∨ (bs.length : Int) < (p : Int)
  · rw [if_pos h1] at h; simp at h
  · rw [if_neg h1] at h ⊢
    by_cases h2 : bs.length - p < need (bs.getD p 0) ∨ p = bs.length
    · rw [if_pos h2] at h; simp at h
    · rw [if_neg h2] at h ⊢
      by_cases h3 : szOf (acc bs p (need (bs.getD p 0) - 1)) = (need (bs.getD p 0) : Int)
      · rw [if_pos h3]
        have hn : 1 ≤ need (bs.getD p 0) ∧ need (bs.getD p 0) ≤ 8 := by
          have := need_cases (bs.getD p 0) (hB p).1 (hB p).2
          omega
        obtain ⟨a, b⟩ := acc_fits hB p (need (bs.getD p 0) - 1) (by omega)
        refine ⟨a, b, ?_, ?_⟩
        · show (p : Int) < (p : Int) + (need (bs.getD p 0) : Int)
          omega
        · show (p : Int) + (need (bs.getD p 0) : Int) ≤ _
          omega
      · rw [if_neg h3] at h; simp at h

theorem getS_ok1 {bs : List Int} (hB : Bytes bs) {p : Nat} (h : (getS bs ((p : Int) + 1)).2.2 = 0) : 0 ≤ (getS bs ((p : Int) + 1)).1 ∧ (getS bs ((p : Int) + 1)).1 < 4611686018427387904 ∧ (p : Int) + 1 < (getS bs ((p : Int) + 1)).2.1 ∧ (getS bs ((p : Int) + 1)).2.1 ≤ (bs.length : Int) := by
  have e : ((p : Int) + 1) = ((p + 1 : Nat) : Int) := by omega
  rw [e] at h ⊢
  exact getS_ok hB h

theorem cut_length {bs : List Int} {f n : Nat} (h : f + n ≤ bs.length) : (cut bs f n).length = n := by simp [cut]; omega
theorem cut_getD {bs : List Int} {f n i : Nat} (hi : i < n) : (cut bs f n).getD i 0 = bs.getD (f + i) 0 := by
  simp [cut, List.getD, hi]
theorem RB.cut {w : World} {B b off : Nat} {bs : List Int} (h : RB w B (some ⟨b, off, none⟩) bs) {f n : Nat} (hf : f + n ≤ bs.length) : RB w B (some ⟨b, off + f, none⟩) (cut bs f n) := by
  intro hl
  rw [cut_length hf] at hl
  obtain ⟨b', off', e, hb, hc⟩ := h (by omega)
  injection e with e
  injection e with e1 e2
  subst e1; subst e2
  refine ⟨b, off + f, rfl, hb, fun i hi => ?_⟩
  rw [cut_length hf] at hi
  rw [cut_getD hi, ← hc (f + i) (by omega), Nat.add_assoc]
theorem RB.nothing (w : World) (B : Nat) (A : Option Addr) : RB w B A [] := fun h => absurd h (by simp)
theorem Bytes.cut {bs : List Int} (h : Bytes bs) (f n : Nat) : Bytes (cut bs f n) := fun i => by
  by_cases hi : i < n
  · rw [cut_getD hi]; exact h _
  · have : (Proofs.YtdhnhpcmfbiieaaDoor.cut bs f n).getD i 0 = 0 := by simp [Proofs.YtdhnhpcmfbiieaaDoor.cut, List.getD, List.getElem?_take, hi]
    rw [this]; omega

/-- Fields that lie in memory that the call made: their cells. -/
def FO (w : World) (base : Nat) : List Value → List Fld → Prop
  | [], [] => True
  | u :: v :: r, f :: fs => u = .int .u8 f.1 ∧ w.ownsRow base 5 1 v f.2.length (B8 f.2) ∧ FO w base r fs
  | _, _ => False
theorem FO.kept {w w' : World} {base : Nat} {row : Option Nat} : ∀ {cs : List Value} {fs : List Fld}, FO w base cs fs → w.grownBy w' row → (∀ g, row = some g → ∃ c t f, w.heap[g]? = some (.cells c t f) ∧ t ≠ 5) → FO w' base cs fs
  | [], [], _, _, _ => trivial
  | [], _ :: _, h, _, _ => h.elim
  | [_], [], h, _, _ => h.elim
  | [_], _ :: _, h, _, _ => h.elim
  | _ :: _ :: _, [], h, _, _ => h.elim
  | u :: v :: r, f :: fs, ⟨h1, h2, h3⟩, hg, hr => ⟨h1, h2.kept hg (by
      rcases h2.2 with ⟨rfl, _⟩ | ⟨g, cap, cur, rfl, _, hh, _⟩
      · exact .inl rfl
      · refine .inr fun e => ?_
        obtain ⟨c, t, fr, hh', ht⟩ := hr g e.symm
        rw [hh] at hh'
        injection hh' with hh'
        injection hh' with _ h5
        exact ht h5.symm), FO.kept h3 hg hr⟩
theorem FO.snoc {w : World} {base : Nat} {v : Value} {f : Fld} (hv : w.ownsRow base 5 1 v f.2.length (B8 f.2)) :
    ∀ {cs : List Value} {fs : List Fld}, FO w base cs fs → FO w base (cs ++ [.int .u8 f.1, v]) (fs ++ [f])
  | [], [], _ => ⟨rfl, hv, trivial⟩
  | [], _ :: _, h => h.elim
  | [_], [], h => h.elim
  | [_], _ :: _, h => h.elim
  | _ :: _ :: _, [], h => h.elim
  | _ :: _ :: _, _ :: _, ⟨h1, h2, h3⟩ => ⟨h1, h2, FO.snoc hv h3⟩
theorem FO.length {w : World} {base : Nat} : ∀ {cs : List Value} {fs : List Fld}, FO w base cs fs → cs.length = fs.length * 2
  | [], [], _ => rfl
  | [], _ :: _, h => h.elim
  | [_], [], h => h.elim
  | [_], _ :: _, h => h.elim
  | _ :: _ :: _, [], h => h.elim
  | _ :: _ :: r, _ :: fs, ⟨_, _, h3⟩ => by have := FO.length h3; simp; omega

theorem clone_n (bs : List Int) (n : Nat) (hn : bs.length = n) (A : Option Addr) (cap : Nat) (w : World) (hR : RB w w.heap.size A bs) (hl : bs.length ≤ 140737488351232) (hA : A = none → cap = 0) :
    Calls Tryd.prog 28 #[.slice A n cap] w (OwnPost bs w) := by
  subst hn
  exact clone_any bs A cap w hR hl hA

theorem own_slice {w : World} {base : Nat} {e : TypeId} {size : Nat} {v : Value} {n : Nat} {xs : List Value} (h : w.ownsRow base e size v n xs) : ∃ A c, v = .slice A n c ∧ n ≤ c ∧ c ≤ maxLen ∧ (A = none → c = 0) := by
  rcases h.2 with ⟨rfl, rfl⟩ | ⟨g, cap, cur, rfl, _, _, h1, h2, _⟩
  · exact ⟨none, 0, rfl, by omega, by unfold maxLen; omega, fun _ => rfl⟩
  · exact ⟨_, cap, rfl, h1, h2, fun h => by cases h⟩
theorem own_other {w : World} {base : Nat} {e : TypeId} {size : Nat} {v : Value} {n : Nat} {xs : List Value} (h : w.ownsRow base e size v n xs) (he : e ≠ 5) : ∀ g, v.ownBlock = some g → ∃ c t f, w.heap[g]? = some (.cells c t f) ∧ t ≠ 5 := by
  intro g hg
  rcases h.2 with ⟨rfl, _⟩ | ⟨g', cap, cur, rfl, _, hh, _⟩
  · simp [Value.ownBlock] at hg
  · obtain rfl : g' = g := by simpa [Value.ownBlock] using hg
    exact ⟨_, _, _, hh, he⟩

theorem grown_of_below {w w' : World} (hb : Below w.heap.size w w') : w.grownBy w' none := ⟨hb.os, hb.tape, hb.output, hb.size, fun k hk _ => hb.block k hk⟩
theorem own_below {w w' : World} {base : Nat} {e : TypeId} {size : Nat} {v : Value} {n : Nat} {xs : List Value} (h : w.ownsRow base e size v n xs) (hb : Below w.heap.size w w') : w'.ownsRow base e size v n xs :=
  h.kept (grown_of_below hb) (by cases v.ownBlock <;> simp)
theorem FO.below {w w' : World} {base : Nat} (hb : Below w.heap.size w w') {cs : List Value} {fs : List Fld} (h : FO w base cs fs) : FO w' base cs fs :=
  h.kept (grown_of_below hb) (fun g hg => by cases hg)
theorem own_mono {w : World} {base base' : Nat} {e : TypeId} {size : Nat} {v : Value} {n : Nat} {xs : List Value} (h : w.ownsRow base e size v n xs) (hb : base' ≤ base) : w.ownsRow base' e size v n xs := by
  refine ⟨h.1, ?_⟩
  rcases h.2 with h0 | ⟨g, cap, cur, h1, h2, h3⟩
  · exact .inl h0
  · exact .inr ⟨g, cap, cur, h1, Nat.le_trans hb h2, h3⟩
theorem FO.base {w : World} {base base' : Nat} (hb : base' ≤ base) : ∀ {cs : List Value} {fs : List Fld}, FO w base cs fs → FO w base' cs fs
  | [], [], _ => trivial
  | [], _ :: _, h => h.elim
  | [_], [], h => h.elim
  | [_], _ :: _, h => h.elim
  | _ :: _ :: _, [], h => h.elim
  | _ :: _ :: _, _ :: _, ⟨h1, h2, h3⟩ => ⟨h1, own_mono h2 hb, FO.base hb h3⟩
theorem ownBlock_ge {w : World} {base : Nat} {e : TypeId} {size : Nat} {v : Value} {n : Nat} {xs : List Value} (h : w.ownsRow base e size v n xs) {b : Nat} (hb : b < base) : some b ≠ v.ownBlock :=
  fun e => by have := ownBlock_le h b e.symm; omega

theorem kept_cell {w1 w2 : World} {o : Obj} {row : Option Nat} {a : Addr} {u : Value} (hg : (w1.alloc o).grownBy w2 row) (h : a.block < w1.heap.size) (hne : some a.block ≠ row) (hc : w1.cell? a = some u) : w2.cell? a = some u := by
  rw [← hc]
  refine World.cell?_of_block ?_
  rw [hg.block a.block (by simp; omega) hne, Below.heap_alloc w1 o a.block h]

theorem infoFld : (Tryd.prog.info? 54).map (fun i => (i.zero, i.size, i.bytes)) = some (some (.agg #[.int .u8 0, .slice none 0 0]), 2, 32) := by kernel_rfl
end Go.Proofs.YtdhnhpcmfbiieaaDoor
