/-
  Proved here: rows of bytes: what XBy holds without a function of the program, and without what XRg and XOw hold.
-/
import Derived.Test.YtjihcpnaebghnaaDoorOw
import Derived.WalkKit
import Derived.Handy
import Derived.Lib.Hide
import Derived.Maps.AppendAt
import Derived.WalkSpells
import Derived.Deep.RegionHeld3
import Derived.Deep.AppendLies
import Derived.Deep.QuietTactic
import Derived.BigQuiet
import Derived.Laws.AppendOwnNone
import Derived.Laws.BytesArg
namespace Go.Proofs.YtjihcpnaebghnaaDoor
open Go.RowKit
theorem infoByte : (Tryd.prog.info? 5).map (fun i => (i.zero, i.size, i.bytes)) = some (some (.int .u8 0), 1, 1) := by kernel_rfl
/-- A row of bytes. -/
abbrev B8 (l : List Int) : List Value := l.map (Value.int .u8)
/-- The new row is the old one, or was made later. -/
def Lies (w : World) (sv v' : Value) : Prop := v'.ownBlock = sv.ownBlock ∨ ∃ g, v'.ownBlock = some g ∧ w.heap.size ≤ g
theorem Lies.refl (w : World) (v : Value) : Lies w v v := .inl rfl
/-- One append more: what it leaves of the blocks that were there. -/
theorem grown_step {w wr w1 : World} {sv b v' : Value} {o : Obj} (hg : w.grownBy wr sv.ownBlock) (hl : Lies w sv b) (hgrow : (wr.alloc o).grownBy w1 b.ownBlock) (hat : v'.ownBlock = b.ownBlock ∨ v'.ownBlock = some (wr.heap.size + 1)) :
    w.grownBy w1 sv.ownBlock ∧ Lies w sv v' := by
  have hs := hg.size
  have hs1 : wr.heap.size ≤ (wr.alloc o).heap.size := by simp
  refine ⟨⟨hgrow.os.trans hg.os, hgrow.tape.trans hg.tape, hgrow.output.trans hg.output, Nat.le_trans hs (Nat.le_trans hs1 hgrow.size), fun k hk hne => ?_⟩, ?_⟩
  · rw [hgrow.block k (by omega) ?_, Below.heap_alloc wr o k (by omega), hg.block k hk hne]
    rcases hl with h | ⟨g, h, hge⟩
    · rw [h]; exact hne
    · rw [h]; intro e; injection e with e; omega
  · rcases hat with h | h
    · rcases hl with h' | ⟨g, h', hge⟩
      · exact .inl (h.trans h')
      · exact .inr ⟨g, h.trans h', hge⟩
    · exact .inr ⟨_, h, by omega⟩
/-- All of them are bytes. -/
def Bytes (bs : List Int) : Prop := ∀ i, 0 ≤ bs.getD i 0 ∧ bs.getD i 0 < 256
/-- A slice of bytes that reads as bs, below block B. -/
def RB (w : World) (B : Nat) (A : Option Addr) (bs : List Int) : Prop :=
  0 < bs.length → ∃ b off, A = some ⟨b, off, none⟩ ∧ b < B ∧ ∀ i, i < bs.length → w.cell? ⟨b, off + i, none⟩ = some (.int .u8 (bs.getD i 0))
theorem RB.keep {w w' : World} {B : Nat} {A : Option Addr} {bs : List Int} (h : RB w B A bs) (hk : ∀ p : Addr, p.block < B → w'.cell? p = w.cell? p) : RB w' B A bs := fun hl => by
  obtain ⟨b, off, e, hb, hc⟩ := h hl
  exact ⟨b, off, e, hb, fun i hi => (hk _ hb).trans (hc i hi)⟩
theorem RB.below {w w' : World} {B : Nat} {A : Option Addr} {bs : List Int} (h : RB w B A bs) (hb : Below B w w') : RB w' B A bs := h.keep fun _ hp => hb.cell hp
theorem RB.keep' {w : World} {B B' : Nat} {A : Option Addr} {bs : List Int} (h : RB w B A bs) (hB : B ≤ B') : RB w B' A bs := fun hl => by
  obtain ⟨b, off, e, hb, hc⟩ := h hl
  exact ⟨b, off, e, by omega, hc⟩
/-- What is answered: a row of the bytes bs, in memory that the call made. -/
def OwnPost (bs : List Int) (w : World) (e : Ending) (w' : World) : Prop :=
  ∃ v, e = .returned v ∧ w'.ownsRow w.heap.size 5 1 v bs.length (B8 bs) ∧ Below w.heap.size w w'
theorem oneCell_B8 (l : List Int) : ∀ u ∈ B8 l, u.oneCell' = true := by
  intro u hu
  obtain ⟨x, _, rfl⟩ := List.mem_map.1 hu
  rfl
theorem RB.cells {w : World} {B : Nat} {ad : Addr} {bs : List Int} (h : RB w B (some ad) bs) : ∀ j u, (B8 bs)[j]? = some u → w.cell? (ad.add j) = some u := by
  intro j u hu
  have hj : j < bs.length := by
    have := (List.getElem?_eq_some_iff.1 hu).1
    simpa using this
  obtain ⟨b, off, e, _, hc⟩ := h (by omega)
  injection e with e
  subst e
  have h1 := hc j hj
  have h2 : u = .int .u8 (bs.getD j 0) := by
    simp only [B8, List.getElem?_map, Option.map_eq_some_iff] at hu
    obtain ⟨x, hx, rfl⟩ := hu
    simp [List.getD, hx]
  rw [h2, ← h1]
  simp only [Addr.add]
  split
  · rename_i h0; simp [h0]
  · rfl
theorem RB.alloc {w : World} {B : Nat} {A : Option Addr} {bs : List Int} (h : RB w B A bs) (hB : B ≤ w.heap.size) (o : Obj) : RB (w.alloc o) B A bs :=
  h.keep fun p hp => World.cell?_of_block (Below.heap_alloc w o p.block (by omega))
def cut (bs : List Int) (f n : Nat) : List Int := (bs.drop f).take n
theorem cut_length {bs : List Int} {f n : Nat} (h : f + n ≤ bs.length) : (cut bs f n).length = n := by simp [cut]; omega
theorem cut_getD {bs : List Int} {f n i : Nat} (hi : i < n) : (cut bs f n).getD i 0 = bs.getD (f + i) 0 := by
  simp [cut, List.getD, hi]
theorem RB.cut {w : World} {B b off : Nat} {bs : List Int} (h : RB w B (some ⟨b, off, none⟩) bs) {f n : Nat} (hf : f + n ≤ bs.length) : RB w B (some ⟨b, off + f, none⟩) (cut bs f n) := by
  intro hl
  rw [cut_length hf] at hl
  obtain ⟨b', off', e, hb, hc⟩ := h (by omega)
  injection e with e
  injection e with e1 e2
  subst e1; subst e2
  refine ⟨b, off + f, rfl, hb, fun i hi => ?_⟩
  rw [cut_length hf] at hi
  rw [cut_getD hi, ← hc (f + i) (by omega), Nat.add_assoc]
theorem RB.nothing (w : World) (B : Nat) (A : Option Addr) : RB w B A [] := fun h => absurd h (by simp)
theorem Bytes.cut {bs : List Int} (h : Bytes bs) (f n : Nat) : Bytes (cut bs f n) := fun i => by
  by_cases hi : i < n
  · rw [cut_getD hi]; exact h _
  · have : (Proofs.YtjihcpnaebghnaaDoor.cut bs f n).getD i 0 = 0 := by simp [Proofs.YtjihcpnaebghnaaDoor.cut, List.getD, List.getElem?_take, hi]
    rw [this]; omega
theorem B8_getElem {bs : List Int} {i : Nat} (hi : i < bs.length) : (B8 bs)[i]? = some (.int .u8 (bs.getD i 0)) := by
  simp [B8, List.getD, hi]
theorem RB.of_own {w : World} {base : Nat} {v : Value} {bs : List Int} (h : w.ownsRow base 5 1 v bs.length (B8 bs)) : ∃ A c, v = .slice A bs.length c ∧ RB w w.heap.size A bs ∧ bs.length ≤ c ∧ c ≤ maxLen ∧ (A = none → c = 0) := by
  obtain ⟨A, c, rfl, h1, h2, h3⟩ := own_slice h
  refine ⟨A, c, rfl, fun hl => ?_, h1, h2, h3⟩
  obtain ⟨g, cap, hv, _, hlt⟩ := h.form hl
  injection hv with hA _ hc
  subst hA; subst hc
  exact ⟨g, 0, rfl, hlt, fun i hi => by rw [Nat.zero_add, h.cellAt i (by omega), B8_getElem hi]⟩
theorem RB.of_block {w : World} {B g : Nat} {bs : List Int} (hg : g < B) (h : w.heap[g]? = some (.cells (B8 bs).toArray 5 (0, 0))) : RB w B (some ⟨g, 0, none⟩) bs := fun _ =>
  ⟨g, 0, rfl, hg, fun i hi => by simp [World.cell?, h, List.getD, hi]⟩
theorem quietL {P : Program} {f : FuncId} {args : Array Value} {w : World} {n : Nat} {v : Value} (h : Calls P f args (w.drewN n) fun e w' => e = .returned v ∧ w.drewN n = w') : Calls P f args (w.drewN n) fun e w' => e = .returned v ∧ ∃ m, w' = w.drewN m :=
  h.mono fun _ _ ⟨he, hw⟩ => ⟨he, n, hw.symm⟩
theorem grown_store {w wr w' : World} {row : Option Nat} {g : Nat} (h : w.grownBy wr row) (hg : wr.grownBy w' (some g)) (hr : row = some g) : w.grownBy w' row := by
  subst hr
  exact ⟨hg.os.trans h.os, hg.tape.trans h.tape, hg.output.trans h.output, Nat.le_trans h.size hg.size, fun k hk hne => (hg.block k (Nat.lt_of_lt_of_le hk h.size) hne).trans (h.block k hk hne)⟩
theorem B8_set (zs : List Int) (i : Nat) (y : Int) : (B8 zs).set i (.int .u8 y) = B8 (zs.set i y) := by simp [B8]
theorem bytes_of_mem {l : List Int} (h : ∀ x ∈ l, 0 ≤ x ∧ x < 256) : Bytes l := fun i => by
  by_cases hi : i < l.length
  · exact h _ (by simp [List.getD, hi])
  · have : l.getD i 0 = 0 := by simp [List.getD, List.getElem?_eq_none (Nat.le_of_not_lt hi)]
    rw [this]; omega
theorem mem_of_bytes {l : List Int} (h : Bytes l) : ∀ x ∈ l, 0 ≤ x ∧ x < 256 := fun x hx => by
  obtain ⟨i, hi, rfl⟩ := List.getElem_of_mem hx
  have := h i
  simpa [List.getD, hi] using this
theorem bytes_append {a b : List Int} (ha : Bytes a) (hb : Bytes b) : Bytes (a ++ b) := bytes_of_mem (fun x hx => by
  rcases List.mem_append.1 hx with h | h
  · exact mem_of_bytes ha x h
  · exact mem_of_bytes hb x h)
theorem getD_left {p q : List Int} {k : Nat} (h : k < p.length) : (p ++ q).getD k 0 = p.getD k 0 := by simp [List.getD, List.getElem?_append_left h]
theorem getD_right {p q : List Int} {k : Nat} (h : p.length ≤ k) : (p ++ q).getD k 0 = q.getD (k - p.length) 0 := by simp [List.getD, List.getElem?_append_right h]
end Go.Proofs.YtjihcpnaebghnaaDoor
