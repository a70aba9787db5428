/-
  Kept here: what a call leaves as it was; rows of bytes that are only read; a stream and a sink in memory; append where there is no room; a slice's end, without room.
-/
import Derived.Test.YtlppnnehgfpgbaaOwI
import Derived.Laws.Rows
import Derived.Laws.Tables
import Derived.ArgAppend
import Derived.Deep.Upon
import Derived.BigRegion
import Derived.Below
import Derived.IntWalk
import Derived.Deep.DeepCutAuto
import Derived.WalkMore
import Derived.Laws.Cover3
set_option linter.unusedSimpArgs false
set_option linter.unusedVariables false
namespace Go.Proofs.Ytlppnnehgfpgbaa
open Go.RowKit
/-- Of the blocks that there were, g alone may be another one. -/
structure Only (g : Nat) (w w' : World) : Prop where
  os : w'.os = w.os
  tape : w'.tape = w.tape
  output : w'.output = w.output
  size : w.heap.size ≤ w'.heap.size
  block : ∀ k, k < w.heap.size → k ≠ g → w'.heap[k]? = w.heap[k]?
theorem Only.refl (g : Nat) (w : World) : Only g w w := ⟨rfl, rfl, rfl, Nat.le_refl _, fun _ _ _ => rfl⟩
theorem Only.trans {g : Nat} {a b c : World} (h : Only g a b) (k : Only g b c) : Only g a c :=
  ⟨k.os.trans h.os, k.tape.trans h.tape, k.output.trans h.output, Nat.le_trans h.size k.size, fun i hi hg => (k.block i (Nat.lt_of_lt_of_le hi h.size) hg).trans (h.block i hi hg)⟩
theorem Only.of {g : Nat} {a b : World} (h : Below a.heap.size a b) : Only g a b := ⟨h.os, h.tape, h.output, h.size, fun i hi _ => h.block i hi⟩
theorem Only.setCell {g : Nat} (w : World) (i : Nat) (v : Value) : Only g w (w.setCell ⟨g, i, none⟩ v) :=
  ⟨rfl, rfl, rfl, by simp, fun k _ hk => heap_setCell_other w ⟨g, i, none⟩ k v hk⟩
theorem Only.drew {g : Nat} {a w : World} (h : Only g a w) : Only g a w.drew := ⟨h.os, h.tape, h.output, h.size, h.block⟩
theorem Only.below {g : Nat} {a w w' : World} (h : Only g w w') (hb : Below a.heap.size a w) (hg : a.heap.size ≤ g) : Below a.heap.size a w' :=
  ⟨h.os.trans hb.os, h.tape.trans hb.tape, h.output.trans hb.output, Nat.le_trans hb.size h.size, fun k hk => (h.block k (Nat.lt_of_lt_of_le hk hb.size) (by omega)).trans (hb.block k hk)⟩
theorem Bto {w a b : World} (h : Below w.heap.size w a) (k : Below a.heap.size a b) : Below w.heap.size w b := h.trans (k.mono h.size)
theorem Bal {w a : World} (h : Below w.heap.size w a) (o : Obj) : Below w.heap.size w (a.alloc o) := h.alloc h.size o
/-- A block without a byte. -/
def NoU8 (w : World) (h : Nat) : Prop := ∀ o x, w.cell? ⟨h, o, none⟩ ≠ some (.int .u8 x)
theorem RI.only {w w' : World} {A : Option Addr} {xs : List Int} (h : RI .u8 w A xs) {g : Nat} (hn : NoU8 w g) (ho : Only g w w') : RI .u8 w' A xs := fun hp => by
  obtain ⟨b, off, e, hlt, hc⟩ := h hp
  have hb : b ≠ g := fun e2 => hn off (xs.getD 0 0) (by rw [← e2]; exact hc 0 hp)
  exact ⟨b, off, e, Nat.lt_of_lt_of_le hlt ho.size, fun i hi => (World.cell?_of_block (ho.block b hlt hb)).trans (hc i hi)⟩
/-- A slice's value that reads as these bytes. -/
def DV (w : World) (v : Value) (d : List Int) : Prop := ∃ A c, v = .slice A d.length c ∧ RI .u8 w A d ∧ d.length ≤ c ∧ c ≤ maxLen ∧ (A = none → c = 0)
theorem DV.below {w w' : World} {v : Value} {d : List Int} (h : DV w v d) (hb : Below w.heap.size w w') : DV w' v d := by
  obtain ⟨A, c, h1, h2, h3⟩ := h
  exact ⟨A, c, h1, h2.below hb, h3⟩
theorem DV.only {w w' : World} {v : Value} {d : List Int} (h : DV w v d) {g : Nat} (hn : NoU8 w g) (ho : Only g w w') : DV w' v d := by
  obtain ⟨A, c, h1, h2, h3⟩ := h
  exact ⟨A, c, h1, h2.only hn ho, h3⟩
theorem DV.nil (w : World) : DV w (.slice none 0 0) [] := ⟨none, 0, rfl, RI.nothing _ _ _, by simp, by unfold maxLen; omega, fun _ => rfl⟩
theorem DV.own {w : World} {base : Nat} {v : Value} {d : List Int} (h : w.ownsRow base 5 1 v d.length (NV .u8 d)) : DV w v d := by
  obtain ⟨A, c, rfl, h1, h2, h3⟩ := own_slice h
  refine ⟨A, c, rfl, fun hp => ?_, h1, h2, h3⟩
  obtain ⟨g, rfl, _, hlt, hc⟩ := own_cells h rfl hp
  exact ⟨g, 0, rfl, hlt, fun i hi => by rw [Nat.zero_add]; exact hc i hi⟩
/-- What is so of a row's block, and of all new ones, is so of another row's. -/
def Goes (W : World) (A : Option Addr) (v : Value) : Prop := ∀ P : Nat → Prop, (∀ a, A = some a → P a.block) → (∀ b, W.heap.size ≤ b → P b) → ∀ a n c, v = .slice (some a) n c → P a.block
theorem Goes.own {W w' : World} {A : Option Addr} {v : Value} {e : TypeId} {size n : Nat} {xs : List Value} (h : w'.ownsRow W.heap.size e size v n xs) : Goes W A v := fun P _ h2 a n' c hv => h2 _ (ownBlock_le h _ (by rw [hv]; rfl))
theorem Goes.same (W : World) (A : Option Addr) (n c : Nat) : Goes W A (.slice A n c) := fun P h1 _ a n' c' hv => by
  injection hv with hA _ _
  exact h1 a hA
/-- Append where there is no room. -/
theorem app_full {W : World} {A A2 : Option Addr} {xs ys : List Int} {n m c : Nat} (hn : xs.length = n) (hm : ys.length = m) (hx : RI .u8 W A xs) (hy : RI .u8 W A2 ys) (hA : A = none → n = 0) (hA2 : A2 = none → c = 0) (hs : n + m ≤ 100000) :
    ∃ v w', (Builtin.append_ #[28, 28] 28 #[.slice A n n, .slice A2 m c]).run Try.prog W = .ok v w' ∧ DV w' v (xs ++ ys) ∧ Below W.heap.size W w' ∧ Goes W A v ∧ (0 < m → ∀ a n c, v = .slice (some a) n c → W.heap.size ≤ a.block) := by
  subst hn; subst hm
  obtain ⟨i0, hi, hz0, hz1, hz2⟩ := info_parts info_u8
  rcases Nat.eq_zero_or_pos ys.length with h0 | h0
  · have hyn : ys = [] := List.eq_nil_of_length_eq_zero h0
    have hsrc : Src Try.prog i0.size 28 (.slice A2 0 c) 0 [] W := by
      rcases A2 with _ | ad
      · obtain rfl := hA2 rfl
        exact Src.ofNil W Try.underlying28 0
      · exact Src.ofSlice W Try.underlying28 ad 0 c [] (by simp) (fun j u h => by simp at h) (fun u h => by simp at h)
    have hr := run_append_nothing (P := Try.prog) W 28 28 28 5 i0 Try.underlying28 hi A xs.length xs.length (Nat.le_refl _) _ hsrc
    refine ⟨_, W, by rw [hyn]; exact hr, ?_, Below.refl _ _, Goes.same _ _ _ _, fun h => absurd h (by omega)⟩
    rw [hyn, List.append_nil]
    exact ⟨A, xs.length, rfl, hx, Nat.le_refl _, by unfold maxLen; omega, hA⟩
  · obtain ⟨b2, o2, rfl, _, hc2⟩ := hy h0
    have hy' := hy
    rcases A with _ | ad
    · have hn0 := hA rfl
      obtain rfl : xs = [] := List.eq_nil_of_length_eq_zero hn0
      obtain ⟨v', w', hr, ho, hg⟩ := app_u8 (W := W) (base := W.heap.size) (v := .slice none 0 0) (n := 0) (xs := []) (ys := ys) rfl c hy' (fun e => by cases e) (World.ownsRow_nil _ _ _ _) (by omega) (Nat.le_refl _)
      refine ⟨v', w', hr, DV.own (base := W.heap.size) (by simpa using ho), ⟨hg.os, hg.tape, hg.output, hg.size, fun k hk => hg.block k hk (by simp [Value.ownBlock])⟩, Goes.own ho, fun _ a n c hv => ownBlock_le ho _ (by rw [hv]; rfl)⟩
    · obtain ⟨v', w', hr, ho, hg⟩ := run_append_arg_grows (P := Try.prog) W 28 28 5 i0 (.int .u8 0) 1 1 Try.underlying28 hi hz0 hz1 hz2 rfl (by decide) ad xs.length xs.length (NV .u8 xs) (by simp [NV]) hx.cells ⟨b2, o2, none⟩ ys.length c (NV .u8 ys) (by simp [NV]) hy'.cells (by omega) (by unfold maxLen; omega) (by omega)
      refine ⟨v', w', hr, DV.own (base := W.heap.size) (own_cast ho (by simp) (by simp [NV])), ⟨hg.os, hg.tape, hg.output, hg.size, fun k hk => hg.block k hk (by simp)⟩, Goes.own ho, fun _ a n c hv => ownBlock_le ho _ (by rw [hv]; rfl)⟩
/-- The end of a slice, without room behind. -/
theorem run_cut {A : Option Addr} {n c k : Nat} (hk : k ≤ n) (hc : n ≤ c) (hz : A = none → c = 0) :
    ∃ A2 : Option Addr, (∀ W bs, RI .u8 W A bs → bs.length = n → RI .u8 W A2 (bs.drop k)) ∧ (A2 = none → n - k = 0) ∧ (∀ a, A2 = some a → ∃ a', A = some a' ∧ a'.block = a.block) ∧ ∀ W : World, (Instr.slice 28 (.slice A n c) (some (.int .u64 (k : Int))) (some (.int .i64 (n : Int))) (some (.int .i64 (n : Int)))).run Try.prog W = .ok (.slice A2 (n - k) (n - k)) W := by
  have h1 : (k : Int) ≤ (n : Int) := by omega
  have h2 : (n : Int) ≤ (c : Int) := by omega
  rcases A with _ | ad
  · obtain rfl := hz rfl
    obtain rfl : n = 0 := by omega
    obtain rfl : k = 0 := by omega
    refine ⟨none, fun W bs h hl => ?_, fun _ => rfl, (fun a h => by cases h), fun W => ?_⟩
    · obtain rfl : bs = [] := List.eq_nil_of_length_eq_zero hl
      exact RI.nothing _ _ _
    · simp [Instr.slice, run_underlying Try.underlying28, Instr.sliceBounds, run_sliceBound]
  · refine ⟨some (if n = k then ad else ad.add k), fun W bs h hl hp => ?_, (fun h => by cases h), (fun a h => ⟨ad, rfl, by injection h with h; rw [← h]; split; rfl; unfold Addr.add; split <;> rfl⟩), fun W => ?_⟩
    · obtain ⟨b', off', e, hb, hcl⟩ := h (by simp at hp; omega)
      injection e with e
      subst e
      have ha : (⟨b', off', none⟩ : Addr).add k = ⟨b', off' + k, none⟩ := by unfold Addr.add; split <;> simp_all
      rw [if_neg (by simp at hp; omega), ha]
      refine ⟨b', off' + k, rfl, hb, fun i hi => ?_⟩
      rw [Nat.add_assoc, hcl (k + i) (by simp at hi; omega)]
      simp [List.getD]
    · obtain ⟨i0, hi, _, hz1, _⟩ := info_parts info_u8
      simp [Instr.slice, run_underlying Try.underlying28, Instr.sliceBounds, run_sliceBound, h1, h2, hi, hz1]
      split <;> rfl
/-- A stream in block g: its base, and the bytes behind it. -/
structure St (w : World) (g : Nat) (base : Nat) (bs : List Int) : Prop where
  ex : ∃ A c, w.heap[g]? = some (.cells #[.bool true, .int .u64 base, .slice A bs.length c] 45 (0, 0)) ∧ RI .u8 w A bs ∧ bs.length ≤ c ∧ c ≤ maxLen ∧ (A = none → c = 0)
/-- A sink in block g: how many bytes it took. -/
def Sk (w : World) (g : Nat) (n : Nat) : Prop := w.heap[g]? = some (.cells #[.bool true, .int .u64 n] 47 (0, 0))
theorem noU8_of {w : World} {h : Nat} {cs : Array Value} {t : TypeId} {fr : Nat × Nat} (hh : w.heap[h]? = some (.cells cs t fr)) (hc : ∀ (o : Nat) x, cs[o]? ≠ some (.int .u8 x)) : NoU8 w h := fun o x e => by
  simp [World.cell?, hh] at e
  exact hc o x e
theorem St.noU8 {w : World} {g base : Nat} {bs : List Int} (h : St w g base bs) : NoU8 w g := by
  obtain ⟨A, c, hh, _⟩ := h.ex
  refine noU8_of hh fun o x => ?_
  match o with
  | 0 => simp
  | 1 => simp
  | 2 => simp
  | o + 3 => simp
theorem Sk.noU8 {w : World} {g n : Nat} (h : Sk w g n) : NoU8 w g := by
  refine noU8_of h fun o x => ?_
  match o with
  | 0 => simp
  | 1 => simp
  | o + 2 => simp
theorem St.lt {w : World} {g base : Nat} {bs : List Int} (h : St w g base bs) : g < w.heap.size := by
  obtain ⟨A, c, hh, _⟩ := h.ex
  exact lt_of_block hh
theorem Sk.lt {w : World} {g n : Nat} (h : Sk w g n) : g < w.heap.size := lt_of_block h
theorem St.below {w w' : World} {g base : Nat} {bs : List Int} (h : St w g base bs) (hb : Below w.heap.size w w') : St w' g base bs := by
  obtain ⟨A, c, hh, hr, h3⟩ := h.ex
  exact ⟨A, c, (hb.block g h.lt).trans hh, hr.below hb, h3⟩
theorem Sk.below {w w' : World} {g n : Nat} (h : Sk w g n) (hb : Below w.heap.size w w') : Sk w' g n := (hb.block g h.lt).trans h
theorem St.only {w w' : World} {g k base : Nat} {bs : List Int} (h : St w g base bs) (hk : k ≠ g) (hn : NoU8 w k) (ho : Only k w w') : St w' g base bs := by
  obtain ⟨A, c, hh, hr, h3⟩ := h.ex
  exact ⟨A, c, (ho.block g h.lt (fun e => hk e.symm)).trans hh, hr.only hn ho, h3⟩
theorem Sk.only {w w' : World} {g k n : Nat} (h : Sk w g n) (hk : k ≠ g) (ho : Only k w w') : Sk w' g n := (ho.block g h.lt (fun e => hk e.symm)).trans h
/-- What is so of the block of a stream's row. -/
def Row (w : World) (g : Nat) (P : Nat → Prop) : Prop := ∀ a n c, w.cell? ⟨g, 2, none⟩ = some (.slice (some a) n c) → P a.block
theorem Row.of {w w' : World} {g : Nat} {P : Nat → Prop} (h : Row w g P) (hc : w'.cell? ⟨g, 2, none⟩ = w.cell? ⟨g, 2, none⟩) : Row w' g P := fun a n c e => h a n c (by rw [← hc]; exact e)
/-- A stream that stores another row, or another base. -/
theorem three_cells {w : World} {g : Nat} {a b c : Value} {t : TypeId} (h : w.heap[g]? = some (.cells #[a, b, c] t (0, 0))) : w.cell? ⟨g, 0, none⟩ = some a ∧ w.cell? ⟨g, 1, none⟩ = some b ∧ w.cell? ⟨g, 2, none⟩ = some c := by
  simp [World.cell?, h]
theorem two_cells {w : World} {g : Nat} {a b : Value} {t : TypeId} (h : w.heap[g]? = some (.cells #[a, b] t (0, 0))) : w.cell? ⟨g, 0, none⟩ = some a ∧ w.cell? ⟨g, 1, none⟩ = some b := by
  simp [World.cell?, h]
theorem St.typed {w : World} {g base : Nat} {bs : List Int} (h : St w g base bs) {v : Value} {ds : List Int} (hv : DV w v ds) : St (w.setCell ⟨g, 2, none⟩ v) g base ds := by
  obtain ⟨A, c, hh, _⟩ := h.ex
  obtain ⟨A2, c2, rfl, hr, h1, h2, h3⟩ := hv
  have hn := h.noU8
  exact ⟨A2, c2, by rw [heap_setCell_same w g 2 _ _ _ hh]; rfl, hr.only hn (Only.setCell w 2 _), h1, h2, h3⟩
theorem St.based {w : World} {g base : Nat} {bs : List Int} (h : St w g base bs) (m : Nat) : St (w.setCell ⟨g, 1, none⟩ (.int .u64 m)) g m bs := by
  obtain ⟨A, c, hh, hr, h3⟩ := h.ex
  exact ⟨A, c, by rw [heap_setCell_same w g 1 _ _ _ hh]; rfl, hr.only h.noU8 (Only.setCell w 1 _), h3⟩
theorem Sk.took {w : World} {g n : Nat} (h : Sk w g n) (m : Nat) : Sk (w.setCell ⟨g, 1, none⟩ (.int .u64 m)) g m := by
  unfold Sk at h ⊢; rw [heap_setCell_same w g 1 _ _ _ h]; rfl
theorem wrap64 (a : Nat) : IntKind.u64.wrap (a : Int) = ((a % 18446744073709551616 : Nat) : Int) := by
  simp [IntKind.wrap, IntKind.bits, IntKind.signed]
theorem wrap64_in {a : Nat} (h : a < 18446744073709551616) : IntKind.u64.wrap (a : Int) = (a : Int) := by rw [wrap64, Nat.mod_eq_of_lt h]
theorem wrap64_sub {a b : Nat} (h : b ≤ a) (ha : a < 18446744073709551616) : IntKind.u64.wrap ((a : Int) - (b : Int)) = ((a - b : Nat) : Int) := by
  rw [show ((a : Int) - (b : Int)) = ((a - b : Nat) : Int) by omega, wrap64_in (by omega)]
theorem wrap64_add {a b : Nat} (h : a + b < 18446744073709551616) : IntKind.u64.wrap ((a : Int) + (b : Int)) = ((a + b : Nat) : Int) := by
  rw [show ((a : Int) + (b : Int)) = ((a + b : Nat) : Int) by omega, wrap64_in h]
end Go.Proofs.Ytlppnnehgfpgbaa
