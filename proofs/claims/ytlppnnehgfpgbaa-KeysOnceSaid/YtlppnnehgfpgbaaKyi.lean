/-
  Kept here: for KeysOnce: Type and Take with both ends in one; one more base, one more row; the front of a slice.
-/
import Derived.Test.YtlppnnehgfpgbaaKyh
import Derived.Deep.CutBlock
set_option linter.unusedSimpArgs false
set_option linter.unusedVariables false
namespace Go.Proofs.Ytlppnnehgfpgbaa
open Go.RowKit
theorem type_both {w : World} {g base : Nat} {bs : List Int} (h : St w g base bs) {A2 : Option Addr} {m k2 : Nat} {ys : List Int} (hm : ys.length = m) (hy : RI .u8 w A2 ys) (hz : A2 = none → k2 = 0) (hbs : bs.length ≤ 512) :
    Calls Try.prog 13 #[.pointer (some ⟨g, 0, none⟩), .slice A2 m k2] w fun e w' => ∃ kk : Int, e = .returned (.int .i64 kk) ∧ ((kk = 0 ∧ m ≤ 512 - bs.length ∧ St w' g base (bs ++ ys) ∧ Only g w w' ∧ ∀ P : Nat → Prop, (0 < bs.length → Row w g P) → (∀ b, w.heap.size ≤ b → P b) → (0 < (bs ++ ys).length → Row w' g P)) ∨ (kk = 5 ∧ w = w')) := by
  by_cases hf : m ≤ 512 - bs.length
  · refine (type_ok h hm hy hz hbs hf).mono ?_
    rintro e w' ⟨rfl, h1, h2, h3⟩
    exact ⟨0, rfl, .inl ⟨rfl, hf, h1, h2, h3⟩⟩
  · refine (type_full h hbs (by omega)).mono ?_
    rintro e w' ⟨rfl, h1⟩
    exact ⟨5, rfl, .inr ⟨rfl, h1⟩⟩
/-- Take of what lies between f and e of all. -/
theorem take_both {w : World} {g n : Nat} (h : Sk w g n) (hn : n < 90000) {f e : Nat} {A : Option Addr} {m c : Nat} {all : List Int} (he : e ≤ all.length) (hf : f ≤ n) (hnl : n ≤ all.length) (hm : ((all.take e).drop f).length = m) (hm5 : m ≤ 512) (hR : RI .u8 w A ((all.take e).drop f)) (hc : m ≤ c) (hz : A = none → c = 0) :
    Calls Try.prog 17 #[.pointer (some ⟨g, 0, none⟩), .int .u64 f, .slice A m c] w fun x w' => ∃ v n' q, x = .returned (.tuple #[v, .int .i64 0]) ∧ n ≤ n' ∧ n' ≤ all.length ∧ n' = max n e ∧ q = n' - n ∧ DV w' v ((all.take n').drop n) ∧ ((all.take n').drop n).length = q ∧ Sk w' g n' ∧ Only g w w' := by
  have hme : m = e - f := by rw [← hm]; simp; omega
  by_cases hk : m ≤ n - f
  · refine (take_none h (by omega) hm5 hf hk).mono ?_
    rintro x w' ⟨rfl, rfl⟩
    have hnil : (all.take n).drop n = [] := List.drop_eq_nil_of_le (by simp; omega)
    exact ⟨_, n, 0, rfl, Nat.le_refl _, hnl, by omega, by omega, by rw [hnil]; exact DV.nil _, by rw [hnil]; rfl, h, Only.refl _ _⟩
  · refine (take_some h (by omega) hm hR hc hz hm5 hf (by omega)).mono ?_
    rintro x w' ⟨v, rfl, h1, h2, h3⟩
    have e1 : n + (m - (n - f)) = e := by omega
    have e2 : ((all.take e).drop f).drop (n - f) = (all.take e).drop n := by rw [List.drop_drop, show f + (n - f) = n by omega]
    rw [e1] at h2
    rw [e2] at h1
    exact ⟨v, e, e - n, rfl, by omega, he, by omega, rfl, h1, by simp; omega, h2, h3⟩
theorem took_join {all : List Int} {n n' : Nat} (h : n ≤ n') : all.take n ++ (all.take n').drop n = all.take n' := by
  rw [List.drop_take]
  have := List.take_add (l := all) (i := n) (j := n' - n)
  rw [show n + (n' - n) = n' by omega] at this
  exact this.symm
theorem info_u64k : (Try.prog.info? 29).map (fun i => (i.zero, i.size, i.bytes)) = some (some (.int .u64 0), 1, 8) := by kernel_rfl
theorem info_slk : (Try.prog.info? 28).map (fun i => (i.zero, i.size, i.bytes)) = some (some (.slice none 0 0), 1, 24) := by kernel_rfl
theorem app_base {W : World} {base b n : Nat} {v : Value} {xs : List Value} {x : Int} (hb : W.cell? ⟨b, 0, none⟩ = some (.int .u64 x)) (hown : W.ownsRow base 29 1 v n xs) (hn : n ≤ 1000) (hbs : base ≤ W.heap.size) :
    ∃ v' w', (Builtin.append_ #[50, 50] 50 #[v, .slice (some ⟨b, 0, none⟩) 1 1]).run Try.prog W = .ok v' w' ∧ w'.ownsRow base 29 1 v' (n + 1) (xs ++ [.int .u64 x]) ∧ W.grownBy w' v.ownBlock ∧ (v'.ownBlock = v.ownBlock ∨ v'.ownBlock = some W.heap.size) := by
  obtain ⟨i0, hi, hz0, hz1, hz2⟩ := info_parts info_u64k
  obtain ⟨v', w', hr, ho, hg, _, hl⟩ := run_append_own_at (P := Try.prog) W base 50 50 29 i0 _ 1 8 Try.underlying50 hi hz0 hz1 hz2 rfl (by decide) v n xs hown ⟨b, 0, none⟩ 1 1 [.int .u64 x] rfl
    (fun j u hj => by
      match j with
      | 0 => simp at hj; subst hj; simpa [Addr.add] using hb
      | j + 1 => simp at hj)
    (fun u hu => by simp at hu; subst hu; rfl) (by unfold maxLen; omega) (by omega) hbs
  exact ⟨v', w', hr, ho, hg, hl⟩
theorem app_row {W : World} {base b n : Nat} {v : Value} {xs : List Value} {A : Option Addr} {m c : Nat} (hb : W.cell? ⟨b, 0, none⟩ = some (.slice A m c)) (hown : W.ownsRow base 28 1 v n xs) (hn : n ≤ 1000) (hbs : base ≤ W.heap.size) :
    ∃ v' w', (Builtin.append_ #[51, 51] 51 #[v, .slice (some ⟨b, 0, none⟩) 1 1]).run Try.prog W = .ok v' w' ∧ w'.ownsRow base 28 1 v' (n + 1) (xs ++ [.slice A m c]) ∧ W.grownBy w' v.ownBlock ∧ (v'.ownBlock = v.ownBlock ∨ v'.ownBlock = some W.heap.size) := by
  obtain ⟨i0, hi, hz0, hz1, hz2⟩ := info_parts info_slk
  obtain ⟨v', w', hr, ho, hg, _, hl⟩ := run_append_own_at (P := Try.prog) W base 51 51 28 i0 _ 1 24 Try.underlying51 hi hz0 hz1 hz2 rfl (by decide) v n xs hown ⟨b, 0, none⟩ 1 1 [.slice A m c] rfl
    (fun j u hj => by
      match j with
      | 0 => simp at hj; subst hj; simpa [Addr.add] using hb
      | j + 1 => simp at hj)
    (fun u hu => by simp at hu; subst hu; rfl) (by unfold maxLen; omega) (by omega) hbs
  exact ⟨v', w', hr, ho, hg, hl⟩
/-- The front of a slice. -/
theorem run_front {A : Option Addr} {n c k : Nat} (hk : k ≤ n) (hc : n ≤ c) (hz : A = none → c = 0) :
    (∀ W bs, RI .u8 W A bs → bs.length = n → RI .u8 W A (bs.take k)) ∧ ∀ W : World, (Instr.slice 28 (.slice A n c) none (some (.int .i64 (k : Int))) none).run Try.prog W = .ok (.slice A k c) W := by
  have h1 : (k : Int) ≤ (c : Int) := by omega
  rcases A with _ | ad
  · obtain rfl := hz rfl
    obtain rfl : n = 0 := by omega
    obtain rfl : k = 0 := by omega
    refine ⟨fun W bs h hl => ?_, fun W => ?_⟩
    · simp; exact RI.nothing _ _ _
    · simp [Instr.slice, run_underlying Try.underlying28, Instr.sliceBounds, run_sliceBound]
  · refine ⟨fun W bs h hl hp => ?_, fun W => ?_⟩
    · obtain ⟨b', off', e, hb, hcl⟩ := h (by simp at hp; omega)
      refine ⟨b', off', e, hb, fun i hi => ?_⟩
      rw [hcl i (by simp at hi; omega)]
      have hik : i < k := by simp at hi; omega
      simp [List.getD, List.getElem?_take, hik]
    · obtain ⟨i0, hi, _, hz1, _⟩ := info_parts info_u8
      simp [Instr.slice, run_underlying Try.underlying28, Instr.sliceBounds, run_sliceBound, h1, hi, hz1]
      intro _
      unfold Addr.add; split <;> simp_all
/-- A block that no owner has. -/
def BL (W : World) (L : List (Option Nat)) (b : Nat) (o : Obj) : Prop := W.heap[b]? = some o ∧ Fr L b
theorem BL.below {W W' : World} {L : List (Option Nat)} {b : Nat} {o : Obj} (h : BL W L b o) (hb : Below W.heap.size W W') : BL W' L b o := ⟨(hb.block b (lt_of_block h.1)).trans h.1, h.2⟩
theorem BL.put {W W' : World} {L : List (Option Nat)} {b : Nat} {o : Obj} (h : BL W L b o) (p : Nat) (T : Option Nat) (hp : p < L.length) (hg : W.grownBy W' (L.getD p none)) (hT : T = L.getD p none ∨ T = some W.heap.size) : BL W' (L.set p T) b o :=
  ⟨(hg.block b (lt_of_block h.1) (fun e => h.2 p e.symm)).trans h.1, h.2.put hp hT (lt_of_block h.1)⟩
/-- A step, copied to a block of its own. -/
def stepObj (A : Option Addr) (m c : Nat) (s b : Bool) (x : Nat) : Obj := .cells #[.slice A m c, .bool s, .bool b, .int .u8 x] 53 (0, 0)
theorem step_cells {W : World} {g : Nat} {A : Option Addr} {m c : Nat} {s b : Bool} {x : Nat} (h : W.heap[g]? = some (stepObj A m c s b x)) : W.cell? ⟨g, 0, none⟩ = some (.slice A m c) ∧ W.cell? ⟨g, 1, none⟩ = some (.bool s) ∧ W.cell? ⟨g, 2, none⟩ = some (.bool b) ∧ W.cell? ⟨g, 3, none⟩ = some (.int .u8 x) := by
  simp [World.cell?, h, stepObj]
/-- What a round holds. -/
def RR (w : World) (g h : Nat) (ut uk vf vs : Value) (a n : Nat) (W : World) : Prop := ∃ (all : List Int) (base tk : Nat) (fs : List Nat) (ss : List Value), base ≤ tk ∧ tk ≤ all.length ∧ all.length ≤ a ∧ all.length - base ≤ 512 ∧ ss.length = fs.length ∧ fs.length ≤ n ∧ KO w g h ut uk vf vs base tk tk all (all.drop base) fs ss W
theorem KO.start {w W : World} {g h : Nat} (hs : St W g 0 []) (hk : Sk W h 0) (hgh : g < h) (hg : w.heap.size ≤ g) (hb : Below w.heap.size w W) : KO w g h (.slice none 0 0) (.slice none 0 0) (.slice none 0 0) (.slice none 0 0) 0 0 0 [] [] [] [] W := by
  have H : ∀ i x, (ows g h (.slice none 0 0) (.slice none 0 0) (.slice none 0 0) (.slice none 0 0)).getD i none = some x → (i = 0 ∧ x = g) ∨ (i = 1 ∧ x = h) := fun i x e => by
    match i with
    | 0 => left; injection e with e; exact ⟨rfl, e.symm⟩
    | 1 => right; injection e with e; exact ⟨rfl, e.symm⟩
    | 2 => cases e
    | 3 => cases e
    | 4 => cases e
    | 5 => cases e
    | n + 6 => cases e
  have := hs.lt
  have := hk.lt
  refine ⟨hs, hk, World.ownsRow_nil _ _ _ _, World.ownsRow_nil _ _ _ _, World.ownsRow_nil _ _ _ _, World.ownsRow_nil _ _ _ _, Nat.le_refl _, fun j hj => absurd hj (by simp), fun hp => absurd hp (by simp), fun i j x hi hj => ?_, fun i x e => ?_, fun i x e => ?_, hb⟩
  · rcases H i x hi with h1 | h1 <;> rcases H j x hj with h2 | h2 <;> omega
  · rcases H i x e with h1 | h1 <;> omega
  · rcases H i x e with h1 | h1 <;> omega
end Go.Proofs.Ytlppnnehgfpgbaa
