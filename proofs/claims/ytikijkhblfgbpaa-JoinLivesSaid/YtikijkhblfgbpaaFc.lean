/-
  Kept here: rows of parts that a call made: what their cells hold, and one more behind them.
-/
import Derived.Test.YtikijkhblfgbpaaFq
import Derived.Test.YtikijkhblfgbpaaFj
namespace Go.Proofs.Ytikijkhblfgbpaa
open Go.RowKit

/-- A slice's value that reads as the bytes d. -/
def DVal (w : World) (B : Nat) (v : Value) (d : List Int) : Prop := ∃ A c, v = .slice A d.length c ∧ RB w B A d ∧ d.length ≤ c ∧ c ≤ maxLen ∧ (A = none → c = 0)
theorem DVal.keep {w w' : World} {B : Nat} {v : Value} {d : List Int} (h : DVal w B v d) (hk : ∀ p : Addr, p.block < B → w'.cell? p = w.cell? p) : DVal w' B v d := by
  obtain ⟨A, c, h1, h2, h3⟩ := h
  exact ⟨A, c, h1, h2.keep hk, h3⟩
theorem DVal.more {w : World} {B B' : Nat} {v : Value} {d : List Int} (h : DVal w B v d) (hB : B ≤ B') : DVal w B' v d := by
  obtain ⟨A, c, h1, h2, h3⟩ := h
  exact ⟨A, c, h1, h2.keep' hB, h3⟩
theorem DVal.own {w : World} {base : Nat} {v : Value} {d : List Int} (h : w.ownsRow base 5 1 v d.length (B8 d)) : DVal w w.heap.size v d := by
  obtain ⟨A, c, h1, h2, h3, h4, h5⟩ := RB.of_own h
  exact ⟨A, c, h1, h2, h3, h4, h5⟩
/-- Cells that hold parts. -/
def PC (w : World) (B : Nat) : List Value → List Prt → Prop
  | [], [] => True
  | a :: b :: c :: v :: r, p :: ps => a = .int .u64 p.id ∧ b = .int .i64 p.ix ∧ c = .int .i64 p.ct ∧ DVal w B v p.d ∧ PC w B r ps
  | _, _ => False
theorem PC.imp {w w' : World} {B B' : Nat} (hD : ∀ v d, DVal w B v d → DVal w' B' v d) : ∀ {cs : List Value} {ps : List Prt}, PC w B cs ps → PC w' B' cs ps
  | [], [], _ => trivial
  | [], _ :: _, h => h.elim
  | [_], [], h => h.elim
  | [_], _ :: _, h => h.elim
  | [_, _], [], h => h.elim
  | [_, _], _ :: _, h => h.elim
  | [_, _, _], [], h => h.elim
  | [_, _, _], _ :: _, h => h.elim
  | _ :: _ :: _ :: _ :: _, [], h => h.elim
  | _ :: _ :: _ :: _ :: _, _ :: _, ⟨h1, h2, h3, h4, h5⟩ => ⟨h1, h2, h3, hD _ _ h4, PC.imp hD h5⟩
theorem PC.keep {w w' : World} {B : Nat} {cs : List Value} {ps : List Prt} (h : PC w B cs ps) (hk : ∀ p : Addr, p.block < B → w'.cell? p = w.cell? p) : PC w' B cs ps := h.imp fun _ _ h => h.keep hk
theorem PC.below {w w' : World} {B : Nat} {cs : List Value} {ps : List Prt} (h : PC w B cs ps) (hb : Below B w w') : PC w' B cs ps := h.keep fun _ hp => hb.cell hp
theorem PC.more {w : World} {B B' : Nat} {cs : List Value} {ps : List Prt} (h : PC w B cs ps) (hB : B ≤ B') : PC w B' cs ps := h.imp fun _ _ h => h.more hB
theorem PC.snoc {w : World} {B : Nat} {v : Value} {p : Prt} (hv : DVal w B v p.d) : ∀ {cs : List Value} {ps : List Prt}, PC w B cs ps → PC w B (cs ++ [.int .u64 p.id, .int .i64 p.ix, .int .i64 p.ct, v]) (ps ++ [p])
  | [], [], _ => ⟨rfl, rfl, rfl, hv, trivial⟩
  | [], _ :: _, h => h.elim
  | [_], [], h => h.elim
  | [_], _ :: _, h => h.elim
  | [_, _], [], h => h.elim
  | [_, _], _ :: _, h => h.elim
  | [_, _, _], [], h => h.elim
  | [_, _, _], _ :: _, h => h.elim
  | _ :: _ :: _ :: _ :: _, [], h => h.elim
  | _ :: _ :: _ :: _ :: _, _ :: _, ⟨h1, h2, h3, h4, h5⟩ => ⟨h1, h2, h3, h4, PC.snoc hv h5⟩
theorem PC.length {w : World} {B : Nat} : ∀ {cs : List Value} {ps : List Prt}, PC w B cs ps → cs.length = ps.length * 4
  | [], [], _ => rfl
  | [], _ :: _, h => h.elim
  | [_], [], h => h.elim
  | [_], _ :: _, h => h.elim
  | [_, _], [], h => h.elim
  | [_, _], _ :: _, h => h.elim
  | [_, _, _], [], h => h.elim
  | [_, _, _], _ :: _, h => h.elim
  | _ :: _ :: _ :: _ :: _, [], h => h.elim
  | _ :: _ :: _ :: _ :: r, _ :: ps, ⟨_, _, _, _, h5⟩ => by have := PC.length h5; simp; omega
theorem PC.at_ {w : World} {B : Nat} : ∀ {cs : List Value} {ps : List Prt}, PC w B cs ps → ∀ i, i < ps.length →
    cs[i * 4]? = some (.int .u64 (pAt ps i).id) ∧ cs[i * 4 + 1]? = some (.int .i64 (pAt ps i).ix) ∧ cs[i * 4 + 2]? = some (.int .i64 (pAt ps i).ct) ∧ ∃ v, cs[i * 4 + 3]? = some v ∧ DVal w B v (pAt ps i).d
  | [], [], _, _, hi => absurd hi (by simp)
  | [], _ :: _, h, _, _ => h.elim
  | [_], [], h, _, _ => h.elim
  | [_], _ :: _, h, _, _ => h.elim
  | [_, _], [], h, _, _ => h.elim
  | [_, _], _ :: _, h, _, _ => h.elim
  | [_, _, _], [], h, _, _ => h.elim
  | [_, _, _], _ :: _, h, _, _ => h.elim
  | _ :: _ :: _ :: _ :: _, [], h, _, _ => h.elim
  | a :: b :: c :: v :: r, p :: ps, ⟨h1, h2, h3, h4, _⟩, 0, _ => ⟨by simp [pAt, h1], by simp [pAt, h2], by simp [pAt, h3], v, by simp, by simpa [pAt] using h4⟩
  | a :: b :: c :: v :: r, p :: ps, ⟨_, _, _, _, h5⟩, i + 1, hi => by
    have := PC.at_ h5 i (by simpa using hi)
    have e1 : (i + 1) * 4 = i * 4 + 1 + 1 + 1 + 1 := by omega
    simp only [e1, List.getElem?_cons_succ]
    simpa [pAt] using this
/-- Rows of the call's own that hold parts read as these. -/
theorem PS.of_rows {w : World} {base B : Nat} {e : TypeId} {A : Option Addr} {c n : Nat} {cs : List Value} {ps : List Prt} (hn : ps.length = n) (h : w.ownsRow base e 4 (.slice A n c) n cs) (hF : PC w B cs ps) (hB : B ≤ w.heap.size) : PS w w.heap.size A ps := by
  intro hl
  subst hn
  obtain ⟨g, cap, hv, _, hlt⟩ := h.form hl
  injection hv with hA _ hc
  subst hA; subst hc
  refine ⟨g, 0, rfl, hlt, fun i hi => ?_⟩
  obtain ⟨h1, h2, h3, v, h4, h5⟩ := hF.at_ i hi
  obtain ⟨A', c', rfl, h6⟩ := h5.more hB
  have e1 := h.cellAt (i * 4) (by omega)
  have e2 := h.cellAt (i * 4 + 1) (by omega)
  have e3 := h.cellAt (i * 4 + 2) (by omega)
  have e4 := h.cellAt (i * 4 + 3) (by omega)
  rw [Nat.zero_add]
  exact ⟨e1.trans h1, e2.trans h2, e3.trans h3, A', c', e4.trans h4, h6⟩
/-- Cells that hold parts whose bytes lie in memory that the call made. -/
def PO (w : World) (base : Nat) : List Value → List Prt → Prop
  | [], [] => True
  | a :: b :: c :: v :: r, p :: ps => a = .int .u64 p.id ∧ b = .int .i64 p.ix ∧ c = .int .i64 p.ct ∧ w.ownsRow base 5 1 v p.d.length (B8 p.d) ∧ PO w base r ps
  | _, _ => False
theorem PO.imp {w w' : World} {B B' : Nat} (hD : ∀ v d, w.ownsRow B 5 1 v d.length (B8 d) → w'.ownsRow B' 5 1 v d.length (B8 d)) : ∀ {cs : List Value} {ps : List Prt}, PO w B cs ps → PO w' B' cs ps
  | [], [], _ => trivial
  | [], _ :: _, h => h.elim
  | [_], [], h => h.elim
  | [_], _ :: _, h => h.elim
  | [_, _], [], h => h.elim
  | [_, _], _ :: _, h => h.elim
  | [_, _, _], [], h => h.elim
  | [_, _, _], _ :: _, h => h.elim
  | _ :: _ :: _ :: _ :: _, [], h => h.elim
  | _ :: _ :: _ :: _ :: _, _ :: _, ⟨h1, h2, h3, h4, h5⟩ => ⟨h1, h2, h3, hD _ _ h4, PO.imp hD h5⟩
theorem own_u8_kept {w w' : World} {base n : Nat} {v : Value} {xs : List Value} {row : Option Nat} (h2 : w.ownsRow base 5 1 v n xs) (hg : w.grownBy w' row) (hr : ∀ g, row = some g → ∃ c t f, w.heap[g]? = some (.cells c t f) ∧ t ≠ 5) : w'.ownsRow base 5 1 v n xs :=
  h2.kept hg (by
    rcases h2.2 with ⟨rfl, _⟩ | ⟨g, cap, cur, rfl, _, hh, _⟩
    · exact .inl rfl
    · refine .inr fun e => ?_
      obtain ⟨c, t, fr, hh', ht⟩ := hr g e.symm
      rw [hh] at hh'
      injection hh' with hh'
      injection hh' with _ h5
      exact ht h5.symm)
theorem PO.kept {w w' : World} {base : Nat} {row : Option Nat} {cs : List Value} {ps : List Prt} (h : PO w base cs ps) (hg : w.grownBy w' row) (hr : ∀ g, row = some g → ∃ c t f, w.heap[g]? = some (.cells c t f) ∧ t ≠ 5) : PO w' base cs ps :=
  h.imp fun _ _ h2 => own_u8_kept h2 hg hr
theorem PO.below {w w' : World} {base : Nat} (hb : Below w.heap.size w w') {cs : List Value} {ps : List Prt} (h : PO w base cs ps) : PO w' base cs ps := h.kept (grown_of_below hb) (fun g hg => by cases hg)
theorem PO.base {w : World} {base base' : Nat} (hb : base' ≤ base) {cs : List Value} {ps : List Prt} (h : PO w base cs ps) : PO w base' cs ps := h.imp fun _ _ h => own_mono h hb
theorem PO.snoc {w : World} {B : Nat} {v : Value} {p : Prt} (hv : w.ownsRow B 5 1 v p.d.length (B8 p.d)) : ∀ {cs : List Value} {ps : List Prt}, PO w B cs ps → PO w B (cs ++ [.int .u64 p.id, .int .i64 p.ix, .int .i64 p.ct, v]) (ps ++ [p])
  | [], [], _ => ⟨rfl, rfl, rfl, hv, trivial⟩
  | [], _ :: _, h => h.elim
  | [_], [], h => h.elim
  | [_], _ :: _, h => h.elim
  | [_, _], [], h => h.elim
  | [_, _], _ :: _, h => h.elim
  | [_, _, _], [], h => h.elim
  | [_, _, _], _ :: _, h => h.elim
  | _ :: _ :: _ :: _ :: _, [], h => h.elim
  | _ :: _ :: _ :: _ :: _, _ :: _, ⟨h1, h2, h3, h4, h5⟩ => ⟨h1, h2, h3, h4, PO.snoc hv h5⟩
theorem PO.toPC {w : World} {B : Nat} : ∀ {cs : List Value} {ps : List Prt}, PO w B cs ps → PC w w.heap.size cs ps
  | [], [], _ => trivial
  | [], _ :: _, h => h.elim
  | [_], [], h => h.elim
  | [_], _ :: _, h => h.elim
  | [_, _], [], h => h.elim
  | [_, _], _ :: _, h => h.elim
  | [_, _, _], [], h => h.elim
  | [_, _, _], _ :: _, h => h.elim
  | _ :: _ :: _ :: _ :: _, [], h => h.elim
  | _ :: _ :: _ :: _ :: _, _ :: _, ⟨h1, h2, h3, h4, h5⟩ => ⟨h1, h2, h3, DVal.own h4, PO.toPC h5⟩
theorem own_cast4 {w : World} {base : Nat} {e : TypeId} {sz : Nat} {v : Value} {n m : Nat} {xs ys : List Value} (h : w.ownsRow base e sz v n xs) (hn : n = m) (hx : xs = ys) : w.ownsRow base e sz v m ys := by
  subst hn; subst hx; exact h
/-- append(row, p): p lies in a block of its own. -/
theorem app_part {W : World} {base fb : Nat} {v : Value} {n : Nat} {lc : List Value} {id ix ct : Int} {A : Option Addr} {l c : Nat} (hown : W.ownsRow base 30 4 v n lc)
    (hblk : W.heap[fb]? = some (.cells #[.int .u64 id, .int .i64 ix, .int .i64 ct, .slice A l c] 30 (0, 0))) (hn : n ≤ 100000) (hb : base ≤ W.heap.size) :
    ∃ v' w', (Builtin.append_ #[22, 22] 22 #[v, .slice (some ⟨fb, 0, none⟩) 1 1]).run Try.prog W = .ok v' w' ∧ w'.ownsRow base 30 4 v' (n + 1) (lc ++ [.int .u64 id, .int .i64 ix, .int .i64 ct, .slice A l c]) ∧ W.grownBy w' v.ownBlock ∧ (v'.ownBlock = v.ownBlock ∨ v'.ownBlock = some W.heap.size) := by
  obtain ⟨i0, hi, hz0, hz1, hz2⟩ := info_parts infoPart
  obtain ⟨v', w', hr, ho, hg, _, hat⟩ := run_append_own_at (P := Try.prog) W base 22 22 30 i0 _ 4 48 Try.underlying22 hi hz0 hz1 hz2 rfl (by decide) v n lc hown ⟨fb, 0, none⟩ 1 1 [.int .u64 id, .int .i64 ix, .int .i64 ct, .slice A l c] rfl
    (fun j u hu => by
      rw [Go.WideShapes.add_plain]
      match j, hu with
      | 0, hu => simp at hu; subst hu; simp [World.cell?, hblk]
      | 1, hu => simp at hu; subst hu; simp [World.cell?, hblk]
      | 2, hu => simp at hu; subst hu; simp [World.cell?, hblk]
      | 3, hu => simp at hu; subst hu; simp [World.cell?, hblk]
      | j + 4, hu => simp at hu)
    (fun u hu => by
      simp at hu
      rcases hu with rfl | rfl | rfl | rfl <;> rfl) (by unfold maxLen; omega) (by omega) hb
  exact ⟨v', w', hr, ho, hg, hat⟩
theorem infoRPart : (Try.prog.info? 36).map (fun i => (i.zero, i.size, i.bytes)) = some (some (.agg #[.int .u64 0, .int .i64 0, .int .i64 0, .slice none 0 0]), 4, 48) := by kernel_rfl
/-- The same of the document's parts. -/
theorem app_rpart {W : World} {base fb : Nat} {v : Value} {n : Nat} {lc : List Value} {id ix ct : Int} {A : Option Addr} {l c : Nat} (hown : W.ownsRow base 36 4 v n lc)
    (hblk : W.heap[fb]? = some (.cells #[.int .u64 id, .int .i64 ix, .int .i64 ct, .slice A l c] 36 (0, 0))) (hn : n ≤ 100000) (hb : base ≤ W.heap.size) :
    ∃ v' w', (Builtin.append_ #[41, 41] 41 #[v, .slice (some ⟨fb, 0, none⟩) 1 1]).run Try.prog W = .ok v' w' ∧ w'.ownsRow base 36 4 v' (n + 1) (lc ++ [.int .u64 id, .int .i64 ix, .int .i64 ct, .slice A l c]) ∧ W.grownBy w' v.ownBlock ∧ (v'.ownBlock = v.ownBlock ∨ v'.ownBlock = some W.heap.size) := by
  obtain ⟨i0, hi, hz0, hz1, hz2⟩ := info_parts infoRPart
  obtain ⟨v', w', hr, ho, hg, _, hat⟩ := run_append_own_at (P := Try.prog) W base 41 41 36 i0 _ 4 48 Try.underlying41 hi hz0 hz1 hz2 rfl (by decide) v n lc hown ⟨fb, 0, none⟩ 1 1 [.int .u64 id, .int .i64 ix, .int .i64 ct, .slice A l c] rfl
    (fun j u hu => by
      rw [Go.WideShapes.add_plain]
      match j, hu with
      | 0, hu => simp at hu; subst hu; simp [World.cell?, hblk]
      | 1, hu => simp at hu; subst hu; simp [World.cell?, hblk]
      | 2, hu => simp at hu; subst hu; simp [World.cell?, hblk]
      | 3, hu => simp at hu; subst hu; simp [World.cell?, hblk]
      | j + 4, hu => simp at hu)
    (fun u hu => by
      simp at hu
      rcases hu with rfl | rfl | rfl | rfl <;> rfl) (by unfold maxLen; omega) (by omega) hb
  exact ⟨v', w', hr, ho, hg, hat⟩
end Go.Proofs.Ytikijkhblfgbpaa
