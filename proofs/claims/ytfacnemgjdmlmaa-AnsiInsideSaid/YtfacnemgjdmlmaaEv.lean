/-
  Proved here: two rows of points of this call's own, apart, each made longer.
-/
import Derived.Test.YtfacnemgjdmlmaaEt
set_option linter.unusedSimpArgs false
set_option linter.unusedVariables false
namespace Go.Proofs.Ytfacnemgjdmlmaa
open Go.RowKit
theorem app_i32s {W : World} {base : Nat} {v : Value} {n : Nat} {xs : List Int} {g : Nat} {ys : List Int} {m : Nat} (hm : ys.length = m) (hR : RI .i32 W (some ⟨g, 0, none⟩) ys) (hown : W.ownsRow base 21 1 v n (NV .i32 xs)) (hn : n + m ≤ 100000) (hb : base ≤ W.heap.size) :
    ∃ A c w', (Builtin.append_ #[22, 22] 22 #[v, .slice (some ⟨g, 0, none⟩) m m]).run Try.prog W = .ok (.slice A (n + m) c) w' ∧ w'.ownsRow base 21 1 (.slice A (n + m) c) (n + m) (NV .i32 (xs ++ ys)) ∧ W.grownBy w' v.ownBlock ∧ SubO (.slice A (n + m) c) v W := by
  subst hm
  obtain ⟨i0, hi, hz0, hz1, hz2⟩ := info_parts info_i32
  obtain ⟨v', w', hr, ho, hg, _, hs⟩ := run_append_own_at (P := Try.prog) W base 22 22 21 i0 _ 1 4 Try.underlying22 hi hz0 hz1 hz2 rfl (by decide) v n (NV .i32 xs) hown ⟨g, 0, none⟩ ys.length ys.length (NV .i32 ys) (by simp [NV]) hR.cells
      (fun u hu => by obtain ⟨x, _, rfl⟩ := List.mem_map.1 hu; rfl) (by unfold maxLen; omega) (by omega) hb
  obtain ⟨A, c, rfl, _⟩ := own_slice ho
  refine ⟨A, c, w', hr, own_cast ho rfl (by simp [NV]), hg, fun k hk => ?_⟩
  rcases hs with h | h
  · exact .inl (h ▸ hk)
  · rw [h] at hk; injection hk with hk; exact .inr (by omega)
/-- Two rows of this call's own, apart. -/
structure O2 (w : World) (v1 v2 : Value) (xs ys : List Int) (W : World) : Prop where
  own1 : W.ownsRow w.heap.size 21 1 v1 xs.length (NV .i32 xs)
  own2 : W.ownsRow w.heap.size 21 1 v2 ys.length (NV .i32 ys)
  ap : ∀ k, v1.ownBlock = some k → v2.ownBlock ≠ some k
  below : Below w.heap.size w W
section
variable {w : World} {v1 v2 : Value} {xs ys : List Int} {W W' : World}
theorem O2.to (h : O2 w v1 v2 xs ys W) (hb : Below W.heap.size W W') : O2 w v1 v2 xs ys W' := ⟨own_below h.own1 hb, own_below h.own2 hb, h.ap, h.below.trans (hb.mono h.below.size)⟩
theorem O2.swap (h : O2 w v1 v2 xs ys W) : O2 w v2 v1 ys xs W := ⟨h.own2, h.own1, fun k e f => h.ap k f e, h.below⟩
theorem O2.new (w : World) : O2 w (.slice none 0 0) (.slice none 0 0) [] [] w := ⟨World.ownsRow_nil _ _ _ _, World.ownsRow_nil _ _ _ _, fun k e => by simp [Value.ownBlock] at e, Below.refl _ _⟩
theorem O2.app (h : O2 w v1 v2 xs ys W) {g n : Nat} {zs : List Int} {m : Nat} (hm : zs.length = m) (hx : xs.length = n) (hR : RI .i32 W (some ⟨g, 0, none⟩) zs) (hn : n + m ≤ 100000) :
    ∃ A c w', (Builtin.append_ #[22, 22] 22 #[v1, .slice (some ⟨g, 0, none⟩) m m]).run Try.prog W = .ok (.slice A (n + m) c) w' ∧ O2 w (.slice A (n + m) c) v2 (xs ++ zs) ys w' ∧ W.grownBy w' v1.ownBlock ∧ SubO (.slice A (n + m) c) v1 W := by
  subst hx
  obtain ⟨A, c, w', hr, ho, hg, hs⟩ := app_i32s hm hR h.own1 hn h.below.size
  refine ⟨A, c, w', hr, ⟨own_cast ho (by simp [hm]) rfl, h.own2.kept hg ?_, fun k e f => ?_, h.below.grown hg h.below.size (ownBlock_le h.own1)⟩, hg, hs⟩
  · cases hv : v2.ownBlock with
    | none => exact .inl rfl
    | some k => exact .inr fun e => h.ap k e.symm hv
  · rcases hs k e with h9 | h9
    · exact h.ap k h9 f
    · have := own_lt h.own2 f
      omega
theorem O2.ne1 (h : O2 w v1 v2 xs ys W) {g : Nat} (hg : W.heap.size ≤ g) : some g ≠ v1.ownBlock := fun e => by
  have := own_lt h.own1 e.symm
  omega
theorem O2.ri1 {A : Option Addr} {n c : Nat} (h : O2 w (.slice A n c) v2 xs ys W) : RI .i32 W A xs ∧ n = xs.length := (Own32.ri ⟨h.own1, h.below⟩)
theorem O2.fr2 (h : O2 w v1 v2 xs ys W) {g : Nat} (hf : Fr2 g (.slice none 0 0) (.slice none 0 0) W W') (hg : w.heap.size ≤ g) (h1 : some g ≠ v1.ownBlock) (h2 : some g ≠ v2.ownBlock) : O2 w v1 v2 xs ys W' := by
  have hk : ∀ k, k < W.heap.size → k ≠ g → W'.heap[k]? = W.heap[k]? := fun k a b => hf.block k a b (by simp [Value.ownBlock]) (by simp [Value.ownBlock])
  exact ⟨own_keep h.own1 (fun k e => hk k (own_lt h.own1 e) (fun c => h1 (c ▸ e.symm))), own_keep h.own2 (fun k e => hk k (own_lt h.own2 e) (fun c => h2 (c ▸ e.symm))), h.ap,
    h.below.trans ⟨hf.os, hf.tape, hf.output, hf.size, fun k a => hk k (Nat.lt_of_lt_of_le a h.below.size) (by omega)⟩⟩
/-- Where a row that was made longer lies. -/
theorem O2.arg {A : Option Addr} {n c g : Nat} {W3 : World} {v0 : Value} (h : O2 w (.slice A n c) v2 xs ys W) (hs : SubO (.slice A n c) v0 W3) (hlt : some g ≠ v0.ownBlock) (hg : g < W3.heap.size) (hp : 0 < xs.length) :
    ∀ b o q, A = some ⟨b, o, q⟩ → b ≠ g := by
  intro b o q e
  have hn := h.ri1.2
  obtain ⟨g', e', _, _, _⟩ := own_cells (A := A) (m := n) (c := c) (by have := h.own1; rw [← hn] at this; exact this) hn.symm (by omega)
  rw [e] at e'
  injection e' with e'
  injection e' with e1 e2 e3
  subst e1 e2 e3 e
  rcases hs b rfl with x | x
  · exact fun c => hlt (c ▸ x.symm)
  · omega
end
theorem RI.grownN {k : IntKind} {W w' : World} {g : Nat} {ys : List Int} {row : Option Nat} (h : RI k W (some ⟨g, 0, none⟩) ys) (hg : W.grownBy w' row) (hne : some g ≠ row) : RI k w' (some ⟨g, 0, none⟩) ys := fun hl => by
  obtain ⟨b, off, e, hb, hc⟩ := h hl
  injection e with e
  injection e with e1 e2
  subst e1 e2
  exact ⟨_, _, rfl, Nat.lt_of_lt_of_le hb hg.size, fun i hi => hg.cell (hc i hi) hne⟩
theorem KeepB.grown {B : Nat} {W W' : World} {row : Option Nat} (hg : W.grownBy W' row) (hr : ∀ k, row = some k → k < B) : KeepB B W W' :=
  ⟨hg.size, fun k a b => hg.block k b (fun e => by have := hr k e.symm; omega)⟩
theorem Qs.grownBy {B g : Nat} {vp vt : Value} {s : PP} {W W' : World} {row : Option Nat} (h : Qs B g vp vt s W) (hg : W.grownBy W' row) (hne : some g ≠ row) (hr : ∀ k, row = some k → k < B) : Qs B g vp vt s W' := by
  have hk := KeepB.grown hg hr
  exact ⟨(hg.block g h.lt hne).trans h.blk, own_keep h.op (fun k e => hk.2 k (ownBlock_le h.op k e) (own_lt h.op e)), own_keep h.ot (fun k e => hk.2 k (ownBlock_le h.ot k e) (own_lt h.ot e)), h.low, Nat.le_trans h.big hg.size⟩
/-- A row of events but for the first one. -/
theorem slice_from_ev {b off n cap : Nat} (hn : 1 ≤ n) (hc : n ≤ cap) :
    ∃ A2 : Option Addr, (∀ W B e es, EvQ B W (some ⟨b, off, none⟩) (e :: es) → es.length = n - 1 → EvQ B W A2 es) ∧
      ∀ W : World, (Instr.slice 29 (.slice (some ⟨b, off, none⟩) n cap) (some (.int .i64 1)) none none).run Try.prog W = .ok (.slice A2 (n - 1) (cap - 1)) W := by
  have h1 : (1 : Int) ≤ (n : Int) := by omega
  refine ⟨some (if cap = 1 then ⟨b, off, none⟩ else ⟨b, off + 7, none⟩), fun W B e es h hl => ?_, fun W => ?_⟩
  · by_cases hcap : cap = 1
    · obtain rfl : es = [] := List.eq_nil_of_length_eq_zero (by omega)
      exact fun hp => absurd hp (by simp)
    · rw [if_neg hcap]
      exact h.tail
  · obtain ⟨i0, hi, _, hz1, _⟩ := info_parts infoEvA
    simp [Instr.slice, run_underlying Try.underlying29, Instr.sliceBounds, run_sliceBound, h1, hi, hz1]
    split <;> rfl
/-- The points with the control among them, as far as they have come. -/
def wth (l : List Int) (k : Nat) (p : Int) (i : Nat) : List Int := if k < i then l.take k ++ [p] ++ (l.take i).drop k else l.take i
theorem take_snoc {l : List Int} {i : Nat} (hi : i < l.length) : l.take (i + 1) = l.take i ++ [l.getD i 0] := by
  rw [List.take_add_one, List.getElem?_eq_getElem hi]; simp [List.getD, hi]
theorem wth_at {l : List Int} {k : Nat} {p : Int} (hk : k < l.length) : wth l k p k ++ [p] ++ [l.getD k 0] = wth l k p (k + 1) := by
  unfold wth
  rw [if_neg (Nat.lt_irrefl k), if_pos (Nat.lt_succ_self k), take_snoc hk, List.drop_append_of_le_length (by rw [List.length_take]; omega)]
  rw [List.drop_eq_nil_of_le (by rw [List.length_take]; omega)]
  rfl
theorem wth_no {l : List Int} {k i : Nat} {p : Int} (hi : i < l.length) (h : i ≠ k) : wth l k p i ++ [l.getD i 0] = wth l k p (i + 1) := by
  unfold wth
  by_cases hk : k < i
  · rw [if_pos hk, if_pos (by omega), take_snoc hi, List.drop_append_of_le_length (by rw [List.length_take]; omega)]
    simp
  · rw [if_neg hk, if_neg (by omega), take_snoc hi]
theorem wth_end {l : List Int} {k : Nat} {p : Int} (hk : k < l.length) : wth l k p l.length = l.take k ++ [p] ++ l.drop k := by
  unfold wth
  rw [if_pos hk, List.take_length]
theorem wth_len {l : List Int} {k i : Nat} {p : Int} (hi : i ≤ l.length) : (wth l k p i).length = if k < i then i + 1 else i := by
  unfold wth
  split
  · simp; omega
  · simp; omega
theorem and31 : ∀ v : Fin 256, bits .and .u8 ((v.1 : Nat) : Int) 31 = ((v.1 % 32 : Nat) : Int) := by decide +kernel
end Go.Proofs.Ytfacnemgjdmlmaa
