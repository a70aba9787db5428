/-
  Kept here, for every later text: rows of bytes (that come in, or that a call made), what becomes of them, bytes.Clone, append, bytes as a string.
-/
import Derived.Test.YtikijkhblfgbpaaProg
import Derived.WalkKit
import Derived.Handy
import Derived.Lib.Hide
import Derived.Maps.AppendAt
import Derived.WalkSpells
import Derived.Deep.RegionHeld3
import Derived.Deep.AppendLies
import Derived.Deep.QuietTactic
import Derived.BigQuiet
import Derived.Laws.AppendOwnNone
import Derived.Laws.BytesArg
namespace Go.Proofs.Ytikijkhblfgbpaa
open Go.RowKit
theorem infoByte : (Try.prog.info? 5).map (fun i => (i.zero, i.size, i.bytes)) = some (some (.int .u8 0), 1, 1) := by kernel_rfl

/-- A row of bytes. -/
abbrev B8 (l : List Int) : List Value := l.map (Value.int .u8)

theorem ownBlock_le {w : World} {base : Nat} {e : TypeId} {size : Nat} {v : Value} {n : Nat} {xs : List Value} (h : w.ownsRow base e size v n xs) : ∀ k, v.ownBlock = some k → base ≤ k := by
  intro k hk
  rcases h.2 with ⟨rfl, _⟩ | ⟨g, cap, cur, rfl, hg, _⟩
  · simp [Value.ownBlock] at hk
  · have : g = k := by simpa [Value.ownBlock] using hk
    omega

/-- The new row is the old one, or was made later. -/
def Lies (w : World) (sv v' : Value) : Prop := v'.ownBlock = sv.ownBlock ∨ ∃ g, v'.ownBlock = some g ∧ w.heap.size ≤ g
theorem Lies.refl (w : World) (v : Value) : Lies w v v := .inl rfl
/-- One append more: what it leaves of the blocks that were there. -/
theorem grown_step {w wr w1 : World} {sv b v' : Value} {o : Obj} (hg : w.grownBy wr sv.ownBlock) (hl : Lies w sv b) (hgrow : (wr.alloc o).grownBy w1 b.ownBlock) (hat : v'.ownBlock = b.ownBlock ∨ v'.ownBlock = some (wr.heap.size + 1)) :
    w.grownBy w1 sv.ownBlock ∧ Lies w sv v' := by
  have hs := hg.size
  have hs1 : wr.heap.size ≤ (wr.alloc o).heap.size := by simp
  refine ⟨⟨hgrow.os.trans hg.os, hgrow.tape.trans hg.tape, hgrow.output.trans hg.output, Nat.le_trans hs (Nat.le_trans hs1 hgrow.size), fun k hk hne => ?_⟩, ?_⟩
  · rw [hgrow.block k (by omega) ?_, Below.heap_alloc wr o k (by omega), hg.block k hk hne]
    rcases hl with h | ⟨g, h, hge⟩
    · rw [h]; exact hne
    · rw [h]; intro e; injection e with e; omega
  · rcases hat with h | h
    · rcases hl with h' | ⟨g, h', hge⟩
      · exact .inl (h.trans h')
      · exact .inr ⟨g, h.trans h', hge⟩
    · exact .inr ⟨_, h, by omega⟩

theorem ret_int {k : IntKind} {a b : Int} (h : a = b) : Ending.returned (.int k a) = .returned (.int k b) := by rw [h]

/-- All of them are bytes. -/
def Bytes (bs : List Int) : Prop := ∀ i, 0 ≤ bs.getD i 0 ∧ bs.getD i 0 < 256
/-- A slice of bytes that reads as bs, below block B. -/
def RB (w : World) (B : Nat) (A : Option Addr) (bs : List Int) : Prop :=
  0 < bs.length → ∃ b off, A = some ⟨b, off, none⟩ ∧ b < B ∧ ∀ i, i < bs.length → w.cell? ⟨b, off + i, none⟩ = some (.int .u8 (bs.getD i 0))
theorem RB.keep {w w' : World} {B : Nat} {A : Option Addr} {bs : List Int} (h : RB w B A bs) (hk : ∀ p : Addr, p.block < B → w'.cell? p = w.cell? p) : RB w' B A bs := fun hl => by
  obtain ⟨b, off, e, hb, hc⟩ := h hl
  exact ⟨b, off, e, hb, fun i hi => (hk _ hb).trans (hc i hi)⟩
theorem RB.below {w w' : World} {B : Nat} {A : Option Addr} {bs : List Int} (h : RB w B A bs) (hb : Below B w w') : RB w' B A bs := h.keep fun _ hp => hb.cell hp

theorem RB.keep' {w : World} {B B' : Nat} {A : Option Addr} {bs : List Int} (h : RB w B A bs) (hB : B ≤ B') : RB w B' A bs := fun hl => by
  obtain ⟨b, off, e, hb, hc⟩ := h hl
  exact ⟨b, off, e, by omega, hc⟩

/-- What is answered: a row of the bytes bs, in memory that the call made. -/
def OwnPost (bs : List Int) (w : World) (e : Ending) (w' : World) : Prop :=
  ∃ v, e = .returned v ∧ w'.ownsRow w.heap.size 5 1 v bs.length (B8 bs) ∧ Below w.heap.size w w'

theorem oneCell_B8 (l : List Int) : ∀ u ∈ B8 l, u.oneCell' = true := by
  intro u hu
  obtain ⟨x, _, rfl⟩ := List.mem_map.1 hu
  rfl

theorem RB.cells {w : World} {B : Nat} {ad : Addr} {bs : List Int} (h : RB w B (some ad) bs) : ∀ j u, (B8 bs)[j]? = some u → w.cell? (ad.add j) = some u := by
  intro j u hu
  have hj : j < bs.length := by
    have := (List.getElem?_eq_some_iff.1 hu).1
    simpa using this
  obtain ⟨b, off, e, _, hc⟩ := h (by omega)
  injection e with e
  subst e
  have h1 := hc j hj
  have h2 : u = .int .u8 (bs.getD j 0) := by
    simp only [B8, List.getElem?_map, Option.map_eq_some_iff] at hu
    obtain ⟨x, hx, rfl⟩ := hu
    simp [List.getD, hx]
  rw [h2, ← h1]
  simp only [Addr.add]
  split
  · rename_i h0; simp [h0]
  · rfl

theorem RB.alloc {w : World} {B : Nat} {A : Option Addr} {bs : List Int} (h : RB w B A bs) (hB : B ≤ w.heap.size) (o : Obj) : RB (w.alloc o) B A bs :=
  h.keep fun p hp => World.cell?_of_block (Below.heap_alloc w o p.block (by omega))

set_option maxHeartbeats 400000 in
theorem clone_any (bs : List Int) (A : Option Addr) (cap : Nat) (w : World) (hR : RB w w.heap.size A bs) (hl : bs.length ≤ 140737488351232) (hA : A = none → cap = 0) :
    Calls Try.prog 20 #[.slice A bs.length cap] w (OwnPost bs w) := by
  rcases A with _ | ad
  · have hz : bs.length = 0 := by
      rcases Nat.eq_zero_or_pos bs.length with h | h
      · exact h
      · obtain ⟨_, _, h, _⟩ := hR h
        cases h
    obtain rfl : bs = [] := List.eq_nil_of_length_eq_zero hz
    obtain rfl := hA rfl
    have hnil := fun W => Lib.run_eql_slice_nil (P := Try.prog) W 28 5 none 0 0 0 0 Try.underlying28
    go_enter Try.func20, Try.ntmps20
    go_wp2
    go_ret
    exact ⟨_, rfl, World.ownsRow_nil _ _ _ _, Below.refl _ _⟩
  · have hnil := fun W => Lib.run_eql_slice_nil (P := Try.prog) W 28 5 (some ad) bs.length cap 0 0 Try.underlying28
    obtain ⟨i0, hi, hz0, hz1, hz2⟩ := info_parts infoByte
    go_enter Try.func20, Try.ntmps20
    go_wp2_with (at_builtin; refine wpList_append_own _ rfl _ _ 28 rfl w.heap.size 5 i0 (.int .u8 0) 1 1 Try.underlying28 hi hz0 hz1 hz2 rfl (by decide) _ 0 [] rfl (World.ownsRow_made w #[] 0 (Nat.le_refl _) (by unfold maxLen; omega) rfl) ad bs.length cap (B8 bs) rfl (by simp) ?c1 (oneCell_B8 bs) ?c3 ?c4 ?c5 ?_)
    case c1 => exact (hR.alloc (Nat.le_refl _) _).cells
    case c3 => unfold maxLen; omega
    case c4 => omega
    case c5 => simp
    · intro v' w1 hown1 hgrow _
      go_wp2
      go_ret
      refine ⟨v', rfl, by simpa using hown1, ((Below.refl _ _).alloc (Nat.le_refl _) _).grown hgrow (by simp) ?_⟩
      intro k hk
      have : w.heap.size = k := by simpa [Value.ownBlock] using hk
      omega
def cut (bs : List Int) (f n : Nat) : List Int := (bs.drop f).take n
theorem cut_length {bs : List Int} {f n : Nat} (h : f + n ≤ bs.length) : (cut bs f n).length = n := by simp [cut]; omega
theorem cut_getD {bs : List Int} {f n i : Nat} (hi : i < n) : (cut bs f n).getD i 0 = bs.getD (f + i) 0 := by
  simp [cut, List.getD, hi]
theorem RB.cut {w : World} {B b off : Nat} {bs : List Int} (h : RB w B (some ⟨b, off, none⟩) bs) {f n : Nat} (hf : f + n ≤ bs.length) : RB w B (some ⟨b, off + f, none⟩) (cut bs f n) := by
  intro hl
  rw [cut_length hf] at hl
  obtain ⟨b', off', e, hb, hc⟩ := h (by omega)
  injection e with e
  injection e with e1 e2
  subst e1; subst e2
  refine ⟨b, off + f, rfl, hb, fun i hi => ?_⟩
  rw [cut_length hf] at hi
  rw [cut_getD hi, ← hc (f + i) (by omega), Nat.add_assoc]
theorem RB.nothing (w : World) (B : Nat) (A : Option Addr) : RB w B A [] := fun h => absurd h (by simp)
theorem Bytes.cut {bs : List Int} (h : Bytes bs) (f n : Nat) : Bytes (cut bs f n) := fun i => by
  by_cases hi : i < n
  · rw [cut_getD hi]; exact h _
  · have : (Proofs.Ytikijkhblfgbpaa.cut bs f n).getD i 0 = 0 := by simp [Proofs.Ytikijkhblfgbpaa.cut, List.getD, List.getElem?_take, hi]
    rw [this]; omega

theorem clone_n (bs : List Int) (n : Nat) (hn : bs.length = n) (A : Option Addr) (cap : Nat) (w : World) (hR : RB w w.heap.size A bs) (hl : bs.length ≤ 140737488351232) (hA : A = none → cap = 0) :
    Calls Try.prog 20 #[.slice A n cap] w (OwnPost bs w) := by
  subst hn
  exact clone_any bs A cap w hR hl hA

theorem own_slice {w : World} {base : Nat} {e : TypeId} {size : Nat} {v : Value} {n : Nat} {xs : List Value} (h : w.ownsRow base e size v n xs) : ∃ A c, v = .slice A n c ∧ n ≤ c ∧ c ≤ maxLen ∧ (A = none → c = 0) := by
  rcases h.2 with ⟨rfl, rfl⟩ | ⟨g, cap, cur, rfl, _, _, h1, h2, _⟩
  · exact ⟨none, 0, rfl, by omega, by unfold maxLen; omega, fun _ => rfl⟩
  · exact ⟨_, cap, rfl, h1, h2, fun h => by cases h⟩
theorem own_other {w : World} {base : Nat} {e : TypeId} {size : Nat} {v : Value} {n : Nat} {xs : List Value} (h : w.ownsRow base e size v n xs) (he : e ≠ 5) : ∀ g, v.ownBlock = some g → ∃ c t f, w.heap[g]? = some (.cells c t f) ∧ t ≠ 5 := by
  intro g hg
  rcases h.2 with ⟨rfl, _⟩ | ⟨g', cap, cur, rfl, _, hh, _⟩
  · simp [Value.ownBlock] at hg
  · obtain rfl : g' = g := by simpa [Value.ownBlock] using hg
    exact ⟨_, _, _, hh, he⟩

theorem grown_of_below {w w' : World} (hb : Below w.heap.size w w') : w.grownBy w' none := ⟨hb.os, hb.tape, hb.output, hb.size, fun k hk _ => hb.block k hk⟩
theorem own_below {w w' : World} {base : Nat} {e : TypeId} {size : Nat} {v : Value} {n : Nat} {xs : List Value} (h : w.ownsRow base e size v n xs) (hb : Below w.heap.size w w') : w'.ownsRow base e size v n xs :=
  h.kept (grown_of_below hb) (by cases v.ownBlock <;> simp)
theorem own_mono {w : World} {base base' : Nat} {e : TypeId} {size : Nat} {v : Value} {n : Nat} {xs : List Value} (h : w.ownsRow base e size v n xs) (hb : base' ≤ base) : w.ownsRow base' e size v n xs := by
  refine ⟨h.1, ?_⟩
  rcases h.2 with h0 | ⟨g, cap, cur, h1, h2, h3⟩
  · exact .inl h0
  · exact .inr ⟨g, cap, cur, h1, Nat.le_trans hb h2, h3⟩
theorem ownBlock_ge {w : World} {base : Nat} {e : TypeId} {size : Nat} {v : Value} {n : Nat} {xs : List Value} (h : w.ownsRow base e size v n xs) {b : Nat} (hb : b < base) : some b ≠ v.ownBlock :=
  fun e => by have := ownBlock_le h b e.symm; omega

theorem kept_cell {w1 w2 : World} {o : Obj} {row : Option Nat} {a : Addr} {u : Value} (hg : (w1.alloc o).grownBy w2 row) (h : a.block < w1.heap.size) (hne : some a.block ≠ row) (hc : w1.cell? a = some u) : w2.cell? a = some u := by
  rw [← hc]
  refine World.cell?_of_block ?_
  rw [hg.block a.block (by simp; omega) hne, Below.heap_alloc w1 o a.block h]

theorem conv_any {w : World} {B : Nat} {A : Option Addr} {bs : List Int} (c : Nat) (h : RB w B A bs) :
    (convert 28 9 (.slice A bs.length c)).run Try.prog w = .ok (.string (strOfNums bs)) w := by
  rcases Nat.eq_zero_or_pos bs.length with h0 | h0
  · obtain rfl : bs = [] := List.eq_nil_of_length_eq_zero h0
    rcases A with _ | ad
    · exact run_convert_bytes_nil (P := Try.prog) w 28 5 Try.underlying28 Try.underlying5 0 c 9 Try.underlying9
    · rw [run_convert_bytes_string w 28 9 5 _ _ c Try.underlying28 Try.underlying5 Try.underlying9]
      exact run_bytesToString w ad 0 c [] (run_loadCells_list (P := Try.prog) w ad [] (fun j v hj => by simp at hj))
  · obtain ⟨b, off, rfl, _, hc⟩ := h h0
    exact run_convert_bytes_arg (P := Try.prog) w 28 5 Try.underlying28 Try.underlying5 b off _ c bs rfl hc 9 Try.underlying9

theorem B8_getElem {bs : List Int} {i : Nat} (hi : i < bs.length) : (B8 bs)[i]? = some (.int .u8 (bs.getD i 0)) := by
  simp [B8, List.getD, hi]

theorem RB.of_own {w : World} {base : Nat} {v : Value} {bs : List Int} (h : w.ownsRow base 5 1 v bs.length (B8 bs)) : ∃ A c, v = .slice A bs.length c ∧ RB w w.heap.size A bs ∧ bs.length ≤ c ∧ c ≤ maxLen ∧ (A = none → c = 0) := by
  obtain ⟨A, c, rfl, h1, h2, h3⟩ := own_slice h
  refine ⟨A, c, rfl, fun hl => ?_, h1, h2, h3⟩
  obtain ⟨g, cap, hv, _, hlt⟩ := h.form hl
  injection hv with hA _ hc
  subst hA; subst hc
  exact ⟨g, 0, rfl, hlt, fun i hi => by rw [Nat.zero_add, h.cellAt i (by omega), B8_getElem hi]⟩

theorem convN {w : World} {B : Nat} {A : Option Addr} {bs : List Int} {n : Nat} (c : Nat) (h : RB w B A bs) (hn : bs.length = n) : ∀ m, (convert 28 9 (.slice A n c)).run Try.prog (w.drewN m) = .ok (.string (strOfNums bs)) (w.drewN m) := fun m => by
  subst hn
  exact conv_any (w := w.drewN m) (B := B) c h

theorem RB.of_block {w : World} {B g : Nat} {bs : List Int} (hg : g < B) (h : w.heap[g]? = some (.cells (B8 bs).toArray 5 (0, 0))) : RB w B (some ⟨g, 0, none⟩) bs := fun _ =>
  ⟨g, 0, rfl, hg, fun i hi => by simp [World.cell?, h, List.getD, hi]⟩

theorem quietL {P : Program} {f : FuncId} {args : Array Value} {w : World} {n : Nat} {v : Value} (h : Calls P f args (w.drewN n) fun e w' => e = .returned v ∧ w.drewN n = w') : Calls P f args (w.drewN n) fun e w' => e = .returned v ∧ ∃ m, w' = w.drewN m :=
  h.mono fun _ _ ⟨he, hw⟩ => ⟨he, n, hw.symm⟩
theorem belowN {B : Nat} {a w : World} (h : Below B a w) (n : Nat) : Below B a (w.drewN n) := ⟨h.os, h.tape, h.output, h.size, h.block⟩

/-- A local variable's cell, behind an append to a row that is elder. -/
theorem local_kept {wr w1 : World} {o1 o2 : Obj} {b : Value} {a : Addr} {u : Value} (hg : ((wr.alloc o1).alloc o2).grownBy w1 b.ownBlock) (hb : ∀ k, b.ownBlock = some k → k < wr.heap.size) (ha : a.block = wr.heap.size) (hc : (wr.alloc o1).cell? a = some u) : w1.cell? a = some u := by
  have h1 : ((wr.alloc o1).alloc o2).cell? a = some u := by
    rw [← hc]
    exact World.cell?_of_block (Below.heap_alloc _ _ _ (by rw [ha]; simp))
  refine hg.cell h1 (fun e => ?_)
  have := hb _ e.symm
  omega

theorem own_cast {w : World} {base : Nat} {e : TypeId} {v : Value} {n m : Nat} {xs ys : List Value} (h : w.ownsRow base e 1 v n xs) (hn : n = m) (hx : xs = ys) : w.ownsRow base e 1 v m ys := by
  subst hn; subst hx; exact h

theorem lit_le {B h x n c : Nat} (hb : B ≤ h) (hx : (Value.slice (some ⟨h, 0, none⟩) n c).ownBlock = some x) : B ≤ x := by
  have : h = x := by simpa [Value.ownBlock] using hx
  omega

theorem grown_undrew {w w1 : World} {row : Option Nat} (h : w.drew.grownBy w1 row) : w.grownBy w1 row := ⟨h.os, h.tape, h.output, h.size, h.block⟩
theorem own_far {w w' : World} {base : Nat} {e : TypeId} {size : Nat} {v : Value} {n : Nat} {xs : List Value} {row : Option Nat} (h : w.ownsRow base e size v n xs) (hg : w.grownBy w' row) (hr : ∀ g, row = some g → g < base) : w'.ownsRow base e size v n xs :=
  h.kept hg (by
    cases hv : v.ownBlock with
    | none => exact .inl rfl
    | some g => exact .inr fun e => by have := hr g e.symm; have := ownBlock_le h g hv; omega)
theorem grown_store {w wr w' : World} {row : Option Nat} {g : Nat} (h : w.grownBy wr row) (hg : wr.grownBy w' (some g)) (hr : row = some g) : w.grownBy w' row := by
  subst hr
  exact ⟨hg.os.trans h.os, hg.tape.trans h.tape, hg.output.trans h.output, Nat.le_trans h.size hg.size, fun k hk hne => (hg.block k (Nat.lt_of_lt_of_le hk h.size) hne).trans (h.block k hk hne)⟩
theorem B8_set (zs : List Int) (i : Nat) (y : Int) : (B8 zs).set i (.int .u8 y) = B8 (zs.set i y) := by simp [B8]

theorem bytes_of_mem {l : List Int} (h : ∀ x ∈ l, 0 ≤ x ∧ x < 256) : Bytes l := fun i => by
  by_cases hi : i < l.length
  · exact h _ (by simp [List.getD, hi])
  · have : l.getD i 0 = 0 := by simp [List.getD, List.getElem?_eq_none (Nat.le_of_not_lt hi)]
    rw [this]; omega
/-- append(row, b...): b reads as bytes. -/
theorem app_bytes {W : World} {B base : Nat} {v : Value} {n : Nat} {xs : List Int} {A : Option Addr} {bs : List Int} (c : Nat) (hR : RB W B A bs) (hA : A = none → c = 0) (hown : W.ownsRow base 5 1 v n (B8 xs)) (hn : n + bs.length ≤ 100000) (hb : base ≤ W.heap.size) :
    ∃ v' w', (Builtin.append_ #[28, 28] 28 #[v, .slice A bs.length c]).run Try.prog W = .ok v' w' ∧ w'.ownsRow base 5 1 v' (n + bs.length) (B8 (xs ++ bs)) ∧ W.grownBy w' v.ownBlock := by
  obtain ⟨i0, hi, hz0, hz1, hz2⟩ := info_parts infoByte
  rcases A with _ | ad
  · have h0 : bs.length = 0 := by
      rcases Nat.eq_zero_or_pos bs.length with h | h
      · exact h
      · obtain ⟨_, _, h, _⟩ := hR h
        cases h
    obtain rfl : bs = [] := List.eq_nil_of_length_eq_zero h0
    obtain rfl := hA rfl
    exact ⟨_, W, run_append_owned_none (P := Try.prog) (w := W) base 28 28 5 i0 1 Try.underlying28 hi _ n _ hown, by simpa using hown, World.grownBy.refl _ _⟩
  · obtain ⟨v', w', hr, ho, hg, _⟩ := run_append_own_at (P := Try.prog) W base 28 28 5 i0 _ 1 1 Try.underlying28 hi hz0 hz1 hz2 rfl (by decide) v n (B8 xs) hown ad bs.length c (B8 bs) (by simp) hR.cells (oneCell_B8 bs) (by unfold maxLen; omega) (by omega) hb
    exact ⟨v', w', hr, own_cast ho rfl (by simp [B8]), hg⟩
theorem wpList_app {P : Program} {ops : Array Oper} {rest : List Oper} {o : Oper} {a : Act} {W w' : World} {Q : Exit → Act → World → Prop} {v' : Value} (hgd : o.guard = none) (s x : Operand) (t : TypeId)
    (ho : o.op = .call { callee := .builtin .append, args := #[s, x], argTypes := #[t, t] }) (v sx : Value) (hs : a.eval s = v) (hx : a.eval x = sx) (hrun : (Builtin.append_ #[t, t] o.type #[v, sx]).run P W = .ok v' w') (h : wpList P ops Q rest (a.put o.dst v') w') :
    wpList P ops Q (o :: rest) a W := by
  refine wpList_plain hgd fun K hK => ?_
  unfold Oper.wp execOp
  simp only [ho, resolve, invoke, builtin, Sem.run_bind, Sem.run_pure, Result.andThen_ok, List.map_toArray, List.map_cons, List.map_nil, hs, hx, hrun]
  exact hK _ _ h
theorem new_le {B h x n c : Nat} (hb : B ≤ h) (hx : (Value.slice (some ⟨h, 0, none⟩) n c).ownBlock = some x) : B ≤ x := by
  have : h = x := by simpa [Value.ownBlock] using hx
  omega
/-- A step of a region: a builtin append whose run is known. -/
theorem step_app {P : Program} {ops : Array Oper} {o : Oper} {a : Act} {W w' : World} {K : Act → World → Prop} {Q : Exit → Act → World → Prop} {E : Prop} {v' : Value} (hgd : o.guard = none) (s x : Operand) (t : TypeId)
    (ho : o.op = .call { callee := .builtin .append, args := #[s, x], argTypes := #[t, t] }) (v sx : Value) (hs : a.eval s = v) (hx : a.eval x = sx) (hrun : (Builtin.append_ #[t, t] o.type #[v, sx]).run P W = .ok v' w') (h : K (a.put o.dst v') w') :
    if Region.wanted o (yielded ops a.tmps) = true then Oper.wp P o a W K Q else E := by
  have hw : Region.wanted o (yielded ops a.tmps) = true := by simp [Region.wanted, hgd]
  rw [if_pos hw]
  unfold Oper.wp execOp
  simp only [ho, resolve, invoke, builtin, Sem.run_bind, Sem.run_pure, Result.andThen_ok, List.map_toArray, List.map_cons, List.map_nil, hs, hx, hrun]
  exact h
theorem mem_of_bytes {l : List Int} (h : Bytes l) : ∀ x ∈ l, 0 ≤ x ∧ x < 256 := fun x hx => by
  obtain ⟨i, hi, rfl⟩ := List.getElem_of_mem hx
  have := h i
  simpa [List.getD, hi] using this
theorem bytes_append {a b : List Int} (ha : Bytes a) (hb : Bytes b) : Bytes (a ++ b) := bytes_of_mem (fun x hx => by
  rcases List.mem_append.1 hx with h | h
  · exact mem_of_bytes ha x h
  · exact mem_of_bytes hb x h)
theorem getD_left {p q : List Int} {k : Nat} (h : k < p.length) : (p ++ q).getD k 0 = p.getD k 0 := by simp [List.getD, List.getElem?_append_left h]
theorem getD_right {p q : List Int} {k : Nat} (h : p.length ≤ k) : (p ++ q).getD k 0 = q.getD (k - p.length) 0 := by simp [List.getD, List.getElem?_append_right h]
end Go.Proofs.Ytikijkhblfgbpaa
