/-
  Proved here: of the program's parser: what it has; begin, isNone, Idle, putInter, putPrivate.
-/
import Derived.Test.YtfacnemgjdmlmaaNi
import Derived.Test.YtfacnemgjdmlmaaNj
import Derived.WalkMore
set_option linter.unusedSimpArgs false
set_option linter.unusedVariables false
namespace Go.Proofs.Ytfacnemgjdmlmaa
open Go.RowKit
/-- What a parser of the program has. -/
structure PP where
  pl : Int
  sp : Bool
  ma : Bool
  pr : Int
  it : Int
  ps : List Int
  tx : List Int
def beginP (pl : Int) : PP := ⟨pl, false, false, 0, 0, [], []⟩
abbrev qC (s : PP) (vp vt : Value) : Array Value := #[.bool true, .int .i64 s.pl, .bool s.sp, .bool s.ma, .int .u8 s.pr, .int .u8 s.it, vp, vt]
/-- A parser in memory: its block g, its rows from B on. -/
structure Qs (B g : Nat) (vp vt : Value) (s : PP) (W : World) : Prop where
  blk : W.heap[g]? = some (.cells (qC s vp vt) 42 (0, 0))
  op : W.ownsRow B 3 1 vp s.ps.length (NV .i64 s.ps)
  ot : W.ownsRow B 21 1 vt s.tx.length (NV .i32 s.tx)
  low : g < B
  big : B ≤ W.heap.size
theorem Qs.free {B g : Nat} {vp vt : Value} {s : PP} {W : World} (h : Qs B g vp vt s W) (i : Nat) : W.frozen? ⟨g, i, none⟩ = false := frozen_of_row W _ i _ _ h.blk
theorem Qs.cells {B g : Nat} {vp vt : Value} {s : PP} {W : World} (h : Qs B g vp vt s W) :
    W.cell? ⟨g, 0, none⟩ = some (.bool true) ∧ W.cell? ⟨g, 1, none⟩ = some (.int .i64 s.pl) ∧ W.cell? ⟨g, 2, none⟩ = some (.bool s.sp) ∧ W.cell? ⟨g, 3, none⟩ = some (.bool s.ma) ∧ W.cell? ⟨g, 4, none⟩ = some (.int .u8 s.pr) ∧ W.cell? ⟨g, 5, none⟩ = some (.int .u8 s.it) ∧ W.cell? ⟨g, 6, none⟩ = some vp ∧ W.cell? ⟨g, 7, none⟩ = some vt := by
  refine ⟨?_, ?_, ?_, ?_, ?_, ?_, ?_, ?_⟩
  all_goals (unfold World.cell?; simp only [h.blk]; rfl)
theorem Qs.below {B g : Nat} {vp vt : Value} {s : PP} {W W' : World} (h : Qs B g vp vt s W) (hb : Below W.heap.size W W') : Qs B g vp vt s W' :=
  ⟨(hb.block _ (lt_of_block h.blk)).trans h.blk, own_below h.op hb, own_below h.ot hb, h.low, Nat.le_trans h.big hb.size⟩
theorem Qs.lt {B g : Nat} {vp vt : Value} {s : PP} {W : World} (h : Qs B g vp vt s W) : g < W.heap.size := lt_of_block h.blk
/-- What was there is as it was, but for the parser and its rows. -/
structure Fr2 (g : Nat) (vp vt : Value) (w w' : World) : Prop where
  os : w'.os = w.os
  tape : w'.tape = w.tape
  output : w'.output = w.output
  size : w.heap.size ≤ w'.heap.size
  block : ∀ k, k < w.heap.size → k ≠ g → some k ≠ vp.ownBlock → some k ≠ vt.ownBlock → w'.heap[k]? = w.heap[k]?
theorem Fr2.refl (g : Nat) (vp vt : Value) (w : World) : Fr2 g vp vt w w := ⟨rfl, rfl, rfl, Nat.le_refl _, fun _ _ _ _ _ => rfl⟩
theorem Fr2.of_below {g : Nat} {vp vt : Value} {w w' : World} (h : Below w.heap.size w w') : Fr2 g vp vt w w' := ⟨h.os, h.tape, h.output, h.size, fun k hk _ _ _ => h.block k hk⟩
theorem Fr2.setCell {g : Nat} {vp vt : Value} {a w : World} (h : Fr2 g vp vt a w) (i : Nat) (x : Value) : Fr2 g vp vt a (w.setCell ⟨g, i, none⟩ x) :=
  ⟨h.os, h.tape, h.output, by simpa using h.size, fun k h1 h2 h3 h4 => (heap_setCell_other w _ k x h2).trans (h.block k h1 h2 h3 h4)⟩
theorem Fr2.setRow {g : Nat} {vp vt : Value} {a w : World} (h : Fr2 g vp vt a w) (cs : Array Value) : Fr2 g vp vt a (w.setRow g cs) :=
  ⟨h.os, h.tape, h.output, by simpa using h.size, fun k h1 h2 h3 h4 => (setRow_other _ _ _ _ h2).trans (h.block k h1 h2 h3 h4)⟩
theorem Fr2.more {g : Nat} {vp vt : Value} {a w w' : World} (h : Fr2 g vp vt a w) (hb : Below a.heap.size w w') : Fr2 g vp vt a w' :=
  ⟨hb.os.trans h.os, hb.tape.trans h.tape, hb.output.trans h.output, Nat.le_trans h.size hb.size, fun k h1 h2 h3 h4 => (hb.block k h1).trans (h.block k h1 h2 h3 h4)⟩
/-- A row is the other one, or a new one. -/
def SubO (v' v : Value) (w : World) : Prop := ∀ k, v'.ownBlock = some k → v.ownBlock = some k ∨ w.heap.size ≤ k
theorem SubO.refl (v : Value) (w : World) : SubO v v w := fun _ h => .inl h
theorem SubO.nil (v : Value) (w : World) : SubO (.slice none 0 0) v w := fun k h => by simp [Value.ownBlock] at h
theorem SubO.trans {a b c : Value} {w w1 : World} (h : SubO b c w) (h2 : SubO a b w1) (hs : w.heap.size ≤ w1.heap.size) : SubO a c w := fun k hk => by
  rcases h2 k hk with e | e
  · exact h k e
  · exact .inr (Nat.le_trans hs e)
theorem Fr2.trans {g : Nat} {vp vt vp1 vt1 : Value} {w w1 w2 : World} (h : Fr2 g vp vt w w1) (h2 : Fr2 g vp1 vt1 w1 w2) (hp : SubO vp1 vp w) (ht : SubO vt1 vt w) : Fr2 g vp vt w w2 :=
  ⟨h2.os.trans h.os, h2.tape.trans h.tape, h2.output.trans h.output, Nat.le_trans h.size h2.size, fun k h1 hg h3 h4 => by
    refine (h2.block k (Nat.lt_of_lt_of_le h1 h.size) hg ?_ ?_).trans (h.block k h1 hg h3 h4)
    · intro e
      rcases hp k e.symm with q | q
      · exact h3 q.symm
      · omega
    · intro e
      rcases ht k e.symm with q | q
      · exact h4 q.symm
      · omega⟩
/-- What a call leaves that answers nothing. -/
def QPost (B g : Nat) (vp vt : Value) (w : World) (s' : PP) (x : Ending) (w' : World) : Prop :=
  x = .returned (.tuple #[]) ∧ ∃ vp' vt', Qs B g vp' vt' s' w' ∧ Fr2 g vp vt w w' ∧ SubO vp' vp w ∧ SubO vt' vt w
def evZ : Ev := ⟨0, 0, 0, 0, 0, [], []⟩
/-- What a call leaves that answers an event, or none. -/
def TPost (B g : Nat) (vp vt : Value) (w : World) (R : PP × Option Ev) (x : Ending) (w' : World) : Prop :=
  ∃ vp' vt' pv, x = .returned (.tuple #[.agg (evL (R.2.getD evZ) pv).toArray, .bool R.2.isSome]) ∧ Qs B g vp' vt' R.1 w' ∧ Fr2 g vp vt w w' ∧ SubO vp' vp w ∧ SubO vt' vt w ∧
    w'.ownsRow B 3 1 pv (R.2.getD evZ).params.length (NV .i64 (R.2.getD evZ).params) ∧ SubO pv vp w ∧ (pv.ownBlock = none ∨ pv.ownBlock ≠ vp'.ownBlock)
/-- A cell of the parser's block that is no row is changed. -/
theorem Qs.set {B g : Nat} {vp vt : Value} {s s' : PP} {W : World} (h : Qs B g vp vt s W) (i : Nat) (v : Value) (e : (qC s vp vt).setIfInBounds i v = qC s' vp vt) (ep : s'.ps = s.ps) (et : s'.tx = s.tx) : Qs B g vp vt s' (W.setCell ⟨g, i, none⟩ v) := by
  refine ⟨?_, ?_, ?_, h.low, by simpa using h.big⟩
  · rw [heap_setCell_same W g i _ _ _ h.blk, e]
  · rw [ep]; exact ownsRow_setCell_below h.op h.low _
  · rw [et]; exact ownsRow_setCell_below h.ot h.low _
theorem Qs.post {B g : Nat} {vp vt : Value} {s s' : PP} {w w' : World} (h : Qs B g vp vt s w) (h' : Qs B g vp vt s' w') (hf : Fr2 g vp vt w w') : QPost B g vp vt w s' (.returned (.tuple #[])) w' :=
  ⟨rfl, vp, vt, h', hf, SubO.refl _ _, SubO.refl _ _⟩
theorem info_qC (s : PP) (vp vt : Value) : (Try.prog.info? 42).map (·.size) = some (qC s vp vt).size := by
  rw [show (qC s vp vt).size = 8 from rfl]; kernel_rfl
theorem qC_one (s : PP) : (qC s (.slice none 0 0) (.slice none 0 0)).all (·.oneCell') = true := by simp [Value.oneCell']
/-- The parser begins anew. -/
theorem Qs.begin {B g : Nat} {vp vt : Value} {s : PP} {W : World} (h : Qs B g vp vt s W) (pl : Int) : Qs B g (.slice none 0 0) (.slice none 0 0) (beginP pl) (W.setRow g (qC (beginP pl) (.slice none 0 0) (.slice none 0 0))) :=
  ⟨setRow_heap _ _ _ _ _ _ h.blk, World.ownsRow_nil _ _ _ _, World.ownsRow_nil _ _ _ _, h.low, by simpa using h.big⟩
theorem p_begin {B g : Nat} {vp vt : Value} {s : PP} {w : World} (h : Qs B g vp vt s w) (pl : Int) :
    Calls Try.prog 20 #[.pointer (some ⟨g, 0, none⟩), .int .i64 pl] w fun e w' => e = .returned (.tuple #[]) ∧ w' = w.setRow g (qC (beginP pl) (.slice none 0 0) (.slice none 0 0)) := by
  have HB := Lib.hid h.blk
  clear h
  go_enter Try.func20, Try.ntmps20
  go_wp2_with (first | refine wpList_store_row rfl 42 _ _ rfl g (qC (beginP pl) (.slice none 0 0) (.slice none 0 0)) rfl rfl 42 _ HB.out (info_qC _ _ _) rfl (qC_one _) ?_)
  go_end0
  exact ⟨rfl, rfl⟩
theorem p_none {B g : Nat} {vp vt : Value} {s : PP} {w : World} (h : Qs B g vp vt s w) : Calls Try.prog 18 #[.pointer (some ⟨g, 0, none⟩)] w fun e w' => e = .returned (.bool false) ∧ w = w' := by
  obtain ⟨k0, k1, k2, k3, k4, k5, k6, k7⟩ := h.cells
  clear h
  go_enter Try.func18, Try.ntmps18
  go_wp2
  go_ret
  exact ⟨rfl, rfl⟩
theorem p_idle {B g : Nat} {vp vt : Value} {s : PP} {w : World} (h : Qs B g vp vt s w) : Calls Try.prog 12 #[.pointer (some ⟨g, 0, none⟩)] w fun e w' => e = .returned (.bool (s.pl == 0)) ∧ w = w' := by
  have HN := Lib.hid (p_none h)
  obtain ⟨k0, k1, k2, k3, k4, k5, k6, k7⟩ := h.cells
  obtain ⟨b, hb⟩ : ∃ b, (s.pl == 0) = b := ⟨_, rfl⟩
  rw [hb]
  clear h
  go_enter Try.func12, Try.ntmps12
  go_wp2_with fail
  refine HN.out.mono ?_
  rintro e wx ⟨rfl, rfl⟩
  go_wp2
  go_ret
  exact ⟨rfl, rfl⟩
theorem p_inter {B g : Nat} {vp vt : Value} {s : PP} {w : World} (h : Qs B g vp vt s w) (c : Int) :
    Calls Try.prog 33 #[.pointer (some ⟨g, 0, none⟩), .int .u8 c] w (QPost B g vp vt w (if s.it = 0 then { s with it := c } else { s with sp := true })) := by
  obtain ⟨k0, k1, k2, k3, k4, k5, k6, k7⟩ := h.cells
  have fr := h.free 2
  have fr5 := h.free 5
  by_cases h0 : s.it = 0
  · rw [if_pos h0]
    have HP := Lib.hid (h.post (h.set 5 (.int .u8 c) (s' := { s with it := c }) rfl rfl rfl) (Fr2.setCell (Fr2.refl g vp vt w) 5 (.int .u8 c)))
    have z : (s.it != 0) = false := by simpa using h0
    clear h h0
    go_enter Try.func33, Try.ntmps33
    go_wp2
    go_end0
    exact HP.out
  · rw [if_neg h0]
    have HP := Lib.hid (h.post (h.set 2 (.bool true) (s' := { s with sp := true }) rfl rfl rfl) (Fr2.setCell (Fr2.refl g vp vt w) 2 (.bool true)))
    have z : (s.it != 0) = true := by simpa using h0
    clear h h0
    go_enter Try.func33, Try.ntmps33
    go_wp2
    go_end0
    exact HP.out
theorem p_private {B g : Nat} {vp vt : Value} {s : PP} {w : World} (h : Qs B g vp vt s w) (hn : s.ps.length ≤ 100) (c : Int) :
    Calls Try.prog 34 #[.pointer (some ⟨g, 0, none⟩), .int .u8 c] w (QPost B g vp vt w (if s.pr = 0 ∧ s.it = 0 ∧ s.ps = [] then { s with pr := c } else { s with sp := true })) := by
  obtain ⟨k0, k1, k2, k3, k4, k5, k6, k7⟩ := h.cells
  have fr2 := h.free 2
  have fr4 := h.free 4
  obtain ⟨A, cc, rfl, _⟩ := own_slice h.op
  have H1 := Lib.hid (h.post (h.set 4 (.int .u8 c) (s' := { s with pr := c }) rfl rfl rfl) (Fr2.setCell (Fr2.refl g _ vt w) 4 (.int .u8 c)))
  have H2 := Lib.hid (h.post (h.set 2 (.bool true) (s' := { s with sp := true }) rfl rfl rfl) (Fr2.setCell (Fr2.refl g _ vt w) 2 (.bool true)))
  by_cases h0 : s.pr = 0
  · have z0 : (s.pr != 0) = false := by simpa using h0
    by_cases h1 : s.it = 0
    · have z1 : (s.it != 0) = false := by simpa using h1
      by_cases h2 : s.ps = []
      · rw [if_pos ⟨h0, h1, h2⟩]
        have z2 : decide (0 < s.ps.length) = false := by simp [h2]
        have z3 : decide (0 < (s.ps.length : Int)) = false := by simp [h2]
        clear h h0 h1 h2 H2
        go_enter Try.func34, Try.ntmps34
        go_wp2
        go_end0
        exact H1.out
      · rw [if_neg (fun e => h2 e.2.2)]
        have hp := List.length_pos_iff.2 h2
        have z2 : decide (0 < s.ps.length) = true := by simpa using hp
        have z3 : decide (0 < (s.ps.length : Int)) = true := by simp; omega
        clear h h0 h1 h2 H1
        go_enter Try.func34, Try.ntmps34
        go_wp2
        go_end0
        exact H2.out
    · rw [if_neg (fun e => h1 e.2.1)]
      have z1 : (s.it != 0) = true := by simpa using h1
      clear h h0 h1 H1
      go_enter Try.func34, Try.ntmps34
      go_wp2
      go_end0
      exact H2.out
  · rw [if_neg (fun e => h0 e.1)]
    have z0 : (s.pr != 0) = true := by simpa using h0
    clear h h0 H1
    go_enter Try.func34, Try.ntmps34
    go_wp2
    go_end0
    exact H2.out
theorem own_ne {w : World} {b1 b2 : Nat} {e1 e2 : TypeId} {s1 s2 : Nat} {v1 v2 : Value} {n1 n2 : Nat} {x1 x2 : List Value} (h1 : w.ownsRow b1 e1 s1 v1 n1 x1) (h2 : w.ownsRow b2 e2 s2 v2 n2 x2) (he : e1 ≠ e2) : v1.ownBlock = none ∨ v1.ownBlock ≠ v2.ownBlock := by
  rcases h1.2 with ⟨rfl, _⟩ | ⟨g, cap, cur, rfl, _, hg, _⟩
  · exact .inl rfl
  · right
    rcases h2.2 with ⟨rfl, _⟩ | ⟨g', cap', cur', rfl, _, hg', _⟩
    · simp [Value.ownBlock]
    · intro e
      simp only [Value.ownBlock, Option.some.injEq] at e
      subst e
      rw [hg] at hg'
      injection hg' with q
      injection q with q1 q2
      exact he q2
/-- One more number. -/
theorem qp_push {B g : Nat} {vp vt : Value} {s : PP} {w : World} (h : Qs B g vp vt s w) (hn : s.ps.length < 100000) (x : Int) :
    ∃ A c w1, (Builtin.append_ #[36, 36] 36 #[vp, .slice (some ⟨w.heap.size, 0, none⟩) 1 1]).run Try.prog (w.alloc (.cells #[.int .i64 x] 3)) = .ok (.slice A (s.ps.length + 1) c) w1 ∧
      w1.frozen? ⟨g, 6, none⟩ = false ∧ w1.cell? ⟨g, 6, none⟩ = some vp ∧ Qs B g (.slice A (s.ps.length + 1) c) vt { s with ps := s.ps ++ [x] } (w1.setCell ⟨g, 6, none⟩ (.slice A (s.ps.length + 1) c)) ∧
      Fr2 g vp vt w (w1.setCell ⟨g, 6, none⟩ (.slice A (s.ps.length + 1) c)) ∧ SubO (.slice A (s.ps.length + 1) c) vp w := by
  have hba := (Below.refl w.heap.size w).alloc (Nat.le_refl _) (.cells #[.int .i64 x] 3)
  have ho1 := own_below h.op hba
  obtain ⟨i0, hi, hz0, hz1, hz2⟩ := info_parts info_i64
  obtain ⟨v1, w1, hr, ho, hg, _, hob⟩ := run_append_own_at (P := Try.prog) (w.alloc (.cells #[.int .i64 x] 3)) B 36 36 3 i0 _ 1 8 Try.underlying36 hi hz0 hz1 hz2 rfl (by decide) vp s.ps.length (NV .i64 s.ps) ho1 ⟨w.heap.size, 0, none⟩ 1 1 (NV .i64 [x]) (by simp [NV]) (RI.one .i64 w x 3).cells
    (fun u hu => by obtain ⟨x, _, rfl⟩ := List.mem_map.1 hu; rfl) (by unfold maxLen; omega) (by omega) (Nat.le_trans h.big hba.size)
  obtain ⟨A, c, rfl, _⟩ := own_slice ho
  have hlt := h.lt
  have hgv : some g ≠ vp.ownBlock := ownBlock_ge h.op h.low
  have hb1 : w1.heap[g]? = some (.cells (qC s vp vt) 42 (0, 0)) := (hg.block g (Nat.lt_of_lt_of_le hlt hba.size) hgv).trans ((hba.block g hlt).trans h.blk)
  have hot : w1.ownsRow B 21 1 vt s.tx.length (NV .i32 s.tx) := (own_below h.ot hba).kept hg (own_ne (own_below h.ot hba) ho1 (by decide))
  refine ⟨A, c, w1, hr, frozen_of_row w1 _ 6 _ _ hb1, ?_, ⟨?_, ?_, ?_, h.low, ?_⟩, ?_, ?_⟩
  · unfold World.cell?; simp only [hb1]; rfl
  · rw [heap_setCell_same w1 g 6 _ _ _ hb1]; rfl
  · exact ownsRow_setCell_below (own_cast ho (by simp) (by simp [NV])) h.low _
  · exact ownsRow_setCell_below hot h.low _
  · simpa using Nat.le_trans h.big (Nat.le_trans hba.size hg.size)
  · refine ⟨?_, ?_, ?_, ?_, fun k h1 h2 h3 _ => ?_⟩
    · exact hg.os.trans hba.os
    · exact hg.tape.trans hba.tape
    · exact hg.output.trans hba.output
    · simpa using Nat.le_trans hba.size hg.size
    · exact (heap_setCell_other w1 _ k _ h2).trans ((hg.block k (Nat.lt_of_lt_of_le h1 hba.size) h3).trans (hba.block k h1))
  · intro k hk
    rcases hob with e | e
    · exact .inl (e ▸ hk)
    · right
      rw [e] at hk
      have := hba.size
      injection hk with hk
      omega
/-- One more point of a text. -/
theorem qt_push {B g : Nat} {vp vt : Value} {s : PP} {w : World} (h : Qs B g vp vt s w) (hn : s.tx.length < 100000) (x : Int) :
    ∃ A c w1, (Builtin.append_ #[22, 22] 22 #[vt, .slice (some ⟨w.heap.size, 0, none⟩) 1 1]).run Try.prog (w.alloc (.cells #[.int .i32 x] 21)) = .ok (.slice A (s.tx.length + 1) c) w1 ∧
      w1.frozen? ⟨g, 7, none⟩ = false ∧ w1.cell? ⟨g, 7, none⟩ = some vt ∧ Qs B g vp (.slice A (s.tx.length + 1) c) { s with tx := s.tx ++ [x] } (w1.setCell ⟨g, 7, none⟩ (.slice A (s.tx.length + 1) c)) ∧
      Fr2 g vp vt w (w1.setCell ⟨g, 7, none⟩ (.slice A (s.tx.length + 1) c)) ∧ SubO (.slice A (s.tx.length + 1) c) vt w := by
  have hba := (Below.refl w.heap.size w).alloc (Nat.le_refl _) (.cells #[.int .i32 x] 21)
  have ho1 := own_below h.ot hba
  obtain ⟨i0, hi, hz0, hz1, hz2⟩ := info_parts info_i32
  obtain ⟨v1, w1, hr, ho, hg, _, hob⟩ := run_append_own_at (P := Try.prog) (w.alloc (.cells #[.int .i32 x] 21)) B 22 22 21 i0 _ 1 4 Try.underlying22 hi hz0 hz1 hz2 rfl (by decide) vt s.tx.length (NV .i32 s.tx) ho1 ⟨w.heap.size, 0, none⟩ 1 1 (NV .i32 [x]) (by simp [NV]) (RI.one .i32 w x 21).cells
    (fun u hu => by obtain ⟨x, _, rfl⟩ := List.mem_map.1 hu; rfl) (by unfold maxLen; omega) (by omega) (Nat.le_trans h.big hba.size)
  obtain ⟨A, c, rfl, _⟩ := own_slice ho
  have hlt := h.lt
  have hgv : some g ≠ vt.ownBlock := ownBlock_ge h.ot h.low
  have hb1 : w1.heap[g]? = some (.cells (qC s vp vt) 42 (0, 0)) := (hg.block g (Nat.lt_of_lt_of_le hlt hba.size) hgv).trans ((hba.block g hlt).trans h.blk)
  have hot : w1.ownsRow B 3 1 vp s.ps.length (NV .i64 s.ps) := (own_below h.op hba).kept hg (own_ne (own_below h.op hba) ho1 (by decide))
  refine ⟨A, c, w1, hr, frozen_of_row w1 _ 7 _ _ hb1, ?_, ⟨?_, ?_, ?_, h.low, ?_⟩, ?_, ?_⟩
  · unfold World.cell?; simp only [hb1]; rfl
  · rw [heap_setCell_same w1 g 7 _ _ _ hb1]; rfl
  · exact ownsRow_setCell_below hot h.low _
  · exact ownsRow_setCell_below (own_cast ho (by simp) (by simp [NV])) h.low _
  · simpa using Nat.le_trans h.big (Nat.le_trans hba.size hg.size)
  · refine ⟨?_, ?_, ?_, ?_, fun k h1 h2 _ h3 => ?_⟩
    · exact hg.os.trans hba.os
    · exact hg.tape.trans hba.tape
    · exact hg.output.trans hba.output
    · simpa using Nat.le_trans hba.size hg.size
    · exact (heap_setCell_other w1 _ k _ h2).trans ((hg.block k (Nat.lt_of_lt_of_le h1 hba.size) h3).trans (hba.block k h1))
  · intro k hk
    rcases hob with e | e
    · exact .inl (e ▸ hk)
    · right
      rw [e] at hk
      have := hba.size
      injection hk with hk
      omega
end Go.Proofs.Ytfacnemgjdmlmaa
