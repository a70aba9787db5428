/-
  Proved here: of the program's parser: takeEscape, takeCsi.
-/
import Derived.Test.YtfacnemgjdmlmaaEc
set_option linter.unusedSimpArgs false
set_option linter.unusedVariables false
namespace Go.Proofs.Ytfacnemgjdmlmaa
open Go.RowKit
theorem info_ev7 (a b c d e f g : Value) : (Try.prog.info? 40).map (·.size) = some (#[a, b, c, d, e, f, g] : Array Value).size := by
  rw [show (#[a, b, c, d, e, f, g] : Array Value).size = 7 from rfl]; kernel_rfl
theorem ev_one7 (c0 c1 c2 c3 c4 : Int) (A : Option Addr) (n c : Nat) (S : ByteArray) : (#[.int .i64 c0, .int .i32 c1, .int .u8 c2, .int .u8 c3, .int .u8 c4, .slice A n c, .string S] : Array Value).all (·.oneCell') = true := by simp [Value.oneCell']
/-- The block behind all that was there is none of the parser's. -/
theorem ne_new {B e size n : Nat} {v v' : Value} {xs : List Value} {w : World} {o : Obj} (h : w.ownsRow B e size v n xs) (hs : SubO v' v (w.alloc o)) : some w.heap.size ≠ v'.ownBlock := by
  intro e
  rcases hs _ e.symm with q | q
  · have := own_lt h q; omega
  · simp at q; omega
theorem row_new {B g : Nat} {vp vt : Value} {s : PP} {w w1 : World} {o : Obj} (h : Qs B g vp vt s w) (hf : Fr2 g vp vt (w.alloc o) w1) : w1.heap[w.heap.size]? = some o :=
  (hf.block w.heap.size (by simp) (by have := h.lt; omega) (fun e => by have := own_lt h.op e.symm; omega) (fun e => by have := own_lt h.ot e.symm; omega)).trans (heap_alloc_new w o)
/-- Where an answer is laid in the block behind all that was there. -/
theorem qs_lay {B g : Nat} {vp vt vp' vt' : Value} {s s' : PP} {w w1 : World} {o : Obj} (h : Qs B g vp vt s w) (hq : Qs B g vp' vt' s' w1) (hp : SubO vp' vp (w.alloc o)) (ht : SubO vt' vt (w.alloc o)) (cs : Array Value) : Qs B g vp' vt' s' (w1.setRow w.heap.size cs) :=
  ⟨(setRow_other _ _ _ _ (by have := h.lt; omega)).trans hq.blk,
   own_keep hq.op (fun k hk => setRow_other _ _ _ _ (fun e => ne_new h.op hp (by rw [← e, hk]))),
   own_keep hq.ot (fun k hk => setRow_other _ _ _ _ (fun e => ne_new h.ot ht (by rw [← e, hk]))), hq.low, by simpa using hq.big⟩
theorem fr_lay {g : Nat} {vp vt : Value} {w w1 : World} {o : Obj} (hf : Fr2 g vp vt (w.alloc o) w1) (cs : Array Value) : Fr2 g vp vt w (w1.setRow w.heap.size cs) :=
  ⟨hf.os, hf.tape, hf.output, by have := hf.size; simp at this ⊢; omega, fun k h1 h2 h3 h4 => (setRow_other _ _ _ _ (by omega)).trans ((hf.block k (by simp; omega) h2 h3 h4).trans (Below.heap_alloc w o k h1))⟩
theorem SubO.old {v' v : Value} {w : World} {o : Obj} (h : SubO v' v (w.alloc o)) : SubO v' v w := fun k hk => by
  rcases h k hk with q | q
  · exact .inl q
  · right; simp at q; omega
theorem after_q {B g : Nat} {vp vt : Value} {s s' : PP} {w w1 : World} {x : Ending} (h : Qs B g vp vt s w) (hq : QPost B g vp vt (w.alloc (.cells #[.int .i64 0, .int .i32 0, .int .u8 0, .int .u8 0, .int .u8 0, .slice none 0 0, .string ⟨#[]⟩] 40)) s' x w1) :
    x = .returned (.tuple #[]) ∧ w1.heap[w.heap.size]? = some (.cells #[.int .i64 0, .int .i32 0, .int .u8 0, .int .u8 0, .int .u8 0, .slice none 0 0, .string ⟨#[]⟩] 40 (0, 0)) ∧ ∀ cs, TPost B g vp vt w (s', none) (.returned (.tuple #[.agg #[.int .i64 0, .int .i32 0, .int .u8 0, .int .u8 0, .int .u8 0, .slice none 0 0, .string ⟨#[]⟩], .bool false])) (w1.setRow w.heap.size cs) := by
  obtain ⟨rfl, vp', vt', hq', hf, hp, ht⟩ := hq
  refine ⟨rfl, row_new h hf, fun cs => ⟨vp', vt', .slice none 0 0, by rw [← evL_Z]; rfl, qs_lay h hq' hp ht cs, fr_lay hf cs, hp.old, ht.old, World.ownsRow_nil _ _ _ _, SubO.nil _ _, .inl rfl⟩⟩
theorem after_t {B g : Nat} {vp vt : Value} {s : PP} {w w1 : World} {R : PP × Option Ev} {x : Ending} (h : Qs B g vp vt s w) (hq : TPost B g vp vt (w.alloc (.cells #[.int .i64 0, .int .i32 0, .int .u8 0, .int .u8 0, .int .u8 0, .slice none 0 0, .string ⟨#[]⟩] 40)) R x w1) :
    ∃ c0 c1 c2 c3 c4 A n c S b, x = .returned (.tuple #[.agg #[.int .i64 c0, .int .i32 c1, .int .u8 c2, .int .u8 c3, .int .u8 c4, .slice A n c, .string S], .bool b]) ∧ w1.heap[w.heap.size]? = some (.cells #[.int .i64 0, .int .i32 0, .int .u8 0, .int .u8 0, .int .u8 0, .slice none 0 0, .string ⟨#[]⟩] 40 (0, 0)) ∧
      ∀ cs, TPost B g vp vt w R (.returned (.tuple #[.agg #[.int .i64 c0, .int .i32 c1, .int .u8 c2, .int .u8 c3, .int .u8 c4, .slice A n c, .string S], .bool b])) (w1.setRow w.heap.size cs) := by
  obtain ⟨vp', vt', pv, rfl, hq', hf, hp, ht, ho, hs, hd⟩ := hq
  obtain ⟨A, c, rfl, _⟩ := own_slice ho
  refine ⟨_, _, _, _, _, A, _, c, _, _, rfl, row_new h hf, fun cs => ⟨vp', vt', _, rfl, qs_lay h hq' hp ht cs, fr_lay hf cs, hp.old, ht.old, own_keep ho (fun k hk => setRow_other _ _ _ _ (fun e => ne_new h.op hs (by rw [← e, hk]))), hs.old, hd⟩⟩
theorem q_begin {B g : Nat} {vp vt : Value} {s : PP} {w : World} (h : Qs B g vp vt s w) (pl : Int) : Calls Try.prog 20 #[.pointer (some ⟨g, 0, none⟩), .int .i64 pl] w (QPost B g vp vt w (beginP pl)) :=
  (p_begin h pl).mono fun x w' ⟨hx, hw⟩ => by
    subst hw
    exact ⟨hx, _, _, h.begin pl, (Fr2.refl _ _ _ _).setRow _, SubO.nil _ _, SubO.nil _ _⟩
def interP (s : PP) (c : Int) : PP := if s.it = 0 then { s with it := c } else { s with sp := true }
def escP (s : PP) (c : Int) : PP × Option Ev :=
  if c < 48 then (interP s c, none)
  else if c = 91 ∧ s.it = 0 then (beginP 2, none)
  else if c = 93 ∧ s.it = 0 then (beginP 3, none)
  else (beginP 0, if s.sp = true then none else some ⟨3, 0, 0, s.it, c, [], []⟩)
set_option maxRecDepth 100000 in
set_option maxHeartbeats 2000000 in
theorem p_esc {B g : Nat} {vp vt : Value} {s : PP} {w : World} (h : Qs B g vp vt s w) (c : Int) (h0 : 0 ≤ c) (h1 : c < 256) (hi : 0 ≤ s.it ∧ s.it < 256) :
    Calls Try.prog 28 #[.pointer (some ⟨g, 0, none⟩), .int .u8 c] w (TPost B g vp vt w (escP s c)) := by
  unfold escP
  have HQ := Lib.hid h
  have hU : Qs B g vp vt s (w.alloc (.cells #[.int .i64 0, .int .i32 0, .int .u8 0, .int .u8 0, .int .u8 0, .slice none 0 0, .string ⟨#[]⟩] 40)) := h.below ((Below.refl _ _).alloc (Nat.le_refl _) _)
  have HQU := Lib.hid hU
  obtain ⟨k0, k1, k2, k3, k4, k5, k6, k7⟩ := h.cells
  have hlt := h.lt
  by_cases c48 : c < 48
  · rw [if_pos c48]
    have d1 : decide (c < 48) = true := by simpa using c48
    have HC := Lib.hid (p_inter hU c)
    clear h hU c48
    go_enter Try.func28, Try.ntmps28
    go_wp2_with fail
    refine (HC.out).mono ?_
    intro x w1 hx
    obtain ⟨rfl, hrow, hT⟩ := after_q HQ.out hx
    have HROW := Lib.hid hrow
    have HTT := Lib.hid hT
    clear hx hrow hT
    have HIZ := info_evZ
    have HIO := ev_one
    go_wp2_with (first | refine wpList_store_row rfl 40 _ _ rfl w.heap.size #[.int .i64 0, .int .i32 0, .int .u8 0, .int .u8 0, .int .u8 0, .slice none 0 0, .string ⟨#[]⟩] rfl rfl 40 _ HROW.out HIZ rfl HIO ?_)
    exact bodyPost_ret (results_cell_tmp Try.results28 _ _ w.heap.size 40 _ (0, 0) _ (.bool false) rfl rfl (setRow_heap _ _ _ _ _ _ HROW.out) Try.underlying40 rfl HIZ) rfl (HTT.out _)
  rw [if_neg c48]
  have d1 : decide (c < 48) = false := by simpa using c48
  by_cases c91 : c = 91 ∧ s.it = 0
  · rw [if_pos c91]
    have d2 : (c == 91) = true := by simpa using c91.1
    have d3 : (s.it == 0) = true := by simpa using c91.2
    have HC := Lib.hid (q_begin hU 2)
    clear h hU c48 c91
    go_enter Try.func28, Try.ntmps28
    go_wp2_with fail
    refine (HC.out).mono ?_
    intro x w1 hx
    obtain ⟨rfl, hrow, hT⟩ := after_q HQ.out hx
    have HROW := Lib.hid hrow
    have HTT := Lib.hid hT
    clear hx hrow hT
    have HIZ := info_evZ
    have HIO := ev_one
    go_wp2_with (first | refine wpList_store_row rfl 40 _ _ rfl w.heap.size #[.int .i64 0, .int .i32 0, .int .u8 0, .int .u8 0, .int .u8 0, .slice none 0 0, .string ⟨#[]⟩] rfl rfl 40 _ HROW.out HIZ rfl HIO ?_)
    exact bodyPost_ret (results_cell_tmp Try.results28 _ _ w.heap.size 40 _ (0, 0) _ (.bool false) rfl rfl (setRow_heap _ _ _ _ _ _ HROW.out) Try.underlying40 rfl HIZ) rfl (HTT.out _)
  rw [if_neg c91]
  by_cases c93 : c = 93 ∧ s.it = 0
  · rw [if_pos c93]
    have d2 : (c == 91) = false := by simp; omega
    have d3 : (c == 93) = true := by simpa using c93.1
    have d4 : (s.it == 0) = true := by simpa using c93.2
    have HC := Lib.hid (q_begin hU 3)
    clear h hU c48 c91 c93
    go_enter Try.func28, Try.ntmps28
    go_wp2_with fail
    refine (HC.out).mono ?_
    intro x w1 hx
    obtain ⟨rfl, hrow, hT⟩ := after_q HQ.out hx
    have HROW := Lib.hid hrow
    have HTT := Lib.hid hT
    clear hx hrow hT
    have HIZ := info_evZ
    have HIO := ev_one
    go_wp2_with (first | refine wpList_store_row rfl 40 _ _ rfl w.heap.size #[.int .i64 0, .int .i32 0, .int .u8 0, .int .u8 0, .int .u8 0, .slice none 0 0, .string ⟨#[]⟩] rfl rfl 40 _ HROW.out HIZ rfl HIO ?_)
    exact bodyPost_ret (results_cell_tmp Try.results28 _ _ w.heap.size 40 _ (0, 0) _ (.bool false) rfl rfl (setRow_heap _ _ _ _ _ _ HROW.out) Try.underlying40 rfl HIZ) rfl (HTT.out _)
  rw [if_neg c93]
  have HC : Hid (Calls Try.prog 32 #[.pointer (some ⟨g, 0, none⟩), .agg #[.int .i64 3, .int .i32 0, .int .u8 0, .int .u8 s.it, .int .u8 c, .slice none 0 0, .string ⟨#[]⟩]] (w.alloc (.cells #[.int .i64 0, .int .i32 0, .int .u8 0, .int .u8 0, .int .u8 0, .slice none 0 0, .string ⟨#[]⟩] 40)) (TPost B g vp vt (w.alloc (.cells #[.int .i64 0, .int .i32 0, .int .u8 0, .int .u8 0, .int .u8 0, .slice none 0 0, .string ⟨#[]⟩] 40)) (beginP 0, if s.sp = true then none else some ⟨3, 0, 0, s.it, c, [], []⟩))) := Lib.hid (p_end hU ⟨3, 0, 0, s.it, c, [], []⟩ (.slice none 0 0) (World.ownsRow_nil _ _ _ _) (SubO.nil _ _))
  obtain ⟨R, hR⟩ : ∃ R, ((beginP 0, if s.sp = true then none else some ⟨3, 0, 0, s.it, c, [], []⟩) : PP × Option Ev) = R := ⟨_, rfl⟩
  rw [hR] at HC ⊢
  clear hR
  by_cases hz : s.it = 0
  · have d4 : (s.it == 0) = true := by simpa using hz
    have d2 : (c == 91) = false := by simp; intro e; exact c91 ⟨e, hz⟩
    have d3 : (c == 93) = false := by simp; intro e; exact c93 ⟨e, hz⟩
    clear h hU c48 c91 c93 hz
    go_enter Try.func28, Try.ntmps28
    go_wp2_with fail
    refine (HC.out).mono ?_
    intro x w1 hx
    obtain ⟨c0, c1, c2, c3, c4, A5, n5, c5, S, bb, rfl, hrow, hT⟩ := after_t HQ.out hx
    have HROW := Lib.hid hrow
    have HTT := Lib.hid hT
    clear hx hrow hT
    have HIZ := info_ev7 (.int .i64 c0) (.int .i32 c1) (.int .u8 c2) (.int .u8 c3) (.int .u8 c4) (.slice A5 n5 c5) (.string S)
    have HIO := ev_one7 c0 c1 c2 c3 c4 A5 n5 c5 S
    go_wp2_with (first | refine wpList_store_row rfl 40 _ _ rfl w.heap.size #[.int .i64 c0, .int .i32 c1, .int .u8 c2, .int .u8 c3, .int .u8 c4, .slice A5 n5 c5, .string S] rfl rfl 40 _ HROW.out HIZ rfl HIO ?_)
    exact bodyPost_ret (results_cell_tmp Try.results28 _ _ w.heap.size 40 _ (0, 0) _ (.bool bb) rfl rfl (setRow_heap _ _ _ _ _ _ HROW.out) Try.underlying40 rfl HIZ) rfl (HTT.out _)
  have d4 : (s.it == 0) = false := by simpa using hz
  by_cases e1 : c = 91
  · have d2 : (c == 91) = true := by simpa using e1
    have d3 : (c == 93) = false := by simp; omega
    clear h hU c48 c91 c93 hz e1
    go_enter Try.func28, Try.ntmps28
    go_wp2_with fail
    refine (HC.out).mono ?_
    intro x w1 hx
    obtain ⟨c0, c1, c2, c3, c4, A5, n5, c5, S, bb, rfl, hrow, hT⟩ := after_t HQ.out hx
    have HROW := Lib.hid hrow
    have HTT := Lib.hid hT
    clear hx hrow hT
    have HIZ := info_ev7 (.int .i64 c0) (.int .i32 c1) (.int .u8 c2) (.int .u8 c3) (.int .u8 c4) (.slice A5 n5 c5) (.string S)
    have HIO := ev_one7 c0 c1 c2 c3 c4 A5 n5 c5 S
    go_wp2_with (first | refine wpList_store_row rfl 40 _ _ rfl w.heap.size #[.int .i64 c0, .int .i32 c1, .int .u8 c2, .int .u8 c3, .int .u8 c4, .slice A5 n5 c5, .string S] rfl rfl 40 _ HROW.out HIZ rfl HIO ?_)
    exact bodyPost_ret (results_cell_tmp Try.results28 _ _ w.heap.size 40 _ (0, 0) _ (.bool bb) rfl rfl (setRow_heap _ _ _ _ _ _ HROW.out) Try.underlying40 rfl HIZ) rfl (HTT.out _)
  have d2 : (c == 91) = false := by simpa using e1
  by_cases e2 : c = 93
  · have d3 : (c == 93) = true := by simpa using e2
    clear h hU c48 c91 c93 hz e1 e2
    go_enter Try.func28, Try.ntmps28
    go_wp2_with fail
    refine (HC.out).mono ?_
    intro x w1 hx
    obtain ⟨c0, c1, c2, c3, c4, A5, n5, c5, S, bb, rfl, hrow, hT⟩ := after_t HQ.out hx
    have HROW := Lib.hid hrow
    have HTT := Lib.hid hT
    clear hx hrow hT
    have HIZ := info_ev7 (.int .i64 c0) (.int .i32 c1) (.int .u8 c2) (.int .u8 c3) (.int .u8 c4) (.slice A5 n5 c5) (.string S)
    have HIO := ev_one7 c0 c1 c2 c3 c4 A5 n5 c5 S
    go_wp2_with (first | refine wpList_store_row rfl 40 _ _ rfl w.heap.size #[.int .i64 c0, .int .i32 c1, .int .u8 c2, .int .u8 c3, .int .u8 c4, .slice A5 n5 c5, .string S] rfl rfl 40 _ HROW.out HIZ rfl HIO ?_)
    exact bodyPost_ret (results_cell_tmp Try.results28 _ _ w.heap.size 40 _ (0, 0) _ (.bool bb) rfl rfl (setRow_heap _ _ _ _ _ _ HROW.out) Try.underlying40 rfl HIZ) rfl (HTT.out _)
  have d3 : (c == 93) = false := by simpa using e2
  clear h hU c48 c91 c93 hz e1 e2
  go_enter Try.func28, Try.ntmps28
  go_wp2_with fail
  refine (HC.out).mono ?_
  intro x w1 hx
  obtain ⟨c0, c1, c2, c3, c4, A5, n5, c5, S, bb, rfl, hrow, hT⟩ := after_t HQ.out hx
  have HROW := Lib.hid hrow
  have HTT := Lib.hid hT
  clear hx hrow hT
  have HIZ := info_ev7 (.int .i64 c0) (.int .i32 c1) (.int .u8 c2) (.int .u8 c3) (.int .u8 c4) (.slice A5 n5 c5) (.string S)
  have HIO := ev_one7 c0 c1 c2 c3 c4 A5 n5 c5 S
  go_wp2_with (first | refine wpList_store_row rfl 40 _ _ rfl w.heap.size #[.int .i64 c0, .int .i32 c1, .int .u8 c2, .int .u8 c3, .int .u8 c4, .slice A5 n5 c5, .string S] rfl rfl 40 _ HROW.out HIZ rfl HIO ?_)
  exact bodyPost_ret (results_cell_tmp Try.results28 _ _ w.heap.size 40 _ (0, 0) _ (.bool bb) rfl rfl (setRow_heap _ _ _ _ _ _ HROW.out) Try.underlying40 rfl HIZ) rfl (HTT.out _)
end Go.Proofs.Ytfacnemgjdmlmaa
