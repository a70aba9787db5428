/-
  Proved here: of the program's parser: take where no text of the system is open.
-/
import Derived.Test.YtfacnemgjdmlmaaEf
set_option linter.unusedSimpArgs false
set_option linter.unusedVariables false
namespace Go.Proofs.Ytfacnemgjdmlmaa
open Go.RowKit
def plainP (s : PP) (r : Int) : PP × Option Ev :=
  if r = 27 then (beginP 1, none)
  else if r < 32 then (s, some ⟨2, r, 0, 0, 0, [], []⟩)
  else if s.pl = 0 ∨ 128 ≤ r then (beginP 0, some ⟨1, r, 0, 0, 0, [], []⟩)
  else if s.pl = 1 then escP s r
  else csiP s r
/-- What may stand in a parser. -/
structure PGood (s : PP) : Prop where
  it : 0 ≤ s.it ∧ s.it < 256
  pr : 0 ≤ s.pr ∧ s.pr < 256
  len : s.ps.length ≤ 16
  num : NumOk s.ps
  tlen : s.tx.length ≤ 600
  pts : ∀ p ∈ s.tx, isP p = true
  pl : 0 ≤ s.pl ∧ s.pl ≤ 3
theorem evL_of (k p : Int) : (evL ⟨k, p, 0, 0, 0, [], []⟩ (.slice none 0 0)).toArray = #[.int .i64 k, .int .i32 p, .int .u8 0, .int .u8 0, .int .u8 0, .slice none 0 0, .string ⟨#[]⟩] := rfl
theorem tpost_ev {B g : Nat} {vp vt : Value} {s' : PP} {w w' : World} (hq : Qs B g vp vt s' w') (hf : Fr2 g vp vt w w') (k p : Int) : TPost B g vp vt w (s', some ⟨k, p, 0, 0, 0, [], []⟩) (.returned (.tuple #[.agg #[.int .i64 k, .int .i32 p, .int .u8 0, .int .u8 0, .int .u8 0, .slice none 0 0, .string ⟨#[]⟩], .bool true])) w' :=
  ⟨vp, vt, .slice none 0 0, rfl, hq, hf, SubO.refl _ _, SubO.refl _ _, World.ownsRow_nil _ _ _ _, SubO.nil _ _, .inl rfl⟩
set_option maxRecDepth 100000 in
set_option maxHeartbeats 4000000 in
theorem p_plain {B g : Nat} {vp vt : Value} {s : PP} {w : World} (h : Qs B g vp vt s w) (hG : PGood s) (h3 : s.pl ≠ 3) (r : Int) (hr : 0 ≤ r) :
    Calls Try.prog 21 #[.pointer (some ⟨g, 0, none⟩), .int .i32 r] w (TPost B g vp vt w (plainP s r)) := by
  unfold plainP
  have HQ := Lib.hid h
  have hU : Qs B g vp vt s (w.alloc (.cells #[.int .i64 0, .int .i32 0, .int .u8 0, .int .u8 0, .int .u8 0, .slice none 0 0, .string ⟨#[]⟩] 40)) := h.below ((Below.refl _ _).alloc (Nat.le_refl _) _)
  have HQU := Lib.hid hU
  obtain ⟨k0, k1, k2, k3, k4, k5, k6, k7⟩ := h.cells
  have hlt := h.lt
  have z3 : (s.pl == 3) = false := by simpa using h3
  by_cases r27 : r = 27
  · rw [if_pos r27]
    have d1 : (r == 27) = true := by simpa using r27
    have HC := Lib.hid (q_begin hU 1)
    clear h hU hG h3 r27
    go_enter Try.func21, Try.ntmps21
    go_wp2_with fail
    refine (HC.out).mono ?_
    intro x w1 hx
    obtain ⟨rfl, hrow, hT⟩ := after_q HQ.out hx
    have HROW := Lib.hid hrow
    have HTT := Lib.hid hT
    clear hx hrow hT
    have HIZ := info_evZ
    have HIO := ev_one
    go_wp2_with (first | refine wpList_store_row rfl 40 _ _ rfl w.heap.size #[.int .i64 0, .int .i32 0, .int .u8 0, .int .u8 0, .int .u8 0, .slice none 0 0, .string ⟨#[]⟩] rfl rfl 40 _ HROW.out HIZ rfl HIO ?_)
    exact bodyPost_ret (results_cell_tmp Try.results21 _ _ w.heap.size 40 _ (0, 0) _ (.bool false) rfl rfl (setRow_heap _ _ _ _ _ _ HROW.out) Try.underlying40 rfl HIZ) rfl (HTT.out _)
  rw [if_neg r27]
  have d1 : (r == 27) = false := by simpa using r27
  by_cases r32 : r < 32
  · rw [if_pos r32]
    have d2 : decide (r < 32) = true := by simpa using r32
    have HX := Lib.hid (tpost_ev (w := w) (w' := w.alloc (.cells #[.int .i64 2, .int .i32 r, .int .u8 0, .int .u8 0, .int .u8 0, .slice none 0 0, .string ⟨#[]⟩] 40)) (h.below ((Below.refl _ _).alloc (Nat.le_refl _) _)) (Fr2.of_below ((Below.refl _ _).alloc (Nat.le_refl _) _)) 2 r)
    have HRW := Lib.hid (heap_alloc_new w (.cells #[.int .i64 2, .int .i32 r, .int .u8 0, .int .u8 0, .int .u8 0, .slice none 0 0, .string ⟨#[]⟩] 40))
    clear h hU hG h3 r27 r32
    go_enter Try.func21, Try.ntmps21
    go_wp2
    exact bodyPost_ret (results_cell_tmp Try.results21 _ _ w.heap.size 40 _ (0, 0) _ (.bool true) rfl rfl HRW.out Try.underlying40 rfl (info_ev7 _ _ _ _ _ _ _)) rfl HX.out
  rw [if_neg r32]
  have d2 : decide (r < 32) = false := by simpa using r32
  by_cases p0 : s.pl = 0
  · rw [if_pos (.inl p0)]
    have d3 : (s.pl == 0) = true := by simpa using p0
    have htb := fun cs => tpost_begin h (U := (w.alloc (.cells #[.int .i64 0, .int .i32 0, .int .u8 0, .int .u8 0, .int .u8 0, .slice none 0 0, .string ⟨#[]⟩] 40))) ((Below.refl _ _).alloc (Nat.le_refl _) _) 0 (some ⟨1, r, 0, 0, 0, [], []⟩) (.slice none 0 0) w.heap.size (Nat.le_refl _) (by simp) (World.ownsRow_nil _ _ _ _) (SubO.nil _ _) cs
    have HTB := Lib.hid htb
    have HC := Lib.hid (p_begin hU 0)
    have hrw := (setRow_other (w.alloc (.cells #[.int .i64 0, .int .i32 0, .int .u8 0, .int .u8 0, .int .u8 0, .slice none 0 0, .string ⟨#[]⟩] 40)) g w.heap.size (qC (beginP 0) (.slice none 0 0) (.slice none 0 0)) (by omega)).trans (heap_alloc_new w (.cells #[.int .i64 0, .int .i32 0, .int .u8 0, .int .u8 0, .int .u8 0, .slice none 0 0, .string ⟨#[]⟩] 40))
    have HRW := Lib.hid hrw
    clear h hU hG h3 r27 r32 p0 htb hrw
    go_enter Try.func21, Try.ntmps21
    go_wp2_with fail
    refine HC.out.mono ?_
    rintro x w1 ⟨rfl, rfl⟩
    generalize (w.alloc (.cells #[.int .i64 0, .int .i32 0, .int .u8 0, .int .u8 0, .int .u8 0, .slice none 0 0, .string ⟨#[]⟩] 40)).setRow g (qC (beginP 0) (.slice none 0 0) (.slice none 0 0)) = V at HTB HRW ⊢
    clear k0 k1 k2 k3 k4 k5 k6 k7
    go_wp2_with (first | refine wpList_store_row rfl 40 _ _ rfl w.heap.size #[.int .i64 1, .int .i32 r, .int .u8 0, .int .u8 0, .int .u8 0, .slice none 0 0, .string ⟨#[]⟩] rfl rfl 40 _ HRW.out (info_ev7 _ _ _ _ _ _ _) rfl (ev_one7 1 r 0 0 0 none 0 0 ⟨#[]⟩) ?_)
    exact bodyPost_ret (results_cell_tmp Try.results21 _ _ w.heap.size 40 _ (0, 0) _ (.bool true) rfl rfl (setRow_heap _ _ _ _ _ _ HRW.out) Try.underlying40 rfl (info_ev7 _ _ _ _ _ _ _)) rfl (HTB.out _)
  have d3 : (s.pl == 0) = false := by simpa using p0
  by_cases r128 : 128 ≤ r
  · rw [if_pos (.inr r128)]
    have d4 : decide (128 ≤ r) = true := by simpa using r128
    have htb := fun cs => tpost_begin h (U := (w.alloc (.cells #[.int .i64 0, .int .i32 0, .int .u8 0, .int .u8 0, .int .u8 0, .slice none 0 0, .string ⟨#[]⟩] 40))) ((Below.refl _ _).alloc (Nat.le_refl _) _) 0 (some ⟨1, r, 0, 0, 0, [], []⟩) (.slice none 0 0) w.heap.size (Nat.le_refl _) (by simp) (World.ownsRow_nil _ _ _ _) (SubO.nil _ _) cs
    have HTB := Lib.hid htb
    have HC := Lib.hid (p_begin hU 0)
    have hrw := (setRow_other (w.alloc (.cells #[.int .i64 0, .int .i32 0, .int .u8 0, .int .u8 0, .int .u8 0, .slice none 0 0, .string ⟨#[]⟩] 40)) g w.heap.size (qC (beginP 0) (.slice none 0 0) (.slice none 0 0)) (by omega)).trans (heap_alloc_new w (.cells #[.int .i64 0, .int .i32 0, .int .u8 0, .int .u8 0, .int .u8 0, .slice none 0 0, .string ⟨#[]⟩] 40))
    have HRW := Lib.hid hrw
    clear h hU hG h3 r27 r32 p0 r128 htb hrw
    go_enter Try.func21, Try.ntmps21
    go_wp2_with fail
    refine HC.out.mono ?_
    rintro x w1 ⟨rfl, rfl⟩
    generalize (w.alloc (.cells #[.int .i64 0, .int .i32 0, .int .u8 0, .int .u8 0, .int .u8 0, .slice none 0 0, .string ⟨#[]⟩] 40)).setRow g (qC (beginP 0) (.slice none 0 0) (.slice none 0 0)) = V at HTB HRW ⊢
    clear k0 k1 k2 k3 k4 k5 k6 k7
    go_wp2_with (first | refine wpList_store_row rfl 40 _ _ rfl w.heap.size #[.int .i64 1, .int .i32 r, .int .u8 0, .int .u8 0, .int .u8 0, .slice none 0 0, .string ⟨#[]⟩] rfl rfl 40 _ HRW.out (info_ev7 _ _ _ _ _ _ _) rfl (ev_one7 1 r 0 0 0 none 0 0 ⟨#[]⟩) ?_)
    exact bodyPost_ret (results_cell_tmp Try.results21 _ _ w.heap.size 40 _ (0, 0) _ (.bool true) rfl rfl (setRow_heap _ _ _ _ _ _ HRW.out) Try.underlying40 rfl (info_ev7 _ _ _ _ _ _ _)) rfl (HTB.out _)
  rw [if_neg (by omega)]
  have d4 : decide (128 ≤ r) = false := by simp; omega
  have e1 : IntKind.u8.wrap r = r := IntWalk.u8_in _ (by omega)
  by_cases p1 : s.pl = 1
  · rw [if_pos p1]
    have d5 : (s.pl == 1) = true := by simpa using p1
    have HC := Lib.hid (p_esc hU r hr (by omega) hG.it)
    obtain ⟨R, hR⟩ : ∃ R, escP s r = R := ⟨_, rfl⟩
    rw [hR] at HC ⊢
    clear h hU hG h3 r27 r32 p0 r128 p1 hR
    go_enter Try.func21, Try.ntmps21
    go_wp2_with fail
    refine (HC.out).mono ?_
    intro x w1 hx
    obtain ⟨c0, c1, c2, c3, c4, A5, n5, c5, S, bb, rfl, hrow, hT⟩ := after_t HQ.out hx
    have HROW := Lib.hid hrow
    have HTT := Lib.hid hT
    clear hx hrow hT
    have HIZ := info_ev7 (.int .i64 c0) (.int .i32 c1) (.int .u8 c2) (.int .u8 c3) (.int .u8 c4) (.slice A5 n5 c5) (.string S)
    have HIO := ev_one7 c0 c1 c2 c3 c4 A5 n5 c5 S
    go_wp2_with (first | refine wpList_store_row rfl 40 _ _ rfl w.heap.size #[.int .i64 c0, .int .i32 c1, .int .u8 c2, .int .u8 c3, .int .u8 c4, .slice A5 n5 c5, .string S] rfl rfl 40 _ HROW.out HIZ rfl HIO ?_)
    exact bodyPost_ret (results_cell_tmp Try.results21 _ _ w.heap.size 40 _ (0, 0) _ (.bool bb) rfl rfl (setRow_heap _ _ _ _ _ _ HROW.out) Try.underlying40 rfl HIZ) rfl (HTT.out _)
  rw [if_neg p1]
  have d5 : (s.pl == 1) = false := by simpa using p1
  have HC := Lib.hid (p_csi hU hG.len hG.num r (by omega) (by omega) hG.it hG.pr)
  obtain ⟨R, hR⟩ : ∃ R, csiP s r = R := ⟨_, rfl⟩
  rw [hR] at HC ⊢
  clear h hU hG h3 r27 r32 p0 r128 p1 hR
  go_enter Try.func21, Try.ntmps21
  go_wp2_with fail
  refine (HC.out).mono ?_
  intro x w1 hx
  obtain ⟨c0, c1, c2, c3, c4, A5, n5, c5, S, bb, rfl, hrow, hT⟩ := after_t HQ.out hx
  have HROW := Lib.hid hrow
  have HTT := Lib.hid hT
  clear hx hrow hT
  have HIZ := info_ev7 (.int .i64 c0) (.int .i32 c1) (.int .u8 c2) (.int .u8 c3) (.int .u8 c4) (.slice A5 n5 c5) (.string S)
  have HIO := ev_one7 c0 c1 c2 c3 c4 A5 n5 c5 S
  go_wp2_with (first | refine wpList_store_row rfl 40 _ _ rfl w.heap.size #[.int .i64 c0, .int .i32 c1, .int .u8 c2, .int .u8 c3, .int .u8 c4, .slice A5 n5 c5, .string S] rfl rfl 40 _ HROW.out HIZ rfl HIO ?_)
  exact bodyPost_ret (results_cell_tmp Try.results21 _ _ w.heap.size 40 _ (0, 0) _ (.bool bb) rfl rfl (setRow_heap _ _ _ _ _ _ HROW.out) Try.underlying40 rfl HIZ) rfl (HTT.out _)
end Go.Proofs.Ytfacnemgjdmlmaa
