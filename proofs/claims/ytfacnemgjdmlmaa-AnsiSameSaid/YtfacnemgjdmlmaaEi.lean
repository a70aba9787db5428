/-
  Proved here: of the program's parser: takeOsc, take.
-/
import Derived.Test.YtfacnemgjdmlmaaEh
set_option linter.unusedSimpArgs false
set_option linter.unusedVariables false
namespace Go.Proofs.Ytfacnemgjdmlmaa
open Go.RowKit
def oscP (s : PP) (r : Int) : PP × Option Ev :=
  if r = 7 ∨ (s.ma = true ∧ r = 92) then (beginP 0, if s.sp = true then none else some ⟨5, 0, 0, 0, 0, [], bytesL s.tx⟩)
  else if r = 27 then ({ s with ma := true }, none)
  else if r < 32 then (s, none)
  else if s.ma = true then plainP (beginP 1) r
  else if s.tx.length = 600 then ({ s with sp := true }, none)
  else ({ s with tx := s.tx ++ [r] }, none)
def takeP (s : PP) (r : Int) : PP × Option Ev := if s.pl = 3 then oscP s r else plainP s r
theorem TPost.then {B g : Nat} {vp vt vp1 vt1 : Value} {w w1 : World} {R : PP × Option Ev} {x : Ending} {w' : World} (hf : Fr2 g vp vt w w1) (hp : SubO vp1 vp w) (ht : SubO vt1 vt w) (h : TPost B g vp1 vt1 w1 R x w') : TPost B g vp vt w R x w' := by
  obtain ⟨vp', vt', pv, e, hq, hf', hp', ht', ho, hs, hd⟩ := h
  exact ⟨vp', vt', pv, e, hq, hf.trans hf' hp ht, hp.trans hp' hf.size, ht.trans ht' hf.size, ho, hp.trans hs hf.size, hd⟩
theorem good_begin (pl : Int) (h : 0 ≤ pl ∧ pl ≤ 3) : PGood (beginP pl) := ⟨by simp [beginP], by simp [beginP], by simp [beginP], fun x hx => by simp [beginP] at hx, by simp [beginP], fun x hx => by simp [beginP] at hx, h⟩
theorem tpost_none2 {B g : Nat} {vp vt : Value} {s' : PP} {w w' : World} (hq : Qs B g vp vt s' w') (hf : Fr2 g vp vt w w') : TPost B g vp vt w (s', none) (.returned (.tuple #[.agg #[.int .i64 0, .int .i32 0, .int .u8 0, .int .u8 0, .int .u8 0, .slice none 0 0, .string ⟨#[]⟩], .bool false])) w' :=
  ⟨vp, vt, .slice none 0 0, by rw [← evL_Z]; rfl, hq, hf, SubO.refl _ _, SubO.refl _ _, World.ownsRow_nil _ _ _ _, SubO.nil _ _, .inl rfl⟩
set_option maxRecDepth 100000 in
set_option maxHeartbeats 4000000 in
theorem p_osc {B g : Nat} {vp vt : Value} {s : PP} {w : World} (h : Qs B g vp vt s w) (hG : PGood s) (r : Int) (hr : 0 ≤ r) :
    Calls Try.prog 27 #[.pointer (some ⟨g, 0, none⟩), .int .i32 r] w (TPost B g vp vt w (oscP s r)) := by
  unfold oscP
  have HQ := Lib.hid h
  have hU : Qs B g vp vt s (w.alloc (.cells #[.int .i64 0, .int .i32 0, .int .u8 0, .int .u8 0, .int .u8 0, .slice none 0 0, .string ⟨#[]⟩] 40)) := h.below ((Below.refl _ _).alloc (Nat.le_refl _) _)
  have HQU := Lib.hid hU
  obtain ⟨k0, k1, k2, k3, k4, k5, k6, k7⟩ := h.cells
  have hlt := h.lt
  obtain ⟨At, ct, rfl, _, _, _⟩ := own_slice h.ot
  obtain ⟨ma, hma⟩ : ∃ b, s.ma = b := ⟨_, rfl⟩
  rw [hma] at k3 ⊢
  by_cases c1 : r = 7 ∨ (ma = true ∧ r = 92)
  · rw [if_pos c1]
    have hcv := conv_runes hU.ot hG.pts
    obtain ⟨S0, hS0⟩ : ∃ S, strOfNums (bytesL s.tx) = S := ⟨_, rfl⟩
    rw [hS0] at hcv
    obtain ⟨R, hR⟩ : ∃ R, ((beginP 0, if s.sp = true then none else some ⟨5, 0, 0, 0, 0, [], bytesL s.tx⟩) : PP × Option Ev) = R := ⟨_, rfl⟩
    have hce := p_end hU ⟨5, 0, 0, 0, 0, [], bytesL s.tx⟩ (.slice none 0 0) (World.ownsRow_nil _ _ _ _) (SubO.nil _ _)
    rw [hR] at hce ⊢
    have HCE : Hid (Calls Try.prog 32 #[.pointer (some ⟨g, 0, none⟩), .agg #[.int .i64 5, .int .i32 0, .int .u8 0, .int .u8 0, .int .u8 0, .slice none 0 0, .string S0]] (w.alloc (.cells #[.int .i64 0, .int .i32 0, .int .u8 0, .int .u8 0, .int .u8 0, .slice none 0 0, .string ⟨#[]⟩] 40)) (TPost B g vp (.slice At s.tx.length ct) (w.alloc (.cells #[.int .i64 0, .int .i32 0, .int .u8 0, .int .u8 0, .int .u8 0, .slice none 0 0, .string ⟨#[]⟩] 40)) R)) := Lib.hid (by rw [← hS0]; exact hce)
    clear hce hR hS0
    by_cases r7 : r = 7
    · have d1 : (r == 7) = true := by simpa using r7
      have HC : Hid (Calls Try.prog 32 #[.pointer (some ⟨g, 0, none⟩), .agg #[.int .i64 5, .int .i32 0, .int .u8 0, .int .u8 0, .int .u8 0, .slice none 0 0, .string S0]] (w.alloc (.cells #[.int .i64 0, .int .i32 0, .int .u8 0, .int .u8 0, .int .u8 0, .slice none 0 0, .string ⟨#[]⟩] 40)) (TPost B g vp (.slice At s.tx.length ct) (w.alloc (.cells #[.int .i64 0, .int .i32 0, .int .u8 0, .int .u8 0, .int .u8 0, .slice none 0 0, .string ⟨#[]⟩] 40)) R)) := HCE
      clear h hU hG c1 r7 hma
      go_enter Try.func27, Try.ntmps27
      go_wp2_with fail
      refine (HC.out).mono ?_
      intro x w1 hx
      obtain ⟨c0, c1, c2, c3, c4, A5, n5, c5, S, bb, rfl, hrow, hT⟩ := after_t HQ.out hx
      have HROW := Lib.hid hrow
      have HTT := Lib.hid hT
      clear hx hrow hT
      have HIZ := info_ev7 (.int .i64 c0) (.int .i32 c1) (.int .u8 c2) (.int .u8 c3) (.int .u8 c4) (.slice A5 n5 c5) (.string S)
      have HIO := ev_one7 c0 c1 c2 c3 c4 A5 n5 c5 S
      go_wp2_with (first | refine wpList_store_row rfl 40 _ _ rfl w.heap.size #[.int .i64 c0, .int .i32 c1, .int .u8 c2, .int .u8 c3, .int .u8 c4, .slice A5 n5 c5, .string S] rfl rfl 40 _ HROW.out HIZ rfl HIO ?_)
      exact bodyPost_ret (results_cell_tmp Try.results27 _ _ w.heap.size 40 _ (0, 0) _ (.bool bb) rfl rfl (setRow_heap _ _ _ _ _ _ HROW.out) Try.underlying40 rfl HIZ) rfl (HTT.out _)
    · have d1 : (r == 7) = false := by simpa using r7
      have c2 : ma = true ∧ r = 92 := c1.resolve_left r7
      obtain ⟨c2a, c2b⟩ := c2
      subst c2a
      have d2 : (r == 92) = true := by simpa using c2b
      have HC : Hid (Calls Try.prog 32 #[.pointer (some ⟨g, 0, none⟩), .agg #[.int .i64 5, .int .i32 0, .int .u8 0, .int .u8 0, .int .u8 0, .slice none 0 0, .string S0]] (w.alloc (.cells #[.int .i64 0, .int .i32 0, .int .u8 0, .int .u8 0, .int .u8 0, .slice none 0 0, .string ⟨#[]⟩] 40)) (TPost B g vp (.slice At s.tx.length ct) (w.alloc (.cells #[.int .i64 0, .int .i32 0, .int .u8 0, .int .u8 0, .int .u8 0, .slice none 0 0, .string ⟨#[]⟩] 40)) R)) := HCE
      clear h hU hG c1 r7 c2b hma
      go_enter Try.func27, Try.ntmps27
      go_wp2_with fail
      refine (HC.out).mono ?_
      intro x w1 hx
      obtain ⟨c0, c1, c2, c3, c4, A5, n5, c5, S, bb, rfl, hrow, hT⟩ := after_t HQ.out hx
      have HROW := Lib.hid hrow
      have HTT := Lib.hid hT
      clear hx hrow hT
      have HIZ := info_ev7 (.int .i64 c0) (.int .i32 c1) (.int .u8 c2) (.int .u8 c3) (.int .u8 c4) (.slice A5 n5 c5) (.string S)
      have HIO := ev_one7 c0 c1 c2 c3 c4 A5 n5 c5 S
      go_wp2_with (first | refine wpList_store_row rfl 40 _ _ rfl w.heap.size #[.int .i64 c0, .int .i32 c1, .int .u8 c2, .int .u8 c3, .int .u8 c4, .slice A5 n5 c5, .string S] rfl rfl 40 _ HROW.out HIZ rfl HIO ?_)
      exact bodyPost_ret (results_cell_tmp Try.results27 _ _ w.heap.size 40 _ (0, 0) _ (.bool bb) rfl rfl (setRow_heap _ _ _ _ _ _ HROW.out) Try.underlying40 rfl HIZ) rfl (HTT.out _)
  rw [if_neg c1]
  have d1 : (r == 7) = false := by simp; intro e; exact c1 (.inl e)
  have hM : ∀ {P : Prop}, (ma = true → (r == 92) = false → P) → (ma = false → P) → P := fun h1 h2 => by
    cases hma2 : ma
    · exact h2 hma2
    · exact h1 hma2 (by simp; intro e; exact c1 (.inr ⟨hma2, e⟩))
  by_cases r27 : r = 27
  · rw [if_pos r27]
    have d3 : (r == 27) = true := by simpa using r27
    have d2 : (r == 92) = false := by simp; omega
    cases ma
    · have fr := h.free 3
      have HX := Lib.hid (tpost_none2 (w := w) (w' := (w.setCell ⟨g, 3, none⟩ (.bool true)).alloc (.cells #[.int .i64 0, .int .i32 0, .int .u8 0, .int .u8 0, .int .u8 0, .slice none 0 0, .string ⟨#[]⟩] 40)) ((h.set 3 (.bool true) (s' := { s with ma := true }) rfl rfl rfl).below ((Below.refl _ _).alloc (Nat.le_refl _) _)) ((Fr2.setCell (Fr2.refl g vp _ w) 3 (.bool true)).more ((Below.refl _ _).alloc (by simp) _)))
      have hsz : (w.setCell ⟨g, 3, none⟩ (.bool true)).heap.size = w.heap.size := by simp
      have HRW := Lib.hid (show ((w.setCell ⟨g, 3, none⟩ (.bool true)).alloc (.cells #[.int .i64 0, .int .i32 0, .int .u8 0, .int .u8 0, .int .u8 0, .slice none 0 0, .string ⟨#[]⟩] 40)).heap[w.heap.size]? = some (.cells #[.int .i64 0, .int .i32 0, .int .u8 0, .int .u8 0, .int .u8 0, .slice none 0 0, .string ⟨#[]⟩] 40 (0, 0)) from hsz ▸ heap_alloc_new (w.setCell ⟨g, 3, none⟩ (.bool true)) _)
      have frU := hU.free 3
      clear h hU hG hsz c1 r27 hma hM
      go_enter Try.func27, Try.ntmps27
      go_wp2
      exact bodyPost_ret (results_cell_tmp Try.results27 _ _ w.heap.size 40 _ (0, 0) _ (.bool false) rfl rfl HRW.out Try.underlying40 rfl info_evZ) rfl HX.out
    · have fr := h.free 3
      have HX := Lib.hid (tpost_none2 (w := w) (w' := (w.setCell ⟨g, 3, none⟩ (.bool true)).alloc (.cells #[.int .i64 0, .int .i32 0, .int .u8 0, .int .u8 0, .int .u8 0, .slice none 0 0, .string ⟨#[]⟩] 40)) ((h.set 3 (.bool true) (s' := { s with ma := true }) rfl rfl rfl).below ((Below.refl _ _).alloc (Nat.le_refl _) _)) ((Fr2.setCell (Fr2.refl g vp _ w) 3 (.bool true)).more ((Below.refl _ _).alloc (by simp) _)))
      have hsz : (w.setCell ⟨g, 3, none⟩ (.bool true)).heap.size = w.heap.size := by simp
      have HRW := Lib.hid (show ((w.setCell ⟨g, 3, none⟩ (.bool true)).alloc (.cells #[.int .i64 0, .int .i32 0, .int .u8 0, .int .u8 0, .int .u8 0, .slice none 0 0, .string ⟨#[]⟩] 40)).heap[w.heap.size]? = some (.cells #[.int .i64 0, .int .i32 0, .int .u8 0, .int .u8 0, .int .u8 0, .slice none 0 0, .string ⟨#[]⟩] 40 (0, 0)) from hsz ▸ heap_alloc_new (w.setCell ⟨g, 3, none⟩ (.bool true)) _)
      have frU := hU.free 3
      clear h hU hG hsz c1 r27 hma hM
      go_enter Try.func27, Try.ntmps27
      go_wp2
      exact bodyPost_ret (results_cell_tmp Try.results27 _ _ w.heap.size 40 _ (0, 0) _ (.bool false) rfl rfl HRW.out Try.underlying40 rfl info_evZ) rfl HX.out
  rw [if_neg r27]
  have d3 : (r == 27) = false := by simpa using r27
  by_cases r32 : r < 32
  · rw [if_pos r32]
    have d4 : decide (r < 32) = true := by simpa using r32
    have d2 : (r == 92) = false := by simp; omega
    have HX := Lib.hid (tpost_none2 (w := w) (w' := (w.alloc (.cells #[.int .i64 0, .int .i32 0, .int .u8 0, .int .u8 0, .int .u8 0, .slice none 0 0, .string ⟨#[]⟩] 40))) hU (Fr2.of_below ((Below.refl _ _).alloc (Nat.le_refl _) _)))
    have HRW := Lib.hid (heap_alloc_new w (.cells #[.int .i64 0, .int .i32 0, .int .u8 0, .int .u8 0, .int .u8 0, .slice none 0 0, .string ⟨#[]⟩] 40))
    clear h hU hG c1 r27 r32 hM hma
    cases ma
    · go_enter Try.func27, Try.ntmps27
      go_wp2
      exact bodyPost_ret (results_cell_tmp Try.results27 _ _ w.heap.size 40 _ (0, 0) _ (.bool false) rfl rfl HRW.out Try.underlying40 rfl info_evZ) rfl HX.out
    · go_enter Try.func27, Try.ntmps27
      go_wp2
      exact bodyPost_ret (results_cell_tmp Try.results27 _ _ w.heap.size 40 _ (0, 0) _ (.bool false) rfl rfl HRW.out Try.underlying40 rfl info_evZ) rfl HX.out
  rw [if_neg r32]
  have d4 : decide (r < 32) = false := by simpa using r32
  cases ma
  case true =>
    rw [if_pos rfl]
    have d2 : (r == 92) = false := by simp; intro e; exact c1 (.inr ⟨rfl, e⟩)
    have HC := Lib.hid (p_begin hU 1)
    have hV := hU.begin 1
    obtain ⟨R, hR⟩ : ∃ R, plainP (beginP 1) r = R := ⟨_, rfl⟩
    have hpl := p_plain hV (good_begin 1 (by omega)) (by simp [beginP]) r hr
    rw [hR] at hpl ⊢
    have HP : Hid (Calls Try.prog 21 #[.pointer (some ⟨g, 0, none⟩), .int .i32 r] ((w.alloc (.cells #[.int .i64 0, .int .i32 0, .int .u8 0, .int .u8 0, .int .u8 0, .slice none 0 0, .string ⟨#[]⟩] 40)).setRow g (qC (beginP 1) (.slice none 0 0) (.slice none 0 0))) (TPost B g vp (.slice At s.tx.length ct) (w.alloc (.cells #[.int .i64 0, .int .i32 0, .int .u8 0, .int .u8 0, .int .u8 0, .slice none 0 0, .string ⟨#[]⟩] 40)) R)) := Lib.hid (hpl.mono fun x w' hx => TPost.then ((Fr2.refl _ _ _ _).setRow _) (SubO.nil _ _) (SubO.nil _ _) hx)
    clear h hU hG c1 r27 r32 hM hma hV hR hpl
    go_enter Try.func27, Try.ntmps27
    go_wp2_with fail
    refine HC.out.mono ?_
    rintro x w0 ⟨rfl, rfl⟩
    generalize (w.alloc (.cells #[.int .i64 0, .int .i32 0, .int .u8 0, .int .u8 0, .int .u8 0, .slice none 0 0, .string ⟨#[]⟩] 40)).setRow g (qC (beginP 1) (.slice none 0 0) (.slice none 0 0)) = V at HP ⊢
    clear k0 k1 k2 k3 k4 k5 k6 k7
    go_wp2_with fail
    refine (HP.out).mono ?_
    intro x w1 hx
    obtain ⟨c0, c1, c2, c3, c4, A5, n5, c5, S, bb, rfl, hrow, hT⟩ := after_t HQ.out hx
    have HROW := Lib.hid hrow
    have HTT := Lib.hid hT
    clear hx hrow hT
    have HIZ := info_ev7 (.int .i64 c0) (.int .i32 c1) (.int .u8 c2) (.int .u8 c3) (.int .u8 c4) (.slice A5 n5 c5) (.string S)
    have HIO := ev_one7 c0 c1 c2 c3 c4 A5 n5 c5 S
    go_wp2_with (first | refine wpList_store_row rfl 40 _ _ rfl w.heap.size #[.int .i64 c0, .int .i32 c1, .int .u8 c2, .int .u8 c3, .int .u8 c4, .slice A5 n5 c5, .string S] rfl rfl 40 _ HROW.out HIZ rfl HIO ?_)
    exact bodyPost_ret (results_cell_tmp Try.results27 _ _ w.heap.size 40 _ (0, 0) _ (.bool bb) rfl rfl (setRow_heap _ _ _ _ _ _ HROW.out) Try.underlying40 rfl HIZ) rfl (HTT.out _)
  rw [if_neg (by decide)]
  have HMA := Lib.hid (fun (_ : Unit) => hma)
  by_cases t6 : s.tx.length = 600
  · rw [if_pos t6]
    have d5 : ((s.tx.length : Int) == 600) = true := by simp; omega
    have d6 : (s.tx.length == 600) = true := by simpa using t6
    have fr := h.free 2
    have HX := Lib.hid (tpost_none2 (w := w) (w' := (w.setCell ⟨g, 2, none⟩ (.bool true)).alloc (.cells #[.int .i64 0, .int .i32 0, .int .u8 0, .int .u8 0, .int .u8 0, .slice none 0 0, .string ⟨#[]⟩] 40)) ((h.set 2 (.bool true) (s' := { s with sp := true }) rfl rfl rfl).below ((Below.refl _ _).alloc (Nat.le_refl _) _)) ((Fr2.setCell (Fr2.refl g vp _ w) 2 (.bool true)).more ((Below.refl _ _).alloc (by simp) _)))
    have hsz : (w.setCell ⟨g, 2, none⟩ (.bool true)).heap.size = w.heap.size := by simp
    have HRW := Lib.hid (show ((w.setCell ⟨g, 2, none⟩ (.bool true)).alloc (.cells #[.int .i64 0, .int .i32 0, .int .u8 0, .int .u8 0, .int .u8 0, .slice none 0 0, .string ⟨#[]⟩] 40)).heap[w.heap.size]? = some (.cells #[.int .i64 0, .int .i32 0, .int .u8 0, .int .u8 0, .int .u8 0, .slice none 0 0, .string ⟨#[]⟩] 40 (0, 0)) from hsz ▸ heap_alloc_new (w.setCell ⟨g, 2, none⟩ (.bool true)) _)
    have frU := hU.free 2
    clear h hU hG hsz c1 r27 r32 hM hma t6
    go_enter Try.func27, Try.ntmps27
    go_wp2
    exact bodyPost_ret (results_cell_tmp Try.results27 _ _ w.heap.size 40 _ (0, 0) _ (.bool false) rfl rfl HRW.out Try.underlying40 rfl info_evZ) rfl (by have h := HX.out; rw [HMA.out ()] at h; exact h)
  rw [if_neg t6]
  have d5 : ((s.tx.length : Int) == 600) = false := by simp; omega
  have d6 : (s.tx.length == 600) = false := by simpa using t6
  obtain ⟨A1, c1', w2, hrun, hfr, hc7, hq2, hf2, hs2⟩ := qt_push hU (by have := hG.tlen; omega) r
  obtain ⟨_, hrow, hT⟩ := after_q HQ.out ⟨rfl, _, _, hq2, hf2, SubO.refl _ _, hs2⟩
  have HROW := Lib.hid hrow
  have HTT := Lib.hid hT
  simp only [World.size_alloc] at hrun
  have HRUN := Lib.hid hrun
  have HIZ := info_evZ
  have HIO := ev_one
  clear h hU hG c1 r27 r32 hM hma t6 hrun hq2 hf2 hs2 hrow hT
  go_enter Try.func27, Try.ntmps27
  go_wp2_with (first | (at_builtin; refine wpList_app rfl (.tmp 10) (.tmp 12) _ rfl _ _ rfl rfl HRUN.out ?_) | refine wpList_store_row rfl 40 _ _ rfl w.heap.size #[.int .i64 0, .int .i32 0, .int .u8 0, .int .u8 0, .int .u8 0, .slice none 0 0, .string ⟨#[]⟩] rfl rfl 40 _ HROW.out HIZ rfl HIO ?_)
  exact bodyPost_ret (results_cell_tmp Try.results27 _ _ w.heap.size 40 _ (0, 0) _ (.bool false) rfl rfl (setRow_heap _ _ _ _ _ _ HROW.out) Try.underlying40 rfl HIZ) rfl (by have h := HTT.out #[.int .i64 0, .int .i32 0, .int .u8 0, .int .u8 0, .int .u8 0, .slice none 0 0, .string ⟨#[]⟩]; rw [HMA.out ()] at h; exact h)
set_option maxRecDepth 100000 in
set_option maxHeartbeats 4000000 in
/-- What a point brings: take, for whatever stands in the parser. -/
theorem p_take {B g : Nat} {vp vt : Value} {s : PP} {w : World} (h : Qs B g vp vt s w) (hG : PGood s) (r : Int) (hr : 0 ≤ r) :
    Calls Try.prog 21 #[.pointer (some ⟨g, 0, none⟩), .int .i32 r] w (TPost B g vp vt w (takeP s r)) := by
  unfold takeP
  by_cases h3 : s.pl = 3
  · rw [if_pos h3]
    have HQ := Lib.hid h
    have hU : Qs B g vp vt s (w.alloc (.cells #[.int .i64 0, .int .i32 0, .int .u8 0, .int .u8 0, .int .u8 0, .slice none 0 0, .string ⟨#[]⟩] 40)) := h.below ((Below.refl _ _).alloc (Nat.le_refl _) _)
    have HQU := Lib.hid hU
    obtain ⟨k0, k1, k2, k3, k4, k5, k6, k7⟩ := h.cells
    have hlt := h.lt
    have z3 : (s.pl == 3) = true := by simpa using h3
    have HC := Lib.hid (p_osc hU hG r hr)
    obtain ⟨R, hR⟩ : ∃ R, oscP s r = R := ⟨_, rfl⟩
    rw [hR] at HC ⊢
    clear h hU hG h3 hR
    go_enter Try.func21, Try.ntmps21
    go_wp2_with fail
    refine (HC.out).mono ?_
    intro x w1 hx
    obtain ⟨c0, c1, c2, c3, c4, A5, n5, c5, S, bb, rfl, hrow, hT⟩ := after_t HQ.out hx
    have HROW := Lib.hid hrow
    have HTT := Lib.hid hT
    clear hx hrow hT
    have HIZ := info_ev7 (.int .i64 c0) (.int .i32 c1) (.int .u8 c2) (.int .u8 c3) (.int .u8 c4) (.slice A5 n5 c5) (.string S)
    have HIO := ev_one7 c0 c1 c2 c3 c4 A5 n5 c5 S
    go_wp2_with (first | refine wpList_store_row rfl 40 _ _ rfl w.heap.size #[.int .i64 c0, .int .i32 c1, .int .u8 c2, .int .u8 c3, .int .u8 c4, .slice A5 n5 c5, .string S] rfl rfl 40 _ HROW.out HIZ rfl HIO ?_)
    exact bodyPost_ret (results_cell_tmp Try.results21 _ _ w.heap.size 40 _ (0, 0) _ (.bool bb) rfl rfl (setRow_heap _ _ _ _ _ _ HROW.out) Try.underlying40 rfl HIZ) rfl (HTT.out _)
  rw [if_neg h3]
  exact p_plain h hG h3 r hr
end Go.Proofs.Ytfacnemgjdmlmaa
