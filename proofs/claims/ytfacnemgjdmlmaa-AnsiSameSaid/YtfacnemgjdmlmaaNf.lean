/-
  Proved here: of the document's parser: a further point in its row; Feed where no text of the system is open.
-/
import Derived.Test.YtfacnemgjdmlmaaNe
import Derived.Test.YtfacnemgjdmlmaaUs
import Derived.Maps.AppendAt
set_option linter.unusedSimpArgs false
set_option linter.unusedVariables false
namespace Go.Proofs.Ytfacnemgjdmlmaa
open Go.RowKit
/-- A further point in the row. -/
theorem ps_push {B g : Nat} {v : Value} {L : List Int} {w : World} (h : Ps B g v L w) (hn : L.length < 100000) (r : Int) :
    ∃ A c w1, (Builtin.append_ #[22, 22] 22 #[v, .slice (some ⟨w.heap.size, 0, none⟩) 1 1]).run Try.prog (w.alloc (.cells #[.int .i32 r] 21)) = .ok (.slice A (L.length + 1) c) w1 ∧
      w1.frozen? ⟨g, 0, none⟩ = false ∧ w1.cell? ⟨g, 0, none⟩ = some v ∧ Ps B g (.slice A (L.length + 1) c) (L ++ [r]) (w1.setCell ⟨g, 0, none⟩ (.slice A (L.length + 1) c)) ∧
      Fr g v w (w1.setCell ⟨g, 0, none⟩ (.slice A (L.length + 1) c)) ∧ (∀ k, (Value.slice A (L.length + 1) c).ownBlock = some k → v.ownBlock = some k ∨ w.heap.size ≤ k) := by
  have hba := (Below.refl w.heap.size w).alloc (Nat.le_refl _) (.cells #[.int .i32 r] 21)
  have ho1 := own_below h.own ((Below.refl _ _).alloc (Nat.le_refl _) (.cells #[.int .i32 r] 21))
  obtain ⟨i0, hi, hz0, hz1, hz2⟩ := info_parts info_i32
  obtain ⟨v1, w1, hr, ho, hg, _, hob⟩ := run_append_own_at (P := Try.prog) (w.alloc (.cells #[.int .i32 r] 21)) B 22 22 21 i0 _ 1 4 Try.underlying22 hi hz0 hz1 hz2 rfl (by decide) v L.length (NV .i32 L) ho1 ⟨w.heap.size, 0, none⟩ 1 1 (NV .i32 [r]) (by simp [NV]) (RI.one .i32 w r 21).cells
    (fun u hu => by obtain ⟨x, _, rfl⟩ := List.mem_map.1 hu; rfl) (by unfold maxLen; omega) (by omega) (Nat.le_trans h.big hba.size)
  obtain ⟨A, c, rfl, _⟩ := own_slice ho
  have hlt : g < w.heap.size := lt_of_block h.blk
  have hgv : some g ≠ v.ownBlock := ownBlock_ge h.own h.low
  have hb1 : w1.heap[g]? = some (.cells #[v] 28 (0, 0)) := (hg.block g (Nat.lt_of_lt_of_le hlt hba.size) hgv).trans ((hba.block g hlt).trans h.blk)
  refine ⟨A, c, w1, hr, frozen_of_row w1 _ 0 _ _ hb1, ?_, ⟨?_, ?_, h.low, ?_⟩, ?_, ?_⟩
  · unfold World.cell?; simp only [hb1]; rfl
  · rw [heap_setCell_same w1 g 0 _ _ _ hb1]; rfl
  · exact ownsRow_setCell_below (own_cast ho (by simp) (by simp [NV])) h.low _
  · simpa using Nat.le_trans h.big (Nat.le_trans hba.size hg.size)
  · refine ⟨?_, ?_, ?_, ?_, fun k h1 h2 h3 => ?_⟩
    · exact hg.os.trans hba.os
    · exact hg.tape.trans hba.tape
    · exact hg.output.trans hba.output
    · simpa using Nat.le_trans hba.size hg.size
    · exact (heap_setCell_other w1 _ k _ h2).trans ((hg.block k (Nat.lt_of_lt_of_le h1 hba.size) h3).trans (hba.block k h1))
  · intro k hk
    rcases hob with e | e
    · exact .inl (e ▸ hk)
    · right
      rw [e] at hk
      have := hba.size
      injection hk with hk
      omega
/-- Two steps. -/
theorem Out.mono {B0 B1 : Nat} {out : Value} {ev : Option Ev} {W : World} (h : Out B0 out ev W) (hb : B1 ≤ B0) : Out B1 out ev W := by
  cases ev with
  | none => exact h
  | some e =>
    obtain ⟨b, pv, h1, h2, h3, h4, h5⟩ := h
    exact ⟨b, pv, h1, h2, by omega, own_mono h4 hb, h5⟩
theorem Fr.trans {g : Nat} {v v1 : Value} {w w1 w2 : World} (h : Fr g v w w1) (h2 : Fr g v1 w1 w2) (ho : ∀ k, v1.ownBlock = some k → v.ownBlock = some k ∨ w.heap.size ≤ k) : Fr g v w w2 :=
  ⟨h2.os.trans h.os, h2.tape.trans h.tape, h2.output.trans h.output, Nat.le_trans h.size h2.size, fun k hk hg hv => (h2.block k (Nat.lt_of_lt_of_le hk h.size) hg (fun e => by
    rcases ho k e.symm with e2 | e2
    · exact hv e2.symm
    · omega)).trans (h.block k hk hg hv)⟩
theorem After.from {B g : Nat} {v v1 : Value} {w w1 : World} {R : List Int × Option Ev} {x : Ending} {w2 : World} (h : After B g v1 w1 R x w2) (hf : Fr g v w w1) (ho : ∀ k, v1.ownBlock = some k → v.ownBlock = some k ∨ w.heap.size ≤ k) : After B g v w R x w2 := by
  obtain ⟨v', out, h1, h2, h3, h4, h5⟩ := h
  refine ⟨v', out, h1, h2, hf.trans h3 ho, fun k hk => ?_, h5.mono hf.size⟩
  rcases h4 k hk with e | e
  · exact ho k e
  · exact .inr (Nat.le_trans hf.size e)
/-- What a point brings while no text of the system is open. -/
def plainS (L : List Int) (r : Int) : List Int × Option Ev :=
  if r = 27 then ([27], none)
  else if r < 32 then (L, some ⟨2, r, 0, 0, 0, [], []⟩)
  else if L = [] ∨ 127 < r then ([], some ⟨1, r, 0, 0, 0, [], []⟩)
  else seqS (L ++ [r])
def noneS (r : Int) : Bool := !isP r || decide (r = 127)
def stopS (r : Int) : Bool := decide (r = 24) || decide (r = 26)
theorem after_ev {B g : Nat} {v : Value} {L : List Int} {w w' : World} (h : Ps B g v L w) (hb : Below w.heap.size w w') {e : Ev} {pv : Value} {b : Nat} (hr : w'.heap[b]? = some (.cells (evL e pv).toArray 38 (0, 0))) (hB : w.heap.size ≤ b) (ho : w'.ownsRow w.heap.size 3 1 pv e.params.length (NV .i64 e.params)) (hn : NumOk e.params) :
    After B g v w (L, some e) (.returned (.slice (some ⟨b, 0, none⟩) 1 1)) w' :=
  ⟨v, _, rfl, ⟨(hb.block g (lt_of_block h.blk)).trans h.blk, own_below h.own hb, h.low, Nat.le_trans h.big hb.size⟩, Fr.of_below hb, fun k hk => .inl hk, b, pv, rfl, hr, hB, ho, hn⟩
set_option maxRecDepth 100000 in
set_option maxHeartbeats 1000000 in
theorem rf_no {B g : Nat} {v : Value} {L : List Int} {w : World} (h : Ps B g v L w) (hn : L.length ≤ 100000) {r : Int} (hr : noneS r = true) :
    Calls Try.prog 11 #[.pointer (some ⟨g, 0, none⟩), .int .i32 r] w (After B g v w (L, none)) := by
  have HPS := Lib.hid h
  have HIS : Hid (∀ w : World, Calls Try.prog 22 #[.int .i32 r] w fun e w' => e = .returned (.bool (isP r)) ∧ w = w') := Lib.hid (fun w => ris_any r w)
  unfold noneS at hr
  obtain ⟨y, hy⟩ : ∃ y, isP r = y := ⟨_, rfl⟩
  rw [hy] at hr HIS
  clear h hy
  cases y
  · clear hr
    go_enter Try.func11, Try.ntmps11
    go_wp2_with (first | (go_at_call 22; refine (HIS.out _).mono ?_; rintro e w' ⟨rfl, rfl⟩))
    go_ret
    exact after_same HPS.out (Below.refl _ _)
  · have e : r = 127 := by simpa using hr
    subst e
    clear hr
    go_enter Try.func11, Try.ntmps11
    go_wp2_with (first | (go_at_call 22; refine (HIS.out _).mono ?_; rintro e w' ⟨rfl, rfl⟩))
    go_ret
    exact after_same HPS.out (Below.refl _ _)
set_option maxRecDepth 100000 in
set_option maxHeartbeats 1000000 in
theorem rf_stop {B g : Nat} {v : Value} {L : List Int} {w : World} (h : Ps B g v L w) (hn : L.length ≤ 100000) {r : Int} (hr : stopS r = true) :
    Calls Try.prog 11 #[.pointer (some ⟨g, 0, none⟩), .int .i32 r] w (After B g v w ([], none)) := by
  have HPS := Lib.hid h
  have c0 := h.c0
  have ff := h.free
  have e : r = 24 ∨ r = 26 := by simpa [stopS] using hr
  clear hr h
  rcases e with rfl | rfl
  · have HIS : Hid (∀ w : World, Calls Try.prog 22 #[.int .i32 24] w fun e w' => e = .returned (.bool true) ∧ w = w') := Lib.hid (fun w => ris_any 24 w)
    go_enter Try.func11, Try.ntmps11
    go_wp2_with (first | (go_at_call 22; refine (HIS.out _).mono ?_; rintro e w' ⟨rfl, rfl⟩))
    go_ret
    exact after_none HPS.out (Below.refl _ _)
  · have HIS : Hid (∀ w : World, Calls Try.prog 22 #[.int .i32 26] w fun e w' => e = .returned (.bool true) ∧ w = w') := Lib.hid (fun w => ris_any 26 w)
    go_enter Try.func11, Try.ntmps11
    go_wp2_with (first | (go_at_call 22; refine (HIS.out _).mono ?_; rintro e w' ⟨rfl, rfl⟩))
    go_ret
    exact after_none HPS.out (Below.refl _ _)
set_option maxRecDepth 100000 in
set_option maxHeartbeats 1000000 in
theorem rf_esc {B g : Nat} {v : Value} {L : List Int} {w : World} (h : Ps B g v L w) (hn : L.length ≤ 100000) (hos : oscB L = false) :
    Calls Try.prog 11 #[.pointer (some ⟨g, 0, none⟩), .int .i32 27] w (After B g v w ([27], none)) := by
  have HIS : Hid (∀ w : World, Calls Try.prog 22 #[.int .i32 27] w fun e w' => e = .returned (.bool true) ∧ w = w') := Lib.hid (fun w => ris_any 27 w)
  have HOSC : Hid (Calls Try.prog 23 #[.pointer (some ⟨g, 0, none⟩)] w fun e w' => e = .returned (.bool false) ∧ w = w') := Lib.hid (hos ▸ rp_osc h hn)
  have HPS := Lib.hid h
  have hba := (Below.refl w.heap.size w).alloc (Nat.le_refl _) (.cells #[.int .i32 27] 21)
  have hlt : g < w.heap.size := lt_of_block h.blk
  have hb1 := (hba.block g hlt).trans h.blk
  have c0 : (w.alloc (.cells #[.int .i32 27] 21)).cell? ⟨g, 0, none⟩ = some v := by unfold World.cell?; simp only [hb1]; rfl
  have ff : (w.alloc (.cells #[.int .i32 27] 21)).frozen? ⟨g, 0, none⟩ = false := frozen_of_row _ _ 0 _ _ hb1
  have hol := World.ownsRow_lit (e := 21) (size := 1) (base := w.heap.size) w #[.int .i32 27] 1 (Nat.le_refl _) (by unfold maxLen; omega) rfl
  have HB1 := Lib.hid hb1
  have HOL := Lib.hid hol
  have HBA := Lib.hid hba
  clear h hos hba hlt hb1 hol
  go_enter Try.func11, Try.ntmps11
  go_wp2_with (first | (go_at_call 22; refine (HIS.out _).mono ?_; rintro e w' ⟨rfl, rfl⟩) | (go_at_call 23; refine HOSC.out.mono ?_; rintro e w' ⟨rfl, rfl⟩))
  go_ret
  refine ⟨.slice (some ⟨w.heap.size, 0, none⟩) 1 1, _, rfl, ⟨?_, ?_, HPS.out.low, ?_⟩, ?_, fun k hk => ?_, rfl⟩
  · rw [heap_setCell_same _ g 0 _ _ _ HB1.out]; rfl
  · exact ownsRow_setCell_below (own_mono HOL.out HPS.out.big) HPS.out.low _
  · have := HPS.out.big; simp; omega
  · exact (Fr.of_below HBA.out).setCell 0 _
  · right; simp [Value.ownBlock] at hk; omega
set_option maxRecDepth 100000 in
set_option maxHeartbeats 1000000 in
theorem rf_ctl {B g : Nat} {v : Value} {L : List Int} {w : World} (h : Ps B g v L w) (hn : L.length ≤ 100000) (hos : oscB L = false) {r : Int} (h0 : noneS r = false) (h1 : stopS r = false) (h2 : r ≠ 27) (h3 : r < 32) :
    Calls Try.prog 11 #[.pointer (some ⟨g, 0, none⟩), .int .i32 r] w (After B g v w (L, some ⟨2, r, 0, 0, 0, [], []⟩)) := by
  have hp : isP r = true ∧ r ≠ 127 := by simpa [noneS] using h0
  have hq : r ≠ 24 ∧ r ≠ 26 := by simpa [stopS] using h1
  obtain ⟨hq1, hq2⟩ := hq
  have HIS : Hid (∀ w : World, Calls Try.prog 22 #[.int .i32 r] w fun e w' => e = .returned (.bool true) ∧ w = w') := Lib.hid (fun w => hp.1 ▸ ris_any r w)
  have HOSC : Hid (Calls Try.prog 23 #[.pointer (some ⟨g, 0, none⟩)] w fun e w' => e = .returned (.bool false) ∧ w = w') := Lib.hid (hos ▸ rp_osc h hn)
  have d1 : (r == 127) = false := by simpa using hp.2
  have d2 : (r == 24) = false := by simpa using hq1
  have d3 : (r == 26) = false := by simpa using hq2
  have d4 : (r == 27) = false := by simpa using h2
  have d5 : decide (r < 32) = true := by simpa using h3
  have HPS := Lib.hid h
  clear h hos h0 h1 hp hq1 hq2 h2
  go_enter Try.func11, Try.ntmps11
  go_wp2_with (first | (go_at_call 22; refine (HIS.out _).mono ?_; rintro e w' ⟨rfl, rfl⟩) | (go_at_call 23; refine HOSC.out.mono ?_; rintro e w' ⟨rfl, rfl⟩))
  go_ret
  have hb2 := (Below.refl w.heap.size w).alloc (Nat.le_refl _) (.cells #[.int .i64 2, .int .i32 r, .int .u8 0, .int .u8 0, .int .u8 0, .slice none 0 0, .string ⟨#[]⟩] 38)
  refine after_ev (e := ⟨2, r, 0, 0, 0, [], []⟩) (pv := .slice none 0 0) HPS.out hb2 ?_ (Nat.le_refl _) (World.ownsRow_nil _ _ _ _) (fun x hx => by cases hx)
  exact heap_alloc_new w (.cells #[.int .i64 2, .int .i32 r, .int .u8 0, .int .u8 0, .int .u8 0, .slice none 0 0, .string ⟨#[]⟩] 38)
set_option maxRecDepth 100000 in
set_option maxHeartbeats 1000000 in
theorem rf_print {B g : Nat} {v : Value} {L : List Int} {w : World} (h : Ps B g v L w) (hn : L.length ≤ 100000) (hos : oscB L = false) {r : Int} (h0 : noneS r = false) (h3 : 32 ≤ r) (h5 : L = [] ∨ 127 < r) :
    Calls Try.prog 11 #[.pointer (some ⟨g, 0, none⟩), .int .i32 r] w (After B g v w ([], some ⟨1, r, 0, 0, 0, [], []⟩)) := by
  have hp : isP r = true ∧ r ≠ 127 := by simpa [noneS] using h0
  have HIS : Hid (∀ w : World, Calls Try.prog 22 #[.int .i32 r] w fun e w' => e = .returned (.bool true) ∧ w = w') := Lib.hid (fun w => hp.1 ▸ ris_any r w)
  have HOSC : Hid (Calls Try.prog 23 #[.pointer (some ⟨g, 0, none⟩)] w fun e w' => e = .returned (.bool false) ∧ w = w') := Lib.hid (hos ▸ rp_osc h hn)
  have d1 : (r == 127) = false := by simpa using hp.2
  have d2 : (r == 24) = false := by simp; omega
  have d3 : (r == 26) = false := by simp; omega
  have d4 : (r == 27) = false := by simp; omega
  have d5 : decide (r < 32) = false := by simp; omega
  have c0 := h.c0
  have ff := h.free
  have HPS := Lib.hid h
  obtain ⟨A, c, rfl, _⟩ := h.row
  obtain ⟨n, hln⟩ : ∃ n, L.length = n := ⟨_, rfl⟩
  rw [hln] at c0 HPS ⊢
  have h5' : n = 0 ∨ (0 < n ∧ 127 < r) := by
    rcases Nat.eq_zero_or_pos n with e | e
    · exact .inl e
    · rcases h5 with e2 | e2
      · rw [e2] at hln; simp at hln; omega
      · exact .inr ⟨e, e2⟩
  rcases h5' with e | ⟨e, e2⟩
  · have d6 : ((n : Int) == 0) = true := by simp; omega
    clear h hos h0 hp h5 hln e
    go_enter Try.func11, Try.ntmps11
    go_wp2_with (first | (go_at_call 22; refine (HIS.out _).mono ?_; rintro e w' ⟨rfl, rfl⟩) | (go_at_call 23; refine HOSC.out.mono ?_; rintro e w' ⟨rfl, rfl⟩))
    go_ret
    have hb2 := (Below.refl w.heap.size (w.setCell ⟨g, 0, none⟩ (.slice none 0 0))).alloc (by simp) (.cells #[.int .i64 1, .int .i32 r, .int .u8 0, .int .u8 0, .int .u8 0, .slice none 0 0, .string ⟨#[]⟩] 38)
    refine after_some (e := ⟨1, r, 0, 0, 0, [], []⟩) (pv := .slice none 0 0) HPS.out hb2 ?_ (Nat.le_refl _) (World.ownsRow_nil _ _ _ _) (fun x hx => by cases hx)
    have h4 := heap_alloc_new (w.setCell ⟨g, 0, none⟩ (.slice none 0 0)) (.cells #[.int .i64 1, .int .i32 r, .int .u8 0, .int .u8 0, .int .u8 0, .slice none 0 0, .string ⟨#[]⟩] 38)
    rw [show (w.setCell ⟨g, 0, none⟩ (.slice none 0 0)).heap.size = w.heap.size by simp] at h4
    exact h4
  · have d6 : ((n : Int) == 0) = false := by simp; omega
    have d7 : decide (127 < r) = true := by simpa using e2
    clear h hos h0 hp h5 hln
    go_enter Try.func11, Try.ntmps11
    go_wp2_with (first | (go_at_call 22; refine (HIS.out _).mono ?_; rintro e w' ⟨rfl, rfl⟩) | (go_at_call 23; refine HOSC.out.mono ?_; rintro e w' ⟨rfl, rfl⟩))
    go_ret
    have hb2 := (Below.refl w.heap.size (w.setCell ⟨g, 0, none⟩ (.slice none 0 0))).alloc (by simp) (.cells #[.int .i64 1, .int .i32 r, .int .u8 0, .int .u8 0, .int .u8 0, .slice none 0 0, .string ⟨#[]⟩] 38)
    refine after_some (e := ⟨1, r, 0, 0, 0, [], []⟩) (pv := .slice none 0 0) HPS.out hb2 ?_ (Nat.le_refl _) (World.ownsRow_nil _ _ _ _) (fun x hx => by cases hx)
    have h4 := heap_alloc_new (w.setCell ⟨g, 0, none⟩ (.slice none 0 0)) (.cells #[.int .i64 1, .int .i32 r, .int .u8 0, .int .u8 0, .int .u8 0, .slice none 0 0, .string ⟨#[]⟩] 38)
    rw [show (w.setCell ⟨g, 0, none⟩ (.slice none 0 0)).heap.size = w.heap.size by simp] at h4
    exact h4
set_option maxRecDepth 100000 in
set_option maxHeartbeats 1000000 in
theorem rf_more {B g : Nat} {v : Value} {L : List Int} {w : World} (h : Ps B g v L w) (hn : L.length < 5000) (hL : SeqOk L) (hos : oscB L = false) {r : Int} (h0 : noneS r = false) (h3 : 32 ≤ r) (h5 : ¬ (L = [] ∨ 127 < r)) :
    Calls Try.prog 11 #[.pointer (some ⟨g, 0, none⟩), .int .i32 r] w (After B g v w (seqS (L ++ [r]))) := by
  have hp : isP r = true ∧ r ≠ 127 := by simpa [noneS] using h0
  have hn : L.length ≤ 100000 := by omega
  have HIS : Hid (∀ w : World, Calls Try.prog 22 #[.int .i32 r] w fun e w' => e = .returned (.bool true) ∧ w = w') := Lib.hid (fun w => hp.1 ▸ ris_any r w)
  have HOSC : Hid (Calls Try.prog 23 #[.pointer (some ⟨g, 0, none⟩)] w fun e w' => e = .returned (.bool false) ∧ w = w') := Lib.hid (hos ▸ rp_osc h hn)
  have d1 : (r == 127) = false := by simpa using hp.2
  have hr127 : r < 127 := by have := hp.2; omega
  have d2 : (r == 24) = false := by simp; omega
  have d3 : (r == 26) = false := by simp; omega
  have d4 : (r == 27) = false := by simp; omega
  have d5 : decide (r < 32) = false := by simp; omega
  have d7 : decide (127 < r) = false := by simp; omega
  have c0 := h.c0
  have hpos : 0 < L.length := List.length_pos_iff.2 (fun e => h5 (.inl e))
  obtain ⟨A1, c1, w1, hrun, hf1, hc1, hps1, hfr1, hob1⟩ := ps_push h (by omega) r
  have hLr : SeqOk (L ++ [r]) := fun i h1 h2 => by
    rw [List.length_append, List.length_singleton] at h2
    by_cases hi : i < L.length
    · have := hL i h1 hi
      simpa [List.getD, List.getElem?_append_left hi] using this
    · have : i = L.length := by omega
      subst this
      simp [List.getD]; omega
  have HSEQ := Lib.hid (rp_seq hps1 (by simp; omega) (by simp; omega) hLr)
  have HFR := Lib.hid hfr1
  have HOB := Lib.hid hob1
  have HRUN := Lib.hid hrun
  obtain ⟨A, c, rfl, _⟩ := h.row
  obtain ⟨n, hln⟩ : ∃ n, L.length = n := ⟨_, rfl⟩
  rw [hln] at c0 HSEQ HFR HOB HRUN hc1 hpos ⊢
  have d6 : ((n : Int) == 0) = false := by simp; omega
  have hba := (Below.refl w.heap.size w).alloc (Nat.le_refl _) (.cells #[.int .i32 r] 21)
  obtain ⟨R, hR⟩ : ∃ R, seqS (L ++ [r]) = R := ⟨_, rfl⟩
  rw [hR] at HSEQ ⊢
  clear h hos h0 hp h5 hL hLr hps1 hfr1 hob1 hrun hn hln hR hba
  go_enter Try.func11, Try.ntmps11
  go_wp2_with (first | (go_at_call 22; refine (HIS.out _).mono ?_; rintro e w' ⟨rfl, rfl⟩) | (go_at_call 23; refine HOSC.out.mono ?_; rintro e w' ⟨rfl, rfl⟩) | (at_builtin; refine wpList_app rfl (.tmp 63) (.tmp 65) _ rfl _ _ rfl rfl HRUN.out ?_) | (go_at_call 25; refine HSEQ.out.mono ?_; rintro x w2 ⟨v2, out2, rfl, q1, q2, q3, q4⟩))
  go_ret
  exact After.from ⟨v2, out2, rfl, q1, q2, q3, q4⟩ HFR.out HOB.out
theorem rf_plain {B g : Nat} {v : Value} {L : List Int} {w : World} (h : Ps B g v L w) (hn : L.length < 5000) (hL : SeqOk L) (hos : oscB L = false) {r : Int} (h0 : noneS r = false) (h1 : stopS r = false) :
    Calls Try.prog 11 #[.pointer (some ⟨g, 0, none⟩), .int .i32 r] w (After B g v w (plainS L r)) := by
  unfold plainS
  by_cases h2 : r = 27
  · subst h2; rw [if_pos rfl]; exact rf_esc h (by omega) hos
  rw [if_neg h2]
  by_cases h3 : r < 32
  · rw [if_pos h3]; exact rf_ctl h (by omega) hos h0 h1 h2 h3
  rw [if_neg h3]
  by_cases h4 : L = [] ∨ 127 < r
  · rw [if_pos h4]; exact rf_print h (by omega) hos h0 (by omega) h4
  · rw [if_neg h4]; exact rf_more h hn hL hos h0 (by omega) h4
end Go.Proofs.Ytfacnemgjdmlmaa
