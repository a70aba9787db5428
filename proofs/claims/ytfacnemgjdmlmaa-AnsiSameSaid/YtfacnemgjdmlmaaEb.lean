/-
  Proved here: of the program's parser: firstParam, nextParam, putDigit, end.
-/
import Derived.Test.YtfacnemgjdmlmaaEa
import Derived.Deep.QuietTactic
import Derived.BigQuiet
set_option linter.unusedSimpArgs false
set_option linter.unusedVariables false
namespace Go.Proofs.Ytfacnemgjdmlmaa
open Go.RowKit
def firstP (s : PP) : PP := if s.ps = [] then { s with ps := [0] } else s
def nextP (s : PP) : PP := if (firstP s).ps.length = 16 then { firstP s with sp := true } else { firstP s with ps := (firstP s).ps ++ [0] }
def digitP (s : PP) (d : Int) : PP := { firstP s with ps := (firstP s).ps.set ((firstP s).ps.length - 1) (least ((firstP s).ps.getD ((firstP s).ps.length - 1) 0 * 10 + d) 9999) }
theorem firstP_ne (s : PP) : (firstP s).ps ≠ [] := by unfold firstP; split <;> simp_all
theorem firstP_len (s : PP) : (firstP s).ps.length ≤ s.ps.length + 1 ∧ 1 ≤ (firstP s).ps.length := by
  refine ⟨?_, List.length_pos_iff.2 (firstP_ne s)⟩
  unfold firstP; split
  · simp
  · omega
theorem QPost.then {B g : Nat} {vp vt vp1 vt1 : Value} {w w1 : World} {s' : PP} {x : Ending} {w' : World} (hf : Fr2 g vp vt w w1) (hp : SubO vp1 vp w) (ht : SubO vt1 vt w) (h : QPost B g vp1 vt1 w1 s' x w') : QPost B g vp vt w s' x w' := by
  obtain ⟨e, vp', vt', hq, hf', hp', ht'⟩ := h
  exact ⟨e, vp', vt', hq, hf.trans hf' hp ht, hp.trans hp' hf.size, ht.trans ht' hf.size⟩
theorem p_first {B g : Nat} {vp vt : Value} {s : PP} {w : World} (h : Qs B g vp vt s w) (hn : s.ps.length ≤ 100) :
    Calls Try.prog 38 #[.pointer (some ⟨g, 0, none⟩)] w (QPost B g vp vt w (firstP s)) := by
  obtain ⟨k0, k1, k2, k3, k4, k5, k6, k7⟩ := h.cells
  have HQ := Lib.hid h
  obtain ⟨A, cc, rfl, _⟩ := own_slice h.op
  unfold firstP
  by_cases h0 : s.ps = []
  · rw [if_pos h0]
    have z : ((s.ps.length : Int) == 0) = true := by simp [h0]
    have z2 : (s.ps.length == 0) = true := by simp [h0]
    obtain ⟨A1, c1, w1, hrun, hfr, hc6, hq, hf, hs⟩ := qp_push h (by omega) 0
    have HRUN := Lib.hid hrun
    have HP : Hid (QPost B g (.slice A s.ps.length cc) vt w { s with ps := [0] } (.returned (.tuple #[])) (w1.setCell ⟨g, 6, none⟩ (.slice A1 (s.ps.length + 1) c1))) := Lib.hid ⟨rfl, _, _, by rw [h0, List.nil_append] at hq; rw [h0]; exact hq, hf, hs, SubO.refl _ _⟩
    clear h h0 hrun hq hf hs
    go_enter Try.func38, Try.ntmps38
    go_wp2_with (at_builtin; refine wpList_app rfl (.tmp 12) (.tmp 13) _ rfl _ _ rfl rfl HRUN.out ?_)
    go_end0
    exact HP.out
  · rw [if_neg h0]
    have hp := List.length_pos_iff.2 h0
    have z : ((s.ps.length : Int) == 0) = false := by simp; omega
    have z2 : (s.ps.length == 0) = false := by simp; omega
    clear h h0
    go_enter Try.func38, Try.ntmps38
    go_wp2
    go_end0
    exact HQ.out.post HQ.out (Fr2.refl _ _ _ _)
theorem p_next {B g : Nat} {vp vt : Value} {s : PP} {w : World} (h : Qs B g vp vt s w) (hn : s.ps.length ≤ 16) :
    Calls Try.prog 35 #[.pointer (some ⟨g, 0, none⟩)] w (QPost B g vp vt w (nextP s)) := by
  have HF := Lib.hid (p_first h (by omega))
  have hl := firstP_len s
  unfold nextP
  obtain ⟨s1, hs1⟩ : ∃ s1, firstP s = s1 := ⟨_, rfl⟩
  rw [hs1] at HF hl ⊢
  by_cases h16 : s1.ps.length = 16
  · rw [if_pos h16]
    have z : ((s1.ps.length : Int) == 16) = true := by simp; omega
    have z2 : (s1.ps.length == 16) = true := by simpa using h16
    clear hs1 h h16
    go_enter Try.func35, Try.ntmps35
    go_wp2_with fail
    refine HF.out.mono ?_
    rintro e w1 ⟨rfl, vp1, vt1, hq, hf, hsp, hst⟩
    obtain ⟨k0, k1, k2, k3, k4, k5, k6, k7⟩ := hq.cells
    have HTH := Lib.hid (fun s' x w' (h : QPost B g vp1 vt1 w1 s' x w') => QPost.then hf hsp hst h)
    obtain ⟨A, cc, rfl, _⟩ := own_slice hq.op
    clear hf hsp hst HF
    have fr2 := hq.free 2
    have HP := Lib.hid (hq.post (hq.set 2 (.bool true) (s' := { s1 with sp := true }) rfl rfl rfl) (Fr2.setCell (Fr2.refl g _ _ w1) 2 (.bool true)))
    clear hq
    go_wp2
    go_end0
    exact HTH.out _ _ _ HP.out
  · rw [if_neg h16]
    have z : ((s1.ps.length : Int) == 16) = false := by simp; omega
    have z2 : (s1.ps.length == 16) = false := by simpa using h16
    clear hs1 h h16
    go_enter Try.func35, Try.ntmps35
    go_wp2_with fail
    refine HF.out.mono ?_
    rintro e w1 ⟨rfl, vp1, vt1, hq, hf, hsp, hst⟩
    obtain ⟨k0, k1, k2, k3, k4, k5, k6, k7⟩ := hq.cells
    have HTH := Lib.hid (fun s' x w' (h : QPost B g vp1 vt1 w1 s' x w') => QPost.then hf hsp hst h)
    obtain ⟨A, cc, rfl, _⟩ := own_slice hq.op
    clear hf hsp hst HF
    obtain ⟨A1, c1, w2, hrun, hfr, hc6, hq2, hf2, hs2⟩ := qp_push hq (by omega) 0
    have HRUN := Lib.hid hrun
    have HP : Hid (QPost B g _ vt1 w1 { s1 with ps := s1.ps ++ [0] } (.returned (.tuple #[])) (w2.setCell ⟨g, 6, none⟩ (.slice A1 (s1.ps.length + 1) c1))) := Lib.hid ⟨rfl, _, _, hq2, hf2, hs2, SubO.refl _ _⟩
    clear hq hrun hq2 hf2 hs2
    go_wp2_with (at_builtin; refine wpList_app rfl (.tmp 17) (.tmp 18) _ rfl _ _ rfl rfl HRUN.out ?_)
    go_end0
    exact HTH.out _ _ _ HP.out
/-- The last number is changed. -/
theorem Qs.put {B g b c : Nat} {vt : Value} {s : PP} {w : World} (h : Qs B g (.slice (some ⟨b, 0, none⟩) s.ps.length c) vt s w) (hb : B ≤ b) (j : Nat) (x : Int) :
    Qs B g (.slice (some ⟨b, 0, none⟩) s.ps.length c) vt { s with ps := s.ps.set j x } (w.setCell ⟨b, j, none⟩ (.int .i64 x)) := by
  have hne : g ≠ b := by have := h.low; omega
  refine ⟨(heap_setCell_other w _ g _ hne).trans h.blk, ?_, ?_, h.low, by simpa using h.big⟩
  · have := (h.op.stored j (.int .i64 x)).1
    exact own_cast this (by simp) (by simp [NV, List.map_set])
  · refine h.ot.kept (w' := w.setCell ⟨b, j, none⟩ (.int .i64 x)) (row := some b) ⟨rfl, rfl, rfl, by simp, fun k _ hk => heap_setCell_other w _ k _ (fun e => hk (by rw [e]))⟩ ?_
    have := own_ne h.ot h.op (by decide)
    simpa [Value.ownBlock] using this
theorem Fr2.put {g b c n : Nat} {vt : Value} {a w : World} (h : Fr2 g (.slice (some ⟨b, 0, none⟩) n c) vt a w) (j : Nat) (x : Value) : Fr2 g (.slice (some ⟨b, 0, none⟩) n c) vt a (w.setCell ⟨b, j, none⟩ x) :=
  ⟨h.os, h.tape, h.output, by simpa using h.size, fun k h1 h2 h3 h4 => (heap_setCell_other w _ k x (fun e => h3 (by rw [e]; rfl))).trans (h.block k h1 h2 h3 h4)⟩
theorem QPost.drewN {B g : Nat} {vp vt : Value} {w : World} {s' : PP} {x : Ending} {w' : World} (h : QPost B g vp vt w s' x w') (n : Nat) : QPost B g vp vt w s' x (w'.drewN n) := by
  obtain ⟨e, vp', vt', hq, hf, hp, ht⟩ := h
  have hb := belowN (Below.refl w'.heap.size w') n
  exact ⟨e, vp', vt', hq.below hb, ⟨hf.os, hf.tape, hf.output, hf.size, hf.block⟩, hp, ht⟩
theorem firstP_ok {s : PP} (h : NumOk s.ps) : NumOk (firstP s).ps := by
  unfold firstP
  split
  · intro x hx
    have : x = 0 := by simpa using hx
    omega
  · exact h
theorem NumOk.getD {ps : List Int} (h : NumOk ps) {j : Nat} (hj : j < ps.length) : 0 ≤ ps.getD j 0 ∧ ps.getD j 0 ≤ 9999 := h _ (by simp [List.getD, hj])
theorem p_digit {B g : Nat} {vp vt : Value} {s : PP} {w : World} (h : Qs B g vp vt s w) (hn : s.ps.length ≤ 16) (ho : NumOk s.ps) (d : Int) (d0 : 0 ≤ d) (d1 : d ≤ 9) :
    Calls Try.prog 36 #[.pointer (some ⟨g, 0, none⟩), .int .i64 d] w (QPost B g vp vt w (digitP s d)) := by
  have HF := Lib.hid (p_first h (by omega))
  have hl := firstP_len s
  have ho1 := firstP_ok ho
  unfold digitP
  obtain ⟨s1, hs1⟩ : ∃ s1, firstP s = s1 := ⟨_, rfl⟩
  rw [hs1] at HF hl ho1 ⊢
  have hg := ho1.getD (j := s1.ps.length - 1) (by omega)
  obtain ⟨x, hx⟩ : ∃ x, s1.ps.getD (s1.ps.length - 1) 0 = x := ⟨_, rfl⟩
  rw [hx] at hg ⊢
  obtain ⟨y, hy⟩ : ∃ y, least (x * 10 + d) 9999 = y := ⟨_, rfl⟩
  rw [hy]
  obtain ⟨x0, x1⟩ := hg
  clear hs1 h ho ho1
  go_enter Try.func36, Try.ntmps36
  go_wp2_with fail
  refine HF.out.mono ?_
  rintro e w1 ⟨rfl, vp1, vt1, hq, hf, hsp, hst⟩
  obtain ⟨k0, k1, k2, k3, k4, k5, k6, k7⟩ := hq.cells
  have HTH := Lib.hid (fun s' x w' (h : QPost B g vp1 vt1 w1 s' x w') => QPost.then hf hsp hst h)
  obtain ⟨A, cc, rfl, hcl, _, _⟩ := own_slice hq.op
  obtain ⟨b, rfl, hb, hd1, hd2⟩ := own_cells hq.op rfl (by omega)
  clear hd1 hd2
  have hcx : w1.cell? ⟨b, s1.ps.length - 1, none⟩ = some (.int .i64 x) := by rw [← hx]; exact (hq.op.cellAt (s1.ps.length - 1) (by omega)).trans (NV_getElem (by omega))
  have hfx : w1.frozen? ⟨b, s1.ps.length - 1, none⟩ = false := hq.op.frozenAt _
  have hP0 := hq.post (s' := { s1 with ps := s1.ps.set (s1.ps.length - 1) y }) (by have := hq.put hb (s1.ps.length - 1) y; simpa using this) (Fr2.put (Fr2.refl g _ vt1 w1) (s1.ps.length - 1) (.int .i64 y))
  have HTX : Hid (∀ (n L j : Nat) (y' : Int), s1.ps.length = L → L - 1 = j → y' = y → QPost B g vp vt w { s1 with ps := s1.ps.set (s1.ps.length - 1) y } (.returned (.tuple #[])) ((w1.drewN n).setCell ⟨b, j, none⟩ (.int .i64 y'))) := Lib.hid (fun n L j y' h1 h2 h3 => by
    subst h1 h2 h3
    exact HTH.out _ _ _ (hP0.drewN n))
  obtain ⟨L, hL⟩ : ∃ L, s1.ps.length = L := ⟨_, rfl⟩
  obtain ⟨j, hj⟩ : ∃ j : Nat, L - 1 = j := ⟨_, rfl⟩
  have j1 : ((L : Int) - 1) = (j : Int) := by omega
  have j2 : (j : Int) < (L : Int) := by omega
  have j3 : (0 : Int) ≤ (j : Int) := by omega
  have j4 : j < L := by omega
  clear hf hsp hst HF hx hq HTH hP0
  have HLJ := Lib.hid (And.intro (fun (_ : Unit) => hL) (fun (_ : Unit) => hj))
  rw [hL] at hcx hfx hl k6 ⊢
  rw [hj] at hcx hfx
  by_cases hle : x * 10 + d ≤ 9999
  · have ey : y = x * 10 + d := by rw [← hy]; unfold least; rw [if_neg (by omega)]
    have HEY := Lib.hid (fun (_ : Unit) => ey.symm)
    clear hy ey hj hL
    go_wp2
    go_quiet (fail)
    go_wp2
    all_goals first | (exfalso; omega) | skip
    go_end0
    exact HTX.out _ _ _ _ (HLJ.out.1 ()) (HLJ.out.2 ()) (HEY.out ())
  · have ey : y = 9999 := by rw [← hy]; unfold least; rw [if_pos (by omega)]
    have HEY := Lib.hid (fun (_ : Unit) => ey.symm)
    clear hy ey hj hL
    go_wp2
    go_quiet (fail)
    go_wp2
    all_goals first | (exfalso; omega) | skip
    go_end0
    exact HTX.out _ _ _ _ (HLJ.out.1 ()) (HLJ.out.2 ()) (HEY.out ())
end Go.Proofs.Ytfacnemgjdmlmaa
