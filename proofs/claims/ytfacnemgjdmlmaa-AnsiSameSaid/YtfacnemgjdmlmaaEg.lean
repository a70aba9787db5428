/-
  Proved here, of lists alone: the program's parser, step by step, is the document's, that looks at all that came.
-/
import Derived.Test.YtfacnemgjdmlmaaEi
set_option linter.unusedSimpArgs false
set_option linter.unusedVariables false
namespace Go.Proofs.Ytfacnemgjdmlmaa
open Go.RowKit
def feedP (s : PP) (r : Int) : PP × Option Ev := if noneS r = true then (s, none) else if stopS r = true then (beginP 0, none) else takeP s r
/-- Behind an escape. -/
def EscR (s : PP) (M : List Int) : Prop := s.pl = 1 ∧ (∀ m ∈ M, 32 ≤ m ∧ m < 48) ∧
  ((M = [] ∧ s.it = 0 ∧ s.sp = false) ∨ (∃ c, M = [c] ∧ s.it = c ∧ s.sp = false) ∨ (2 ≤ M.length ∧ s.it ≠ 0 ∧ s.sp = true))
/-- Within a control sequence. -/
def CsiR (s : PP) (M : List Int) : Prop := s.pl = 2 ∧ (∀ m ∈ M, 32 ≤ m ∧ m < 64) ∧
  (s.sp = false → (∀ M', csiF 0 evC (M ++ M') = csiF M.length ⟨4, 0, s.pr, s.it, 0, s.ps, []⟩ M') ∧ (M = [] ↔ (s.pr = 0 ∧ s.it = 0 ∧ s.ps = []))) ∧
  (s.sp = true → ∀ M', (csiF 0 evC (M ++ M')).2 = false)
def noE (M : List Int) : List Int := M.filter (fun x => decide (x ≠ 27))
/-- Within a text of the system. -/
def OscR (s : PP) (M : List Int) : Prop := s.pl = 3 ∧ (s.ma = true ↔ lastS (27 :: 93 :: M) = 27) ∧
  (s.sp = false → s.tx = noE M) ∧ (s.sp = true → 600 < (noE M).length)
def Rel (s : PP) (L : List Int) : Prop :=
  (L = [] ∧ s = beginP 0) ∨ (∃ M, L = 27 :: M ∧ EscR s M) ∨ (∃ M, L = 27 :: 91 :: M ∧ CsiR s M) ∨ (∃ M, L = 27 :: 93 :: M ∧ OscR s M)
theorem rel_zero : Rel (beginP 0) [] := .inl ⟨rfl, rfl⟩
theorem esc_zero : EscR (beginP 1) [] := ⟨rfl, fun m hm => by simp at hm, .inl ⟨rfl, rfl, rfl⟩⟩
theorem csi_zero : CsiR (beginP 2) [] := ⟨rfl, fun m hm => by simp at hm, fun _ => ⟨fun M' => rfl, by simp [beginP]⟩, fun h => by simp [beginP] at h⟩
theorem osc_zero : OscR (beginP 3) [] := ⟨rfl, by simp [beginP, lastS], fun _ => rfl, fun h => by simp [beginP] at h⟩
theorem csiF_long : ∀ (l : List Int) (i : Nat) (e : Ev), 16 < e.params.length → (csiF i e l).2 = false
  | [], i, e, h => by simp [csiF]; omega
  | c :: r, i, e, h => by
    rw [csiF]
    split
    · split
      · exact csiF_long r _ _ h
      · rfl
    · split
      · exact csiF_long r _ _ h
      · split
        · rfl
        · refine csiF_long r _ _ ?_
          have hne : e.params ≠ [] := fun e1 => by rw [e1] at h; simp at h
          rw [if_neg hne]
          have := (numS_len e.params c).2
          show 16 < (numS e.params c).length
          omega
theorem lastS_app (L : List Int) (r : Int) : lastS (L ++ [r]) = r := by simp [lastS, List.getD]
theorem mem_snoc {M : List Int} {c : Int} {P : Int → Prop} (h : ∀ m ∈ M, P m) (hc : P c) : ∀ m ∈ M ++ [c], P m := fun m hm => by
  rcases List.mem_append.1 hm with e | e
  · exact h m e
  · rw [List.mem_singleton.1 e]; exact hc
/-- A byte within a control sequence. -/
theorem csi_step {s : PP} {M : List Int} (h : CsiR s M) (hl : s.ps.length ≤ 16) {c : Int} (h0 : 32 ≤ c) (h1 : c < 64) : CsiR (csiP s c).1 (M ++ [c]) ∧ (csiP s c).2 = none := by
  obtain ⟨hp, hM, hf, ht⟩ := h
  have hM2 := mem_snoc (P := fun m => 32 ≤ m ∧ m < 64) hM ⟨h0, h1⟩
  have hne : ¬ (M ++ [c] = []) := by simp
  have app : ∀ M', (M ++ [c]) ++ M' = M ++ (c :: M') := fun M' => by simp
  have bad : ∀ s' : PP, s'.pl = 2 → s'.sp = true → (∀ M', (csiF 0 evC (M ++ (c :: M'))).2 = false) → CsiR s' (M ++ [c]) := fun s' q1 q2 q3 =>
    ⟨q1, hM2, fun e => (by rw [q2] at e; cases e), fun _ M' => (by rw [app]; exact q3 M')⟩
  have one : s.sp = false → ∀ M', csiF 0 evC (M ++ (c :: M')) = csiF M.length ⟨4, 0, s.pr, s.it, 0, s.ps, []⟩ (c :: M') := fun e M' => (hf e).1 (c :: M')
  have good : ∀ s' : PP, s'.pl = 2 → s'.sp = s.sp → (s.sp = false → ∀ M', csiF M.length ⟨4, 0, s.pr, s.it, 0, s.ps, []⟩ (c :: M') = csiF (M.length + 1) ⟨4, 0, s'.pr, s'.it, 0, s'.ps, []⟩ M') → ¬ (s'.pr = 0 ∧ s'.it = 0 ∧ s'.ps = []) → CsiR s' (M ++ [c]) := fun s' q1 q2 q3 q4 =>
    ⟨q1, hM2, fun e => by
      have e' : s.sp = false := by rw [← q2]; exact e
      refine ⟨fun M' => ?_, ⟨fun x => absurd x hne, fun x => absurd x q4⟩⟩
      rw [app, one e', q3 e', List.length_append]
      rfl, fun e M' => by rw [app]; exact ht (by rw [← q2]; exact e) (c :: M')⟩
  unfold csiP
  rw [if_neg (by omega)]
  by_cases c60 : 60 ≤ c
  · rw [if_pos c60]
    refine ⟨?_, rfl⟩
    unfold privP
    by_cases hz : s.pr = 0 ∧ s.it = 0 ∧ s.ps = []
    · rw [if_pos hz]
      refine good { s with pr := c } hp rfl (fun e M' => ?_) (by simp; intro e; omega)
      have hm : M = [] := (hf e).2.2 hz
      rw [csiF, if_neg (by omega), if_pos ⟨c60, by rw [hm]; rfl⟩]
    · rw [if_neg hz]
      refine bad { s with sp := true } hp rfl (fun M' => ?_)
      cases e : s.sp
      · have hm : ¬ M.length = 0 := fun x => hz ((hf e).2.1 (List.eq_nil_of_length_eq_zero x))
        rw [one e, csiF, if_neg (by omega), if_neg (fun x => hm x.2), if_pos (.inl c60)]
      · exact ht e (c :: M')
  rw [if_neg c60]
  by_cases c48 : c < 48
  · rw [if_pos c48]
    refine ⟨?_, rfl⟩
    unfold interP
    by_cases hz : s.it = 0
    · rw [if_pos hz]
      refine good { s with it := c } hp rfl (fun e M' => ?_) (by simp; intro _ e; omega)
      rw [csiF, if_pos c48, if_pos (show (Ev.mk 4 0 s.pr s.it 0 s.ps []).inter = 0 from hz)]
    · rw [if_neg hz]
      refine bad { s with sp := true } hp rfl (fun M' => ?_)
      cases e : s.sp
      · rw [one e, csiF, if_pos c48, if_neg (show ¬ (Ev.mk 4 0 s.pr s.it 0 s.ps []).inter = 0 from hz)]
      · exact ht e (c :: M')
  rw [if_neg c48]
  by_cases c58 : c = 58 ∨ s.it ≠ 0
  · rw [if_pos c58]
    refine ⟨bad { s with sp := true } hp rfl (fun M' => ?_), rfl⟩
    cases e : s.sp
    · rw [one e, csiF, if_neg c48, if_neg (by omega), if_pos (.inr c58)]
    · exact ht e (c :: M')
  rw [if_neg c58]
  have hstep : ∀ M', csiF M.length ⟨4, 0, s.pr, s.it, 0, s.ps, []⟩ (c :: M') = csiF (M.length + 1) ⟨4, 0, s.pr, s.it, 0, numS (firstP s).ps c, []⟩ M' := fun M' => by
    rw [csiF, if_neg c48, if_neg (by omega), if_neg (fun x => by rcases x with x | x; exact c60 x; exact c58 x)]
    have : (if (Ev.mk 4 0 s.pr s.it 0 s.ps []).params = [] then [0] else (Ev.mk 4 0 s.pr s.it 0 s.ps []).params) = (firstP s).ps := by unfold firstP; dsimp only; split <;> rfl
    rw [this]
  have hfn := firstP_ne s
  have hfp : (firstP s).pl = s.pl ∧ (firstP s).sp = s.sp ∧ (firstP s).pr = s.pr ∧ (firstP s).it = s.it := by unfold firstP; split <;> exact ⟨rfl, rfl, rfl, rfl⟩
  by_cases c59 : c = 59
  · rw [if_pos c59]
    refine ⟨?_, rfl⟩
    have hn : numS (firstP s).ps c = (firstP s).ps ++ [0] := by unfold numS; rw [if_pos c59]
    unfold nextP
    by_cases h16 : (firstP s).ps.length = 16
    · rw [if_pos h16]
      refine bad { firstP s with sp := true } (hfp.1.trans hp) rfl (fun M' => ?_)
      cases e : s.sp
      · rw [one e, hstep, hn]
        exact csiF_long _ _ _ (by simp; omega)
      · exact ht e (c :: M')
    · rw [if_neg h16]
      refine good { firstP s with ps := (firstP s).ps ++ [0] } (hfp.1.trans hp) hfp.2.1 (fun e M' => ?_) (by simp)
      rw [hstep, hn, hfp.2.2.1, hfp.2.2.2]
  · rw [if_neg c59]
    refine ⟨?_, rfl⟩
    have hn : numS (firstP s).ps c = (firstP s).ps.set ((firstP s).ps.length - 1) (least ((firstP s).ps.getD ((firstP s).ps.length - 1) 0 * 10 + (c - 48)) 9999) := by
      unfold numS
      rw [if_neg c59, show 10 * (firstP s).ps.getD ((firstP s).ps.length - 1) 0 + c - 48 = (firstP s).ps.getD ((firstP s).ps.length - 1) 0 * 10 + (c - 48) by omega]
    refine good (digitP s (c - 48)) (hfp.1.trans hp) hfp.2.1 (fun e M' => ?_) (fun x => hfn ?_)
    · rw [hstep, hn]
      unfold digitP
      dsimp only
      rw [hfp.2.2.1, hfp.2.2.2]
    · have := x.2.2
      unfold digitP at this
      dsimp only at this
      have h2 := congrArg List.length this
      rw [List.length_set] at h2
      exact List.eq_nil_of_length_eq_zero h2
theorem none_range {r : Int} (h : noneS r = false) : 0 ≤ r ∧ r ≠ 127 := by
  unfold noneS at h
  simp at h
  have := isP_iff.1 h.1
  exact ⟨by omega, h.2⟩
theorem getD_cons_snoc (a c r : Int) (M : List Int) : (a :: (c :: M) ++ [r]).getD 1 0 = c := rfl
theorem esc_plain {s : PP} {M : List Int} (h : EscR s M) {r : Int} (h0 : noneS r = false) : Rel (plainP s r).1 (plainS (27 :: M) r).1 ∧ (plainP s r).2 = (plainS (27 :: M) r).2 := by
  have hr := none_range h0
  unfold plainP plainS
  by_cases r27 : r = 27
  · rw [if_pos r27, if_pos r27]; exact ⟨.inr (.inl ⟨[], rfl, esc_zero⟩), rfl⟩
  rw [if_neg r27, if_neg r27]
  by_cases r32 : r < 32
  · rw [if_pos r32, if_pos r32]; exact ⟨.inr (.inl ⟨M, rfl, h⟩), rfl⟩
  rw [if_neg r32, if_neg r32]
  obtain ⟨hp, hM, hs⟩ := h
  by_cases r128 : 128 ≤ r
  · rw [if_pos (.inr r128), if_pos (.inr (by omega))]; exact ⟨rel_zero, rfl⟩
  rw [if_neg (by omega), if_pos hp, if_neg (by intro e; rcases e with e | e; exact absurd e (by simp); omega)]
  unfold escP seqS
  rw [lastS_app]
  rcases hs with ⟨rfl, hi, hsp⟩ | ⟨c, rfl, hi, hsp⟩ | ⟨hl, hi, hsp⟩
  · rw [show ((27 : Int) :: [] ++ [r]).getD 1 0 = r from rfl, show ((27 : Int) :: [] ++ [r]).length = 2 from rfl]
    by_cases r48 : r < 48
    · rw [if_pos r48, if_neg (by omega), if_pos (.inr r48)]
      refine ⟨.inr (.inl ⟨[r], rfl, ?_⟩), rfl⟩
      unfold interP
      rw [if_pos hi]
      exact ⟨hp, fun m hm => by rw [List.mem_singleton.1 hm]; omega, .inr (.inl ⟨r, rfl, rfl, hsp⟩)⟩
    · rw [if_neg r48]
      by_cases r91 : r = 91
      · rw [if_pos ⟨r91, hi⟩, if_pos r91, if_pos (.inl rfl)]
        exact ⟨.inr (.inr (.inl ⟨[], by rw [r91]; rfl, csi_zero⟩)), rfl⟩
      · rw [if_neg (fun e => r91 e.1), if_neg r91]
        by_cases r93 : r = 93
        · rw [if_pos ⟨r93, hi⟩, if_pos (.inl ⟨rfl, r93⟩)]
          exact ⟨.inr (.inr (.inr ⟨[], by rw [r93]; rfl, osc_zero⟩)), rfl⟩
        · rw [if_neg (fun e => r93 e.1), hsp, if_neg (show ¬ (false = true) by decide), if_neg (by omega), if_neg (by omega), if_neg (by omega), hi]
          exact ⟨rel_zero, rfl⟩
  · have hc := hM c (by simp)
    have hz : s.it ≠ 0 := by omega
    rw [show ((27 : Int) :: [c] ++ [r]).getD 1 0 = c from rfl, show ((27 : Int) :: [c] ++ [r]).length = 3 from rfl]
    by_cases r48 : r < 48
    · rw [if_pos r48, if_neg (by omega), if_pos (.inr r48)]
      refine ⟨.inr (.inl ⟨[c, r], rfl, ?_⟩), rfl⟩
      unfold interP
      rw [if_neg hz]
      exact ⟨hp, fun m hm => by rcases List.mem_cons.1 hm with e | e; rw [e]; exact hc; rw [List.mem_singleton.1 e]; omega, .inr (.inr ⟨by simp, hz, rfl⟩)⟩
    · rw [if_neg r48, if_neg (fun e => hz e.2), if_neg (fun e => hz e.2), hsp, if_neg (show ¬ (false = true) by decide), if_neg (by omega), if_neg (by omega), if_neg (by omega), if_pos rfl, hi]
      exact ⟨rel_zero, rfl⟩
  · obtain ⟨c, M2, rfl⟩ : ∃ c M2, M = c :: M2 := by
      match M, hl with
      | c :: M2, _ => exact ⟨c, M2, rfl⟩
    have hc := hM c (List.mem_cons_self ..)
    have hlen : ((27 : Int) :: (c :: M2) ++ [r]).length = (c :: M2).length + 2 := by simp
    rw [getD_cons_snoc, hlen]
    by_cases r48 : r < 48
    · rw [if_pos r48, if_neg (by omega), if_pos (.inr r48)]
      refine ⟨.inr (.inl ⟨(c :: M2) ++ [r], rfl, ?_⟩), rfl⟩
      unfold interP
      rw [if_neg hi]
      refine ⟨hp, mem_snoc hM ⟨by omega, r48⟩, .inr (.inr ⟨?_, hi, rfl⟩)⟩
      rw [List.length_append]; omega
    · rw [if_neg r48, if_neg (fun e => hi e.2), if_neg (fun e => hi e.2), hsp, if_pos rfl, if_neg (by omega), if_neg (by omega), if_pos (by omega)]
      exact ⟨rel_zero, rfl⟩
theorem csi_plain {s : PP} {M : List Int} (h : CsiR s M) (hl : s.ps.length ≤ 16) {r : Int} (h0 : noneS r = false) : Rel (plainP s r).1 (plainS (27 :: 91 :: M) r).1 ∧ (plainP s r).2 = (plainS (27 :: 91 :: M) r).2 := by
  have hr := none_range h0
  have hp := h.1
  unfold plainP plainS
  by_cases r27 : r = 27
  · rw [if_pos r27, if_pos r27]; exact ⟨.inr (.inl ⟨[], rfl, esc_zero⟩), rfl⟩
  rw [if_neg r27, if_neg r27]
  by_cases r32 : r < 32
  · rw [if_pos r32, if_pos r32]; exact ⟨.inr (.inr (.inl ⟨M, rfl, h⟩)), rfl⟩
  rw [if_neg r32, if_neg r32]
  by_cases r128 : 128 ≤ r
  · rw [if_pos (.inr r128), if_pos (.inr (by omega))]; exact ⟨rel_zero, rfl⟩
  rw [if_neg (by omega), if_neg (by omega), if_neg (by intro e; rcases e with e | e; exact absurd e (by simp); omega)]
  unfold seqS
  rw [lastS_app]
  have hlen : ((27 : Int) :: 91 :: M ++ [r]).length = M.length + 3 := by simp
  rw [show ((27 : Int) :: 91 :: M ++ [r]).getD 1 0 = 91 from rfl, if_pos rfl, hlen]
  by_cases r64 : r < 64
  · rw [if_pos (.inr r64)]
    have := csi_step h hl (c := r) (by omega) r64
    exact ⟨.inr (.inr (.inl ⟨M ++ [r], rfl, this.1⟩)), this.2⟩
  · rw [if_neg (by omega)]
    have hd : (((27 : Int) :: 91 :: M ++ [r]).drop 2).take (M.length + 3 - 3) = M := by
      show (M ++ [r]).take (M.length + 3 - 3) = M
      rw [show M.length + 3 - 3 = M.length by omega, List.take_left']
      rfl
    rw [hd]
    unfold csiP
    rw [if_pos (by omega)]
    obtain ⟨_, _, hf, ht⟩ := h
    cases e : s.sp
    · have h1 := (hf e).1 []
      rw [List.append_nil] at h1
      have h2 : csiS M = (⟨4, 0, s.pr, s.it, 0, s.ps, []⟩, true) := by
        unfold csiS
        rw [h1, csiF]
        simp [hl]
      rw [h2, if_neg (by decide)]
      exact ⟨rel_zero, rfl⟩
    · have h1 := ht e []
      rw [List.append_nil] at h1
      have h2 : (csiS M).2 = false := h1
      rw [if_pos rfl]
      dsimp only
      rw [if_neg (by rw [h2]; decide)]
      exact ⟨rel_zero, rfl⟩
theorem noE_app (M : List Int) (r : Int) : noE (M ++ [r]) = noE M ++ (if r = 27 then [] else [r]) := by
  unfold noE
  rw [List.filter_append]
  congr 1
  by_cases e : r = 27
  · rw [if_pos e, e]; rfl
  · rw [if_neg e]; simp [e]
theorem osc_step {s : PP} {M : List Int} (h : OscR s M) (hl : s.tx.length ≤ 600) {r : Int} (h0 : noneS r = false) : Rel (oscP s r).1 (oscS (27 :: 93 :: M) r).1 ∧ (oscP s r).2 = (oscS (27 :: 93 :: M) r).2 := by
  obtain ⟨hp, hm, hf, ht⟩ := h
  have hft : ftS (27 :: 93 :: M) (27 :: 93 :: M).length = noE M := by unfold ftS; rw [List.take_length]; rfl
  have hls : ∀ r : Int, lastS (27 :: 93 :: (M ++ [r])) = r := fun r => lastS_app (27 :: 93 :: M) r
  unfold oscP oscS
  rw [hft]
  by_cases c1 : r = 7 ∨ (s.ma = true ∧ r = 92)
  · have hd : r = 7 ∨ (lastS (27 :: 93 :: M) = 27 ∧ r = 92) := by
      rcases c1 with e | e
      · exact Or.inl e
      · exact Or.inr ⟨hm.1 e.1, e.2⟩
    rw [if_pos c1, if_pos hd]
    unfold endS
    cases e : s.sp
    · have := hf e
      rw [if_neg (by decide), if_neg (by rw [← this]; omega), this]
      exact ⟨rel_zero, rfl⟩
    · rw [if_pos rfl, if_pos (ht e)]
      exact ⟨rel_zero, rfl⟩
  have hd : ¬ (r = 7 ∨ (lastS (27 :: 93 :: M) = 27 ∧ r = 92)) := by
    intro e
    rcases e with e | e
    · exact c1 (Or.inl e)
    · exact c1 (Or.inr ⟨hm.2 e.1, e.2⟩)
  rw [if_neg c1, if_neg hd]
  by_cases r27 : r = 27
  · rw [if_pos r27]
    by_cases hz : lastS (27 :: 93 :: M) = 27
    · rw [if_neg (fun e => e.2 hz), if_pos (by omega)]
      exact ⟨.inr (.inr (.inr ⟨M, rfl, hp, ⟨fun _ => hz, fun _ => rfl⟩, hf, ht⟩)), rfl⟩
    · rw [if_pos ⟨r27, hz⟩]
      refine ⟨.inr (.inr (.inr ⟨M ++ [r], rfl, hp, ⟨fun _ => by rw [hls, r27], fun _ => rfl⟩, fun e => ?_, fun e => ?_⟩)), rfl⟩
      · rw [noE_app, if_pos r27, List.append_nil]; exact hf e
      · rw [noE_app, if_pos r27, List.append_nil]; exact ht e
  have h27 : ¬ (r = 27 ∧ lastS (27 :: 93 :: M) ≠ 27) := fun e => r27 e.1
  rw [if_neg r27, if_neg h27]
  by_cases r32 : r < 32
  · rw [if_pos r32, if_pos r32]
    exact ⟨.inr (.inr (.inr ⟨M, rfl, hp, hm, hf, ht⟩)), rfl⟩
  rw [if_neg r32, if_neg r32]
  by_cases hz : lastS (27 :: 93 :: M) = 27
  · rw [if_pos hz, if_pos (hm.2 hz)]
    exact esc_plain esc_zero h0
  · rw [if_neg hz, if_neg (fun e => hz (hm.1 e))]
    have hma : ∀ s' : PP, s'.ma = s.ma → (s'.ma = true ↔ lastS (27 :: 93 :: (M ++ [r])) = 27) := fun s' e => by
      rw [hls, e]
      exact ⟨fun x => absurd (hm.1 x) hz, fun x => absurd x r27⟩
    by_cases t6 : s.tx.length = 600
    · rw [if_pos t6]
      refine ⟨.inr (.inr (.inr ⟨M ++ [r], rfl, hp, hma _ rfl, (fun e => by cases e), fun _ => ?_⟩)), rfl⟩
      rw [noE_app, if_neg r27, List.length_append]
      cases e : s.sp
      · have := hf e
        rw [← this, t6]; simp
      · have := ht e; omega
    · rw [if_neg t6]
      refine ⟨.inr (.inr (.inr ⟨M ++ [r], rfl, hp, hma _ rfl, fun e => ?_, fun e => ?_⟩)), rfl⟩
      · rw [noE_app, if_neg r27, ← hf e]
      · have := ht e
        rw [noE_app, List.length_append]; omega
theorem rel_feed {s : PP} {L : List Int} (h : Rel s L) (hG : PGood s) (r : Int) : Rel (feedP s r).1 (feedS L r).1 ∧ (feedP s r).2 = (feedS L r).2 := by
  unfold feedP feedS
  by_cases hn : noneS r = true
  · rw [if_pos hn, if_pos hn]; exact ⟨h, rfl⟩
  rw [if_neg hn, if_neg hn]
  have h0 : noneS r = false := by simpa using hn
  by_cases h1 : stopS r = true
  · rw [if_pos h1, if_pos h1]; exact ⟨rel_zero, rfl⟩
  rw [if_neg h1, if_neg h1]
  have hr := none_range h0
  unfold takeP
  rcases h with ⟨rfl, rfl⟩ | ⟨M, rfl, he⟩ | ⟨M, rfl, he⟩ | ⟨M, rfl, he⟩
  · rw [if_neg (by simp [beginP]), if_neg (by decide)]
    unfold plainP plainS
    by_cases r27 : r = 27
    · rw [if_pos r27, if_pos r27]; exact ⟨.inr (.inl ⟨[], rfl, esc_zero⟩), rfl⟩
    rw [if_neg r27, if_neg r27]
    by_cases r32 : r < 32
    · rw [if_pos r32, if_pos r32]; exact ⟨rel_zero, rfl⟩
    rw [if_neg r32, if_neg r32, if_pos (.inl rfl), if_pos (.inl rfl)]
    exact ⟨rel_zero, rfl⟩
  · have ho : oscB (27 :: M) = false := by
      unfold oscB
      match M, he with
      | [], _ => rfl
      | c :: M2, he =>
        have := he.2.1 c (List.mem_cons_self ..)
        show (decide _ && decide (c = 93)) = false
        have : ¬ c = 93 := by omega
        simp [this]
    rw [if_neg (show ¬ s.pl = 3 by rw [he.1]; decide), if_neg (show ¬ oscB (27 :: M) = true by rw [ho]; decide)]
    exact esc_plain he h0
  · have ho : oscB (27 :: 91 :: M) = false := by
      unfold oscB
      show (decide _ && decide ((91 : Int) = 93)) = false
      simp
    rw [if_neg (show ¬ s.pl = 3 by rw [he.1]; decide), if_neg (show ¬ oscB (27 :: 91 :: M) = true by rw [ho]; decide)]
    exact csi_plain he hG.len h0
  · have ho : oscB (27 :: 93 :: M) = true := by
      unfold oscB
      show (decide (2 ≤ M.length + 1 + 1) && decide ((93 : Int) = 93)) = true
      simp
    rw [if_pos he.1, if_pos ho]
    exact osc_step he hG.tlen h0
end Go.Proofs.Ytfacnemgjdmlmaa
