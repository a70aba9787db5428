/-
  Proved here: of the program's parser: what stands in it may; a list of points; rows of events.
-/
import Derived.Test.YtfacnemgjdmlmaaEg
set_option linter.unusedSimpArgs false
set_option linter.unusedVariables false
namespace Go.Proofs.Ytfacnemgjdmlmaa
open Go.RowKit
theorem good_first {s : PP} (h : PGood s) : PGood (firstP s) := by
  refine ⟨?_, ?_, ?_, firstP_ok h.num, ?_, ?_, ?_⟩
  all_goals (unfold firstP; split)
  all_goals first | exact h.it | exact h.pr | exact h.tlen | exact h.pts | exact h.pl | exact h.len | simp
theorem least_range {a : Int} (h : 0 ≤ a) : 0 ≤ least a 9999 ∧ least a 9999 ≤ 9999 := by unfold least; split <;> omega
theorem good_next {s : PP} (h : PGood s) : PGood (nextP s) := by
  have h1 := good_first h
  unfold nextP
  split
  · exact ⟨h1.it, h1.pr, h1.len, h1.num, h1.tlen, h1.pts, h1.pl⟩
  · rename_i h16
    refine ⟨h1.it, h1.pr, ?_, ?_, h1.tlen, h1.pts, h1.pl⟩
    · show ((firstP s).ps ++ [0]).length ≤ 16
      have := h1.len
      rw [List.length_append]; simp; omega
    · intro x hx
      rcases List.mem_append.1 hx with e | e
      · exact h1.num x e
      · rw [List.mem_singleton.1 e]; omega
theorem good_digit {s : PP} (h : PGood s) {d : Int} (d0 : 0 ≤ d) : PGood (digitP s d) := by
  have h1 := good_first h
  have hl := (firstP_len s).2
  refine ⟨h1.it, h1.pr, ?_, ?_, h1.tlen, h1.pts, h1.pl⟩
  · show ((firstP s).ps.set _ _).length ≤ 16
    rw [List.length_set]; exact h1.len
  · intro x hx
    have hx : x ∈ (firstP s).ps.set ((firstP s).ps.length - 1) (least ((firstP s).ps.getD ((firstP s).ps.length - 1) 0 * 10 + d) 9999) := hx
    rcases List.mem_or_eq_of_mem_set hx with e | e
    · exact h1.num x e
    · rw [e]
      have := h1.num.getD (j := (firstP s).ps.length - 1) (by omega)
      exact least_range (by omega)
theorem good_sp {s : PP} (h : PGood s) : PGood { s with sp := true } := ⟨h.it, h.pr, h.len, h.num, h.tlen, h.pts, h.pl⟩
theorem good_inter {s : PP} (h : PGood s) {c : Int} (h0 : 0 ≤ c) (h1 : c < 256) : PGood (interP s c) := by
  unfold interP
  split
  · exact ⟨⟨h0, h1⟩, h.pr, h.len, h.num, h.tlen, h.pts, h.pl⟩
  · exact good_sp h
theorem good_priv {s : PP} (h : PGood s) {c : Int} (h0 : 0 ≤ c) (h1 : c < 256) : PGood (privP s c) := by
  unfold privP
  split
  · exact ⟨h.it, ⟨h0, h1⟩, h.len, h.num, h.tlen, h.pts, h.pl⟩
  · exact good_sp h
theorem good_plain {s : PP} (h : PGood s) {r : Int} (h0 : 0 ≤ r) : PGood (plainP s r).1 := by
  unfold plainP
  split
  · exact good_begin 1 (by omega)
  split
  · exact h
  split
  · exact good_begin 0 (by omega)
  rename_i h128
  split
  · unfold escP
    split
    · exact good_inter h h0 (by omega)
    split
    · exact good_begin 2 (by omega)
    split
    · exact good_begin 3 (by omega)
    · exact good_begin 0 (by omega)
  · unfold csiP
    split
    · exact good_begin 0 (by omega)
    split
    · exact good_priv h h0 (by omega)
    split
    · exact good_inter h h0 (by omega)
    split
    · exact good_sp h
    split
    · exact good_next h
    · exact good_digit h (by omega)
theorem good_take {s : PP} (h : PGood s) {r : Int} (hr : noneS r = false) : PGood (takeP s r).1 := by
  have h0 := none_range hr
  have hp : isP r = true := by unfold noneS at hr; simp at hr; exact hr.1
  unfold takeP
  split
  · unfold oscP
    split
    · exact good_begin 0 (by omega)
    split
    · exact ⟨h.it, h.pr, h.len, h.num, h.tlen, h.pts, h.pl⟩
    split
    · exact h
    split
    · exact good_plain (good_begin 1 (by omega)) h0.1
    split
    · exact good_sp h
    · rename_i t6
      refine ⟨h.it, h.pr, h.len, h.num, ?_, fun p hp2 => ?_, h.pl⟩
      · show (s.tx ++ [r]).length ≤ 600
        have := h.tlen
        rw [List.length_append]; simp; omega
      · rcases List.mem_append.1 hp2 with e | e
        · exact h.pts p e
        · rw [List.mem_singleton.1 e]; exact hp
  · exact good_plain h h0.1
theorem good_feed {s : PP} (h : PGood s) (r : Int) : PGood (feedP s r).1 := by
  unfold feedP
  by_cases hn : noneS r = true
  · rw [if_pos hn]; exact h
  rw [if_neg hn]
  by_cases h1 : stopS r = true
  · rw [if_pos h1]; exact good_begin 0 (by omega)
  rw [if_neg h1]
  exact good_take h (by simpa using hn)
def feedsP : PP → List Int → PP × List Ev
  | s, [] => (s, [])
  | s, r :: l => ((feedsP (feedP s r).1 l).1, (feedP s r).2.toList ++ (feedsP (feedP s r).1 l).2)
theorem feedsP_snoc : ∀ (l : List Int) (s : PP) (r : Int), feedsP s (l ++ [r]) = ((feedP (feedsP s l).1 r).1, (feedsP s l).2 ++ (feedP (feedsP s l).1 r).2.toList)
  | [], s, r => by simp [feedsP]
  | a :: l, s, r => by
    rw [List.cons_append, feedsP, feedsP_snoc l]
    simp [feedsP]
theorem good_feeds : ∀ (l : List Int) {s : PP}, PGood s → PGood (feedsP s l).1
  | [], s, h => h
  | r :: l, s, h => good_feeds l (good_feed h r)
theorem rel_feeds : ∀ (l : List Int) {s : PP} {L : List Int}, Rel s L → PGood s → Rel (feedsP s l).1 (feedsS L l).1 ∧ (feedsP s l).2 = (feedsS L l).2
  | [], s, L, h, _ => ⟨h, rfl⟩
  | r :: l, s, L, h, hG => by
    obtain ⟨h1, h2⟩ := rel_feed h hG r
    obtain ⟨h3, h4⟩ := rel_feeds l h1 (good_feed hG r)
    refine ⟨h3, ?_⟩
    show (feedP s r).2.toList ++ (feedsP (feedP s r).1 l).2 = (feedS L r).2.toList ++ (feedsS (feedS L r).1 l).2
    rw [h2, h4]
theorem feedsP_len : ∀ (l : List Int) (s : PP), (feedsP s l).2.length ≤ l.length
  | [], s => by simp [feedsP]
  | r :: l, s => by
    have := feedsP_len l (feedP s r).1
    rw [feedsP, List.length_append, List.length_cons]
    have : (feedP s r).2.toList.length ≤ 1 := by cases (feedP s r).2 <;> simp
    omega
theorem p_is (r : Int) (w : World) : Calls Try.prog 19 #[.int .i32 r] w fun e w' => e = .returned (.bool (isP r)) ∧ w = w' := by
  have hd : isP r = (decide (0 ≤ r) && decide (r ≤ 1114111) && (decide (r < 55296) || decide (57343 < r))) := by
    unfold isP
    rw [Bool.eq_iff_iff]
    simp
    omega
  rw [hd]
  obtain ⟨a, ha⟩ : ∃ a, decide (0 ≤ r) = a := ⟨_, rfl⟩
  obtain ⟨b, hb⟩ : ∃ a, decide (r ≤ 1114111) = a := ⟨_, rfl⟩
  obtain ⟨c, hc⟩ : ∃ a, decide (r < 55296) = a := ⟨_, rfl⟩
  obtain ⟨d, hd'⟩ : ∃ a, decide (57343 < r) = a := ⟨_, rfl⟩
  rw [ha, hb, hc, hd']
  clear hd
  go_enter Try.func19, Try.ntmps19
  cases a <;> cases b <;> cases c <;> cases d
  all_goals go_wp2
  all_goals go_ret
  all_goals exact ⟨rfl, rfl⟩
/-- The cells of events. -/
def evsL (es : List (Ev × Value)) : List Value := es.flatMap (fun p => evL p.1 p.2)
theorem evsL_snoc (es : List (Ev × Value)) (p : Ev × Value) : evsL (es ++ [p]) = evsL es ++ evL p.1 p.2 := by simp [evsL]
theorem info_evA : (Try.prog.info? 40).map (fun i => (i.size, i.bytes)) = some (7, 56) := by kernel_rfl
end Go.Proofs.Ytfacnemgjdmlmaa
