/-
  Proved here, of lists alone: how a view's runs are read, one behind the other.
-/
import Derived.Test.YtjihcpnaebghnaaDoorId
set_option linter.unusedSimpArgs false
set_option linter.unusedVariables false
namespace Go.Proofs.YtjihcpnaebghnaaDoor
open Go.RowKit
/-- Cells that may be. -/
def LOk (L : List Ce) : Prop := ∀ c ∈ L, CeOk c ∧ cellR c = true
/-- What has been read of bytes: the cells M, up to a place; room is left for so many. -/
structure RdI (bs hd : List Int) (N : Nat) (p room : Nat) (M : List Ce) : Prop where
  tk : bs.take p = hd ++ runsB 0 M
  le : p ≤ bs.length
  ok : LOk M
  rm : M.length + room = N
  all : ∀ L, LOk L → L.length = N → bs = hd ++ runsB 0 L → ∃ T, L = M ++ T ∧ (M = [] ∨ M.getLast? ≠ T.head?)
section
variable {bs hd : List Int} {N p room : Nat} {M : List Ce}
theorem RdI.start (h : bs.take p = hd) (hp : p ≤ bs.length) : RdI bs hd N p N [] :=
  ⟨by rw [h, runs_nil, List.append_nil], hp, fun c hc => absurd hc (by simp), by simp, fun L _ _ _ => ⟨L, rfl, .inl rfl⟩⟩
theorem RdI.len (I : RdI bs hd N p room M) : p = (hd ++ runsB 0 M).length := by
  rw [← I.tk, List.length_take]; have := I.le; omega
/-- What any view of these bytes has next. -/
theorem RdI.must (I : RdI bs hd N p room M) (hN : N ≤ 480) (hr : 0 < room) {L : List Ce} (hL : LOk L) (hl : L.length = N) (hb : bs = hd ++ runsB 0 L) :
    ∃ n c T2, L = (M ++ rep n c) ++ T2 ∧ 1 ≤ n ∧ n ≤ room ∧ T2.head? ≠ some c ∧ (M = [] ∨ M.getLast? ≠ some c) ∧ getS bs (p : Int) = ((n : Int), ((p + szN n : Nat) : Int), 0) ∧ getC bs ((p + szN n : Nat) : Int) = (c, ((p + szN n + (cellB c).length : Nat) : Int), 0) := by
  obtain ⟨T, rfl, hbd⟩ := I.all L hL hl hb
  have hrm := I.rm
  have hT : T ≠ [] := by intro e; subst e; simp at hl; omega
  rw [runs_more hbd, ← List.append_assoc] at hb
  obtain ⟨n, c, T2, rfl, h1, h2, h3, h4, _⟩ := runs_read (pre := hd ++ runsB 0 M) hT (fun c hc => hL c (by simp [hc])) (by simp at hl; omega) hb
  rw [← I.len] at h3 h4
  refine ⟨n, c, T2, by simp, h1, ?_, h2, ?_, h3, h4⟩
  · simp [rep] at hl; omega
  · rcases hbd with h | h
    · exact .inl h
    · refine .inr ?_
      obtain ⟨m, rfl⟩ : ∃ m, n = m + 1 := ⟨n - 1, by omega⟩
      simpa [rep, List.replicate_succ] using h
theorem RdI.next (I : RdI bs hd N p room M) (hN : N ≤ 480) (hB : Bytes bs) {q j m : Int} {c : Ce} (hq : getS bs (p : Int) = (q, j, 0)) (h1 : 1 ≤ q) (h2 : q ≤ room) (hc : getC bs j = (c, m, 0)) (hne : M = [] ∨ M.getLast? ≠ some c) :
    ∃ k m' : Nat, q = k ∧ m = m' ∧ 1 ≤ k ∧ k ≤ room ∧ CeOk c ∧ cellR c = true ∧ RdI bs hd N m' (room - k) (M ++ rep k c) := by
  obtain ⟨k, rfl⟩ : ∃ k : Nat, q = k := ⟨q.toNat, by omega⟩
  have hq0 : (getS bs (p : Int)).2.2 = 0 := by rw [hq]
  obtain ⟨i1, i2, i3⟩ := getS_inv hB hq0
  rw [hq] at i1 i2 i3
  dsimp only at i1 i2 i3
  have hj : j = ((p + szN k : Nat) : Int) := by rw [i1]; omega
  subst hj
  obtain ⟨o1, o2, o3, o4, o5⟩ := getC_ok hB hc
  have ht := three_cut (bs := bs) (p := p) (x := numB k) (by rw [numB_length]; exact i2) (by rw [numB_length]; exact i3)
  have hm : m = ((p + szN k + (cellB c).length : Nat) : Int) := by rw [o3]; omega
  have t1 : bs.take (p + szN k) = bs.take p ++ numB k := by
    conv => lhs; rw [ht]
    rw [← List.append_assoc, List.take_left' (by rw [List.length_append, List.length_take, numB_length]; have := I.le; omega)]
  have t2 : bs.take (p + szN k + (cellB c).length) = bs.take (p + szN k) ++ cellB c := by
    conv => lhs; rw [o5]
    rw [← List.append_assoc, List.take_left' (by rw [List.length_append, List.length_take]; omega)]
  have hrm := I.rm
  refine ⟨k, p + szN k + (cellB c).length, rfl, hm, by omega, by omega, o1, o2, ?_, o4, ?_, by simp [rep]; omega, fun L hL hl hb => ?_⟩
  · rw [t2, t1, I.tk, runs_push (by omega) hne]; simp
  · intro x hx
    rcases List.mem_append.1 hx with h | h
    · exact I.ok x h
    · rw [List.eq_of_mem_replicate h]; exact ⟨o1, o2⟩
  · obtain ⟨n, c', T2, e1, e2, e3, e4, e5, e6, e7⟩ := I.must hN (by omega) hL hl hb
    rw [hq] at e6
    have hnk : k = n := by have := congrArg Prod.fst e6; dsimp only at this; omega
    subst hnk
    rw [hc] at e7
    have hcc : c = c' := congrArg Prod.fst e7
    subst hcc
    refine ⟨T2, e1, .inr ?_⟩
    obtain ⟨m, rfl⟩ : ∃ m, k = m + 1 := ⟨k - 1, by omega⟩
    have : (M ++ rep (m + 1) c).getLast? = some c := by simp [rep, List.replicate_succ', ← List.append_assoc]
    rw [this]
    exact fun e => e4 e.symm
theorem RdI.no (I : RdI bs hd N p room M) (hN : N ≤ 480) (hr : 0 < room) (bad : (getS bs (p : Int)).2.2 ≠ 0 ∨ (getS bs (p : Int)).1 = 0 ∨ (room : Int) < (getS bs (p : Int)).1) {L : List Ce} (hL : LOk L) (hl : L.length = N) (hb : bs = hd ++ runsB 0 L) : False := by
  obtain ⟨n, c, T2, e1, e2, e3, e4, e5, e6, e7⟩ := I.must hN hr hL hl hb
  rw [e6] at bad
  dsimp only at bad
  omega
theorem RdI.no2 (I : RdI bs hd N p room M) (hN : N ≤ 480) (hr : 0 < room) {q j z : Int} (hq : getS bs (p : Int) = (q, j, z)) (bad : (getC bs j).2.2 ≠ 0 ∨ (M ≠ [] ∧ M.getLast? = some (getC bs j).1)) {L : List Ce} (hL : LOk L) (hl : L.length = N) (hb : bs = hd ++ runsB 0 L) : False := by
  obtain ⟨n, c, T2, e1, e2, e3, e4, e5, e6, e7⟩ := I.must hN hr hL hl hb
  rw [hq] at e6
  have hj : j = ((p + szN n : Nat) : Int) := congrArg (fun x => x.2.1) e6
  rw [hj, e7] at bad
  dsimp only at bad
  rcases bad with h | ⟨h, h'⟩
  · exact h rfl
  · rcases e5 with h2 | h2
    · exact h h2
    · exact h2 h'
theorem RdI.done (I : RdI bs hd N p 0 M) (h : p = bs.length) : bs = hd ++ runsB 0 M := by
  have := I.tk
  rwa [h, List.take_length] at this
theorem RdI.no3 (I : RdI bs hd N p 0 M) (h : p ≠ bs.length) {L : List Ce} (hL : LOk L) (hl : L.length = N) (hb : bs = hd ++ runsB 0 L) : False := by
  obtain ⟨T, rfl, _⟩ := I.all L hL hl hb
  have := I.rm
  have hT : T = [] := by
    apply List.eq_nil_of_length_eq_zero
    simp at hl
    omega
  subst hT
  rw [List.append_nil, ← I.tk] at hb
  have := congrArg List.length hb
  rw [List.length_take] at this
  have := I.le
  omega
end
/-- Bytes that are a view's. -/
def isView (bs : List Int) (R C row col : Int) (vis : Bool) (L : List Ce) : Prop := rightW R C row col L = true ∧ LOk L ∧ bs = viewB R C row col vis L
/-- The first five bytes. -/
def headR (bs : List Int) : Bool := decide (5 ≤ bs.length) && decide (bs.getD 4 0 ≤ 1)
theorem take_five {bs : List Int} (h : 5 ≤ bs.length) : bs.take 5 = [bs.getD 0 0, bs.getD 1 0, bs.getD 2 0, bs.getD 3 0, bs.getD 4 0] := by
  match bs, h with
  | a :: b :: c :: d :: e :: r, _ => rfl
theorem isView_head {bs : List Int} {R C row col : Int} {vis : Bool} {L : List Ce} (h : isView bs R C row col vis L) : headR bs = true ∧ R = bs.getD 0 0 ∧ C = bs.getD 1 0 ∧ row = bs.getD 2 0 ∧ col = bs.getD 3 0 ∧ (if vis = true then (1 : Int) else 0) = bs.getD 4 0 ∧ headB R C row col = true := by
  obtain ⟨h1, _, rfl⟩ := h
  refine ⟨?_, rfl, rfl, rfl, rfl, rfl, (rightW_parts h1).1⟩
  unfold headR viewB
  cases vis <;> simp
/-- Bytes are one view's alone. -/
theorem isView_inj {bs : List Int} {R C row col R2 C2 row2 col2 : Int} {vis vis2 : Bool} {L L2 : List Ce} (h : isView bs R C row col vis L) (k : isView bs R2 C2 row2 col2 vis2 L2) : R = R2 ∧ C = C2 ∧ row = row2 ∧ col = col2 ∧ vis = vis2 ∧ L = L2 := by
  obtain ⟨_, a1, a2, a3, a4, a5, _⟩ := isView_head h
  obtain ⟨_, b1, b2, b3, b4, b5, _⟩ := isView_head k
  refine ⟨a1.trans b1.symm, a2.trans b2.symm, a3.trans b3.symm, a4.trans b4.symm, ?_, ?_⟩
  · have := a5.trans b5.symm
    cases vis <;> cases vis2 <;> simp at this ⊢
  · have e := h.2.2.symm.trans k.2.2
    unfold viewB at e
    have e2 := congrArg (List.drop 5) e
    have l1 := (rightW_parts h.1).2.2.2.1
    have l2 := (rightW_parts k.1).2.2.2.1
    exact runs_inj L.length L L2 (Nat.le_refl _) (by omega) (by omega) h.2.1 k.2.1 e2
end Go.Proofs.YtjihcpnaebghnaaDoor
