/-
  Proved here, of lists alone: how the document reads a patch's runs.
-/
import Derived.Test.YtjihcpnaebghnaaDoorPdn
import Derived.Test.YtjihcpnaebghnaaDoorPdl
set_option linter.unusedSimpArgs false
set_option linter.unusedVariables false
namespace Go.Proofs.YtjihcpnaebghnaaDoor
open Go.RowKit
/-- Cells that stand one behind the other in bytes. -/
def cellsL : Nat → List Int → Int → Option (List Ce × Int)
  | 0, _, p => some ([], p)
  | k + 1, bs, p => if (getC bs p).2.2 = 0 then (cellsL k bs (getC bs p).2.1).map (fun r => ((getC bs p).1 :: r.1, r.2)) else none
theorem cellsL_of : ∀ (k : Nat) (bs : List Int) (p q : Int), cellsF k bs p = some q → ∃ B, cellsL k bs p = some (B, q)
  | 0, bs, p, q, h => ⟨[], by simpa [cellsF, cellsL] using h⟩
  | k + 1, bs, p, q, h => by
    rw [cellsF_step] at h
    split at h
    · rename_i hz
      obtain ⟨B, hB⟩ := cellsL_of k bs _ q h
      exact ⟨(getC bs p).1 :: B, by unfold cellsL; rw [if_pos hz, hB]; rfl⟩
    · cases h
theorem cellsL_mid : ∀ (B : List Ce) (a c : List Int), LOk B → cellsL B.length (a ++ (cellsB B ++ c)) (a.length : Int) = some (B, ((a ++ cellsB B).length : Int))
  | [], a, c, _ => by simp [cellsL, cellsB]
  | b :: B, a, c, hok => by
    obtain ⟨h1, h2⟩ := hok b (by simp)
    have e : a ++ (cellsB (b :: B) ++ c) = a ++ (cellB b ++ (cellsB B ++ c)) := by simp [cellsB]
    have e2 : a ++ (cellB b ++ (cellsB B ++ c)) = (a ++ cellB b) ++ (cellsB B ++ c) := by simp
    have g := getC_mid a (cellsB B ++ c) h1 h2
    have r := cellsL_mid B (a ++ cellB b) c (fun x hx => hok x (by simp [hx]))
    rw [e]
    show (if _ then _ else _) = _
    rw [g]
    dsimp only
    rw [if_pos rfl, e2, show (a.length : Int) + ((cellB b).length : Int) = ((a ++ cellB b).length : Int) by simp, r]
    simp [cellsB]
theorem cellsL_ok {bs : List Int} (hB : Bytes bs) : ∀ (k : Nat) {B : List Ce} {p : Nat} {m : Int}, p ≤ bs.length → cellsL k bs (p : Int) = some (B, m) →
    B.length = k ∧ LOk B ∧ m = ((p + (cellsB B).length : Nat) : Int) ∧ p + (cellsB B).length ≤ bs.length ∧ bs.take (p + (cellsB B).length) = bs.take p ++ cellsB B
  | 0, B, p, m, hp, h => by
    obtain ⟨rfl, rfl⟩ : [] = B ∧ (p : Int) = m := by simpa [cellsL] using h
    exact ⟨rfl, fun c hc => by simp at hc, by simp [cellsB], by simpa [cellsB] using hp, by simp [cellsB]⟩
  | k + 1, B, p, m, hp, h => by
    unfold cellsL at h
    split at h
    · rename_i hc
      obtain ⟨⟨c, q, z⟩, hg⟩ : ∃ r, getC bs (p : Int) = r := ⟨_, rfl⟩
      rw [hg] at hc h
      dsimp only at hc h
      subst hc
      obtain ⟨o1, o2, o3, o4, o5⟩ := getC_ok hB hg
      have hq : q = ((p + (cellB c).length : Nat) : Int) := by rw [o3]; omega
      subst hq
      obtain ⟨⟨B', m'⟩, hr, he⟩ := Option.map_eq_some_iff.1 h
      obtain ⟨rfl, rfl⟩ : c :: B' = B ∧ m' = m := by simpa using he
      obtain ⟨i1, i2, i3, i4, i5⟩ := cellsL_ok hB k o4 hr
      have t2 : bs.take (p + (cellB c).length) = bs.take p ++ cellB c := by
        conv => lhs; rw [o5]
        rw [← List.append_assoc, List.take_left' (by rw [List.length_append, List.length_take]; omega)]
      refine ⟨by simp [i1], fun x hx => ?_, ?_, ?_, ?_⟩
      · rcases List.mem_cons.1 hx with rfl | hx
        · exact ⟨o1, o2⟩
        · exact i2 x hx
      · rw [i3]; simp [cellsB]; omega
      · simp [cellsB]; omega
      · simp only [cellsB, List.length_append]
        rw [← Nat.add_assoc, i5, t2]; simp
    · simp at h
theorem dB_nil {O T : List Ce} (hl : O.length = T.length) (h : dB 0 [] O T = []) : O = T := by
  rcases first_run O T hl with e | ⟨E, A, B, O', T', rfl, rfl, e3, e4, e5⟩
  · exact e
  · rw [dB_run e3 e4 e5] at h
    have := congrArg List.length h
    have hz1 := (szN_le (E.length : Int)).1
    simp only [List.length_append, numB_length, List.length_nil] at this
    omega
/-- What the document has read of a patch: the cells M, up to a place of the bytes; all that stands there can be read. -/
structure AP (bs hd : List Int) (O : List Ce) (p : Nat) (M : List Ce) : Prop where
  le : p ≤ bs.length
  ge : hd.length ≤ p
  ml : M.length ≤ O.length
  ok : ∀ c ∈ M, CeOk c
  runs : ∃ j, RunsP bs (p : Int) j
  all : ∀ L, LOk L → L.length = O.length → bs = hd ++ dB 0 [] O L → ∃ T, L = M ++ T ∧ bs = bs.take p ++ dB 0 [] (O.drop M.length) T
section
variable {bs hd : List Int} {O : List Ce} {p : Nat} {M : List Ce}
theorem AP.start (h : bs.take hd.length = hd) (hp : hd.length ≤ bs.length) (hr : ∃ j, RunsP bs (hd.length : Int) j) : AP bs hd O hd.length [] :=
  ⟨hp, Nat.le_refl _, Nat.zero_le _, fun c hc => absurd hc (by simp), hr, fun L _ _ hb => ⟨L, rfl, by rw [h]; exact hb⟩⟩
/-- A run that stands at a place: its numbers, its cells, and the place behind it. -/
theorem AP.step (I : AP bs hd O p M) (hB : Bytes bs) (hp : p < bs.length) : ∃ (g c m r q : Nat) (B : List Ce), getS bs (p : Int) = ((g : Int), (m : Int), 0) ∧ getS bs (m : Int) = ((c : Int), (r : Int), 0) ∧ 1 ≤ c ∧ (g : Int) < 4611686018427387904 ∧ (c : Int) < 4611686018427387904 ∧ m = p + szN (g : Int) ∧ r = m + szN (c : Int) ∧ r ≤ bs.length ∧ cellsL c bs (r : Int) = some (B, (q : Int)) ∧ p < q ∧ q ≤ bs.length ∧ B.length = c ∧ LOk B ∧ (∃ j, RunsP bs (q : Int) j) ∧ bs.take q = ((bs.take p ++ numB (g : Int)) ++ numB (c : Int)) ++ cellsB B ∧ r + (cellsB B).length = q := by
  obtain ⟨j, hj⟩ := I.runs
  cases hj with
  | done => omega
  | step _ hs hr =>
    obtain ⟨g, m, c, r, h1, h2, h3, h4⟩ := hs
    have a0 : (getS bs (p : Int)).2.2 = 0 := by rw [h1]
    obtain ⟨a1, a2, a3, a4⟩ := getS_ok hB a0
    obtain ⟨i1, i2, i3⟩ := getS_inv hB a0
    rw [h1] at a1 a2 a3 a4 i1 i2 i3
    dsimp only at a1 a2 a3 a4 i1 i2 i3
    obtain ⟨g', rfl⟩ : ∃ k : Nat, g = k := ⟨g.toNat, by omega⟩
    obtain ⟨m', rfl⟩ : ∃ k : Nat, m = k := ⟨m.toNat, by omega⟩
    have b0 : (getS bs (m' : Int)).2.2 = 0 := by rw [h2]
    obtain ⟨b1, b2, b3, b4⟩ := getS_ok hB b0
    obtain ⟨k1, k2, k3⟩ := getS_inv hB b0
    rw [h2] at b1 b2 b3 b4 k1 k2 k3
    dsimp only at b1 b2 b3 b4 k1 k2 k3
    obtain ⟨c', rfl⟩ : ∃ k : Nat, c = k := ⟨c.toNat, by omega⟩
    obtain ⟨r', rfl⟩ : ∃ k : Nat, r = k := ⟨r.toNat, by omega⟩
    rw [Int.toNat_natCast] at h4
    obtain ⟨B, hBl⟩ := cellsL_of _ _ _ _ h4
    obtain ⟨l1, l2, l3, l4, l5⟩ := cellsL_ok hB _ (by omega : r' ≤ bs.length) hBl
    subst l3
    have hm : m' = p + szN (g' : Int) := by omega
    have hr2 : r' = m' + szN (c' : Int) := by omega
    have ht := three_cut (bs := bs) (p := p) (x := numB (g' : Int)) (by rw [numB_length]; exact i2) (by rw [numB_length]; exact i3)
    have ht2 := three_cut (bs := bs) (p := m') (x := numB (c' : Int)) (by rw [numB_length]; exact k2) (by rw [numB_length]; exact k3)
    have t1 : bs.take m' = bs.take p ++ numB (g' : Int) := by
      conv => lhs; rw [ht]
      rw [← List.append_assoc, List.take_left' (by rw [List.length_append, List.length_take, numB_length]; omega)]
    have t2 : bs.take r' = bs.take m' ++ numB (c' : Int) := by
      conv => lhs; rw [ht2]
      rw [← List.append_assoc, List.take_left' (by rw [List.length_append, List.length_take, numB_length]; omega)]
    have z1 := (szN_le (g' : Int)).1
    exact ⟨g', c', m', r', r' + (cellsB B).length, B, h1, h2, by omega, a2, b2, hm, hr2, by omega, hBl, by omega, l4, l1, l2, ⟨_, hr⟩, by rw [l5, t2, t1], rfl⟩
theorem AP.must (I : AP bs hd O p M) (hN : O.length ≤ 480) (hB : Bytes bs) (hp : p < bs.length) {g c m r q : Nat} {B : List Ce} (h1 : getS bs (p : Int) = ((g : Int), (m : Int), 0)) (h2 : getS bs (m : Int) = ((c : Int), (r : Int), 0)) (h3 : cellsL c bs (r : Int) = some (B, (q : Int))) (ht : bs.take q = ((bs.take p ++ numB (g : Int)) ++ numB (c : Int)) ++ cellsB B) (hq : q ≤ bs.length)
    {L : List Ce} (hL : LOk L) (hl : L.length = O.length) (hb : bs = hd ++ dB 0 [] O L) : M.length + g + c ≤ O.length ∧ ∃ T, L = (M ++ ((O.drop M.length).take g ++ B)) ++ T ∧ bs = bs.take q ++ dB 0 [] (O.drop (M.length + g + c)) T := by
  obtain ⟨T, rfl, hw⟩ := I.all L hL hl hb
  have hml := I.ml
  have hple := I.le
  have hdl : (O.drop M.length).length = T.length := by simp at hl; simp; omega
  rcases first_run (O.drop M.length) T hdl with e | ⟨E, A, B', O', T', e1, rfl, e3, e4, e5⟩
  · rw [e, dB_self] at hw
    have := congrArg List.length hw
    rw [List.append_nil, List.length_take] at this
    omega
  · have hBo : LOk B' := fun c hc => hL c (by simp [hc])
    have hab := neL_len e3
    have hlen : E.length + B'.length + T'.length = O.length - M.length := by have := hdl; simp only [List.length_drop, List.length_append] at this; omega
    rw [e1, dB_run e3 e4 e5] at hw
    have hpl : (bs.take p).length = p := by rw [List.length_take]; omega
    obtain ⟨q1, q2, _⟩ := run_read (bs.take p) (dB 0 [] O' T') (g := E.length) (by omega) (by omega) hBo hw
    have l1 : (bs.take p ++ numB (E.length : Int)).length = p + szN (E.length : Int) := by rw [List.length_append, numB_length, hpl]
    rw [hpl, h1] at q1
    obtain ⟨f1, f2⟩ : g = E.length ∧ m = (bs.take p ++ numB (E.length : Int)).length := by
      simp only [Prod.mk.injEq] at q1
      exact ⟨by omega, by omega⟩
    rw [← f2, h2] at q2
    obtain ⟨f3, f4⟩ : c = B'.length ∧ r = ((bs.take p ++ numB (E.length : Int)) ++ numB (B'.length : Int)).length := by
      simp only [Prod.mk.injEq] at q2
      exact ⟨by omega, by omega⟩
    have q4 := cellsL_mid B' ((bs.take p ++ numB (E.length : Int)) ++ numB (B'.length : Int)) (dB 0 [] O' T') hBo
    have hb2 : bs = ((bs.take p ++ numB (E.length : Int)) ++ numB (B'.length : Int)) ++ (cellsB B' ++ dB 0 [] O' T') := by rw [List.append_assoc, List.append_assoc]; exact hw
    rw [← hb2, ← f4, ← f3, h3] at q4
    have hBB : B = B' := by have := congrArg (fun x => x.map Prod.fst) q4; simpa using this
    subst hBB
    obtain ⟨s1, s2, s3⟩ := seg_eq e1
    have hA : A.length = c := by omega
    refine ⟨by omega, T', ?_, ?_⟩
    · rw [f1, ← s1]; simp
    · rw [ht, f1, show M.length + E.length + c = M.length + E.length + A.length by omega, ← s3, f3]
      simp only [List.append_assoc]
      exact hw
theorem AP.next (I : AP bs hd O p M) (hO : LOk O) (hN : O.length ≤ 480) (hB : Bytes bs) (hp : p < bs.length) {g c m r q : Nat} {B : List Ce} (h1 : getS bs (p : Int) = ((g : Int), (m : Int), 0)) (h2 : getS bs (m : Int) = ((c : Int), (r : Int), 0)) (h3 : cellsL c bs (r : Int) = some (B, (q : Int))) (ht : bs.take q = ((bs.take p ++ numB (g : Int)) ++ numB (c : Int)) ++ cellsB B) (hpq : p < q) (hq : q ≤ bs.length) (hBl : B.length = c) (hBo : LOk B) (hr : ∃ j, RunsP bs (q : Int) j) (hle : M.length + g + c ≤ O.length) :
    AP bs hd O q (M ++ ((O.drop M.length).take g ++ B)) := by
  have hlen : (M ++ ((O.drop M.length).take g ++ B)).length = M.length + g + c := by
    simp only [List.length_append, List.length_take, List.length_drop, hBl]; omega
  refine ⟨hq, by have := I.ge; omega, by omega, fun x hx => ?_, hr, fun L hL hl hb => ?_⟩
  · rcases List.mem_append.1 hx with h | h
    · exact I.ok x h
    · rcases List.mem_append.1 h with h | h
      · exact (hO x (List.mem_of_mem_drop (List.mem_of_mem_take h))).1
      · exact (hBo x h).1
  · obtain ⟨_, T, e1, e2⟩ := I.must hN hB hp h1 h2 h3 ht hq hL hl hb
    rw [hlen]
    exact ⟨T, e1, e2⟩
theorem AP.alone (I : AP bs hd O p M) (h : p = bs.length) {L : List Ce} (hL : LOk L) (hl : L.length = O.length) (hb : bs = hd ++ dB 0 [] O L) : L = M ++ O.drop M.length := by
  obtain ⟨T, rfl, hw⟩ := I.all L hL hl hb
  have hml := I.ml
  have hdl : (O.drop M.length).length = T.length := by simp at hl; simp; omega
  rw [h, List.take_length] at hw
  have : dB 0 [] (O.drop M.length) T = [] := by
    have := congrArg List.length hw
    rw [List.length_append] at this
    exact List.eq_nil_of_length_eq_zero (by omega)
  rw [← dB_nil hdl this]
end
end Go.Proofs.YtjihcpnaebghnaaDoor
