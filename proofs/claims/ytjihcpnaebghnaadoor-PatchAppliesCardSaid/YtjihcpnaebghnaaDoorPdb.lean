/-
  Proved here, of lists alone: how a patch's runs are read, one behind the other.
-/
import Derived.Test.YtjihcpnaebghnaaDoorPda
set_option linter.unusedSimpArgs false
set_option linter.unusedVariables false
namespace Go.Proofs.YtjihcpnaebghnaaDoor
open Go.RowKit
theorem hdE_self : ∀ (X : List Ce), hdE X X
  | [] => trivial
  | _ :: _ => rfl
theorem hdE_app {E : List Ce} (h : 1 ≤ E.length) (X Y : List Ce) : hdE (E ++ X) (E ++ Y) := by
  cases E with
  | nil => simp at h
  | cons a E => exact rfl
theorem hdE_ne {A B X Y : List Ce} (h : neL A B) (hB : 1 ≤ B.length) : ¬ hdE (A ++ X) (B ++ Y) := by
  match A, B, h with
  | [], [], _ => simp at hB
  | a :: A, b :: B, h => exact fun e => h.1 e
/-- Cells that are read in the places of others: none is as the one in its place was. -/
def putF : List Ce → List Int → Int → Option (List Ce × Int)
  | [], _, p => some ([], p)
  | o :: O, bs, p => if (getC bs p).2.2 = 0 ∧ (getC bs p).1 ≠ o then (putF O bs (getC bs p).2.1).map (fun r => ((getC bs p).1 :: r.1, r.2)) else none
theorem putF_mid : ∀ {A B : List Ce} (_ : neL A B) (a c : List Int), LOk B → putF A (a ++ (cellsB B ++ c)) (a.length : Int) = some (B, ((a ++ cellsB B).length : Int))
  | [], [], _, a, c, _ => by simp [putF, cellsB]
  | [], b :: B, h, _, _, _ => h.elim
  | x :: A, [], h, _, _, _ => h.elim
  | x :: A, b :: B, h, a, c, hok => by
    obtain ⟨h1, h2⟩ := hok b (by simp)
    have e : a ++ (cellsB (b :: B) ++ c) = a ++ (cellB b ++ (cellsB B ++ c)) := by simp [cellsB]
    have e2 : a ++ (cellB b ++ (cellsB B ++ c)) = (a ++ cellB b) ++ (cellsB B ++ c) := by simp
    have g := getC_mid a (cellsB B ++ c) h1 h2
    have r := putF_mid h.2 (a ++ cellB b) c (fun x hx => hok x (by simp [hx]))
    rw [e]
    show (if _ then _ else _) = _
    rw [g]
    dsimp only
    rw [if_pos ⟨rfl, fun q => h.1 q.symm⟩, e2, show (a.length : Int) + ((cellB b).length : Int) = ((a ++ cellB b).length : Int) by simp, r]
    simp [cellsB]
theorem putF_inv {bs : List Int} (hB : Bytes bs) : ∀ (A : List Ce) {B : List Ce} {p : Nat} {m : Int}, p ≤ bs.length → putF A bs (p : Int) = some (B, m) →
    neL A B ∧ LOk B ∧ m = ((p + (cellsB B).length : Nat) : Int) ∧ p + (cellsB B).length ≤ bs.length ∧ bs.take (p + (cellsB B).length) = bs.take p ++ cellsB B
  | [], B, p, m, hp, h => by
    obtain ⟨rfl, rfl⟩ : [] = B ∧ (p : Int) = m := by simpa [putF] using h
    exact ⟨trivial, fun c hc => by simp at hc, by simp [cellsB], by simpa [cellsB] using hp, by simp [cellsB]⟩
  | o :: A, B, p, m, hp, h => by
    unfold putF at h
    split at h
    · rename_i hc
      obtain ⟨⟨c, q, z⟩, hg⟩ : ∃ r, getC bs (p : Int) = r := ⟨_, rfl⟩
      rw [hg] at hc h
      dsimp only at hc h
      obtain ⟨rfl, hne⟩ := hc
      obtain ⟨o1, o2, o3, o4, o5⟩ := getC_ok hB hg
      have hq : q = ((p + (cellB c).length : Nat) : Int) := by rw [o3]; omega
      subst hq
      obtain ⟨⟨B', m'⟩, hr, he⟩ := Option.map_eq_some_iff.1 h
      obtain ⟨rfl, rfl⟩ : c :: B' = B ∧ m' = m := by simpa using he
      obtain ⟨i1, i2, i3, i4, i5⟩ := putF_inv hB A o4 hr
      have t2 : bs.take (p + (cellB c).length) = bs.take p ++ cellB c := by
        conv => lhs; rw [o5]
        rw [← List.append_assoc, List.take_left' (by rw [List.length_append, List.length_take]; omega)]
      refine ⟨⟨fun e => hne e.symm, i1⟩, fun x hx => ?_, ?_, ?_, ?_⟩
      · rcases List.mem_cons.1 hx with rfl | hx
        · exact ⟨o1, o2⟩
        · exact i2 x hx
      · rw [i3]; simp [cellsB]; omega
      · simp [cellsB]; omega
      · simp only [cellsB, List.length_append]
        rw [← Nat.add_assoc, i5, t2]; simp
    · simp at h
theorem putF_len {bs : List Int} : ∀ {A B : List Ce} {p m : Int}, putF A bs p = some (B, m) → A.length = B.length
  | [], B, p, m, h => by
    obtain ⟨rfl, rfl⟩ : [] = B ∧ p = m := by simpa [putF] using h
    rfl
  | o :: A, B, p, m, h => by
    unfold putF at h
    split at h
    · obtain ⟨⟨B', m'⟩, hr, he⟩ := Option.map_eq_some_iff.1 h
      obtain ⟨rfl, rfl⟩ : _ :: B' = B ∧ m' = m := by simpa using he
      simp [putF_len hr]
    · simp at h
/-- What has been read of a patch: the cells M stand, up to the place k of the base's and the place p of the bytes. -/
structure PaI (bs hd : List Int) (O : List Ce) (p k : Nat) (M : List Ce) : Prop where
  le : p ≤ bs.length
  ge : hd.length ≤ p
  ml : M.length = k
  kl : k ≤ O.length
  z : p = hd.length → k = 0
  ok : LOk M
  fwd : ∀ T, T.length = O.length - k → (p = hd.length ∨ hdE (O.drop k) T) → hd ++ dB 0 [] O (M ++ T) = bs.take p ++ dB 0 [] (O.drop k) T
  all : ∀ L, LOk L → L.length = O.length → bs = hd ++ dB 0 [] O L → ∃ T, L = M ++ T ∧ (p = hd.length ∨ hdE (O.drop k) T)
section
variable {bs hd : List Int} {O : List Ce} {p k : Nat} {M : List Ce}
theorem PaI.start (h : bs.take hd.length = hd) (hp : hd.length ≤ bs.length) : PaI bs hd O hd.length 0 [] :=
  ⟨hp, Nat.le_refl _, rfl, Nat.zero_le _, fun _ => rfl, fun c hc => absurd hc (by simp), fun T _ _ => by rw [h]; simp, fun L _ _ _ => ⟨L, rfl, .inl rfl⟩⟩
theorem PaI.must (I : PaI bs hd O p k M) (hN : O.length ≤ 480) (hp : p < bs.length) {L : List Ce} (hL : LOk L) (hl : L.length = O.length) (hb : bs = hd ++ dB 0 [] O L) :
    ∃ E A B O' T', O.drop k = E ++ (A ++ O') ∧ L = M ++ (E ++ (B ++ T')) ∧ neL A B ∧ 1 ≤ B.length ∧ hdE O' T' ∧ (p = hd.length ∨ 1 ≤ E.length) ∧ E.length + B.length ≤ O.length - k ∧
      getS bs (p : Int) = ((E.length : Int), ((p + szN (E.length : Int) : Nat) : Int), 0) ∧ getS bs ((p + szN (E.length : Int) : Nat) : Int) = ((B.length : Int), ((p + szN (E.length : Int) + szN (B.length : Int) : Nat) : Int), 0) ∧
      putF A bs ((p + szN (E.length : Int) + szN (B.length : Int) : Nat) : Int) = some (B, ((p + szN (E.length : Int) + szN (B.length : Int) + (cellsB B).length : Nat) : Int)) := by
  obtain ⟨T, rfl, hbd⟩ := I.all L hL hl hb
  have hml := I.ml
  have hkl := I.kl
  have hTl : T.length = O.length - k := by simp at hl; omega
  have hw := hb.trans (I.fwd T hTl hbd)
  have hdl : (O.drop k).length = T.length := by simp; omega
  rcases first_run (O.drop k) T hdl with e | ⟨E, A, B, O', T', e1, rfl, e3, e4, e5⟩
  · rw [e, dB_self] at hw
    have := congrArg List.length hw
    rw [List.append_nil, List.length_take] at this
    omega
  · have hBo : LOk B := fun c hc => hL c (by simp [hc])
    have hab := neL_len e3
    have hlen : E.length + B.length ≤ O.length - k := by rw [← hTl]; simp only [List.length_append]; omega
    rw [e1, dB_run e3 e4 e5] at hw
    have hpl : (bs.take p).length = p := by rw [List.length_take]; omega
    obtain ⟨q1, q2, q3⟩ := run_read (bs.take p) (dB 0 [] O' T') (g := E.length) (by omega) (by omega) hBo hw
    have l1 : (bs.take p ++ numB (E.length : Int)).length = p + szN (E.length : Int) := by rw [List.length_append, numB_length, hpl]
    have l2 : ((bs.take p ++ numB (E.length : Int)) ++ numB (B.length : Int)).length = p + szN (E.length : Int) + szN (B.length : Int) := by rw [List.length_append, numB_length, l1]
    have q4 := putF_mid e3 ((bs.take p ++ numB (E.length : Int)) ++ numB (B.length : Int)) (dB 0 [] O' T') hBo
    have hb2 : bs = ((bs.take p ++ numB (E.length : Int)) ++ numB (B.length : Int)) ++ (cellsB B ++ dB 0 [] O' T') := by rw [List.append_assoc, List.append_assoc]; exact hw
    have l3 : (((bs.take p ++ numB (E.length : Int)) ++ numB (B.length : Int)) ++ cellsB B).length = p + szN (E.length : Int) + szN (B.length : Int) + (cellsB B).length := by rw [List.length_append, l2]
    rw [← hb2, l3, l2] at q4
    rw [l1, hpl] at q1
    rw [l1, l2] at q2
    refine ⟨E, A, B, O', T', e1, by simp, e3, e4, e5, ?_, hlen, q1, q2, q4⟩
    rcases hbd with h | h
    · exact .inl h
    · rcases Nat.eq_zero_or_pos E.length with h0 | h0
      · obtain rfl : E = [] := List.eq_nil_of_length_eq_zero h0
        rw [e1] at h
        have h' : hdE (A ++ O') (B ++ T') := h
        exact absurd h' (hdE_ne e3 e4)
      · exact .inr h0
theorem seg_eq {X E A O' : List Ce} {k : Nat} (h : X.drop k = E ++ (A ++ O')) : E = (X.drop k).take E.length ∧ A = (X.drop (k + E.length)).take A.length ∧ O' = X.drop (k + E.length + A.length) := by
  have h2 : X.drop (k + E.length) = A ++ O' := by rw [← List.drop_drop, h, List.drop_left' rfl]
  refine ⟨by rw [h, List.take_left' rfl], by rw [h2, List.take_left' rfl], by rw [← List.drop_drop, h2, List.drop_left' rfl]⟩
theorem PaI.no (I : PaI bs hd O p k M) (hN : O.length ≤ 480) (hp : p < bs.length)
    (bad : ∀ (g c : Nat) (B : List Ce) (m : Int), getS bs (p : Int) = ((g : Int), ((p + szN (g : Int) : Nat) : Int), 0) → getS bs ((p + szN (g : Int) : Nat) : Int) = ((c : Int), ((p + szN (g : Int) + szN (c : Int) : Nat) : Int), 0) → 1 ≤ c → g + c ≤ O.length - k → (p = hd.length ∨ 1 ≤ g) →
      putF ((O.drop (k + g)).take c) bs ((p + szN (g : Int) + szN (c : Int) : Nat) : Int) = some (B, m) → False)
    {L : List Ce} (hL : LOk L) (hl : L.length = O.length) (hb : bs = hd ++ dB 0 [] O L) : False := by
  obtain ⟨E, A, B, O', T', e1, e2, e3, e4, e5, e6, e7, q1, q2, q3⟩ := I.must hN hp hL hl hb
  obtain ⟨c1, c2, c3⟩ := seg_eq e1
  have hab := neL_len e3
  refine bad E.length B.length B ((p + szN (E.length : Int) + szN (B.length : Int) + (cellsB B).length : Nat) : Int) q1 q2 e4 e7 e6 ?_
  rw [← hab, ← c2, hab]
  exact q3
theorem PaI.next (I : PaI bs hd O p k M) (hO : LOk O) (hN : O.length ≤ 480) (hp : p < bs.length) (hB : Bytes bs) {g c : Nat} {j r m : Int} {B : List Ce} (h1 : getS bs (p : Int) = ((g : Int), j, 0)) (h2 : getS bs j = ((c : Int), r, 0)) (hc : 1 ≤ c) (hr : g + c ≤ O.length - k) (hz : p = hd.length ∨ 1 ≤ g)
    (h3 : putF ((O.drop (k + g)).take c) bs r = some (B, m)) : ∃ m' : Nat, m = m' ∧ p < m' ∧ B.length = c ∧ LOk B ∧ PaI bs hd O m' (k + g + c) (M ++ ((O.drop k).take g ++ B)) := by
  have hml := I.ml
  have hkl := I.kl
  have hple := I.le
  obtain ⟨i1, i2, i3⟩ := getS_inv hB (p := p) (by rw [h1])
  rw [h1] at i1 i2 i3
  dsimp only at i1 i2 i3
  have hj : j = ((p + szN (g : Int) : Nat) : Int) := by rw [i1]; omega
  subst hj
  obtain ⟨k1, k2, k3⟩ := getS_inv hB (p := p + szN (g : Int)) (by rw [h2])
  rw [h2] at k1 k2 k3
  dsimp only at k1 k2 k3
  have hrr : r = ((p + szN (g : Int) + szN (c : Int) : Nat) : Int) := by rw [k1]; omega
  subst hrr
  obtain ⟨p1, p2, p3, p4, p5⟩ := putF_inv hB _ (by omega) h3
  have hBl : B.length = c := by
    have := neL_len p1
    rw [← this, List.length_take, List.length_drop]; omega
  have ht := three_cut (bs := bs) (p := p) (x := numB (g : Int)) (by rw [numB_length]; exact i2) (by rw [numB_length]; exact i3)
  have ht2 := three_cut (bs := bs) (p := p + szN (g : Int)) (x := numB (c : Int)) (by rw [numB_length]; exact k2) (by rw [numB_length]; exact k3)
  have t1 : bs.take (p + szN (g : Int)) = bs.take p ++ numB (g : Int) := by
    conv => lhs; rw [ht]
    rw [← List.append_assoc, List.take_left' (by rw [List.length_append, List.length_take, numB_length]; omega)]
  have t2 : bs.take (p + szN (g : Int) + szN (c : Int)) = bs.take (p + szN (g : Int)) ++ numB (c : Int) := by
    conv => lhs; rw [ht2]
    rw [← List.append_assoc, List.take_left' (by rw [List.length_append, List.length_take, numB_length]; omega)]
  have hz1 := (szN_le (g : Int)).1
  have hEl : ((O.drop k).take g).length = g := by rw [List.length_take, List.length_drop]; omega
  have hAl : ((O.drop (k + g)).take c).length = c := by rw [List.length_take, List.length_drop]; omega
  have hsp : O.drop k = (O.drop k).take g ++ ((O.drop (k + g)).take c ++ O.drop (k + g + c)) := by
    have e1 := List.take_append_drop g (O.drop k)
    rw [List.drop_drop] at e1
    have e2 := List.take_append_drop c (O.drop (k + g))
    rw [List.drop_drop] at e2
    rw [e2, e1]
  refine ⟨p + szN (g : Int) + szN (c : Int) + (cellsB B).length, by rw [p3], by omega, hBl, p2, p4, by have := I.ge; omega, ?_, by omega, fun h => ?_, ?_, fun T hT hh => ?_, fun L hL hl hb => ?_⟩
  · simp only [List.length_append, hEl, hBl]; omega
  · have := I.ge; omega
  · intro x hx
    rcases List.mem_append.1 hx with h | h
    · exact I.ok x h
    · rcases List.mem_append.1 h with h | h
      · exact hO x (List.mem_of_mem_drop (List.mem_of_mem_take h))
      · exact p2 x h
  · have hh' : hdE (O.drop (k + g + c)) T := by
      rcases hh with h | h
      · have := I.ge; omega
      · exact h
    have hf := I.fwd ((O.drop k).take g ++ (B ++ T)) (by simp only [List.length_append, hEl, hBl]; omega) (by
      rcases hz with h | h
      · exact .inl h
      · right
        conv => lhs; rw [hsp]
        exact hdE_app (by omega) _ _)
    have e : dB 0 [] (O.drop k) ((O.drop k).take g ++ (B ++ T)) = numB (g : Int) ++ (numB (c : Int) ++ (cellsB B ++ dB 0 [] (O.drop (k + g + c)) T)) := by
      have := dB_run p1 (by omega) hh' ((O.drop k).take g)
      rw [← hsp, hEl, hBl] at this
      exact this
    rw [e] at hf
    rw [p5, t2, t1]
    simp only [List.append_assoc] at hf ⊢
    exact hf
  · obtain ⟨E, A, B', O', T', e1, e2, e3, e4, e5, e6, e7, q1, q2, q3⟩ := I.must hN hp hL hl hb
    obtain ⟨c1, c2, c3⟩ := seg_eq e1
    have hab := neL_len e3
    rw [h1] at q1
    have hg : g = E.length := by have := congrArg Prod.fst q1; dsimp only at this; omega
    subst hg
    rw [h2] at q2
    have hcc : c = B'.length := by have := congrArg Prod.fst q2; dsimp only at this; omega
    subst hcc
    rw [← hab, ← c2] at h3
    rw [← hab] at q3
    rw [h3] at q3
    have hBB : B = B' := by have := congrArg (fun x => x.map Prod.fst) q3; simpa using this
    subst hBB
    refine ⟨T', by rw [e2, ← c1]; simp, .inr ?_⟩
    rw [← hab, ← c3]
    exact e5
theorem PaI.done (I : PaI bs hd O p k M) (h : p = bs.length) : bs = hd ++ dB 0 [] O (M ++ O.drop k) := by
  have := I.fwd (O.drop k) (by simp) (.inr (hdE_self _))
  rw [this, dB_self, h, List.take_length]; simp
theorem PaI.alone (I : PaI bs hd O p k M) (h : p = bs.length) {L : List Ce} (hL : LOk L) (hl : L.length = O.length) (hb : bs = hd ++ dB 0 [] O L) : L = M ++ O.drop k := by
  obtain ⟨T, rfl, hbd⟩ := I.all L hL hl hb
  have hml := I.ml
  have hkl := I.kl
  have hTl : T.length = O.length - k := by simp at hl; omega
  have hw := hb.trans (I.fwd T hTl hbd)
  have hdl : (O.drop k).length = T.length := by simp; omega
  rcases first_run (O.drop k) T hdl with e | ⟨E, A, B, O', T', e1, rfl, e3, e4, e5⟩
  · rw [← e]
  · rw [e1, dB_run e3 e4 e5, h, List.take_length] at hw
    have := congrArg List.length hw
    have hz1 := (szN_le (E.length : Int)).1
    simp only [List.length_append, numB_length] at this
    omega
end
end Go.Proofs.YtjihcpnaebghnaaDoor
