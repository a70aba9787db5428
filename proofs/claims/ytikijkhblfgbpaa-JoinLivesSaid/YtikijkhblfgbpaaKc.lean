/-
  Kept here: the document's own Table (join) as a floor and a list of parts, by plain reckoning; and what ties it to the program's.
-/
import Derived.Test.YtikijkhblfgbpaaJx
namespace Go.Proofs.Ytikijkhblfgbpaa
open Go.RowKit Go.Maps Go.Sort

/-- Is this the part of a frame at a place? -/
def isPart (id : Int) (k : Nat) (p : Prt) : Bool := decide (p.id = id) && decide (p.ix = k)
def partsN (L : List Prt) (id : Int) : Nat → List Prt
  | 0 => []
  | k + 1 => partsN L id k ++ L.filter (isPart id k)
def partsD (L : List Prt) (id : Int) : List Prt := partsN L id 64
def insW (x : Int) : List Int → List Int
  | [] => [x]
  | y :: r => if y < x then y :: insW x r else if y = x then y :: r else x :: y :: r
def waitsN (L : List Prt) : Nat → List Int
  | 0 => []
  | k + 1 => insW (pAt L k).id (waitsN L k)
def waitsD (L : List Prt) : List Int := waitsN L L.length
def missD (L : List Prt) (id : Int) : Int := if (partsD L id).length = 0 then 0 else (pAt (partsD L id) 0).ct - ((partsD L id).length : Nat)
def raiseD (fl : Int) (L : List Prt) : List Prt := L.filter fun p => decide (fl ≤ p.id)
def chkD (p : Prt) : List Prt → Int
  | [] => 0
  | q :: r => if ¬ q.ct = p.ct then 1 else if q.ix = p.ix then 7 else chkD p r

theorem insW_mem (x : Int) : ∀ (l : List Int) (y : Int), y ∈ insW x l ↔ y = x ∨ y ∈ l
  | [], y => by simp [insW]
  | z :: r, y => by
    unfold insW
    split
    · simp [insW_mem x r y]
      constructor
      · rintro (h | h | h) <;> simp [h]
      · rintro (h | h | h) <;> simp [h]
    · split
      · rename_i h; subst h; simp
      · simp
theorem insW_sorted (x : Int) : ∀ {l : List Int}, l.Pairwise (· < ·) → (insW x l).Pairwise (· < ·)
  | [], _ => by simp [insW]
  | z :: r, h => by
    obtain ⟨h1, h2⟩ := List.pairwise_cons.1 h
    unfold insW
    split
    · rename_i hz
      refine List.pairwise_cons.2 ⟨fun y hy => ?_, insW_sorted x h2⟩
      rcases (insW_mem x r y).1 hy with rfl | hy
      · exact hz
      · exact h1 y hy
    · split
      · exact h
      · rename_i hz hn
        refine List.pairwise_cons.2 ⟨fun y hy => ?_, h⟩
        rcases List.mem_cons.1 hy with rfl | hy
        · omega
        · have := h1 y hy; omega
theorem waitsN_sorted (L : List Prt) : ∀ k, (waitsN L k).Pairwise (· < ·)
  | 0 => by simp [waitsN]
  | k + 1 => insW_sorted _ (waitsN_sorted L k)
theorem waitsN_mem (L : List Prt) : ∀ k, k ≤ L.length → ∀ x, x ∈ waitsN L k ↔ ∃ p ∈ L.take k, p.id = x
  | 0, _, x => by simp [waitsN]
  | k + 1, h, x => by
    show x ∈ insW _ _ ↔ _
    rw [insW_mem, waitsN_mem L k (by omega), ptake_snoc (by omega)]
    simp only [List.mem_append, List.mem_singleton]
    constructor
    · rintro (rfl | ⟨p, hp, rfl⟩)
      · exact ⟨_, .inr rfl, rfl⟩
      · exact ⟨p, .inl hp, rfl⟩
    · rintro ⟨p, hp | rfl, rfl⟩
      · exact .inr ⟨p, hp, rfl⟩
      · exact .inl rfl
theorem waitsD_mem (L : List Prt) (x : Int) : x ∈ waitsD L ↔ ∃ p ∈ L, p.id = x := by
  have := waitsN_mem L L.length (Nat.le_refl _) x
  rwa [List.take_of_length_le (Nat.le_refl _)] at this
theorem sorted_eq {a b : List Int} (ha : a.Pairwise (· < ·)) (hb : b.Pairwise (· < ·)) (h : ∀ x, x ∈ a ↔ x ∈ b) : a = b := by
  have na : a.Nodup := ha.imp (fun h => by omega)
  have nb : b.Nodup := hb.imp (fun h => by omega)
  exact List.Perm.eq_of_pairwise (le := fun x y => x ≤ y) (fun a b _ _ h1 h2 => by omega) (ha.imp (fun h => by omega)) (hb.imp (fun h => by omega)) ((List.perm_ext_iff_of_nodup na nb).2 h)

/-- The parts that came, in order. -/
def camL (ps : List Prt) : Nat → List Prt
  | 0 => []
  | k + 1 => camL ps k ++ (if cameB ps k then [pAt ps k] else [])
theorem camL_miss (ps : List Prt) : ∀ k, (camL ps k).length + missS ps k = k
  | 0 => rfl
  | k + 1 => by
    have := camL_miss ps k
    unfold camL missS
    rw [List.length_append]
    split <;> simp <;> omega
theorem camL_more {ps : List Prt} {n : Nat} (h : ∀ i, n ≤ i → i < 64 → cameB ps i = false) : ∀ {k : Nat}, n ≤ k → k ≤ 64 → camL ps k = camL ps n
  | 0, h0, _ => by obtain rfl : n = 0 := by omega
                   rfl
  | k + 1, h0, h1 => by
    rcases Nat.lt_or_ge k n with h' | h'
    · obtain rfl : n = k + 1 := by omega
      rfl
    · show camL ps k ++ (if cameB ps k then [pAt ps k] else []) = camL ps n
      rw [h k h' (by omega), camL_more h h' (by omega)]
      simp
theorem camL_mem (ps : List Prt) : ∀ (k : Nat) (q : Prt), q ∈ camL ps k ↔ ∃ i, i < k ∧ cameB ps i = true ∧ q = pAt ps i
  | 0, q => by simp [camL]
  | k + 1, q => by
    unfold camL
    rw [List.mem_append, camL_mem ps k q]
    constructor
    · rintro (⟨i, h1, h2, h3⟩ | h)
      · exact ⟨i, by omega, h2, h3⟩
      · split at h
        · exact ⟨k, by omega, by assumption, by simpa using h⟩
        · simp at h
    · rintro ⟨i, h1, h2, h3⟩
      rcases Nat.lt_or_ge i k with h' | h'
      · exact .inl ⟨i, h', h2, h3⟩
      · obtain rfl : i = k := by omega
        exact .inr (by rw [if_pos h2]; simp [h3])
theorem camL_all {ps : List Prt} {n : Nat} (hl : n ≤ ps.length) : ∀ {k : Nat}, k ≤ n → (∀ i, i < k → cameB ps i = true) → camL ps k = ps.take k
  | 0, _, _ => by simp [camL]
  | k + 1, h, hc => by
    unfold camL
    rw [camL_all hl (by omega) (fun i hi => hc i (by omega)), hc k (by omega), ptake_snoc (by omega)]
    simp

theorem Good.in_ct {f : FV} (h : Good f) {i : Nat} (hi : i < 64) (hc : cameB f.ps i = true) : i < f.ct := by
  obtain ⟨h1, _, h3, h4⟩ := h.came hi hc
  obtain ⟨_, _, _, _, _, k1, _⟩ := rgt_yes h1
  omega
theorem Good.miss {f : FV} (h : Good f) (h64 : f.ct ≤ 64) : (camL f.ps 64).length + missS f.ps f.ct = f.ct := by
  rw [camL_more (n := f.ct) (fun i h1 h2 => by
    cases hc : cameB f.ps i with
    | false => rfl
    | true => have := h.in_ct h2 hc; omega) h64 (Nat.le_refl _)]
  exact camL_miss f.ps f.ct

/-- The two Tables hold the same parts. 'x': the frame of this number may be without parts yet. -/
structure Ties (T : TV) (L : List Prt) (x : Int → Prop) : Prop where
  one : ∀ p ∈ L, ∃ f ∈ T.fs, p.id = f.id ∧ ∃ i : Nat, i < 64 ∧ p.ix = i ∧ cameB f.ps i = true ∧ pAt f.ps i = p
  all : ∀ f ∈ T.fs, ∀ i, i < 64 → cameB f.ps i = true → pAt f.ps i ∈ L
  any1 : ∀ f ∈ T.fs, ¬ x f.id → ∃ i, i < 64 ∧ cameB f.ps i = true
  apart : L.Pairwise fun a b => ¬ (a.id = b.id ∧ a.ix = b.ix)
  idn : (T.fs.map FV.id).Nodup
abbrev Tied (T : TV) (L : List Prt) : Prop := Ties T L fun _ => False

theorem filter_one {L : List Prt} {P : Prt → Bool} {q : Prt} (hq : q ∈ L) (hP : P q = true) (h : ∀ p ∈ L, P p = true → p = q) (ha : L.Pairwise fun a b => ¬ (a.id = b.id ∧ a.ix = b.ix)) : L.filter P = [q] := by
  induction L with
  | nil => simp at hq
  | cons a r ih =>
    obtain ⟨h1, h2⟩ := List.pairwise_cons.1 ha
    rcases List.mem_cons.1 hq with rfl | hq'
    · rw [List.filter_cons, if_pos hP]
      have : r.filter P = [] := List.filter_eq_nil_iff.2 (fun p hp hpP => by
        have e := h p (List.mem_cons_of_mem _ hp) hpP
        subst e
        exact h1 p hp ⟨rfl, rfl⟩)
      rw [this]
    · rw [List.filter_cons, if_neg (fun haP => by
        have e := h a (by simp) haP
        subst e
        exact h1 _ hq' ⟨rfl, rfl⟩)]
      exact ih hq' (fun p hp => h p (List.mem_cons_of_mem _ hp)) h2
theorem getF_uniq {fs : List FV} (h : (fs.map FV.id).Nodup) {f g : FV} {id : Int} (hg : getF fs id = some f) (hm : g ∈ fs) (hi : g.id = id) : g = f :=
  nodup_inj h hm (getF_mem hg).1 (by rw [hi, (getF_mem hg).2])
theorem Ties.at {T : TV} {L : List Prt} {x : Int → Prop} (h : Ties T L x) (hG : GoodT T) (id : Int) (k : Nat) (hk : k < 64) : L.filter (isPart id k) = match getF T.fs id with | some f => if cameB f.ps k then [pAt f.ps k] else [] | none => [] := by
  cases hg : getF T.fs id with
  | none =>
    refine List.filter_eq_nil_iff.2 (fun p hp hP => ?_)
    obtain ⟨f, hf, he, _⟩ := h.one p hp
    have hP' : p.id = id ∧ p.ix = k := by simpa [isPart] using hP
    exact getF_none hg f hf (by rw [← he, hP'.1])
  | some f =>
    obtain ⟨hf, hfi⟩ := getF_mem hg
    have key : ∀ p ∈ L, isPart id k p = true → cameB f.ps k = true ∧ p = pAt f.ps k := fun p hp hP => by
      have hP' : p.id = id ∧ p.ix = k := by simpa [isPart] using hP
      obtain ⟨y, hy, he, i, _, hix, hc, hpe⟩ := h.one p hp
      obtain rfl := getF_uniq h.idn hg hy (by rw [← he, hP'.1])
      have hik : i = k := by have := hP'.2; omega
      subst hik
      exact ⟨hc, hpe.symm⟩
    show _ = if cameB f.ps k then [pAt f.ps k] else []
    cases hc : cameB f.ps k with
    | true =>
      rw [if_pos rfl]
      obtain ⟨_, h2, _, h4⟩ := (hG f hf).came hk hc
      refine filter_one (h.all f hf k hk hc) (by simp [isPart, h2, h4, hfi]) (fun p hp hP => (key p hp hP).2) h.apart
    | false =>
      rw [if_neg (by simp)]
      refine List.filter_eq_nil_iff.2 (fun p hp hP => ?_)
      have := (key p hp hP).1
      rw [hc] at this; cases this
theorem Ties.partsN {T : TV} {L : List Prt} {x : Int → Prop} (h : Ties T L x) (hG : GoodT T) (id : Int) : ∀ k, k ≤ 64 → partsN L id k = match getF T.fs id with | some f => camL f.ps k | none => []
  | 0, _ => by
    unfold Go.Proofs.Ytikijkhblfgbpaa.partsN
    split <;> rfl
  | k + 1, hk => by
    have h1 := h.at hG id k (by omega)
    have h2 := Ties.partsN h hG id k (by omega)
    unfold Go.Proofs.Ytikijkhblfgbpaa.partsN
    rw [h1, h2]
    cases getF T.fs id with
    | none => rfl
    | some f => rfl
theorem Ties.parts_some {T : TV} {L : List Prt} {x : Int → Prop} (h : Ties T L x) (hG : GoodT T) {id : Int} {f : FV} (hg : getF T.fs id = some f) : partsD L id = camL f.ps 64 := by
  have := h.partsN hG id 64 (Nat.le_refl _)
  rw [hg] at this
  exact this
theorem Ties.parts_none {T : TV} {L : List Prt} {x : Int → Prop} (h : Ties T L x) (hG : GoodT T) {id : Int} (hg : getF T.fs id = none) : partsD L id = [] := by
  have := h.partsN hG id 64 (Nat.le_refl _)
  rw [hg] at this
  exact this
theorem Ties.waits {T : TV} {L : List Prt} (h : Tied T L) (hG : GoodT T) (hs : (Go.Proofs.Ytikijkhblfgbpaa.ids T).Pairwise (· < ·)) : waitsD L = Go.Proofs.Ytikijkhblfgbpaa.ids T :=
  sorted_eq (waitsN_sorted L _) hs (fun y => by
    rw [waitsD_mem]
    constructor
    · rintro ⟨p, hp, rfl⟩
      obtain ⟨f, hf, he, _⟩ := h.one p hp
      exact List.mem_map.2 ⟨f, hf, he.symm⟩
    · intro hy
      obtain ⟨f, hf, rfl⟩ := List.mem_map.1 hy
      obtain ⟨i, hi, hc⟩ := h.any1 f hf (fun h => h)
      exact ⟨_, h.all f hf i hi hc, ((hG f hf).came hi hc).2.1⟩)
theorem Ties.miss {T : TV} {L : List Prt} (h : Tied T L) (hG : GoodT T) (hct : ∀ f ∈ T.fs, f.ct ≤ 64) (id : Int) : missD L id = (missO (getF T.fs id) : Nat) := by
  unfold missD
  cases hg : getF T.fs id with
  | none => rw [h.parts_none hG hg]; simp [missO]
  | some f =>
    obtain ⟨hf, _⟩ := getF_mem hg
    obtain ⟨i, hi, hc⟩ := h.any1 f hf (fun h => h)
    have hm := (hG f hf).miss (hct f hf)
    rw [h.parts_some hG hg]
    have h0 : 0 < (camL f.ps 64).length := List.length_pos_of_mem ((camL_mem f.ps 64 _).2 ⟨i, hi, hc, rfl⟩)
    have hmem : pAt (camL f.ps 64) 0 ∈ camL f.ps 64 := by
      have : pAt (camL f.ps 64) 0 = (camL f.ps 64)[0] := by simp [pAt, List.getD, h0]
      rw [this]; exact List.getElem_mem h0
    obtain ⟨j, hj, hcj, he⟩ := (camL_mem f.ps 64 _).1 hmem
    have hct2 := ((hG f hf).came hj hcj).2.2.1
    rw [if_neg (by omega), he, hct2]
    show _ = ((missS f.ps f.ct : Nat) : Int)
    omega

/-- What the document's Put says of a part that may be. -/
theorem chk_zero {p : Prt} : ∀ {l : List Prt}, (∀ q ∈ l, q.ct = p.ct ∧ ¬ q.ix = p.ix) → chkD p l = 0
  | [], _ => rfl
  | q :: r, h => by
    unfold chkD
    obtain ⟨h1, h2⟩ := h q (by simp)
    rw [if_neg (by simpa using h1), if_neg h2, chk_zero (fun y hy => h y (by simp [hy]))]
theorem chk_ct {p : Prt} : ∀ {l : List Prt}, l ≠ [] → (∀ q ∈ l, ¬ q.ct = p.ct) → chkD p l = 1
  | [], h, _ => absurd rfl h
  | q :: r, _, h => by
    unfold chkD
    rw [if_pos (h q (by simp))]
theorem chk_ix {p q : Prt} : ∀ {l : List Prt}, q ∈ l → q.ix = p.ix → (∀ y ∈ l, y.ct = p.ct) → chkD p l = 7
  | a :: r, hq, hi, h => by
    unfold chkD
    rw [if_neg (by simpa using h a (by simp))]
    by_cases e : a.ix = p.ix
    · rw [if_pos e]
    · rw [if_neg e]
      rcases List.mem_cons.1 hq with rfl | hq'
      · exact absurd hi e
      · exact chk_ix hq' hi (fun y hy => h y (by simp [hy]))
/-- Why the document's Table refuses a part; 0 if it does not. -/
def eD (fl : Int) (L : List Prt) (p : Prt) : Int :=
  if rgt p.id p.ix p.ct p.d.length = false then 3
  else if p.id < fl then 23
  else if ¬ chkD p (partsD L p.id) = 0 then chkD p (partsD L p.id)
  else if ((partsD L p.id).length = 0 ∧ (waitsD L).length = 4) ∧ p.id < (waitsD L).headD 0 then 5 else 0
theorem Ties.refuse {T : TV} {L : List Prt} (h : Tied T L) (hG : GoodT T) (hct : ∀ f ∈ T.fs, f.ct ≤ 64) (hs : (Go.Proofs.Ytikijkhblfgbpaa.ids T).Pairwise (· < ·)) (hfew : T.fs.length ≤ 4) (p : Prt) : eD T.fl L p = refS T p.id p.ix p.ct p.d.length := by
  unfold eD refS
  rw [h.waits hG hs]
  have hil : (Go.Proofs.Ytikijkhblfgbpaa.ids T).length = T.fs.length := by simp [Go.Proofs.Ytikijkhblfgbpaa.ids]
  cases hr : rgt p.id p.ix p.ct p.d.length with
  | false => rw [if_pos rfl, if_pos rfl]
  | true =>
    have htf : ¬ ((true : Bool) = false) := by simp
    rw [if_neg htf, if_neg htf]
    by_cases hl : p.id < T.fl
    · rw [if_pos hl, if_pos hl]
    · rw [if_neg hl, if_neg hl]
      obtain ⟨_, _, _, _, k0, k1, _⟩ := rgt_yes hr
      cases hg : getF T.fs p.id with
      | none =>
        rw [h.parts_none hG hg, hil]
        show (if ¬ (0 : Int) = 0 then (0 : Int) else _) = _
        rw [if_neg (by simp)]
        by_cases h4 : 4 ≤ T.fs.length ∧ p.id < (Go.Proofs.Ytikijkhblfgbpaa.ids T).headD 0
        · rw [if_pos ⟨⟨rfl, by omega⟩, h4.2⟩]
          exact (if_pos h4).symm
        · rw [if_neg (fun e => h4 ⟨by omega, e.2⟩)]
          exact (if_neg h4).symm
      | some f =>
        obtain ⟨hf, _⟩ := getF_mem hg
        obtain ⟨i, hi, hc⟩ := h.any1 f hf (fun h => h)
        have hM := camL_mem f.ps 64
        rw [h.parts_some hG hg]
        generalize camL f.ps 64 = l at hM
        have hne : l ≠ [] := List.ne_nil_of_mem ((hM _).2 ⟨i, hi, hc, rfl⟩)
        have hlen : ¬ l.length = 0 := fun e => hne (List.eq_nil_of_length_eq_zero e)
        have hq : ∀ q ∈ l, q.ct = f.ct ∧ ∃ j : Nat, j < 64 ∧ cameB f.ps j = true ∧ q.ix = j := fun q hq => by
          obtain ⟨j, hj, hcj, rfl⟩ := (hM q).1 hq
          obtain ⟨_, _, e3, e4⟩ := (hG f hf).came hj hcj
          exact ⟨e3, j, hj, hcj, e4⟩
        show _ = if ¬ (f.ct : Int) = p.ct then 1 else if cameB f.ps p.ix.toNat = true then 7 else 0
        by_cases hcc : (f.ct : Int) = p.ct
        · rw [if_neg (show ¬ ¬ (f.ct : Int) = p.ct from fun e => e hcc)]
          cases hcb : cameB f.ps p.ix.toNat with
          | true =>
            have h64 := hct f hf
            have hj : p.ix.toNat < 64 := by omega
            have hix : (pAt f.ps p.ix.toNat).ix = p.ix := by have := ((hG f hf).came hj hcb).2.2.2; rw [this]; omega
            have e7 : chkD p l = 7 := chk_ix ((hM _).2 ⟨p.ix.toNat, hj, hcb, rfl⟩) hix (fun y hy => by rw [(hq y hy).1, hcc])
            rw [e7, if_pos (by simp), if_pos rfl]
          | false =>
            have e0 : chkD p l = 0 := chk_zero (fun y hy => by
              obtain ⟨a1, j, _, hj2, a3⟩ := hq y hy
              refine ⟨by rw [a1, hcc], fun e => ?_⟩
              have : p.ix.toNat = j := by omega
              rw [this, hj2] at hcb; cases hcb)
            rw [e0, if_neg (by simp), if_neg (fun e => hlen e.1.1)]; simp
        · have e1 : chkD p l = 1 := chk_ct hne (fun y hy => by rw [(hq y hy).1]; exact hcc)
          rw [e1, if_pos (by simp), if_pos hcc]
end Go.Proofs.Ytikijkhblfgbpaa
