/-
  Kept here: what Put (join) makes of a Table: the frame that is opened, the part that is laid into it.
-/
import Derived.Test.YtikijkhblfgbpaaJo
namespace Go.Proofs.Ytikijkhblfgbpaa
open Go.RowKit Go.Maps Go.Sort

/-- All parts that came are of their frame. -/
def Good (f : FV) : Prop := ∀ i, i < 64 → pAt f.ps i = pNil ∨ ((pAt f.ps i).ok = true ∧ (pAt f.ps i).id = f.id ∧ (pAt f.ps i).ct = f.ct ∧ (pAt f.ps i).ix = i)
def GoodT (T : TV) : Prop := ∀ f ∈ T.fs, Good f
/-- The Table behind frameOf, and the frame. -/
def Opened (T : TV) (id ct : Int) (f : FV) (T1 : TV) : Prop :=
  (getF T.fs id = some f ∧ T1 = T) ∨
  (getF T.fs id = none ∧ ¬ 4 ≤ T.fs.length ∧ f = newF id f.g ct ∧ T1 = ⟨T.fl, insF f T.fs⟩) ∨
  (getF T.fs id = none ∧ 4 ≤ T.fs.length ∧ (ids T).headD 0 ≤ id ∧ f = newF id f.g ct ∧ T1 = ⟨(ids T).headD 0 + 1, insF f (T.fs.filter fun f => decide ((ids T).headD 0 + 1 ≤ f.id))⟩)
theorem pAt_zeros (m i : Nat) : pAt (List.replicate m pNil) i = pNil := by
  unfold pAt
  rw [List.getD_eq_getElem?_getD, List.getElem?_replicate]
  split <;> rfl
theorem good_new (id : Int) (g : Nat) (ct : Int) : Good (newF id g ct) := fun i _ => .inl (pAt_zeros 64 i)
theorem Opened.mem {T T1 : TV} {id ct : Int} {f : FV} (h : Opened T id ct f T1) : f ∈ T1.fs ∧ f.id = id := by
  rcases h with ⟨h1, rfl⟩ | ⟨_, _, h1, rfl⟩ | ⟨_, _, _, h1, rfl⟩
  · exact getF_mem h1
  · exact ⟨(insF_mem _ _ _).2 (.inl rfl), by rw [h1]; rfl⟩
  · exact ⟨(insF_mem _ _ _).2 (.inl rfl), by rw [h1]; rfl⟩
theorem Opened.good {T T1 : TV} {id ct : Int} {f : FV} (h : Opened T id ct f T1) (hG : GoodT T) : GoodT T1 := by
  rcases h with ⟨_, rfl⟩ | ⟨_, _, h1, rfl⟩ | ⟨_, _, _, h1, rfl⟩
  · exact hG
  · intro y hy
    rcases (insF_mem _ _ _).1 hy with rfl | hy
    · rw [h1]; exact good_new _ _ _
    · exact hG y hy
  · intro y hy
    rcases (insF_mem _ _ _).1 hy with rfl | hy
    · rw [h1]; exact good_new _ _ _
    · exact hG y (List.mem_filter.1 hy).1
theorem refS_zero {T : TV} {id ix ct : Int} {n : Nat} (h : refS T id ix ct n = 0) : rgt id ix ct n = true ∧ ¬ id < T.fl ∧ (∀ f, getF T.fs id = some f → (f.ct : Int) = ct ∧ cameB f.ps ix.toNat = false) ∧ (getF T.fs id = none → 4 ≤ T.fs.length → (ids T).headD 0 ≤ id) := by
  unfold refS at h
  cases hr : rgt id ix ct n with
  | false => rw [hr] at h; simp at h
  | true =>
    rw [hr, if_neg (by simp)] at h
    by_cases hl : id < T.fl
    · rw [if_pos hl] at h; cases h
    · rw [if_neg hl] at h
      refine ⟨rfl, hl, fun f hf => ?_, fun hf h4 => ?_⟩
      · rw [hf] at h
        simp only at h
        by_cases hc : (f.ct : Int) = ct
        · rw [if_neg (by simpa using hc)] at h
          cases hb : cameB f.ps ix.toNat with
          | false => exact ⟨hc, rfl⟩
          | true => rw [if_pos hb] at h; cases h
        · rw [if_pos hc] at h; cases h
      · rw [hf] at h
        simp only at h
        by_cases hx : id < (ids T).headD 0
        · rw [if_pos ⟨h4, hx⟩] at h; cases h
        · omega
theorem Opened.frame {T T1 : TV} {id ix ct : Int} {n : Nat} {f : FV} (h : Opened T id ct f T1) (h0 : refS T id ix ct n = 0) : (f.ct : Int) = ct ∧ cameB f.ps ix.toNat = false := by
  obtain ⟨hr, _, hs, _⟩ := refS_zero h0
  obtain ⟨_, _, c1, _⟩ := rgt_yes hr
  have hn : ∀ g, ((newF id g ct).ct : Int) = ct ∧ cameB (newF id g ct).ps ix.toNat = false := fun g => ⟨by simp only [newF]; omega, by unfold cameB; show (!((pAt (List.replicate 64 pNil) ix.toNat).ct == 0)) = false; rw [pAt_zeros]; rfl⟩
  rcases h with ⟨h1, rfl⟩ | ⟨_, _, h1, rfl⟩ | ⟨_, _, _, h1, rfl⟩
  · exact hs f h1
  · rw [h1]; exact hn _
  · rw [h1]; exact hn _

theorem frameOf_any {w : World} {base t : Nat} {T : TV} (h : TabAt w base t T) (id ix ct : Int) (A : Option Addr) (n c : Nat) (h0 : refS T id ix ct n = 0) (hbw : base ≤ w.heap.size) :
    Calls Try.prog 19 #[.pointer (some ⟨t, 0, none⟩), PV id ix ct A n c] w fun e w' => ∃ f T1, e = .returned (.pointer (some ⟨f.g, 0, none⟩)) ∧ Opened T id ct f T1 ∧ (f ∈ T.fs ∨ w.heap.size ≤ f.g) ∧ TabAt w' base t T1 ∧ Below base w w' ∧ Kept t w w' := by
  obtain ⟨hr, _, _, hx⟩ := refS_zero h0
  obtain ⟨i0, i1, c1, c2, _, _, _⟩ := rgt_yes hr
  cases hf : getF T.fs id with
  | some f => exact (frameOf_some h id ix ct A n c (by omega) (by omega) f hf).mono (by rintro e w' ⟨rfl, hb⟩; exact ⟨f, T, rfl, .inl ⟨hf, rfl⟩, .inl (getF_mem hf).1, h.keep hb, hb.mono hbw, Kept.below hb⟩)
  | none =>
    by_cases h4 : 4 ≤ T.fs.length
    · exact (frameOf_full h id ix ct A n c (by omega) (by omega) c1 c2 hf h4 (hx hf h4) hbw).mono (by rintro e w' ⟨g, rfl, hgl, hT, hb, hk⟩; exact ⟨newF id g ct, _, rfl, .inr (.inr ⟨hf, h4, hx hf h4, rfl, rfl⟩), .inr hgl, hT, hb, hk⟩)
    · exact (frameOf_new h id ix ct A n c (by omega) (by omega) c1 c2 hf h4 hbw).mono (by rintro e w' ⟨g, rfl, hgl, hT, hb, hk⟩; exact ⟨newF id g ct, _, rfl, .inr (.inl ⟨hf, h4, rfl, rfl⟩), .inr hgl, hT, hb, hk⟩)

/-- A part laid at its place. -/
def laidF (f : FV) (k : Nat) (p : Prt) : FV := ⟨f.id, f.g, f.ct, f.ps.set k p⟩
def laid (T : TV) (f : FV) (k : Nat) (p : Prt) : TV := ⟨T.fl, T.fs.map fun y => if y.g = f.g then laidF y k p else y⟩
theorem PO.set {w : World} {B : Nat} {v : Value} {p : Prt} (hv : w.ownsRow B 5 1 v p.d.length (B8 p.d)) : ∀ {cs : List Value} {ps : List Prt}, PO w B cs ps → ∀ k, k < ps.length →
    PO w B ((((cs.set (k * 4) (.int .u64 p.id)).set (k * 4 + 1) (.int .i64 p.ix)).set (k * 4 + 2) (.int .i64 p.ct)).set (k * 4 + 3) v) (ps.set k p)
  | [], [], _, _, hk => absurd hk (by simp)
  | [], _ :: _, h, _, _ => h.elim
  | [_], [], h, _, _ => h.elim
  | [_], _ :: _, h, _, _ => h.elim
  | [_, _], [], h, _, _ => h.elim
  | [_, _], _ :: _, h, _, _ => h.elim
  | [_, _, _], [], h, _, _ => h.elim
  | [_, _, _], _ :: _, h, _, _ => h.elim
  | _ :: _ :: _ :: _ :: _, [], h, _, _ => h.elim
  | _ :: _ :: _ :: _ :: _, _ :: _, ⟨_, _, _, _, h5⟩, 0, _ => ⟨rfl, rfl, rfl, hv, h5⟩
  | _ :: _ :: _ :: _ :: _, _ :: _, ⟨h1, h2, h3, h4, h5⟩, k + 1, hk => by
    have := PO.set hv h5 k (by simpa using hk)
    have e1 : (k + 1) * 4 = k * 4 + 1 + 1 + 1 + 1 := by omega
    simp only [e1, List.set_cons_succ]
    exact ⟨h1, h2, h3, h4, this⟩

end Go.Proofs.Ytikijkhblfgbpaa
