/-
  Kept here: a Put of the document's Table by plain reckoning; it does what the program's does.
-/
import Derived.Test.YtikijkhblfgbpaaKc
namespace Go.Proofs.Ytikijkhblfgbpaa
open Go.RowKit Go.Maps Go.Sort

structure DR where
  fl : Int
  L : List Prt
  b : Bool
  E : Int
  d : List Int
def roomD (fl : Int) (L : List Prt) (p : Prt) : Int × List Prt := if (partsD L p.id).length = 0 ∧ (waitsD L).length = 4 then ((waitsD L).headD 0 + 1, raiseD ((waitsD L).headD 0 + 1) L) else (fl, L)
def laterD (fl : Int) (L : List Prt) (p : Prt) : List Prt := (roomD fl L p).2 ++ [p]
noncomputable def putD (fl : Int) (L : List Prt) (p : Prt) : DR :=
  if ¬ eD fl L p = 0 then ⟨fl, L, false, eD fl L p, []⟩
  else if ((partsD (laterD fl L p) p.id).length : Int) < p.ct then ⟨(roomD fl L p).1, laterD fl L p, false, 0, []⟩
  else ⟨p.id + 1, raiseD (p.id + 1) (laterD fl L p), true, (joinS (partsD (laterD fl L p) p.id)).2, (joinS (partsD (laterD fl L p) p.id)).1⟩

theorem Ties.raise {T : TV} {L : List Prt} {x : Int → Prop} (h : Ties T L x) (hG : GoodT T) (fl : Int) : Ties ⟨fl, T.fs.filter fun f => decide (fl ≤ f.id)⟩ (raiseD fl L) x := by
  refine ⟨fun p hp => ?_, fun f hf i hi hc => ?_, fun f hf hx => h.any1 f (List.mem_filter.1 hf).1 hx, h.apart.filter _, ?_⟩
  · obtain ⟨hp, hl⟩ := List.mem_filter.1 hp
    obtain ⟨f, hf, he, hr⟩ := h.one p hp
    have hl' : fl ≤ p.id := of_decide_eq_true hl
    exact ⟨f, List.mem_filter.2 ⟨hf, decide_eq_true (by omega)⟩, he, hr⟩
  · obtain ⟨hf, hl⟩ := List.mem_filter.1 hf
    have hl' : fl ≤ f.id := of_decide_eq_true hl
    refine List.mem_filter.2 ⟨h.all f hf i hi hc, decide_eq_true ?_⟩
    rw [((hG f hf).came hi hc).2.1]; exact hl'
  · exact (List.filter_sublist.map FV.id).nodup h.idn
theorem came_new (id : Int) (g : Nat) (ct : Int) (i : Nat) : cameB (newF id g ct).ps i = false := by
  unfold cameB
  show (!((pAt (List.replicate 64 pNil) i).ct == 0)) = false
  rw [pAt_zeros]; rfl
theorem Ties.open {T : TV} {L : List Prt} (h : Tied T L) (id : Int) (g : Nat) (ct : Int) (hg : getF T.fs id = none) : Ties ⟨T.fl, insF (newF id g ct) T.fs⟩ L fun y => y = id := by
  refine ⟨fun p hp => ?_, fun f hf i hi hc => ?_, fun f hf hx => ?_, h.apart, ?_⟩
  · obtain ⟨f, hf, hr⟩ := h.one p hp
    exact ⟨f, (insF_mem _ _ _).2 (.inr hf), hr⟩
  · rcases (insF_mem _ _ _).1 hf with rfl | hf
    · rw [came_new] at hc; cases hc
    · exact h.all f hf i hi hc
  · rcases (insF_mem _ _ _).1 hf with rfl | hf
    · exact absurd rfl hx
    · exact h.any1 f hf (fun h => h)
  · refine ((insF_perm (newF id g ct) T.fs).map FV.id).nodup_iff.2 ?_
    rw [List.map_cons, List.nodup_cons]
    refine ⟨fun hm => ?_, h.idn⟩
    obtain ⟨f, hf, he⟩ := List.mem_map.1 hm
    exact getF_none hg f hf he
theorem Ties.lay {T1 : TV} {L : List Prt} {p : Prt} {f : FV} {k : Nat} (h : Ties T1 L fun y => y = p.id) (hf : f ∈ T1.fs) (hfi : f.id = p.id) (h64 : f.ps.length = 64) (hk : k < 64) (hpk : p.ix = k) (hc0 : cameB f.ps k = false) (hct : 1 ≤ p.ct) (hN : (T1.fs.map FV.g).Nodup) :
    Tied (laid T1 f k p) (L ++ [p]) := by
  have hset : ∀ i, pAt (f.ps.set k p) i = if i = k then p else pAt f.ps i := fun i => pAt_set (by omega)
  have hcp : cameB (f.ps.set k p) k = true := by unfold cameB; rw [hset, if_pos rfl]; have : (p.ct == 0) = false := by simp; omega
                                                 simp [this]
  have hcs : ∀ i, i ≠ k → cameB (f.ps.set k p) i = cameB f.ps i := fun i hi => by unfold cameB; rw [hset, if_neg hi]
  have hmem : laidF f k p ∈ (laid T1 f k p).fs := List.mem_map.2 ⟨f, hf, by rw [if_pos rfl]⟩
  have hoth : ∀ y ∈ T1.fs, y ≠ f → y ∈ (laid T1 f k p).fs := fun y hy hne => List.mem_map.2 ⟨y, hy, by rw [if_neg (fun e => hne (nodup_inj hN hy hf e))]⟩
  have hinv : ∀ y ∈ (laid T1 f k p).fs, y = laidF f k p ∨ (y ∈ T1.fs ∧ y ≠ f) := fun y hy => by
    obtain ⟨z, hz, rfl⟩ := List.mem_map.1 hy
    by_cases e : z.g = f.g
    · rw [if_pos e, nodup_inj hN hz hf e]; exact .inl rfl
    · rw [if_neg e]; exact .inr ⟨hz, fun e' => e (by rw [e'])⟩
  refine ⟨fun q hq => ?_, fun y hy i hi hc => ?_, fun y hy _ => ?_, ?_, ?_⟩
  · rcases List.mem_append.1 hq with hq | hq
    · obtain ⟨y, hy, he, i, hi, hix, hci, hpi⟩ := h.one q hq
      by_cases e : y = f
      · subst e
        have hik : i ≠ k := fun e => by rw [e, hc0] at hci; cases hci
        exact ⟨_, hmem, he, i, hi, hix, by show cameB (y.ps.set k p) i = true; rw [hcs i hik, hci], by show pAt (y.ps.set k p) i = q; rw [hset, if_neg hik, hpi]⟩
      · exact ⟨y, hoth y hy e, he, i, hi, hix, hci, hpi⟩
    · obtain rfl : q = p := by simpa using hq
      exact ⟨_, hmem, hfi.symm, k, hk, hpk, hcp, by show pAt (f.ps.set k q) k = q; rw [hset, if_pos rfl]⟩
  · rcases hinv y hy with rfl | ⟨hy, hne⟩
    · show pAt (f.ps.set k p) i ∈ _
      rw [hset]
      by_cases e : i = k
      · rw [if_pos e]; simp
      · rw [if_neg e]
        refine List.mem_append.2 (.inl (h.all f hf i hi ?_))
        rw [← hcs i e]; exact hc
    · exact List.mem_append.2 (.inl (h.all y hy i hi hc))
  · rcases hinv y hy with rfl | ⟨hy, hne⟩
    · exact ⟨k, hk, hcp⟩
    · refine h.any1 y hy (fun e => hne (nodup_inj h.idn hy hf ?_))
      rw [hfi]; exact e
  · refine List.pairwise_append.2 ⟨h.apart, by simp, fun a ha b hb => ?_⟩
    obtain rfl : b = p := by simpa using hb
    rintro ⟨e1, e2⟩
    obtain ⟨y, hy, he, i, hi, hix, hci, _⟩ := h.one a ha
    obtain rfl : y = f := nodup_inj h.idn hy hf (by rw [← he, e1, hfi])
    have : i = k := by omega
    rw [this, hc0] at hci; cases hci
  · have : (laid T1 f k p).fs.map FV.id = T1.fs.map FV.id := by
      unfold Go.Proofs.Ytikijkhblfgbpaa.laid
      rw [List.map_map]
      apply List.map_congr_left
      intro y _
      by_cases e : y.g = f.g <;> simp [laidF, e]
    rw [this]; exact h.idn
theorem getF_some {fs : List FV} {f : FV} (hf : f ∈ fs) (hN : (fs.map FV.id).Nodup) : getF fs f.id = some f := by
  cases hg : getF fs f.id with
  | none => exact absurd rfl (getF_none hg f hf)
  | some g => rw [getF_uniq hN hg hf rfl]

theorem joinS_whole {f : FV} (hG : Good f) (h64 : f.ps.length = 64) (hc0 : 1 ≤ f.ct) (hc1 : f.ct ≤ 64) (hm : missS f.ps f.ct = 0) : joinS (f.ps.take f.ct) = (cat (f.ps.take f.ct), 0) := by
  have hl : (f.ps.take f.ct).length = f.ct := by simp; omega
  have hok : ∀ i, i < f.ct → (pAt (f.ps.take f.ct) i).ok = true ∧ (pAt (f.ps.take f.ct) i).id = f.id ∧ (pAt (f.ps.take f.ct) i).ct = f.ct ∧ (pAt (f.ps.take f.ct) i).ix = i := fun i hi => by
    rw [pAt_take hi]; exact hG.came (by omega) (miss_zero hm i hi)
  exact joinS_ok (by omega) (fun i hi => by
    rw [hl] at hi
    obtain ⟨h1, h2, h3, h4⟩ := hok i hi
    obtain ⟨_, g2, _, _⟩ := hok 0 (by omega)
    exact ⟨h1, by rw [h2, g2], by rw [h3, hl], h4⟩)

theorem put_same {T T' : TV} {L : List Prt} {p : Prt} {b : Bool} {E : Int} {d : List Int} (h : Tied T L) (hG : GoodT T) (h64 : ∀ y ∈ T.fs, y.ps.length = 64) (hct : ∀ f ∈ T.fs, f.ct ≤ 64) (hs : (ids T).Pairwise (· < ·)) (hfew : T.fs.length ≤ 4) (hP : PutS T p T' b E d) :
    (putD T.fl L p).fl = T'.fl ∧ Tied T' (putD T.fl L p).L ∧ (putD T.fl L p).b = b ∧ (putD T.fl L p).E = E ∧ (putD T.fl L p).d = d := by
  have hR := h.refuse hG hct hs hfew p
  have hil : (ids T).length = T.fs.length := by simp [ids]
  rcases hP with ⟨h0, rfl, rfl, rfl, rfl⟩ | ⟨h0, rfl, f, T1, k, hk, hO, hN, hor⟩
  · unfold putD
    rw [if_pos (by rw [hR]; exact h0), hR]
    exact ⟨rfl, h, rfl, rfl, rfl⟩
  · obtain ⟨hr, _, _, _⟩ := refS_zero h0
    obtain ⟨i0, i1, c1, c2, k0, k1, _⟩ := rgt_yes hr
    have key : (roomD T.fl L p).1 = T1.fl ∧ Ties T1 (roomD T.fl L p).2 (fun y => y = p.id) := by
      unfold roomD
      rw [h.waits hG hs, hil]
      rcases hO with ⟨hg, rfl⟩ | ⟨hg, h4, hf, rfl⟩ | ⟨hg, h4, hle, hf, rfl⟩
      · obtain ⟨hfm, _⟩ := getF_mem hg
        obtain ⟨i, hi, hc⟩ := h.any1 f hfm (fun h => h)
        have hne : ¬ (partsD L p.id).length = 0 := by
          rw [h.parts_some hG hg]
          exact fun e => (List.ne_nil_of_mem ((camL_mem f.ps 64 _).2 ⟨i, hi, hc, rfl⟩)) (List.eq_nil_of_length_eq_zero e)
        rw [if_neg (fun e => hne e.1)]
        exact ⟨rfl, h.one, h.all, fun y hy _ => h.any1 y hy (fun h => h), h.apart, h.idn⟩
      · rw [if_neg (fun e => h4 (by omega)), hf]
        exact ⟨rfl, h.open p.id f.g p.ct hg⟩
      · rw [if_pos ⟨by rw [h.parts_none hG hg]; rfl, by omega⟩]
        refine ⟨rfl, ?_⟩
        have h2 : Tied ⟨(ids T).headD 0 + 1, T.fs.filter fun f => decide ((ids T).headD 0 + 1 ≤ f.id)⟩ (raiseD ((ids T).headD 0 + 1) L) := h.raise hG _
        have h3 := h2.open p.id f.g p.ct (getF_filter hg)
        rw [← hf] at h3
        exact h3
    obtain ⟨hfl, hT1⟩ := key
    have hGL := (hO.good hG f hO.mem.1).laid (hO.n64 h64) (show k < 64 by omega) ⟨hr, hO.mem.2.symm, ((hO.frame h0).1).symm, hk⟩
    have hG2 : GoodT (laid T1 f k p) := (hO.good hG).laid hO.mem.1 hN hGL
    have hc0 := (hO.frame h0).2
    rw [hk] at hc0
    have hT2 : Tied (laid T1 f k p) (laterD T.fl L p) := hT1.lay hO.mem.1 hO.mem.2 (hO.n64 h64) (by omega) hk hc0 c1 hN
    have hmem : laidF f k p ∈ (laid T1 f k p).fs := List.mem_map.2 ⟨f, hO.mem.1, by rw [if_pos rfl]⟩
    have hg2 : getF (laid T1 f k p).fs p.id = some (laidF f k p) := by
      have := getF_some hmem hT2.idn
      rwa [show (laidF f k p).id = p.id from hO.mem.2] at this
    have hfct := (hO.frame h0).1
    have hlct : (laidF f k p).ct = f.ct := rfl
    have hmiss := hGL.miss (by rw [hlct]; omega)
    rw [hlct] at hmiss
    have hparts := hT2.parts_some hG2 hg2
    have h64' : (laidF f k p).ps.length = 64 := by show (f.ps.set k p).length = 64; rw [List.length_set]; exact hO.n64 h64
    have hE : eD T.fl L p = 0 := by rw [hR]; exact h0
    have hcam : missS (laidF f k p).ps f.ct = 0 → camL (laidF f k p).ps 64 = (laidF f k p).ps.take f.ct := fun hz => by
      rw [camL_more (n := f.ct) (fun i h1 h2 => by
        cases hc : cameB (laidF f k p).ps i with
        | false => rfl
        | true => have := hGL.in_ct h2 hc; rw [hlct] at this; omega) (by omega) (Nat.le_refl _)]
      exact camL_all (by omega) (Nat.le_refl _) (miss_zero hz)
    obtain ⟨l2, hl2⟩ : ∃ l2, camL (laidF f k p).ps 64 = l2 := ⟨_, rfl⟩
    rw [hl2] at hmiss hcam hparts
    clear hl2
    have hyes : 0 < missS (laidF f k p).ps f.ct → (l2.length : Int) < p.ct := by
      generalize missS (laidF f k p).ps f.ct = m at hmiss
      rw [← hfct]
      intro hp
      omega
    have hno : missS (laidF f k p).ps f.ct = 0 → ¬ (l2.length : Int) < p.ct := by
      generalize missS (laidF f k p).ps f.ct = m at hmiss
      rw [← hfct]
      intro hp
      omega
    have hPD : putD T.fl L p = if (l2.length : Int) < p.ct then ⟨T1.fl, laterD T.fl L p, false, 0, []⟩ else ⟨p.id + 1, raiseD (p.id + 1) (laterD T.fl L p), true, (joinS l2).2, (joinS l2).1⟩ := by
      unfold putD
      rw [if_neg (show ¬ ¬ eD T.fl L p = 0 from fun e => e hE), hparts, hfl]
    rw [hPD]
    clear hPD
    generalize laterD T.fl L p = L2 at hT2
    rcases hor with ⟨hp, rfl, rfl, rfl⟩ | ⟨hz, rfl, rfl, rfl⟩
    · rw [if_pos (hyes hp)]
      exact ⟨rfl, hT2, rfl, rfl, rfl⟩
    · have hj := joinS_whole hGL h64' (by rw [hlct]; omega) (by rw [hlct]; omega) hz
      rw [hlct] at hj
      rw [if_neg (hno hz), hcam hz, hj]
      exact ⟨rfl, hT2.raise hG2 _, rfl, rfl, rfl⟩
end Go.Proofs.Ytikijkhblfgbpaa
