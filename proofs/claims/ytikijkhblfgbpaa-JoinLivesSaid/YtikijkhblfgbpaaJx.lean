/-
  Kept here: what a Put of join answers, and what Table it leaves. Proved: Put does just that, whatever the part.
-/
import Derived.Test.YtikijkhblfgbpaaJw
import Derived.Test.YtikijkhblfgbpaaOpP
namespace Go.Proofs.Ytikijkhblfgbpaa
open Go.RowKit Go.Maps Go.Sort

def PutS (T : TV) (p : Prt) (T' : TV) (b : Bool) (E : Int) (d : List Int) : Prop :=
  (¬ refS T p.id p.ix p.ct p.d.length = 0 ∧ E = refS T p.id p.ix p.ct p.d.length ∧ T' = T ∧ b = false ∧ d = []) ∨
  (refS T p.id p.ix p.ct p.d.length = 0 ∧ E = 0 ∧ ∃ (f : FV) (T1 : TV) (k : Nat), p.ix = k ∧ Opened T p.id p.ct f T1 ∧ (T1.fs.map FV.g).Nodup ∧
    ((0 < missS (laidF f k p).ps f.ct ∧ T' = laid T1 f k p ∧ b = false ∧ d = []) ∨
     (missS (laidF f k p).ps f.ct = 0 ∧ T' = ⟨p.id + 1, (laid T1 f k p).fs.filter fun y => decide (p.id + 1 ≤ y.id)⟩ ∧ b = true ∧ d = cat ((laidF f k p).ps.take f.ct))))

theorem Opened.n64 {T T1 : TV} {id ct : Int} {f : FV} (h : Opened T id ct f T1) (hn : ∀ y ∈ T.fs, y.ps.length = 64) : f.ps.length = 64 := by
  rcases h with ⟨h1, _⟩ | ⟨_, _, h1, _⟩ | ⟨_, _, _, h1, _⟩
  · exact hn f (getF_mem h1).1
  · rw [h1]; show (List.replicate 64 pNil).length = 64; rw [List.length_replicate]
  · rw [h1]; show (List.replicate 64 pNil).length = 64; rw [List.length_replicate]
theorem nodup_inj {α β : Type} {g : α → β} {l : List α} (h : (l.map g).Nodup) {a b : α} (ha : a ∈ l) (hb : b ∈ l) (he : g a = g b) : a = b := by
  induction l with
  | nil => simp at ha
  | cons x r ih =>
    rw [List.map_cons, List.nodup_cons] at h
    rcases List.mem_cons.1 ha with rfl | ha'
    · rcases List.mem_cons.1 hb with rfl | hb'
      · rfl
      · exact absurd (List.mem_map.2 ⟨b, hb', he.symm⟩) h.1
    · rcases List.mem_cons.1 hb with rfl | hb'
      · exact absurd (List.mem_map.2 ⟨a, ha', he⟩) h.1
      · exact ih h.2 ha' hb'
theorem GoodT.laid {T1 : TV} {f : FV} {k : Nat} {p : Prt} (hG : GoodT T1) (hf : f ∈ T1.fs) (hN : (T1.fs.map FV.g).Nodup) (h : Good (laidF f k p)) : GoodT (laid T1 f k p) := fun y hy => by
  obtain ⟨z, hz, rfl⟩ := List.mem_map.1 hy
  by_cases e : z.g = f.g
  · rw [if_pos e, nodup_inj hN hz hf e]; exact h
  · rw [if_neg e]; exact hG z hz

theorem PutS.good {T T' : TV} {p : Prt} {b : Bool} {E : Int} {d : List Int} (h : PutS T p T' b E d) (hG : GoodT T) (hn : ∀ y ∈ T.fs, y.ps.length = 64) : GoodT T' := by
  rcases h with ⟨_, _, rfl, _⟩ | ⟨h0, _, f, T1, k, hk, hO, hN, hor⟩
  · exact hG
  · obtain ⟨hr, _, _, _⟩ := refS_zero h0
    obtain ⟨i0, i1, c1, c2, k0, k1, _⟩ := rgt_yes hr
    have hL : GoodT (Go.Proofs.Ytikijkhblfgbpaa.laid T1 f k p) := (hO.good hG).laid hO.mem.1 hN ((hO.good hG f hO.mem.1).laid (hO.n64 hn) (by omega) ⟨hr, hO.mem.2.symm, ((hO.frame h0).1).symm, hk⟩)
    rcases hor with ⟨_, rfl, _⟩ | ⟨_, rfl, _⟩
    · exact hL
    · exact fun y hy => hL y (List.mem_filter.1 hy).1

/-- All rows of cells stand as they did, but for those of Tables and of their frames. -/
def Stays (w w' : World) : Prop := ∀ (k : Nat) (c : Array Value) (ty : TypeId) (fr : Nat × Nat), w.heap[k]? = some (.cells c ty fr) → ty ≠ 47 → ty ≠ 59 → w'.heap[k]? = some (.cells c ty fr)
theorem Stays.below {w w' : World} (hb : Below w.heap.size w w') : Stays w w' := fun k _ _ _ hk _ _ => (hb.block k (Array.getElem?_eq_some_iff.1 hk).1).trans hk
theorem Stays.trans {a b c : World} (h : Stays a b) (h' : Stays b c) : Stays a c := fun k x ty fr hk h1 h2 => h' k x ty fr (h k x ty fr hk h1 h2) h1 h2
theorem RowsBut.stays {w w' : World} {base t : Nat} {T : TV} {f : FV} (h : RowsBut t f.g w w') (hT : TabAt w base t T) (hf : f ∈ T.fs ∨ w.heap.size ≤ f.g) : Stays w w' := fun k c ty fr hk h1 h2 => by
  refine h k c ty fr hk (fun e => ?_) (fun e => ?_)
  · obtain ⟨b, _, ht, _⟩ := hT.map
    rw [e, ht] at hk
    injection hk with hk
    injection hk with _ e2
    exact h1 e2.symm
  · rcases hf with hf | hf
    · obtain ⟨C, hC, _⟩ := (hT.frames f hf).row
      rw [e, hC] at hk
      injection hk with hk
      injection hk with _ e2
      exact h2 e2.symm
    · have := (Array.getElem?_eq_some_iff.1 hk).1
      omega

theorem put_any {w : World} {base t : Nat} {T : TV} (h : TabAt w base t T) (hG : GoodT T) (p : Prt) (hO : POk1 p) (A : Option Addr) (n c : Nat) (hn : p.d.length = n) (hm : n ≤ 600) (hA : A = none → c = 0) (hR : RB w w.heap.size A p.d) (hbw : base ≤ w.heap.size) :
    Calls Try.prog 9 #[.pointer (some ⟨t, 0, none⟩), PV p.id p.ix p.ct A n c] w fun e w' => ∃ T' v b E d, e = .returned (.tuple #[v, .bool b, .int .i64 E]) ∧ PutS T p T' b E d ∧ TabAt w' base t T' ∧ GoodT T' ∧ Below base w w' ∧ Stays w w' ∧ w'.ownsRow base 5 1 v d.length (B8 d) := by
  have h64 : ∀ y ∈ T.fs, y.ps.length = 64 := fun y hy => (h.frames y hy).n64
  obtain ⟨⟨i0, i1⟩, ⟨c0, c1⟩, _⟩ := hO
  by_cases h0 : refS T p.id p.ix p.ct n = 0
  · obtain ⟨hr, _, _, _⟩ := refS_zero h0
    obtain ⟨_, _, _, _, k0, k1, _⟩ := rgt_yes hr
    obtain ⟨k, hk⟩ : ∃ k : Nat, p.ix = k := ⟨p.ix.toNat, by omega⟩
    have h0' := h0
    rw [hk] at h0 ⊢
    refine (put_good h hG p k hk A n c hn hA hR h0 hbw).mono ?_
    rintro e w' ⟨f, T1, hOp, hN, hf, hr, hb, ⟨h1, rfl, hT⟩ | ⟨h1, v, rfl, hv, hT⟩⟩
    · have hP : PutS T p (laid T1 f k p) false 0 [] := .inr ⟨by rw [hn]; exact h0', rfl, f, T1, k, hk, hOp, hN, .inl ⟨h1, rfl, rfl, rfl⟩⟩
      exact ⟨_, _, _, _, _, rfl, hP, hT, hP.good hG h64, hb, hr.stays h hf, World.ownsRow_nil _ _ _ _⟩
    · have hP : PutS T p ⟨p.id + 1, (laid T1 f k p).fs.filter fun y => decide (p.id + 1 ≤ y.id)⟩ true 0 (cat ((laidF f k p).ps.take f.ct)) := .inr ⟨by rw [hn]; exact h0', rfl, f, T1, k, hk, hOp, hN, .inr ⟨h1, rfl, rfl, rfl⟩⟩
      exact ⟨_, _, _, _, _, rfl, hP, hT, hP.good hG h64, hb, hr.stays h hf, hv⟩
  · refine (put_bad (some ⟨t, 0, none⟩) p.id p.ix p.ct A n c _ h0 w (fun W hb _ => refusal_any (h.keep hb) p.id p.ix p.ct A n c i0 i1 c0 c1 (by unfold maxLen; omega))).mono ?_
    rintro e w' ⟨rfl, hb⟩
    have hP : PutS T p T false (refS T p.id p.ix p.ct n) [] := .inl ⟨by rw [hn]; exact h0, by rw [hn], rfl, rfl, rfl⟩
    exact ⟨T, _, _, _, _, rfl, hP, h.keep hb, hG, hb.mono hbw, Stays.below hb, World.ownsRow_nil _ _ _ _⟩

/-- No frame is old. -/
def Old (T : TV) : Prop := ∀ f ∈ T.fs, T.fl ≤ f.id
theorem head_le {l : List Int} (h : l.Pairwise (· < ·)) : ∀ x ∈ l, l.headD 0 ≤ x := fun x hx => by
  cases l with
  | nil => simp at hx
  | cons a r =>
    rcases List.mem_cons.1 hx with rfl | hx
    · exact Int.le_refl _
    · exact Int.le_of_lt ((List.pairwise_cons.1 h).1 x hx)
theorem head_mem {T : TV} (h : 4 ≤ T.fs.length) : ∃ f ∈ T.fs, f.id = (ids T).headD 0 := by
  cases hf : T.fs with
  | nil => rw [hf] at h; simp at h
  | cons a r => exact ⟨a, by simp, by simp [ids, hf]⟩
theorem getF_none {fs : List FV} {id : Int} (h : getF fs id = none) : ∀ f ∈ fs, f.id ≠ id := fun f hf e => by
  have := List.find?_eq_none.1 h f hf
  simp [e] at this
theorem Opened.old {T T1 : TV} {id ct : Int} {f : FV} (h : Opened T id ct f T1) (hI : Old T) (hid : T.fl ≤ id) : Old T1 ∧ T.fl ≤ T1.fl := by
  rcases h with ⟨_, rfl⟩ | ⟨_, _, h1, rfl⟩ | ⟨hg, h4, hle, h1, rfl⟩
  · exact ⟨hI, Int.le_refl _⟩
  · refine ⟨fun y hy => ?_, Int.le_refl _⟩
    rcases (insF_mem _ _ _).1 hy with rfl | hy
    · rw [h1]; exact hid
    · exact hI y hy
  · obtain ⟨m, hm, hmi⟩ := head_mem h4
    have hne := getF_none hg m hm
    have hfl := hI m hm
    refine ⟨fun y hy => ?_, by show T.fl ≤ _ + 1; omega⟩
    show (ids T).headD 0 + 1 ≤ y.id
    rcases (insF_mem _ _ _).1 hy with rfl | hy
    · rw [h1]; show _ ≤ id; omega
    · exact of_decide_eq_true (List.mem_filter.1 hy).2
theorem PutS.bounds {T T' : TV} {p : Prt} {b : Bool} {E : Int} {d : List Int} (h : PutS T p T' b E d) (hI : Old T) : T.fl ≤ T'.fl ∧ Old T' ∧ (b = true → E = 0 ∧ T.fl ≤ p.id ∧ T'.fl = p.id + 1) := by
  rcases h with ⟨_, _, rfl, rfl, _⟩ | ⟨h0, rfl, f, T1, k, hk, hO, hN, hor⟩
  · exact ⟨Int.le_refl _, hI, fun h => by cases h⟩
  · obtain ⟨hr, hl, _, _⟩ := refS_zero h0
    obtain ⟨hI1, hfl⟩ := hO.old hI (by omega)
    rcases hor with ⟨_, rfl, rfl, _⟩ | ⟨_, rfl, rfl, _⟩
    · refine ⟨hfl, fun y hy => ?_, fun h => by cases h⟩
      obtain ⟨z, hz, rfl⟩ := List.mem_map.1 hy
      have := hI1 z hz
      show T1.fl ≤ _
      split <;> exact this
    · exact ⟨by show T.fl ≤ p.id + 1; omega, fun y hy => of_decide_eq_true (List.mem_filter.1 hy).2, fun _ => ⟨rfl, by omega, rfl⟩⟩
theorem PS.keepB {w w' : World} {B : Nat} {A : Option Addr} {ps : List Prt} (h : PS w B A ps) (hb : Below B w w') : PS w' B A ps := fun hp => by
  obtain ⟨b, off, e1, h2, h3⟩ := h hp
  refine ⟨b, off, e1, h2, fun i hi => ?_⟩
  obtain ⟨c0, c1, c2, A', c', c3, hr, hrest⟩ := h3 i hi
  exact ⟨(hb.cell (p := ⟨b, off + i * 4, none⟩) h2).trans c0, (hb.cell (p := ⟨b, off + i * 4 + 1, none⟩) h2).trans c1, (hb.cell (p := ⟨b, off + i * 4 + 2, none⟩) h2).trans c2, A', c', (hb.cell (p := ⟨b, off + i * 4 + 3, none⟩) h2).trans c3, hr.below hb, hrest⟩
theorem PS.more {w : World} {B B' : Nat} {A : Option Addr} {ps : List Prt} (h : PS w B A ps) (hB : B ≤ B') : PS w B' A ps := fun hp => by
  obtain ⟨b, off, e1, h2, h3⟩ := h hp
  refine ⟨b, off, e1, by omega, fun i hi => ?_⟩
  obtain ⟨c0, c1, c2, A', c', c3, hr, hrest⟩ := h3 i hi
  exact ⟨c0, c1, c2, A', c', c3, hr.keep' hB, hrest⟩
theorem floor_same {w : World} {base t : Nat} {T : TV} (h : TabAt w base t T) : Calls Try.prog 14 #[.pointer (some ⟨t, 0, none⟩)] w fun e w' => e = .returned (.int .u64 T.fl) ∧ w' = w := (floor_any h).mono (by rintro e w' ⟨rfl, h2⟩; exact ⟨rfl, h2.symm⟩)
end Go.Proofs.Ytikijkhblfgbpaa
