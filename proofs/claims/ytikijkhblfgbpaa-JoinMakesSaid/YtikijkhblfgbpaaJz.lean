/-
  Kept here: what a Table holds of a frame whose parts come, in whatever order (JoinMakes), by plain reckoning.
-/
import Derived.Test.YtikijkhblfgbpaaJx
namespace Go.Proofs.Ytikijkhblfgbpaa
open Go.RowKit Go.Maps Go.Sort

def cmA (cm : List Bool) (i : Nat) : Bool := cm.getD i false
/-- How many of the first k did not come. -/
def leftS (cm : List Bool) : Nat → Nat
  | 0 => 0
  | k + 1 => leftS cm k + (if cmA cm k then 0 else 1)
theorem leftS_le (cm : List Bool) : ∀ k, leftS cm k ≤ k
  | 0 => Nat.le_refl _
  | k + 1 => by have := leftS_le cm k; unfold leftS; split <;> omega
theorem cmA_set {cm : List Bool} {k i : Nat} (hk : k < cm.length) : cmA (cm.set k true) i = if i = k then true else cmA cm i := by
  unfold cmA
  rw [List.getD_eq_getElem?_getD, List.getD_eq_getElem?_getD, List.getElem?_set]
  by_cases h : k = i
  · subst h; simp [hk]
  · rw [if_neg h, if_neg (fun e => h e.symm)]
theorem leftS_same {cm : List Bool} {k : Nat} (hk : k < cm.length) : ∀ {n : Nat}, n ≤ k → leftS (cm.set k true) n = leftS cm n
  | 0, _ => rfl
  | n + 1, h => by
    have e : cmA (cm.set k true) n = cmA cm n := by rw [cmA_set hk, if_neg (by omega)]
    unfold leftS
    rw [leftS_same hk (by omega), e]
theorem leftS_set {cm : List Bool} {k : Nat} (hk : k < cm.length) (h0 : cmA cm k = false) : ∀ {n : Nat}, k < n → leftS (cm.set k true) n + 1 = leftS cm n
  | 0, h => absurd h (by omega)
  | n + 1, h => by
    unfold leftS
    rw [cmA_set hk]
    by_cases e : n = k
    · subst e
      rw [leftS_same hk (Nat.le_refl _), if_pos rfl, h0]; simp
    · rw [if_neg e]
      have := leftS_set hk h0 (show k < n by omega)
      omega
theorem leftS_zero {cm : List Bool} : ∀ {n : Nat}, leftS cm n = 0 ↔ ∀ i, i < n → cmA cm i = true
  | 0 => ⟨fun _ i h => absurd h (by omega), fun _ => rfl⟩
  | n + 1 => by
    unfold leftS
    constructor
    · intro h i hi
      rcases Nat.lt_or_ge i n with h' | h'
      · exact leftS_zero.1 (by omega) i h'
      · obtain rfl : i = n := by omega
        cases hc : cmA cm i with
        | true => rfl
        | false => rw [hc] at h; simp at h
    · intro h
      rw [h n (by omega), leftS_zero.2 (fun i hi => h i (by omega))]; rfl
theorem leftS_none {cm : List Bool} (h : ∀ i, i < 64 → cmA cm i = false) : ∀ {n : Nat}, n ≤ 64 → leftS cm n = n
  | 0, _ => rfl
  | n + 1, hn => by
    unfold leftS
    rw [leftS_none h (by omega), h n (by omega)]; rfl
theorem missS_cm {ps : List Prt} {cm : List Bool} : ∀ {n : Nat}, (∀ i, i < n → cameB ps i = cmA cm i) → missS ps n = leftS cm n
  | 0, _ => rfl
  | n + 1, h => by
    unfold missS leftS
    rw [missS_cm (fun i hi => h i (by omega)), h n (by omega)]

/-- The frame that is under way. -/
structure Under (id : Int) (bs : List Int) (K : Nat) (cm : List Bool) (f : FV) : Prop where
  id_eq : f.id = id
  ct_eq : f.ct = K
  n64 : f.ps.length = 64
  at_i : ∀ i, i < 64 → pAt f.ps i = if cmA cm i then partS id bs K i else pNil
def Held (id : Int) (bs : List Int) (K : Nat) (cm : List Bool) (T : TV) : Prop :=
  (leftS cm K = 0 ∧ T = ⟨id + 1, []⟩) ∨
  (0 < leftS cm K ∧ (((∀ i, i < 64 → cmA cm i = false) ∧ T = ⟨1, []⟩) ∨ ∃ f, T = ⟨1, [f]⟩ ∧ Under id bs K cm f))
theorem Under.new (id : Int) (bs : List Int) (K g : Nat) {cm : List Bool} (h : ∀ i, i < 64 → cmA cm i = false) : Under id bs K cm (newF id g K) :=
  ⟨rfl, by show (K : Int).toNat = K; omega, by show (List.replicate 64 pNil).length = 64; rw [List.length_replicate], fun i hi => by show pAt (List.replicate 64 pNil) i = _; rw [pAt_zeros, h i hi]; rfl⟩
theorem Under.laid {id : Int} {bs : List Int} {K : Nat} {cm : List Bool} {f : FV} (h : Under id bs K cm f) {k : Nat} (hk : k < 64) (hc : cm.length = 64) : Under id bs K (cm.set k true) (laidF f k (partS id bs K k)) :=
  ⟨h.id_eq, h.ct_eq, by show (f.ps.set k _).length = 64; rw [List.length_set, h.n64], fun i hi => by
    show pAt (f.ps.set k _) i = _
    rw [pAt_set (by rw [h.n64]; omega), cmA_set (by omega)]
    by_cases e : i = k
    · subst e; simp
    · rw [if_neg e, if_neg e]; exact h.at_i i hi⟩
theorem Under.came {id : Int} {bs : List Int} {K : Nat} {cm : List Bool} {f : FV} (h : Under id bs K cm f) (hK : 1 ≤ K) {i : Nat} (hi : i < 64) : cameB f.ps i = cmA cm i := by
  unfold cameB
  rw [h.at_i i hi]
  cases cmA cm i with
  | false => rfl
  | true =>
    have : ((partS id bs K i).ct == 0) = false := by show ((K : Int) == 0) = false; simp; omega
    simp [this]
theorem Under.miss {id : Int} {bs : List Int} {K : Nat} {cm : List Bool} {f : FV} (h : Under id bs K cm f) (hK : 1 ≤ K) (hK2 : K ≤ 64) : missS f.ps K = leftS cm K := missS_cm (fun i hi => h.came hK (by omega))
theorem pts_ext {a b : List Prt} (hl : a.length = b.length) (h : ∀ i, i < a.length → pAt a i = pAt b i) : a = b := by
  apply List.ext_getElem hl
  intro i h1 h2
  have := h i h1
  simpa [pAt, List.getD, h1, h2] using this
theorem Under.whole {id : Int} {bs : List Int} {K : Nat} {cm : List Bool} {f : FV} (h : Under id bs K cm f) (hK : K = cntS bs.length) (hK2 : K ≤ 64) (h0 : leftS cm K = 0) : cat (f.ps.take K) = bs := by
  have e : f.ps.take K = splitS id bs := pts_ext (by rw [List.length_take, h.n64, splitS_length]; omega) (fun i hi => by
    have hiK : i < K := by rw [List.length_take] at hi; omega
    rw [pAt_take hiK, h.at_i i (by omega), leftS_zero.1 h0 i hiK, splitS_at (by omega), if_pos rfl, hK])
  have hc := cat_split id bs (cntS bs.length) (Nat.le_refl _)
  rw [List.take_of_length_le (by rw [splitS_length]; exact Nat.le_refl _), List.take_of_length_le (by have := cntS_all bs.length; omega)] at hc
  rw [e, hc]

theorem part_rgt {id : Int} {bs : List Int} {K k : Nat} (h0 : 1 ≤ id) (h1 : id ≤ 4611686018427387903) (hn : bs.length ≤ 24000) (hK : K = cntS bs.length) (hk : k < K) : rgt id k K (partS id bs K k).d.length = true := by
  subst hK
  rw [partS_length hk]
  exact part_right h0 h1 hn hk

theorem put_old {id : Int} {bs : List Int} {K k : Nat} {cm : List Bool} {T T' : TV} {b : Bool} {E : Int} {d : List Int} (h0 : 1 ≤ id) (h1 : id ≤ 4611686018427387903) (hn : bs.length ≤ 24000) (hK : K = cntS bs.length) (hK2 : K ≤ 64) (hk : k < K)
    (hH : Held id bs K cm T) (hl : 0 < leftS cm K) (hc : cmA cm k = true) (h : PutS T (partS id bs K k) T' b E d) : b = false ∧ E = 7 ∧ T' = T := by
  have hr := part_rgt h0 h1 hn hK hk
  rcases hH with ⟨h', _⟩ | ⟨_, ⟨hz, _⟩ | ⟨f, rfl, hU⟩⟩
  · omega
  · rw [hz k (by omega)] at hc; cases hc
  · have hg : getF [f] id = some f := by simp [getF, hU.id_eq]
    have hf : refS ⟨1, [f]⟩ (partS id bs K k).id (partS id bs K k).ix (partS id bs K k).ct (partS id bs K k).d.length = 7 := by
      show refS ⟨1, [f]⟩ id (k : Int) (K : Int) (partS id bs K k).d.length = 7
      have h5 := hU.came (by omega) (show k < 64 by omega)
      have h6 := hU.ct_eq
      unfold refS
      rw [hr]
      simp only [Int.toNat_natCast]
      rw [if_neg (by simp), if_neg (by omega), hg]
      simp [h6, h5, hc]
    rcases h with ⟨_, rfl, rfl, rfl, _⟩ | ⟨h, _⟩
    · exact ⟨rfl, hf, rfl⟩
    · rw [hf] at h; cases h

theorem put_new {id : Int} {bs : List Int} {K k : Nat} {cm : List Bool} {T T' : TV} {b : Bool} {E : Int} {d : List Int} (h0 : 1 ≤ id) (h1 : id ≤ 4611686018427387903) (hn : bs.length ≤ 24000) (hK : K = cntS bs.length) (hK2 : K ≤ 64) (hk : k < K) (hcl : cm.length = 64)
    (hH : Held id bs K cm T) (hl : 0 < leftS cm K) (hc : cmA cm k = false) (h : PutS T (partS id bs K k) T' b E d) : E = 0 ∧ b = decide (leftS (cm.set k true) K = 0) ∧ (b = true → d = bs) ∧ Held id bs K (cm.set k true) T' := by
  have hr := part_rgt h0 h1 hn hK hk
  -- the frame, and the Table behind frameOf
  have key : ∀ {f : FV} {T1 : TV}, Opened T id K f T1 → T1 = ⟨1, [f]⟩ ∧ Under id bs K cm f := by
    intro f T1 hO
    rcases hH with ⟨h', _⟩ | ⟨_, ⟨hz, rfl⟩ | ⟨f', rfl, hU⟩⟩
    · omega
    · rcases hO with ⟨h2, _⟩ | ⟨_, _, h2, rfl⟩ | ⟨_, h4, _⟩
      · cases h2
      · rw [h2]; exact ⟨rfl, Under.new id bs K f.g hz⟩
      · simp at h4
    · have hg : getF [f'] id = some f' := by simp [getF, hU.id_eq]
      rcases hO with ⟨h2, rfl⟩ | ⟨h2, _⟩ | ⟨h2, _⟩
      · rw [hg] at h2; injection h2 with h2; subst h2; exact ⟨rfl, hU⟩
      · rw [hg] at h2; cases h2
      · rw [hg] at h2; cases h2
  have h00 : refS T (partS id bs K k).id (partS id bs K k).ix (partS id bs K k).ct (partS id bs K k).d.length = 0 := by
    show refS T id (k : Int) (K : Int) (partS id bs K k).d.length = 0
    rcases hH with ⟨h', _⟩ | ⟨_, ⟨hz, rfl⟩ | ⟨f', rfl, hU⟩⟩
    · omega
    · unfold refS
      rw [hr, if_neg (by simp), if_neg (by show ¬ id < 1; omega)]
      simp [getF]
    · have hg : getF [f'] id = some f' := by simp [getF, hU.id_eq]
      have h5 := hU.came (by omega) (show k < 64 by omega)
      have h6 := hU.ct_eq
      unfold refS
      rw [hr]
      simp only [Int.toNat_natCast]
      rw [if_neg (by simp), if_neg (by omega), hg]
      simp [h6, h5, hc]
  rcases h with ⟨h', _⟩ | ⟨_, rfl, f, T1, k', hk', hO, _, hor⟩
  · exact absurd h00 h'
  · obtain rfl : k' = k := by
      have hk2 : (k : Int) = (k' : Int) := hk'
      omega
    obtain ⟨rfl, hU⟩ := key hO
    have hL := hU.laid (show k' < 64 by omega) hcl
    have hm := hL.miss (by omega) hK2
    have hct := hU.ct_eq
    have hlaid : Go.Proofs.Ytikijkhblfgbpaa.laid ⟨1, [f]⟩ f k' (partS id bs K k') = ⟨1, [laidF f k' (partS id bs K k')]⟩ := by simp [Go.Proofs.Ytikijkhblfgbpaa.laid]
    rw [hct, hm] at hor
    rw [hlaid] at hor
    rcases hor with ⟨hp, rfl, rfl, rfl⟩ | ⟨hz, rfl, rfl, rfl⟩
    · exact ⟨rfl, by simp; omega, fun h => (by cases h), .inr ⟨hp, .inr ⟨_, rfl, hL⟩⟩⟩
    · refine ⟨rfl, by simp [hz], fun _ => ?_, .inl ⟨hz, ?_⟩⟩
      · exact hL.whole hK hK2 hz
      · have hid : (laidF f k' (partS id bs K k')).id = id := hL.id_eq
        show (⟨id + 1, [laidF f k' (partS id bs K k')].filter fun y => decide (id + 1 ≤ y.id)⟩ : TV) = ⟨id + 1, []⟩
        simp [hid]
        omega

theorem put_done {id : Int} {bs : List Int} {K k : Nat} {cm : List Bool} {T T' : TV} {b : Bool} {E : Int} {d : List Int} (h0 : 1 ≤ id) (h1 : id ≤ 4611686018427387903) (hn : bs.length ≤ 24000) (hK : K = cntS bs.length) (hk : k < K)
    (hH : Held id bs K cm T) (hl : leftS cm K = 0) (h : PutS T (partS id bs K k) T' b E d) : E = 23 := by
  have hr := part_rgt h0 h1 hn hK hk
  rcases hH with ⟨_, rfl⟩ | ⟨h', _⟩
  · have hf : refS ⟨id + 1, []⟩ (partS id bs K k).id (partS id bs K k).ix (partS id bs K k).ct (partS id bs K k).d.length = 23 := by
      show refS ⟨id + 1, []⟩ id (k : Int) (K : Int) (partS id bs K k).d.length = 23
      unfold refS
      rw [hr, if_neg (by simp), if_pos (by show id < id + 1; omega)]
    rcases h with ⟨_, rfl, _⟩ | ⟨h, _⟩
    · exact hf
    · rw [hf] at h; cases h
  · omega
end Go.Proofs.Ytikijkhblfgbpaa
