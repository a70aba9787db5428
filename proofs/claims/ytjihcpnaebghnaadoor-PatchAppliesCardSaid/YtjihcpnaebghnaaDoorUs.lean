/-
  Proved here, of lists of bytes and of points alone: points go there and back; what is read are points, and no more than bytes; bytes below 128 are read as themselves.
-/
import Derived.Test.YtjihcpnaebghnaaDoorUm
import Derived.Test.YtjihcpnaebghnaaDoorOw
import Derived.RegionTactic
import Derived.BigRegion
import Derived.IntWalk
import Derived.WalkLawsBesides
import Derived.Below
import Derived.OneCell
import Derived.Laws.Rows
namespace Go.Proofs.YtjihcpnaebghnaaDoor
/-- A point's bytes. -/
def bytesP (p : Int) : List Int :=
  if p < 128 then [p] else if p < 2048 then [192 + p / 64, 128 + p % 64] else if p < 65536 then [224 + p / 4096, 128 + p / 64 % 64, 128 + p % 64] else [240 + p / 262144, 128 + p / 4096 % 64, 128 + p / 64 % 64, 128 + p % 64]
def fixP (p : Int) : Int := if isP p then p else 65533
def bytesL : List Int → List Int
  | [] => []
  | p :: r => bytesP (fixP p) ++ bytesL r
theorem bytesL_app (a b : List Int) : bytesL (a ++ b) = bytesL a ++ bytesL b := by
  induction a with
  | nil => rfl
  | cons p r ih => rw [List.cons_append, bytesL, bytesL, ih, List.append_assoc]
theorem isP_iff {p : Int} : isP p = true ↔ (0 ≤ p ∧ p < 55296) ∨ (57343 < p ∧ p < 1114112) := by unfold isP; simp
theorem fixP_isP (p : Int) : isP (fixP p) = true := by
  unfold fixP
  split
  · assumption
  · decide
theorem fol1 {c : Int} (h1 : 194 ≤ c) (h2 : c ≤ 223) : fol c = 1 := by unfold fol; rw [if_pos ⟨h1, h2⟩]
theorem fol2 {c : Int} (h1 : 224 ≤ c) (h2 : c ≤ 239) : fol c = 2 := by unfold fol; rw [if_neg (by omega), if_pos ⟨h1, h2⟩]
theorem fol3 {c : Int} (h1 : 240 ≤ c) (h2 : c ≤ 244) : fol c = 3 := by unfold fol; rw [if_neg (by omega), if_neg (by omega), if_pos ⟨h1, h2⟩]
theorem may1 {f c : Int} (h1 : lo1 f ≤ c) (h2 : c ≤ hi1 f) : mayB f 1 c = true := by unfold mayB; simp; exact ⟨h1, h2⟩
theorem may2 {f c : Int} {i : Nat} (hi : i ≠ 1) (h1 : 128 ≤ c) (h2 : c ≤ 191) : mayB f i c = true := by unfold mayB; simp [hi]; exact ⟨h1, h2⟩
theorem cont0 (f v : Int) (i : Nat) (r : List Int) : cont f v i 0 r = (v, i) := by unfold cont; rfl
theorem contY {f v c : Int} {i k : Nat} {r : List Int} (h : mayB f i c = true) : cont f v i (k + 1) (c :: r) = cont f (64 * v + c - 128) (i + 1) k r := by rw [cont, if_pos h]
theorem contN {f v c : Int} {i k : Nat} {r : List Int} (h : mayB f i c = false) : cont f v i (k + 1) (c :: r) = (65533, i) := by rw [cont, if_neg (by rw [h]; decide)]
theorem contE (f v : Int) (i k : Nat) : cont f v i (k + 1) [] = (0, 0) := by rw [cont]
theorem one_bytes {p : Int} (hp : isP p = true) (r : List Int) : one (bytesP p ++ r) = (p, (bytesP p).length) := by
  rw [isP_iff] at hp
  unfold bytesP
  split
  · rename_i h
    rw [List.singleton_append, one_cons, if_pos h]; rfl
  · split
    · have e : fol (192 + p / 64) = 1 := fol1 (by omega) (by omega)
      show one ((192 + p / 64) :: (128 + p % 64) :: r) = _
      rw [one_cons, if_neg (by omega), e, if_neg (by decide), contY (may1 (by unfold lo1; split <;> (try split) <;> omega) (by unfold hi1; split <;> (try split) <;> omega)), cont0]
      refine Prod.ext ?_ rfl
      show 64 * (192 + p / 64 - topB 1) + (128 + p % 64) - 128 = p
      have : topB 1 = 192 := rfl
      omega
    · split
      · have e : fol (224 + p / 4096) = 2 := fol2 (by omega) (by omega)
        show one ((224 + p / 4096) :: (128 + p / 64 % 64) :: (128 + p % 64) :: r) = _
        rw [one_cons, if_neg (by omega), e, if_neg (by decide), contY (may1 (by unfold lo1; split <;> (try split) <;> omega) (by unfold hi1; split <;> (try split) <;> omega)), contY (may2 (by decide) (by omega) (by omega)), cont0]
        refine Prod.ext ?_ rfl
        show 64 * (64 * (224 + p / 4096 - topB 2) + (128 + p / 64 % 64) - 128) + (128 + p % 64) - 128 = p
        have : topB 2 = 224 := rfl
        omega
      · have e : fol (240 + p / 262144) = 3 := fol3 (by omega) (by omega)
        show one ((240 + p / 262144) :: (128 + p / 4096 % 64) :: (128 + p / 64 % 64) :: (128 + p % 64) :: r) = _
        rw [one_cons, if_neg (by omega), e, if_neg (by decide), contY (may1 (by unfold lo1; split <;> (try split) <;> omega) (by unfold hi1; split <;> (try split) <;> omega)), contY (may2 (by decide) (by omega) (by omega)), contY (may2 (by decide) (by omega) (by omega)), cont0]
        refine Prod.ext ?_ rfl
        show 64 * (64 * (64 * (240 + p / 262144 - topB 3) + (128 + p / 4096 % 64) - 128) + (128 + p / 64 % 64) - 128) + (128 + p % 64) - 128 = p
        have : topB 3 = 240 := rfl
        omega
theorem bytesP_pos (p : Int) : 0 < (bytesP p).length := by unfold bytesP; split <;> (try split) <;> (try split) <;> simp
theorem read_bytes {p : Int} (hp : isP p = true) (r : List Int) : readS (bytesP p ++ r) = (p :: (readS r).1, (readS r).2) := by
  have h1 := one_bytes hp r
  have h2 := bytesP_pos p
  rw [readS_step (fun e => by have h3 := (List.append_eq_nil_iff.1 e).1; rw [h3] at h2; simp at h2), h1, if_neg (by dsimp only; omega)]
  simp
/-- Points go there and back. -/
theorem read_back : ∀ l : List Int, (∀ p ∈ l, isP p = true) → readS (bytesL l) = (l, 0)
  | [], _ => rfl
  | p :: r, h => by
    have hp := h p (by simp)
    have e : fixP p = p := by unfold fixP; rw [if_pos hp]
    rw [bytesL, e, read_bytes hp, read_back r (fun q hq => h q (by simp [hq]))]
theorem mayB_iff {f c : Int} {i : Nat} : mayB f i c = true ↔ (if i = 1 then lo1 f else 128) ≤ c ∧ c ≤ (if i = 1 then hi1 f else 191) := by unfold mayB; simp
/-- What is read is a point. -/
theorem one_isP {b : List Int} (hb : ∀ x ∈ b, 0 ≤ x ∧ x < 256) (h : (one b).2 ≠ 0) : isP (one b).1 = true := by
  cases b with
  | nil => exact absurd rfl h
  | cons c r =>
    have hc := hb c (by simp)
    rw [one_cons] at h ⊢
    split
    · rw [isP_iff]; left; dsimp only; omega
    · rename_i h1
      rw [if_neg h1] at h
      split
      · decide
      · rename_i h2
        rw [if_neg h2] at h
        have hf : (194 ≤ c ∧ c ≤ 223 ∧ fol c = 1) ∨ (224 ≤ c ∧ c ≤ 239 ∧ fol c = 2) ∨ (240 ≤ c ∧ c ≤ 244 ∧ fol c = 3) := by
          unfold fol at h2 ⊢
          split
          · rename_i q; exact .inl ⟨q.1, q.2, rfl⟩
          · split
            · rename_i q; exact .inr (.inl ⟨q.1, q.2, rfl⟩)
            · split
              · rename_i q; exact .inr (.inr ⟨q.1, q.2, rfl⟩)
              · rename_i q1 q2 q3; rw [if_neg q1, if_neg q2, if_neg q3] at h2; exact absurd rfl h2
        have L : lo1 c = (if c = 224 then 160 else if c = 240 then 144 else 128) := rfl
        have Hh : hi1 c = (if c = 237 then 159 else if c = 244 then 143 else 191) := rfl
        rcases hf with ⟨q1, q2, q3⟩ | ⟨q1, q2, q3⟩ | ⟨q1, q2, q3⟩
        · rw [q3] at h ⊢
          cases r with
          | nil => rw [contE] at h; exact absurd rfl h
          | cons d r =>
            cases hm : mayB c 1 d
            · rw [contN hm]; decide
            · rw [contY hm, cont0, isP_iff]
              rw [mayB_iff] at hm
              simp only [if_true] at hm
              have t : topB 1 = 192 := rfl
              dsimp only
              rw [t]
              split at L <;> (try split at L) <;> split at Hh <;> (try split at Hh) <;> omega
        · rw [q3] at h ⊢
          cases r with
          | nil => rw [contE] at h; exact absurd rfl h
          | cons d r =>
            cases hm : mayB c 1 d
            · rw [contN hm]; decide
            · rw [contY hm] at h ⊢
              cases r with
              | nil => rw [contE] at h; exact absurd rfl h
              | cons e r =>
                cases hn : mayB c (1 + 1) e
                · rw [contN hn]; decide
                · rw [contY hn, cont0, isP_iff]
                  rw [mayB_iff] at hm hn
                  simp only [if_true] at hm
                  rw [if_neg (by decide), if_neg (by decide)] at hn
                  have t : topB 2 = 224 := rfl
                  dsimp only
                  rw [t]
                  split at L <;> (try split at L) <;> split at Hh <;> (try split at Hh) <;> omega
        · rw [q3] at h ⊢
          cases r with
          | nil => rw [contE] at h; exact absurd rfl h
          | cons d r =>
            cases hm : mayB c 1 d
            · rw [contN hm]; decide
            · rw [contY hm] at h ⊢
              cases r with
              | nil => rw [contE] at h; exact absurd rfl h
              | cons e r =>
                cases hn : mayB c (1 + 1) e
                · rw [contN hn]; decide
                · rw [contY hn] at h ⊢
                  cases r with
                  | nil => rw [contE] at h; exact absurd rfl h
                  | cons g r =>
                    cases ho : mayB c (1 + 1 + 1) g
                    · rw [contN ho]; decide
                    · rw [contY ho, cont0, isP_iff]
                      rw [mayB_iff] at hm hn ho
                      simp only [if_true] at hm
                      rw [if_neg (by decide), if_neg (by decide)] at hn ho
                      have t : topB 3 = 240 := rfl
                      dsimp only
                      rw [t]
                      split at L <;> (try split at L) <;> split at Hh <;> (try split at Hh) <;> omega
theorem read_isP {b : List Int} (hb : ∀ x ∈ b, 0 ≤ x ∧ x < 256) : ∀ p ∈ (readS b).1, isP p = true := by
  revert hb
  refine readS_ind (P := fun b => (∀ x ∈ b, 0 ≤ x ∧ x < 256) → ∀ p ∈ (readS b).1, isP p = true) (fun _ p hp => by rw [readS_nil] at hp; cases hp) (fun b hb hz _ p hp => ?_) (fun b hb hz ih hB p hp => ?_) b
  · rw [readS_step hb, if_pos hz] at hp; cases hp
  · rw [readS_step hb, if_neg hz] at hp
    rcases List.mem_cons.1 hp with rfl | hp
    · exact one_isP hB hz
    · exact ih (fun x hx => hB x (List.mem_of_mem_drop hx)) p hp
theorem points_isP {b : List Int} (hb : ∀ x ∈ b, 0 ≤ x ∧ x < 256) : ∀ p ∈ pointsS b, isP p = true := fun p hp => by
  unfold pointsS at hp
  rcases List.mem_append.1 hp with h | h
  · exact read_isP hb p h
  · split at h
    · rw [List.mem_singleton.1 h]; decide
    · cases h
theorem read_len (b : List Int) : (readS b).1.length + (readS b).2 ≤ b.length ∧ (b ≠ [] → 0 < (readS b).1.length + (readS b).2) := by
  refine readS_ind (P := fun b => (readS b).1.length + (readS b).2 ≤ b.length ∧ (b ≠ [] → 0 < (readS b).1.length + (readS b).2)) ⟨by simp [readS_nil], fun h => absurd rfl h⟩ (fun b hb hz => ?_) (fun b hb hz ih => ?_) b
  · have := List.length_pos_iff.2 hb
    rw [readS_step hb, if_pos hz]; exact ⟨by simp, fun _ => by simp; omega⟩
  · have := one_le b
    rw [readS_step hb, if_neg hz]
    rw [List.length_drop] at ih
    refine ⟨?_, fun _ => ?_⟩
    · simp only [List.length_cons]; omega
    · simp only [List.length_cons]; omega
theorem points_len (b : List Int) : (pointsS b).length ≤ b.length ∧ (b ≠ [] → 0 < (pointsS b).length) := by
  have h := read_len b
  unfold pointsS
  rw [List.length_append]
  refine ⟨?_, fun hb => ?_⟩
  · split <;> simp <;> omega
  · have := h.2 hb
    split <;> simp <;> omega
theorem read_plain : ∀ b : List Int, (∀ x ∈ b, x < 128) → readS b = (b, 0)
  | [], _ => rfl
  | c :: r, h => by
    have hc := h c (by simp)
    have e : one (c :: r) = (c, 1) := by rw [one_cons, if_pos hc]
    rw [readS_step (by simp), e, if_neg (by simp)]
    dsimp only
    rw [List.drop_one, List.tail_cons, read_plain r (fun x hx => h x (by simp [hx]))]
theorem points_plain {b : List Int} (h : ∀ x ∈ b, x < 128) : pointsS b = b := by
  unfold pointsS; rw [read_plain b h]; simp
theorem bytesL_plain : ∀ b : List Int, (∀ x ∈ b, 0 ≤ x ∧ x < 128) → bytesL b = b
  | [], _ => rfl
  | c :: r, h => by
    have hc := h c (by simp)
    have e : fixP c = c := by unfold fixP; rw [if_pos (isP_iff.2 (.inl ⟨hc.1, by omega⟩))]
    rw [bytesL, e, bytesL_plain r (fun x hx => h x (by simp [hx]))]
    unfold bytesP
    rw [if_pos hc.2]; rfl
theorem points_front {f : Int} {b : List Int} (hf : 128 ≤ f) (hb : b ≠ []) (h : ∀ x ∈ b, x < 128) : pointsS (f :: b) = 65533 :: b := by
  have e : one (f :: b) = (65533, 1) := by
    rw [one_cons, if_neg (by omega)]
    split
    · rfl
    · cases b with
      | nil => exact absurd rfl hb
      | cons a r =>
        have ha := h a (by simp)
        obtain ⟨k, hk⟩ : ∃ k, fol f = k + 1 := ⟨fol f - 1, by omega⟩
        rw [hk, contN]
        cases hm : mayB f 1 a
        · rfl
        · rw [mayB_iff] at hm
          simp only [if_true] at hm
          have : 128 ≤ lo1 f := by unfold lo1; split <;> (try split) <;> omega
          omega
  have e2 : readS (f :: b) = (65533 :: b, 0) := by
    rw [readS_step (by simp), e, if_neg (by simp)]
    dsimp only
    rw [List.drop_one, List.tail_cons, read_plain b h]
  unfold pointsS
  rw [e2]; simp
end Go.Proofs.YtjihcpnaebghnaaDoor

/-
  Proved here: the document's own Is and Bytes of utf, for every point and points: what XUr and XUb hold of them, without the other calls of that layer.
-/
namespace Go.Proofs.YtjihcpnaebghnaaDoor
open Go.RowKit
theorem ris_any (p : Int) (w : World) : Calls Tryd.prog 63 #[.int .i32 p] w fun e w' => e = .returned (.bool (isP p)) ∧ w = w' := by
  have e : isP p = (decide (0 ≤ p) && decide (p < 55296) || decide (57343 < p) && decide (p < 1114112)) := by unfold isP; rw [Bool.decide_or, Bool.decide_and, Bool.decide_and]
  rw [e]
  go_enter Tryd.func63, Tryd.ntmps63
  go_wp2
  all_goals go_ret
  all_goals exact ⟨ret_bool (Bool.eq_iff_iff.2 (by simp <;> omega)), rfl⟩
theorem bytesP_len (p : Int) : (bytesP p).length ≤ 4 := by unfold bytesP; split <;> (try split) <;> (try split) <;> simp
theorem bytesL_len : ∀ l : List Int, (bytesL l).length ≤ 4 * l.length
  | [] => by simp [bytesL]
  | p :: r => by
    have h1 := bytesP_len (fixP p)
    have h2 := bytesL_len r
    rw [bytesL, List.length_append, List.length_cons]; omega
theorem take_succ {l : List Int} {i : Nat} (hi : i < l.length) : l.take (i + 1) = l.take i ++ [l.getD i 0] := by
  rw [List.take_add_one]; simp [List.getD, hi]
theorem bytesL_one (p : Int) : bytesL [p] = bytesP (fixP p) := by simp [bytesL]
end Go.Proofs.YtjihcpnaebghnaaDoor
