/-
  Proved here, of lists alone: a view's bytes, run by run; what is read in the midst of bytes; in one way alone.
-/
import Derived.Test.YtjihcpnaebghnaaDoorYk
import Derived.Test.YtjihcpnaebghnaaDoorUm
import Derived.Test.YtjihcpnaebghnaaDoorGi
set_option linter.unusedSimpArgs false
set_option linter.unusedVariables false
namespace Go.Proofs.YtjihcpnaebghnaaDoor
open Go.RowKit
theorem read_mid (a c : List Int) {s : Sty} (hs : Good s) (hr : rightS s = true) : readY (a ++ (writeY s ++ c)) (a.length : Int) = (s, (a.length : Int) + ((writeY s).length : Int), 0) := by
  obtain ⟨fs, fg, bg⟩ := s
  have hl := hs.len
  have hfg := hs.fg
  have hbg := hs.bg
  dsimp only at hl hfg hbg
  have hc : colB fg = true ∧ colB bg = true := by unfold rightS at hr; simpa using hr
  have g1 := getS_num (a ++ [flagsF fs]) (numB bg ++ c) hfg.1 (by omega : fg < 4611686018427387904)
  have g2 := getS_num (a ++ ([flagsF fs] ++ numB fg)) c hbg.1 (by omega : bg < 4611686018427387904)
  have e : writeY ⟨fs, fg, bg⟩ = [flagsF fs] ++ (numB fg ++ numB bg) := by unfold writeY; simp
  obtain ⟨bs, hbs⟩ : ∃ bs, a ++ (writeY ⟨fs, fg, bg⟩ ++ c) = bs := ⟨_, rfl⟩
  have e1 : (a ++ [flagsF fs]) ++ (numB fg ++ (numB bg ++ c)) = bs := by rw [← hbs, e]; simp
  have e2 : (a ++ ([flagsF fs] ++ numB fg)) ++ (numB bg ++ c) = bs := by rw [← hbs, e]; simp
  rw [e1] at g1
  rw [e2] at g2
  have hlen : bs.length = a.length + (1 + (szN fg + szN bg) + c.length) := by rw [← hbs, e]; simp [numB_length]; omega
  have hwl : (writeY ⟨fs, fg, bg⟩).length = 1 + (szN fg + szN bg) := by rw [e]; simp [numB_length]; omega
  have l1 : ((a ++ [flagsF fs]).length : Int) = (a.length : Int) + 1 := by simp
  have l2 : ((a ++ ([flagsF fs] ++ numB fg)).length : Int) = (a.length : Int) + 1 + (szN fg : Int) := by simp [numB_length]; omega
  rw [l1] at g1
  rw [l2] at g2
  have z0 : bs.getD ((a.length : Int)).toNat 0 = flagsF fs := by
    rw [← hbs, e, Int.toNat_natCast]; simp [List.getD, List.getElem?_append_right]
  rw [hbs]
  unfold readY
  rw [g1]
  dsimp only
  rw [g2]
  dsimp only
  rw [z0, show ofF 8 (flagsF fs) = fs from by rw [← hl]; exact ofF_flagsF fs, hwl]
  have := col_le hc.1
  have := col_le hc.2
  rw [if_neg (by omega), if_neg (by omega), if_neg (by simp), if_neg (by simp), if_neg (by omega), if_pos hr]
  congr 2
  omega
/-- A list cut in three. -/
theorem three_cut {bs x : List Int} {p : Nat} (h : p + x.length ≤ bs.length) (hc : cut bs p x.length = x) : bs = bs.take p ++ (x ++ bs.drop (p + x.length)) := by
  have h1 := List.take_append_drop p bs
  have h2 := List.take_append_drop x.length (bs.drop p)
  rw [List.drop_drop, show (bs.drop p).take x.length = x from hc] at h2
  rw [h2, h1]
theorem read_inv {bs : List Int} (hB : Bytes bs) {p : Nat} {s : Sty} {m : Int} (h : readY bs (p : Int) = (s, m, 0)) :
    rightS s = true ∧ Good s ∧ m = (p : Int) + ((writeY s).length : Int) ∧ p + (writeY s).length ≤ bs.length ∧ bs = bs.take p ++ (writeY s ++ bs.drop (p + (writeY s).length)) := by
  unfold readY at h
  split at h
  · simp at h
  rename_i h1
  split at h
  · simp at h
  rename_i h2
  split at h
  · rename_i h3; simp at h; exact absurd h.2.2 h3
  rename_i h3
  split at h
  · rename_i h4; simp at h; exact absurd h.2.2 h4
  rename_i h4
  split at h
  · simp at h
  rename_i h5
  split at h
  · rename_i h6
    simp only [Prod.mk.injEq] at h
    obtain ⟨rfl, rfl, _⟩ := h
    have h3' : (getS bs ((p + 1 : Nat) : Int)).2.2 = 0 := by simpa using h3
    have hp : ((p + 1 : Nat) : Int) = (p : Int) + 1 := by omega
    obtain ⟨i1, i2, i3⟩ := getS_inv hB h3'
    have j1 := getS_ok hB h3'
    rw [hp] at i1 i2 i3 j1 h3'
    obtain ⟨v1, hv1⟩ : ∃ v, (getS bs ((p : Int) + 1)).1 = v := ⟨_, rfl⟩
    rw [hv1] at i1 i2 i3 j1 h5 h6 ⊢
    have hq : (getS bs ((p : Int) + 1)).2.1 = ((p + 1 + szN v1 : Nat) : Int) := by rw [i1]; omega
    rw [hq] at h4 h5 h6 ⊢
    have h4' : (getS bs ((p + 1 + szN v1 : Nat) : Int)).2.2 = 0 := by simpa using h4
    obtain ⟨k1, k2, k3⟩ := getS_inv hB h4'
    have j2 := getS_ok hB h4'
    obtain ⟨v2, hv2⟩ : ∃ v, (getS bs ((p + 1 + szN v1 : Nat) : Int)).1 = v := ⟨_, rfl⟩
    rw [hv2] at k1 k2 k3 j2 h5 h6 ⊢
    have hx := hB p
    have hpl : p < bs.length := by omega
    have hfl : flagsF (ofF 8 (bs.getD p 0)) = bs.getD p 0 := flagsF_ofF 8 _ hx.1 (by omega)
    rw [Int.toNat_natCast] at h6 ⊢
    have hw : writeY ⟨ofF 8 (bs.getD p 0), v1, v2⟩ = [bs.getD p 0] ++ (numB v1 ++ numB v2) := by unfold writeY; dsimp only; rw [hfl]; simp
    have hwl : (writeY ⟨ofF 8 (bs.getD p 0), v1, v2⟩).length = 1 + (szN v1 + szN v2) := by rw [hw]; simp [numB_length]; omega
    refine ⟨h6, ⟨ofF_len 8 _, ⟨j1.1, by have := j1.2; dsimp only; omega⟩, ⟨j2.1, by have := j2.2; dsimp only; omega⟩⟩, by rw [hwl, k1]; omega, by rw [hwl]; omega, ?_⟩
    refine three_cut (by rw [hwl]; omega) ?_
    rw [hwl, hw]
    apply List.ext_getElem
    · rw [cut_length (by omega)]; simp [numB_length]; omega
    · intro i hi1 hi2
      rw [cut_length (by omega)] at hi1
      have e0 : (cut bs p (1 + (szN v1 + szN v2))).getD i 0 = bs.getD (p + i) 0 := cut_getD hi1
      have e1 : (cut bs p (1 + (szN v1 + szN v2)))[i]'(by rw [cut_length (by omega)]; exact hi1) = (cut bs p (1 + (szN v1 + szN v2))).getD i 0 := by simp [List.getD, cut_length (show p + (1 + (szN v1 + szN v2)) ≤ bs.length by omega), hi1]
      rw [e1, e0]
      have e2 : ∀ (l : List Int) (i : Nat) (h : i < l.length), l[i] = l.getD i 0 := fun l i h => by simp [List.getD, h]
      rw [e2 _ _ hi2]
      by_cases c0 : i = 0
      · subst c0; rfl
      by_cases c1 : i < 1 + szN v1
      · rw [getD_right (by simp; omega), getD_left (by simp [numB_length]; omega), ← i3, cut_getD (by simp; omega)]
        congr 1
        simp; omega
      · rw [getD_right (by simp; omega), getD_right (by simp [numB_length]; omega), ← k3, cut_getD (by simp [numB_length]; omega)]
        congr 1
        simp [numB_length]; omega
  · simp at h
/-- A cell as a style; its bytes. -/
def stC (c : Ce) : Sty := ⟨ofF 8 c.f, c.g, c.b⟩
def cellR (c : Ce) : Bool := isP c.p && rightS (stC c)
def cellB (c : Ce) : List Int := writeY (stC c) ++ numB c.p
/-- What a cell's numbers are in memory. -/
structure CeOk (c : Ce) : Prop where
  f : 0 ≤ c.f ∧ c.f < 256
  g : 0 ≤ c.g ∧ c.g < 4294967296
  b : 0 ≤ c.b ∧ c.b < 4294967296
theorem CeOk.good {c : Ce} (h : CeOk c) : Good (stC c) := ⟨ofF_len 8 _, h.g, h.b⟩
theorem isP_range {p : Int} (h : isP p = true) : 0 ≤ p ∧ p < 1114112 := by unfold isP at h; simp at h; omega
/-- The cell that stands at a place. -/
def getC (bs : List Int) (p : Int) : Ce × Int × Int :=
  if (readY bs p).2.2 ≠ 0 then (zeC, 0, (readY bs p).2.2)
  else if (getS bs (readY bs p).2.1).2.2 ≠ 0 then (zeC, 0, (getS bs (readY bs p).2.1).2.2)
  else if isP (getS bs (readY bs p).2.1).1 = true then (⟨(getS bs (readY bs p).2.1).1, flagsF (readY bs p).1.fs, (readY bs p).1.fg, (readY bs p).1.bg⟩, (getS bs (readY bs p).2.1).2.1, 0)
  else (zeC, 0, 3)
theorem getC_mid (a c : List Int) {e : Ce} (ho : CeOk e) (hr : cellR e = true) : getC (a ++ (cellB e ++ c)) (a.length : Int) = (e, (a.length : Int) + ((cellB e).length : Int), 0) := by
  have hr2 : isP e.p = true ∧ rightS (stC e) = true := by unfold cellR at hr; simpa using hr
  have hp := isP_range hr2.1
  have h1 := read_mid a (numB e.p ++ c) ho.good hr2.2
  have h2 := getS_num (a ++ writeY (stC e)) c hp.1 (by omega : e.p < 4611686018427387904)
  obtain ⟨bs, hbs⟩ : ∃ bs, a ++ (cellB e ++ c) = bs := ⟨_, rfl⟩
  have e1 : a ++ (writeY (stC e) ++ (numB e.p ++ c)) = bs := by rw [← hbs]; unfold cellB; simp
  have e2 : (a ++ writeY (stC e)) ++ (numB e.p ++ c) = bs := by rw [← hbs]; unfold cellB; simp
  rw [e1] at h1
  rw [e2, show ((a ++ writeY (stC e)).length : Int) = (a.length : Int) + ((writeY (stC e)).length : Int) by simp] at h2
  have hl : ((cellB e).length : Int) = ((writeY (stC e)).length : Int) + (szN e.p : Int) := by unfold cellB; simp [numB_length]
  rw [hbs]
  unfold getC
  rw [h1]
  dsimp only
  rw [h2]
  dsimp only
  rw [if_neg (by simp), if_neg (by simp), if_pos hr2.1, hl]
  have hf : flagsF (stC e).fs = e.f := flagsF_ofF 8 _ ho.f.1 (by have := ho.f.2; omega)
  obtain ⟨p, f, g, b⟩ := e
  dsimp only at hf ⊢
  rw [hf]
  show ((⟨p, f, g, b⟩ : Ce), _, _) = _
  congr 2
  omega
theorem getC_ok {bs : List Int} (hB : Bytes bs) {p : Nat} {c : Ce} {m : Int} (h : getC bs (p : Int) = (c, m, 0)) :
    CeOk c ∧ cellR c = true ∧ m = (p : Int) + ((cellB c).length : Int) ∧ p + (cellB c).length ≤ bs.length ∧ bs = bs.take p ++ (cellB c ++ bs.drop (p + (cellB c).length)) := by
  unfold getC at h
  split at h
  · rename_i h1; simp at h; exact absurd h.2.2 h1
  rename_i h1
  split at h
  · rename_i h2; simp at h; exact absurd h.2.2 h2
  rename_i h2
  split at h
  · rename_i h3
    simp only [Prod.mk.injEq] at h
    obtain ⟨rfl, rfl, _⟩ := h
    obtain ⟨⟨s, m, z⟩, hs⟩ : ∃ r, readY bs (p : Int) = r := ⟨_, rfl⟩
    rw [hs] at h1 h2 h3 ⊢
    dsimp only at h1 h2 h3 ⊢
    obtain rfl : z = 0 := by simpa using h1
    obtain ⟨r1, r2, r3, r4, r5⟩ := read_inv hB hs
    have hm : m = ((p + (writeY s).length : Nat) : Int) := by rw [r3]; omega
    subst hm
    have h2' : (getS bs ((p + (writeY s).length : Nat) : Int)).2.2 = 0 := by simpa using h2
    obtain ⟨i1, i2, i3⟩ := getS_inv hB h2'
    obtain ⟨v, hv⟩ : ∃ v, (getS bs ((p + (writeY s).length : Nat) : Int)).1 = v := ⟨_, rfl⟩
    rw [hv] at i1 i2 i3 h3 ⊢
    have hf := flagsF_range s.fs
    rw [r2.len] at hf
    have hst : stC ⟨v, flagsF s.fs, s.fg, s.bg⟩ = s := by
      unfold stC; dsimp only
      rw [show ofF 8 (flagsF s.fs) = s.fs from by rw [← r2.len]; exact ofF_flagsF s.fs]
    have hcb : cellB ⟨v, flagsF s.fs, s.fg, s.bg⟩ = writeY s ++ numB v := by unfold cellB; rw [hst]
    have hcl : (cellB ⟨v, flagsF s.fs, s.fg, s.bg⟩).length = (writeY s).length + szN v := by rw [hcb]; simp [numB_length]
    refine ⟨⟨by dsimp only; omega, r2.fg, r2.bg⟩, by unfold cellR; rw [hst, r1]; simpa using h3, by rw [i1, hcl]; omega, by rw [hcl]; omega, ?_⟩
    have t2 := three_cut (bs := bs) (p := p + (writeY s).length) (x := numB v) (by rw [numB_length]; omega) (by rw [numB_length]; exact i3)
    rw [hcl, hcb]
    have t1 : bs.take (p + (writeY s).length) = bs.take p ++ writeY s := by
      conv => lhs; rw [r5]
      rw [← List.append_assoc, List.take_left' (by simp; omega)]
    rw [t1, numB_length] at t2
    rw [show p + ((writeY s).length + szN v) = p + (writeY s).length + szN v by omega, List.append_assoc]
    rw [List.append_assoc] at t2
    exact t2
  · simp at h
/-- The runs of cells, n equal ones being counted already. -/
def runsB : Nat → List Ce → List Int
  | _, [] => []
  | n, [c] => numB ((n + 1 : Nat) : Int) ++ cellB c
  | n, c :: d :: L => if c = d then runsB (n + 1) (d :: L) else numB ((n + 1 : Nat) : Int) ++ (cellB c ++ runsB 0 (d :: L))
theorem runs_two (k : Nat) (c d : Ce) (L : List Ce) : runsB k (c :: d :: L) = if c = d then runsB (k + 1) (d :: L) else numB ((k + 1 : Nat) : Int) ++ (cellB c ++ runsB 0 (d :: L)) := by rw [runsB]
theorem runs_one (k : Nat) (c : Ce) : runsB k [c] = numB ((k + 1 : Nat) : Int) ++ cellB c := by rw [runsB]
theorem runs_nil (k : Nat) : runsB k [] = [] := by rw [runsB]
theorem runs_first : ∀ (L : List Ce) (k : Nat) (c : Ce), ∃ n L2, c :: L = rep n c ++ L2 ∧ 1 ≤ n ∧ L2.head? ≠ some c ∧ runsB k (c :: L) = numB ((k + n : Nat) : Int) ++ (cellB c ++ runsB 0 L2)
  | [], k, c => ⟨1, [], rfl, by omega, by simp, by simp [runsB]⟩
  | d :: L, k, c => by
    by_cases h : c = d
    · subst h
      obtain ⟨n, L2, h1, h2, h3, h4⟩ := runs_first L (k + 1) c
      refine ⟨n + 1, L2, ?_, by omega, h3, ?_⟩
      · rw [h1]; rfl
      · rw [runs_two, if_pos rfl, h4, show k + 1 + n = k + (n + 1) by omega]
    · refine ⟨1, d :: L, rfl, by omega, by simpa using fun e => h e.symm, ?_⟩
      rw [runs_two, if_neg h]
theorem runs_app : ∀ (M : List Ce) (k : Nat) (T : List Ce), M ≠ [] → M.getLast? ≠ T.head? → runsB k (M ++ T) = runsB k M ++ runsB 0 T
  | [], k, T, h, _ => absurd rfl h
  | [c], k, [], _, _ => by simp [runsB]
  | [c], k, d :: T, _, h => by
    have : c ≠ d := by simpa using h
    show runsB k (c :: d :: T) = _
    rw [runs_two, if_neg this, runs_one]; simp
  | c :: d :: M, k, T, _, h => by
    show runsB k (c :: d :: (M ++ T)) = _
    by_cases e : c = d
    · rw [runs_two, runs_two, if_pos e, if_pos e]
      exact runs_app (d :: M) (k + 1) T (by simp) (by simpa using h)
    · rw [runs_two, runs_two, if_neg e, if_neg e]
      have := runs_app (d :: M) 0 T (by simp) (by simpa using h)
      rw [List.cons_append] at this
      rw [this]; simp
theorem runs_rep : ∀ (n k : Nat) (c : Ce), runsB k (rep (n + 1) c) = numB ((k + n + 1 : Nat) : Int) ++ cellB c
  | 0, k, c => by simp [rep, runsB]
  | n + 1, k, c => by
    have := runs_rep n (k + 1) c
    rw [show rep (n + 1 + 1) c = c :: c :: rep n c from rfl, runs_two, if_pos rfl]
    rw [show c :: rep n c = rep (n + 1) c from rfl, this, show k + 1 + n + 1 = k + (n + 1) + 1 by omega]
/-- Runs behind runs. -/
theorem runs_more {M T : List Ce} (h : M = [] ∨ M.getLast? ≠ T.head?) : runsB 0 (M ++ T) = runsB 0 M ++ runsB 0 T := by
  rcases h with rfl | h
  · simp [runsB]
  · by_cases hM : M = []
    · subst hM; simp [runsB]
    · exact runs_app M 0 T hM h
theorem runs_push {M : List Ce} {n : Nat} {c : Ce} (hn : 1 ≤ n) (h : M = [] ∨ M.getLast? ≠ some c) : runsB 0 (M ++ rep n c) = runsB 0 M ++ (numB (n : Int) ++ cellB c) := by
  obtain ⟨m, rfl⟩ : ∃ m, n = m + 1 := ⟨n - 1, by omega⟩
  rw [runs_more (by rcases h with h | h; exact .inl h; exact .inr (by simpa [rep, List.replicate_succ] using h)), runs_rep]
  simp
/-- What is read where a view's next run begins. -/
theorem runs_read {bs pre : List Int} {T : List Ce} (hT : T ≠ []) (hc : ∀ c ∈ T, CeOk c ∧ cellR c = true) (hl : T.length ≤ 100000) (hb : bs = pre ++ runsB 0 T) :
    ∃ n c T2, T = rep n c ++ T2 ∧ 1 ≤ n ∧ T2.head? ≠ some c ∧ getS bs (pre.length : Int) = ((n : Int), ((pre.length + szN n : Nat) : Int), 0) ∧ getC bs ((pre.length + szN n : Nat) : Int) = (c, ((pre.length + szN n + (cellB c).length : Nat) : Int), 0) ∧ bs = (pre ++ (numB n ++ cellB c)) ++ runsB 0 T2 := by
  obtain ⟨c, L, rfl⟩ : ∃ c L, T = c :: L := by cases T with | nil => exact absurd rfl hT | cons c L => exact ⟨c, L, rfl⟩
  obtain ⟨n, T2, h1, h2, h3, h4⟩ := runs_first L 0 c
  have hn : n ≤ 100000 := by have := congrArg List.length h1; simp [rep] at this; simp at hl; omega
  obtain ⟨o1, o2⟩ := hc c (by simp)
  rw [Nat.zero_add] at h4
  refine ⟨n, c, T2, h1, h2, h3, ?_, ?_, by rw [hb, h4]; simp⟩
  · rw [hb, h4, getS_num pre _ (by omega) (by omega)]; simp
  · have := getC_mid (pre ++ numB n) (runsB 0 T2) o1 o2
    rw [show (pre ++ numB n).length = pre.length + szN n by simp [numB_length], show (pre ++ numB (n : Int)) ++ (cellB c ++ runsB 0 T2) = bs by rw [hb, h4]; simp] at this
    rw [this]; simp
/-- Runs are of one list alone. -/
theorem runs_inj : ∀ (k : Nat) (A B : List Ce), A.length ≤ k → B.length ≤ 100000 → A.length ≤ 100000 → (∀ c ∈ A, CeOk c ∧ cellR c = true) → (∀ c ∈ B, CeOk c ∧ cellR c = true) → runsB 0 A = runsB 0 B → A = B
  | k, [], B, _, hl, _, _, hB, h => by
    cases B with
    | nil => rfl
    | cons b B =>
      obtain ⟨n, T2, h1, h2, h3, h4⟩ := runs_first B 0 b
      rw [h4, runs_nil] at h
      have := congrArg List.length h
      have hz := szN_le ((0 + n : Nat) : Int)
      rw [List.length_append, numB_length, List.length_nil] at this
      omega
  | 0, a :: A, B, h, _, _, _, _, _ => by simp at h
  | k + 1, a :: A, [], _, _, _, hA, _, h => by
    obtain ⟨n, T2, h1, h2, h3, h4⟩ := runs_first A 0 a
    rw [h4, runs_nil] at h
    have := congrArg List.length h
    have hz := szN_le ((0 + n : Nat) : Int)
    rw [List.length_append, numB_length, List.length_nil] at this
    omega
  | k + 1, a :: A, b :: B, hk, hl, hl2, hA, hB, h => by
    obtain ⟨n, c, T2, e1, e2, e3, e4, e5, e6⟩ := runs_read (bs := runsB 0 (a :: A)) (pre := []) (by simp) hA hl2 rfl
    obtain ⟨m, d, S2, f1, f2, f3, f4, f5, f6⟩ := runs_read (bs := runsB 0 (a :: A)) (pre := []) (T := b :: B) (by simp) hB hl h
    rw [e4] at f4
    have hnm : n = m := by have := congrArg Prod.fst f4; dsimp only at this; omega
    subst hnm
    rw [e5] at f5
    have hcd : c = d := congrArg Prod.fst f5
    subst hcd
    have hr : runsB 0 T2 = runsB 0 S2 := by
      have := e6.symm.trans f6
      exact List.append_cancel_left this
    rw [e1, f1]
    congr 1
    have hlen := congrArg List.length e1
    have hlen2 := congrArg List.length f1
    simp [rep] at hlen hlen2
    simp at hk hl hl2
    exact runs_inj k T2 S2 (by omega) (by omega) (by omega) (fun x hx => hA x (by rw [e1]; simp [hx])) (fun x hx => hB x (by rw [f1]; simp [hx])) hr
theorem writeY_len {s : Sty} (hs : Good s) (hr : rightS s = true) : 3 ≤ (writeY s).length ∧ (writeY s).length ≤ 9 := by
  obtain ⟨fs, fg, bg⟩ := s
  have hc : colB fg = true ∧ colB bg = true := by unfold rightS at hr; simpa using hr
  have a1 := col_le hc.1
  have a2 := col_le hc.2
  have b1 := szN_le fg
  have b2 := szN_le bg
  have c1 : szN fg ≤ 4 := by unfold szN; split; omega; split; omega; rw [if_pos (by omega)]; omega
  have c2 : szN bg ≤ 4 := by unfold szN; split; omega; split; omega; rw [if_pos (by omega)]; omega
  unfold writeY
  simp [numB_length]
  omega
theorem cellB_len {c : Ce} (ho : CeOk c) (hr : cellR c = true) : 4 ≤ (cellB c).length ∧ (cellB c).length ≤ 13 := by
  have hr2 : isP c.p = true ∧ rightS (stC c) = true := by unfold cellR at hr; simpa using hr
  have hp := isP_range hr2.1
  have h1 := writeY_len ho.good hr2.2
  have b1 := szN_le c.p
  have c1 : szN c.p ≤ 4 := by unfold szN; split; omega; split; omega; rw [if_pos (by omega)]; omega
  unfold cellB
  simp [numB_length]
  omega
theorem szN_480 {n : Int} (h : n < 16384) : szN n ≤ 2 := by unfold szN; split; omega; first | omega | rw [if_pos h]
theorem runs_len : ∀ (L : List Ce) (k : Nat), (∀ c ∈ L, CeOk c ∧ cellR c = true) → k + L.length < 16384 → (runsB k L).length ≤ 15 * L.length
  | [], _, _, _ => by simp [runsB]
  | [c], k, h, hk => by
    have h1 := cellB_len (h c (by simp)).1 (h c (by simp)).2
    have h2 := szN_480 (n := ((k + 1 : Nat) : Int)) (by simp at hk; omega)
    simp [runsB, numB_length]
    simp at h2
    omega
  | c :: d :: L, k, h, hk => by
    simp at hk
    have h3 : ∀ x ∈ (d :: L), CeOk x ∧ cellR x = true := fun x hx => h x (List.mem_cons_of_mem _ hx)
    by_cases e : c = d
    · rw [runs_two, if_pos e]
      have := runs_len (d :: L) (k + 1) h3 (by simp; omega)
      simp at this ⊢; omega
    · rw [runs_two, if_neg e]
      have h1 := cellB_len (h c (by simp)).1 (h c (by simp)).2
      have h2 := szN_480 (n := ((k + 1 : Nat) : Int)) (by omega)
      have := runs_len (d :: L) 0 h3 (by simp; omega)
      simp [numB_length] at this h2 ⊢
      omega
end Go.Proofs.YtjihcpnaebghnaaDoor
