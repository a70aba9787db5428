/-
  Proved here, of lists alone: numbers one behind the other, and fields, are read as they were written; and what is read as numbers, or as fields, is written as it was.
-/
import Derived.Test.YtdhnhpcmfbiieaaDoorVMath
namespace Go.Proofs.YtdhnhpcmfbiieaaDoor

/-- Numbers' bytes, one behind the other. -/
def encs : List Int → List Int
  | [] => []
  | v :: r => numB v ++ encs r
/-- Numbers that have bytes. -/
def Nums (l : List Int) : Prop := ∀ v ∈ l, 0 ≤ v ∧ v < 4611686018427387904

theorem encs_append (a b : List Int) : encs (a ++ b) = encs a ++ encs b := by
  induction a with
  | nil => rfl
  | cons v r ih => simp [encs, ih]
theorem encs_one (v : Int) : encs [v] = numB v := by simp [encs]

theorem ngo_encs : ∀ (b a : List Int) (f : Nat), Nums b → (encs b).length < f → ngo (encs a ++ encs b) f (encs a).length a = (a ++ b, 0)
  | [], a, f, _, hf => by
    obtain ⟨f, rfl⟩ : ∃ g, f = g + 1 := ⟨f - 1, by omega⟩
    rw [ngo, if_neg (by simp [encs])]
    simp
  | v :: r, a, f, hN, hf => by
    obtain ⟨f, rfl⟩ : ∃ g, f = g + 1 := ⟨f - 1, by omega⟩
    obtain ⟨h0, h1⟩ := hN v (by simp)
    have hs := szN_le v
    have hl : (encs (v :: r)).length = szN v + (encs r).length := by simp [encs, numB_length]
    have hg := getS_num (encs a) (encs r) h0 h1
    rw [show encs (v :: r) = numB v ++ encs r from rfl]
    rw [ngo, if_pos (by simp [numB_length]; omega), hg, if_pos rfl]
    have ih := ngo_encs r (a ++ [v]) f (fun x hx => hN x (by simp [hx])) (by omega)
    rw [encs_append, encs_one, List.append_assoc, List.length_append, numB_length] at ih
    rw [show ((encs a).length : Int) + (szN v : Int) = (((encs a).length + szN v : Nat) : Int) from by omega, Int.toNat_natCast, ih]
    simp
theorem nums_encs {l : List Int} (h : Nums l) : numsS (encs l) = (l, 0) := by
  have := ngo_encs l [] ((encs l).length + 1) h (by omega)
  unfold numsS
  simpa [encs] using this

theorem take_add_cut {bs : List Int} {p n : Nat} : bs.take (p + n) = bs.take p ++ cut bs p n := by
  rw [List.take_add]
  rfl

theorem cut_add {bs : List Int} {p n m : Nat} : cut bs p (n + m) = cut bs p n ++ cut bs (p + n) m := by
  simp only [cut]
  rw [List.take_add, List.drop_drop]

theorem ngo_inv {bs : List Int} (hB : Bytes bs) : ∀ (f p : Nat) (out ns : List Int), ngo bs f p out = (ns, 0) → p ≤ bs.length → bs.length < f + p → encs out = bs.take p → Nums out → encs ns = bs ∧ Nums ns
  | 0, p, out, ns, _, hp, hf, _, _ => by omega
  | f + 1, p, out, ns, h, hp, hf, he, hN => by
    rw [ngo] at h
    by_cases hlt : p < bs.length
    · rw [if_pos hlt] at h
      by_cases h2 : (getS bs (p : Int)).2.2 = 0
      · rw [if_pos h2] at h
        obtain ⟨i1, i2, i3⟩ := getS_inv hB h2
        obtain ⟨n0, n1, _⟩ := getS_ok hB h2
        have hs := szN_le (getS bs (p : Int)).1
        rw [i1, show (p : Int) + (szN (getS bs (p : Int)).1 : Int) = ((p + szN (getS bs (p : Int)).1 : Nat) : Int) from by omega, Int.toNat_natCast] at h
        refine ngo_inv hB f _ _ ns h i2 (by omega) ?_ ?_
        · rw [encs_append, encs_one, he, take_add_cut, i3]
        · intro x hx
          rcases List.mem_append.1 hx with hx | hx
          · exact hN x hx
          · simp at hx; subst hx; exact ⟨n0, n1⟩
      · rw [if_neg h2] at h
        have := congrArg Prod.snd h
        exact absurd this h2
    · rw [if_neg hlt] at h
      have e := congrArg Prod.fst h
      simp at e
      subst e
      exact ⟨by rw [he, List.take_of_length_le (by omega)], hN⟩
theorem nums_inv {bs ns : List Int} (hB : Bytes bs) (h : numsS bs = (ns, 0)) : encs ns = bs ∧ Nums ns :=
  ngo_inv hB (bs.length + 1) 0 [] ns h (by omega) (by omega) (by simp [encs]) (fun x hx => by simp at hx)
/-- Numbers of parts are the parts' numbers. -/
theorem nums_append {a b p q : List Int} (ha : Bytes a) (hb : Bytes b) (h1 : numsS a = (p, 0)) (h2 : numsS b = (q, 0)) : numsS (a ++ b) = (p ++ q, 0) := by
  obtain ⟨e1, n1⟩ := nums_inv ha h1
  obtain ⟨e2, n2⟩ := nums_inv hb h2
  rw [← e1, ← e2, ← encs_append]
  refine nums_encs (fun x hx => ?_)
  rcases List.mem_append.1 hx with hx | hx
  · exact n1 x hx
  · exact n2 x hx

/-- Fields that may be written. -/
def Short (fs : List Fld) : Prop := ∀ f ∈ fs, f.2.length ≤ 16384

theorem fgo_flds : ∀ (b a : List Fld) (f : Nat), Short b → a.length + b.length ≤ 128 → (fldsB b).length < f → fgo (fldsB a ++ fldsB b) f (fldsB a).length a = (a ++ b, 0)
  | [], a, f, _, _, hf => by
    obtain ⟨f, rfl⟩ : ∃ g, f = g + 1 := ⟨f - 1, by omega⟩
    rw [fgo, if_neg (by simp [fldsB])]
    simp
  | x :: r, a, f, hS, hn, hf => by
    obtain ⟨f, rfl⟩ : ∃ g, f = g + 1 := ⟨f - 1, by omega⟩
    have hx := hS x (by simp)
    have hs := szN_le (x.2.length : Int)
    have hn' : a.length + 1 + r.length ≤ 128 := by simp at hn; omega
    have hl : (fldsB (x :: r)).length = 1 + szN (x.2.length : Int) + x.2.length + (fldsB r).length := by simp [fldsB, fldB, numB_length]; omega
    have e0 : fldsB a ++ fldsB (x :: r) = (fldsB a ++ [x.1]) ++ (numB (x.2.length : Int) ++ (x.2 ++ fldsB r)) := by simp [fldsB, fldB]
    have hg := getS_num (fldsB a ++ [x.1]) (x.2 ++ fldsB r) (v := (x.2.length : Int)) (by omega) (by omega)
    rw [← e0, show (((fldsB a ++ [x.1]).length : Nat) : Int) = ((fldsB a).length : Int) + 1 from by simp] at hg
    have hlen : (fldsB a ++ fldsB (x :: r)).length = (fldsB a).length + (1 + szN (x.2.length : Int) + x.2.length + (fldsB r).length) := by rw [List.length_append, hl]
    have hE : stepE (fldsB a ++ fldsB (x :: r)) (fldsB a).length a.length = 0 := by
      rw [stepE, hg, if_neg (by omega), if_pos rfl, if_neg (by simp; omega), if_neg (by simp only [hlen]; omega)]
    have hF : fldAt (fldsB a ++ fldsB (x :: r)) (fldsB a).length = x := by
      rw [fldAt, hg]
      have t1 : (fldsB a ++ fldsB (x :: r)).getD (fldsB a).length 0 = x.1 := by simp [fldsB, fldB, List.getD]
      have t2 : cut (fldsB a ++ fldsB (x :: r)) (((fldsB a).length : Int) + 1 + (szN (x.2.length : Int) : Int)).toNat ((x.2.length : Int)).toNat = x.2 := by
        rw [show (((fldsB a).length : Int) + 1 + (szN (x.2.length : Int) : Int)).toNat = (fldsB a ++ [x.1] ++ numB (x.2.length : Int)).length from by simp [numB_length]; omega, Int.toNat_natCast, e0, ← List.append_assoc, cut, List.drop_left, List.take_left]
      rw [t1, t2]
    have hN : nextF (fldsB a ++ fldsB (x :: r)) (fldsB a).length = (fldsB a).length + (1 + szN (x.2.length : Int) + x.2.length) := by
      rw [nextF, hg]
      simp only
      omega
    have ih := fgo_flds r (a ++ [x]) f (fun y hy => hS y (by simp [hy])) (by simp; omega) (by omega)
    rw [fldsB_append, List.append_assoc, show fldsB [x] ++ fldsB r = fldsB (x :: r) from by simp [fldsB], show (fldsB a ++ fldsB [x]).length = (fldsB a).length + (1 + szN (x.2.length : Int) + x.2.length) from by simp [fldsB, fldB, numB_length]; omega] at ih
    rw [fgo, if_pos (by rw [hlen]; omega), if_pos hE, hF, hN, ih]
    simp
theorem fields_flds {fs : List Fld} (h : Short fs) (hn : fs.length ≤ 128) : fieldsS (fldsB fs) = (fs, 0) := by
  have := fgo_flds fs [] ((fldsB fs).length + 1) h (by simpa using hn) (by omega)
  unfold fieldsS
  simpa [fldsB] using this

theorem fgo_inv {bs : List Int} (hB : Bytes bs) : ∀ (f p : Nat) (out fs : List Fld), fgo bs f p out = (fs, 0) → p ≤ bs.length → bs.length < f + p → fldsB out = bs.take p → Short out → out.length ≤ 128 → fldsB fs = bs ∧ Short fs ∧ fs.length ≤ 128
  | 0, p, out, fs, _, hp, hf, _, _, _ => by omega
  | f + 1, p, out, fs, h, hp, hf, he, hS, hn => by
    rw [fgo] at h
    by_cases hlt : p < bs.length
    · rw [if_pos hlt] at h
      by_cases h2 : stepE bs p out.length = 0
      · rw [if_pos h2] at h
        unfold stepE at h2
        by_cases c1 : out.length = 128
        · rw [if_pos c1] at h2; omega
        · rw [if_neg c1] at h2
          by_cases c2 : (getS bs ((p : Int) + 1)).2.2 = 0
          · rw [if_pos c2] at h2
            by_cases c3 : 16384 < (getS bs ((p : Int) + 1)).1
            · rw [if_pos c3] at h2; omega
            · rw [if_neg c3] at h2
              by_cases c4 : (bs.length : Int) - (getS bs ((p : Int) + 1)).2.1 < (getS bs ((p : Int) + 1)).1
              · rw [if_pos c4] at h2; omega
              · have e1 : ((p : Int) + 1) = ((p + 1 : Nat) : Int) := by omega
                have hk := getS_ok1 hB c2
                unfold fldAt nextF at h
                rw [e1] at c2 c3 c4 hk h
                obtain ⟨i1, i2, i3⟩ := getS_inv hB c2
                obtain ⟨v, hv⟩ : ∃ v, (getS bs ((p + 1 : Nat) : Int)).1 = v := ⟨_, rfl⟩
                rw [hv] at c3 c4 hk h i1 i2 i3
                rw [i1] at c4 h
                have hs := szN_le v
                obtain ⟨n, rfl⟩ : ∃ n : Nat, v = (n : Int) := ⟨v.toNat, by omega⟩
                rw [show (((p + 1 : Nat) : Int) + (szN (n : Int) : Int)).toNat = p + 1 + szN (n : Int) from by omega, Int.toNat_natCast] at h
                have hcl := cut_length (bs := bs) (f := p + 1 + szN (n : Int)) (n := n) (by omega)
                refine fgo_inv hB f _ _ fs h (by omega) (by omega) ?_ ?_ (by simp; omega)
                · have ec : cut bs p 1 = [bs.getD p 0] := by rw [cut_eq (by omega)]; rfl
                  rw [fldsB_append, he, show p + 1 + szN (n : Int) + n = p + (1 + (szN (n : Int) + n)) from by omega, take_add_cut]
                  congr 1
                  simp only [fldsB, fldB, hcl, List.append_nil]
                  rw [← i3, cut_add, ec, cut_add]
                  rfl
                · intro x hx
                  rcases List.mem_append.1 hx with hx | hx
                  · exact hS x hx
                  · simp at hx; subst hx; simp only; rw [hcl]; omega
          · rw [if_neg c2] at h2; exact absurd h2 c2
      · rw [if_neg h2] at h
        have := congrArg Prod.snd h
        exact absurd this h2
    · rw [if_neg hlt] at h
      have e := congrArg Prod.fst h
      simp at e
      subst e
      exact ⟨by rw [he, List.take_of_length_le (by omega)], hS, hn⟩
theorem fields_inv {bs : List Int} {fs : List Fld} (hB : Bytes bs) (h : fieldsS bs = (fs, 0)) : fldsB fs = bs ∧ Short fs ∧ fs.length ≤ 128 :=
  fgo_inv hB (bs.length + 1) 0 [] fs h (by omega) (by omega) (by simp [fldsB]) (fun x hx => by simp at hx) (by simp)
end Go.Proofs.YtdhnhpcmfbiieaaDoor
