/-
  Proved here, of lists alone: base64 bit by bit, as the document words it, is base64 by groups; which completions there are.
-/
import Derived.Test.YtmpmlmhphnpdlaaBa
namespace Go.Proofs.Ytmpmlmhphnpdlaa
/-- Eight bits, the greatest first; and six. -/
def bits8 (a : Int) : List Int := [a / 128 % 2, a / 64 % 2, a / 32 % 2, a / 16 % 2, a / 8 % 2, a / 4 % 2, a / 2 % 2, a % 2]
def bits6 (a : Int) : List Int := [a / 32 % 2, a / 16 % 2, a / 8 % 2, a / 4 % 2, a / 2 % 2, a % 2]
def bitsB : List Int → List Int
  | [] => []
  | a :: r => bits8 a ++ bitsB r
def bitsL : List Int → List Int
  | [] => []
  | a :: r => bits6 a ++ bitsL r
/-- One bit more, on the way to letters; and on the way to bytes. -/
def stepW (s : List Int × Int × Nat) (t : Int) : List Int × Int × Nat := if s.2.2 + 1 = 6 then (s.1 ++ [lett (2 * s.2.1 + t)], 0, 0) else (s.1, 2 * s.2.1 + t, s.2.2 + 1)
def stepR (s : List Int × Int × Nat) (t : Int) : List Int × Int × Nat := if s.2.2 + 1 = 8 then (s.1 ++ [2 * s.2.1 + t], 0, 0) else (s.1, 2 * s.2.1 + t, s.2.2 + 1)
def pads (n : Nat) : List Int := if n % 4 = 0 then [] else if n % 4 = 1 then [61, 61, 61] else if n % 4 = 2 then [61, 61] else [61]
theorem bitsB_len : ∀ b : List Int, (bitsB b).length = 8 * b.length
  | [] => rfl
  | a :: r => by rw [bitsB, List.length_append, bitsB_len r]; simp [bits8]; omega
theorem bitsB_app : ∀ a b : List Int, bitsB (a ++ b) = bitsB a ++ bitsB b
  | [], b => rfl
  | x :: r, b => by rw [List.cons_append, bitsB, bitsB, bitsB_app r b, List.append_assoc]
def halves : Nat → Int → Int
  | 0, c => c
  | k + 1, c => halves k (c / 2)
theorem halves_snoc : ∀ (k : Nat) (c : Int), halves (k + 1) c = halves k c / 2
  | 0, c => rfl
  | k + 1, c => by rw [halves, halves_snoc k (c / 2)]; rfl
theorem halves_range {c : Int} (h0 : 0 ≤ c) (h1 : c < 256) : ∀ k, 0 ≤ halves k c ∧ halves k c < 256
  | 0 => ⟨h0, h1⟩
  | k + 1 => by rw [halves_snoc]; have := halves_range h0 h1 k; omega
theorem bits8_at (a : Int) (t : Nat) (ht : t < 8) : (bits8 a).getD t 0 = halves (7 - t) a % 2 := by
  have : t = 0 ∨ t = 1 ∨ t = 2 ∨ t = 3 ∨ t = 4 ∨ t = 5 ∨ t = 6 ∨ t = 7 := by omega
  rcases this with rfl | rfl | rfl | rfl | rfl | rfl | rfl | rfl
  · show a / 128 % 2 = halves 7 a % 2; simp only [halves]; omega
  · show a / 64 % 2 = halves 6 a % 2; simp only [halves]; omega
  · show a / 32 % 2 = halves 5 a % 2; simp only [halves]; omega
  · show a / 16 % 2 = halves 4 a % 2; simp only [halves]; omega
  · show a / 8 % 2 = halves 3 a % 2; simp only [halves]; omega
  · show a / 4 % 2 = halves 2 a % 2; simp only [halves]; omega
  · show a / 2 % 2 = halves 1 a % 2; simp only [halves]
  · show a % 2 = halves 0 a % 2; simp only [halves]
theorem bitsB_at : ∀ (b : List Int) (i : Nat), i < 8 * b.length → (bitsB b).getD i 0 = halves (7 - i % 8) (b.getD (i / 8) 0) % 2
  | [], i, h => by simp at h
  | a :: r, i, h => by
    rw [bitsB]
    rcases Nat.lt_or_ge i 8 with h8 | h8
    · have e : (bits8 a ++ bitsB r).getD i 0 = (bits8 a).getD i 0 := by simp [List.getD, List.getElem?_append_left (show i < (bits8 a).length by simp [bits8]; omega)]
      rw [e, bits8_at a i h8, show i / 8 = 0 by omega, show i % 8 = i by omega]
      rfl
    · have e : (bits8 a ++ bitsB r).getD i 0 = (bitsB r).getD (i - 8) 0 := by
        have : (bits8 a).length = 8 := rfl
        simp [List.getD, List.getElem?_append_right (show (bits8 a).length ≤ i by omega), this]
      rw [e, bitsB_at r (i - 8) (by simp only [List.length_cons] at h; omega), show i / 8 = (i - 8) / 8 + 1 by omega, show i % 8 = (i - 8) % 8 by omega]
      rfl
/-- The letters, without what fills up. -/
def rawS (b : List Int) : List Int := ((bitsB b ++ List.replicate (if b.length % 3 = 1 then 4 else if b.length % 3 = 2 then 2 else 0) 0).foldl stepW ([], 0, 0)).1
theorem stepW_yes {n : Nat} (h : n + 1 = 6) (o : List Int) (v t : Int) : stepW (o, v, n) t = (o ++ [lett (2 * v + t)], 0, 0) := if_pos h
theorem stepW_no {n : Nat} (h : ¬ n + 1 = 6) (o : List Int) (v t : Int) : stepW (o, v, n) t = (o, 2 * v + t, n + 1) := if_neg h
theorem foldW_out : ∀ (l : List Int) (o : List Int) (v : Int) (n : Nat), l.foldl stepW (o, v, n) = (o ++ (l.foldl stepW ([], v, n)).1, (l.foldl stepW ([], v, n)).2)
  | [], o, v, n => by simp
  | t :: r, o, v, n => by
    simp only [List.foldl_cons]
    by_cases h : n + 1 = 6
    · rw [stepW_yes h, stepW_yes h, foldW_out r (o ++ [lett (2 * v + t)]) 0 0, foldW_out r ([] ++ [lett (2 * v + t)]) 0 0]; simp
    · rw [stepW_no h, stepW_no h, foldW_out r o _ _]
theorem foldW3 (a b c : Int) (ha : 0 ≤ a ∧ a < 256) (hb : 0 ≤ b ∧ b < 256) (hc : 0 ≤ c ∧ c < 256) : (bits8 a ++ (bits8 b ++ bits8 c)).foldl stepW ([], 0, 0) = ([lett (a / 4), lett (a % 4 * 16 + b / 16), lett (b % 16 * 4 + c / 64), lett (c % 64)], 0, 0) := by
  simp only [bits8, List.cons_append, List.nil_append, List.foldl_cons, List.foldl_nil, stepW]
  simp
  refine ⟨?_, ?_, ?_, ?_⟩ <;> (congr 1; omega)
theorem foldW2 (a b : Int) (ha : 0 ≤ a ∧ a < 256) (hb : 0 ≤ b ∧ b < 256) : (bits8 a ++ (bits8 b ++ [0, 0])).foldl stepW ([], 0, 0) = ([lett (a / 4), lett (a % 4 * 16 + b / 16), lett (b % 16 * 4)], 0, 0) := by
  simp only [bits8, List.cons_append, List.nil_append, List.foldl_cons, List.foldl_nil, stepW]
  simp
  refine ⟨?_, ?_, ?_⟩ <;> (congr 1; omega)
theorem foldW1 (a : Int) (ha : 0 ≤ a ∧ a < 256) : (bits8 a ++ [0, 0, 0, 0]).foldl stepW ([], 0, 0) = ([lett (a / 4), lett (a % 4 * 16)], 0, 0) := by
  simp only [bits8, List.cons_append, List.nil_append, List.foldl_cons, List.foldl_nil, stepW]
  simp
  refine ⟨?_, ?_⟩ <;> (congr 1; omega)
theorem pads_four (n : Nat) : pads (n + 4) = pads n := by unfold pads; rw [show (n + 4) % 4 = n % 4 by omega]
theorem raw_write : ∀ b : List Int, IsBytes b → rawS b ++ pads (rawS b).length = writeS b
  | [], _ => by simp [rawS, bitsB, pads, writeS]
  | [a], h => by
    have e : rawS [a] = [lett (a / 4), lett (a % 4 * 16)] := by
      show (List.foldl stepW ([], 0, 0) (bits8 a ++ [] ++ [0, 0, 0, 0])).1 = _
      rw [List.append_nil, foldW1 a (h a (by simp))]
    rw [e]; rfl
  | [a, b], h => by
    have e : rawS [a, b] = [lett (a / 4), lett (a % 4 * 16 + b / 16), lett (b % 16 * 4)] := by
      show (List.foldl stepW ([], 0, 0) (bits8 a ++ (bits8 b ++ []) ++ [0, 0])).1 = _
      rw [List.append_nil, List.append_assoc, foldW2 a b (h a (by simp)) (h b (by simp))]
    rw [e]; rfl
  | a :: b :: c :: r, h => by
    have h3 := foldW3 a b c (h a (by simp)) (h b (by simp)) (h c (by simp))
    have ih := raw_write r (fun x hx => h x (by simp [hx]))
    have e : rawS (a :: b :: c :: r) = [lett (a / 4), lett (a % 4 * 16 + b / 16), lett (b % 16 * 4 + c / 64), lett (c % 64)] ++ rawS r := by
      unfold rawS
      have e1 : bitsB (a :: b :: c :: r) = (bits8 a ++ (bits8 b ++ bits8 c)) ++ bitsB r := by simp [bitsB]
      have e2 : (a :: b :: c :: r).length % 3 = r.length % 3 := by simp only [List.length_cons]; omega
      rw [e1, e2, List.append_assoc, List.foldl_append, h3, foldW_out]
    rw [e, List.length_append, show [lett (a / 4), lett (a % 4 * 16 + b / 16), lett (b % 16 * 4 + c / 64), lett (c % 64)].length = 4 from rfl, Nat.add_comm 4, pads_four, List.append_assoc, ih]
    rfl
/-- The bytes of letters' numbers. -/
def outR (xs : List Int) : List Int := ((bitsL xs).foldl stepR ([], 0, 0)).1
theorem stepR_yes {n : Nat} (h : n + 1 = 8) (o : List Int) (v t : Int) : stepR (o, v, n) t = (o ++ [2 * v + t], 0, 0) := if_pos h
theorem stepR_no {n : Nat} (h : ¬ n + 1 = 8) (o : List Int) (v t : Int) : stepR (o, v, n) t = (o, 2 * v + t, n + 1) := if_neg h
theorem foldR_out : ∀ (l : List Int) (o : List Int) (v : Int) (n : Nat), l.foldl stepR (o, v, n) = (o ++ (l.foldl stepR ([], v, n)).1, (l.foldl stepR ([], v, n)).2)
  | [], o, v, n => by simp
  | t :: r, o, v, n => by
    simp only [List.foldl_cons]
    by_cases h : n + 1 = 8
    · rw [stepR_yes h, stepR_yes h, foldR_out r (o ++ [2 * v + t]) 0 0, foldR_out r ([] ++ [2 * v + t]) 0 0]; simp
    · rw [stepR_no h, stepR_no h, foldR_out r o _ _]
theorem foldR4 (a b c d : Int) (ha : 0 ≤ a ∧ a < 64) (hb : 0 ≤ b ∧ b < 64) (hc : 0 ≤ c ∧ c < 64) (hd : 0 ≤ d ∧ d < 64) : (bits6 a ++ (bits6 b ++ (bits6 c ++ bits6 d))).foldl stepR ([], 0, 0) = ([a * 4 + b / 16, b % 16 * 16 + c / 4, c % 4 * 64 + d], 0, 0) := by
  simp only [bits6, List.cons_append, List.nil_append, List.foldl_cons, List.foldl_nil, stepR]
  simp
  refine ⟨?_, ?_, ?_⟩ <;> omega
theorem outR4 {a b c d : Int} {r : List Int} (ha : 0 ≤ a ∧ a < 64) (hb : 0 ≤ b ∧ b < 64) (hc : 0 ≤ c ∧ c < 64) (hd : 0 ≤ d ∧ d < 64) : outR (a :: b :: c :: d :: r) = [a * 4 + b / 16, b % 16 * 16 + c / 4, c % 4 * 64 + d] ++ outR r := by
  have e1 : bitsL (a :: b :: c :: d :: r) = (bits6 a ++ (bits6 b ++ (bits6 c ++ bits6 d))) ++ bitsL r := by simp [bitsL]
  unfold outR
  rw [e1, List.foldl_append, foldR4 a b c d ha hb hc hd, foldR_out]
theorem outR3 (a b c : Int) (ha : 0 ≤ a ∧ a < 64) (hb : 0 ≤ b ∧ b < 64) (hc : 0 ≤ c ∧ c < 64) : outR [a, b, c] = [a * 4 + b / 16, b % 16 * 16 + c / 4] := by
  unfold outR
  simp only [bitsL, bits6, List.cons_append, List.nil_append, List.append_nil, List.foldl_cons, List.foldl_nil, stepR]
  simp
  refine ⟨?_, ?_⟩ <;> omega
theorem outR2 (a b : Int) (ha : 0 ≤ a ∧ a < 64) (hb : 0 ≤ b ∧ b < 64) : outR [a, b] = [a * 4 + b / 16] := by
  unfold outR
  simp only [bitsL, bits6, List.cons_append, List.nil_append, List.append_nil, List.foldl_cons, List.foldl_nil, stepR]
  simp
  omega
/-- The letters ahead of the first sign that fills up. -/
def headL : List Int → List Int
  | [] => []
  | c :: r => if c = 61 then [] else c :: headL r
/-- What is good is read, bit by bit, as by groups. -/
theorem out_good : ∀ t : List Int, goodB t = true → (∀ c ∈ headL t, 0 ≤ valL c) ∧ outR ((headL t).map valL) = decB t
  | [], _ => ⟨fun c hc => (nomatch hc), rfl⟩
  | [a], h => by simp [goodB] at h
  | [a, b], h => by simp [goodB] at h
  | [a, b, c], h => by simp [goodB] at h
  | [a, b, c, d], h => by
    have ra := val_range a
    have rb := val_range b
    have rc := val_range c
    have rd := val_range d
    simp only [goodB, Bool.and_eq_true, Bool.or_eq_true, decide_eq_true_eq] at h
    obtain ⟨⟨ha, hb⟩, hcd⟩ := h
    have na := isL_ne ha
    have nb := isL_ne hb
    rw [isL_iff] at ha hb
    simp only [headL, decB]
    rw [if_neg na, if_neg nb]
    by_cases hc : c = 61
    · rw [if_pos hc, if_pos hc]
      refine ⟨fun x hx => ?_, outR2 _ _ ⟨ha, ra.2⟩ ⟨hb, rb.2⟩⟩
      simp only [List.mem_cons, List.not_mem_nil, or_false] at hx
      rcases hx with rfl | rfl
      · exact ha
      · exact hb
    · have hc0 : 0 ≤ valL c := by
        rcases hcd with (⟨h1, _⟩ | ⟨⟨h1, _⟩, _⟩) | ⟨⟨h1, _⟩, _⟩
        · exact isL_iff.1 h1
        · exact isL_iff.1 h1
        · exact absurd h1 hc
      rw [if_neg hc, if_neg hc]
      by_cases hd : d = 61
      · rw [if_pos hd, if_pos hd]
        refine ⟨fun x hx => ?_, outR3 _ _ _ ⟨ha, ra.2⟩ ⟨hb, rb.2⟩ ⟨hc0, rc.2⟩⟩
        simp only [List.mem_cons, List.not_mem_nil, or_false] at hx
        rcases hx with rfl | rfl | rfl
        · exact ha
        · exact hb
        · exact hc0
      · have hd0 : 0 ≤ valL d := by
          rcases hcd with (⟨_, h1⟩ | ⟨⟨_, h1⟩, _⟩) | ⟨⟨h1, _⟩, _⟩
          · exact isL_iff.1 h1
          · exact absurd h1 hd
          · exact absurd h1 hc
        rw [if_neg hd, if_neg hd]
        refine ⟨fun x hx => ?_, ?_⟩
        · simp only [List.mem_cons, List.not_mem_nil, or_false] at hx
          rcases hx with rfl | rfl | rfl | rfl
          · exact ha
          · exact hb
          · exact hc0
          · exact hd0
        · show outR [valL a, valL b, valL c, valL d] = _
          rw [outR4 ⟨ha, ra.2⟩ ⟨hb, rb.2⟩ ⟨hc0, rc.2⟩ ⟨hd0, rd.2⟩]; rfl
  | a :: b :: c :: d :: e :: r, h => by
    have ra := val_range a
    have rb := val_range b
    have rc := val_range c
    have rd := val_range d
    simp only [goodB, Bool.and_eq_true] at h
    obtain ⟨⟨⟨⟨ha, hb⟩, hc⟩, hd⟩, hr⟩ := h
    have ih := out_good (e :: r) hr
    have na := isL_ne ha
    have nb := isL_ne hb
    have nc := isL_ne hc
    have nd := isL_ne hd
    rw [isL_iff] at ha hb hc hd
    have eh : headL (a :: b :: c :: d :: e :: r) = a :: b :: c :: d :: headL (e :: r) := by
      rw [headL, if_neg na, headL, if_neg nb, headL, if_neg nc, headL, if_neg nd]
    rw [eh]
    refine ⟨fun x hx => ?_, ?_⟩
    · simp only [List.mem_cons] at hx
      rcases hx with rfl | rfl | rfl | rfl | hx
      · exact ha
      · exact hb
      · exact hc
      · exact hd
      · exact ih.1 x hx
    · simp only [List.map_cons]
      rw [outR4 ⟨ha, ra.2⟩ ⟨hb, rb.2⟩ ⟨hc, rc.2⟩ ⟨hd, rd.2⟩, ih.2]
      rfl
/-- So the document's own Read answers by what is good. -/
theorem read_good (t : List Int) : goodB t = true ↔ (∀ c ∈ headL t, 0 ≤ valL c) ∧ IsBytes (outR ((headL t).map valL)) ∧ writeS (outR ((headL t).map valL)) = t := by
  constructor
  · intro h
    obtain ⟨h1, h2⟩ := out_good t h
    obtain ⟨h3, h4⟩ := write_dec t h
    rw [h2]
    exact ⟨h1, h4, h3⟩
  · rintro ⟨_, h2, h3⟩
    rw [← h3]
    exact (good_write _ h2).1
/-- The completions. -/
theorem comp1 : ∀ t : List Int, t.length % 4 = 1 → preB t = (goodB (t ++ [65, 65, 65]) || goodB (t ++ [81, 61, 61]) || goodB (t ++ [65, 65, 61]))
  | [], h => by simp at h
  | [a], _ => by
    have e1 : isL 65 = true := by decide
    have e2 : isL 81 = true := by decide
    have e3 : isL 61 = false := by decide
    have e4 : valL 81 = 16 := by decide
    have e5 : valL 65 = 0 := by decide
    simp [preB, goodB, e1, e2, e3, e4, e5]
  | [a, b], h => by simp at h
  | [a, b, c], h => by simp at h
  | [a, b, c, d], h => by simp at h
  | a :: b :: c :: d :: e :: r, h => by
    have ih := comp1 (e :: r) (by simp only [List.length_cons] at h ⊢; omega)
    simp only [List.cons_append, preB, goodB, ih]
    cases isL a <;> cases isL b <;> cases isL c <;> cases isL d <;> simp
theorem comp2 : ∀ t : List Int, t.length % 4 = 2 → preB t = (goodB (t ++ [65, 61]) || goodB (t ++ [65, 65]) || goodB (t ++ [61, 61]))
  | [], h => by simp at h
  | [a], h => by simp at h
  | [a, b], _ => by
    have e1 : isL 65 = true := by decide
    have e3 : isL 61 = false := by decide
    have e5 : valL 65 = 0 := by decide
    simp [preB, goodB, e1, e3, e5]
    cases isL a <;> cases isL b <;> simp
  | [a, b, c], h => by simp at h
  | [a, b, c, d], h => by simp at h
  | a :: b :: c :: d :: e :: r, h => by
    have ih := comp2 (e :: r) (by simp only [List.length_cons] at h ⊢; omega)
    simp only [List.cons_append, preB, goodB, ih]
    cases isL a <;> cases isL b <;> cases isL c <;> cases isL d <;> simp
theorem comp3 : ∀ t : List Int, t.length % 4 = 3 → preB t = (goodB (t ++ [61]) || goodB (t ++ [65]))
  | [], h => by simp at h
  | [a], h => by simp at h
  | [a, b], h => by simp at h
  | [a, b, c], _ => by
    have e1 : isL 65 = true := by decide
    have e3 : isL 61 = false := by decide
    simp only [List.cons_append, List.nil_append, preB, goodB, e1, e3]
    cases isL a <;> cases isL b <;> cases isL c <;> simp
  | [a, b, c, d], h => by simp at h
  | a :: b :: c :: d :: e :: r, h => by
    have ih := comp3 (e :: r) (by simp only [List.length_cons] at h ⊢; omega)
    simp only [List.cons_append, preB, goodB, ih]
    cases isL a <;> cases isL b <;> cases isL c <;> cases isL d <;> simp
end Go.Proofs.Ytmpmlmhphnpdlaa
