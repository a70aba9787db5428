/-
  Proved here, of lists and numbers alone: what a peer holds behind nonces that it heard.
-/
import Derived.Test.YtjbnoggmnfannaaPh
namespace Go.Proofs.Ytjbnoggmnfannaa
/-- The peer p heard just the nonces of L, in whatever order. -/
structure Hd (L : List (Nat × Int)) (p : PV) : Prop where
  top : ∀ x ∈ L, x.1 ≤ p.N
  pos : ∀ x ∈ L, 0 < x.1
  zero : p.N = 0 → L = [] ∧ p.F = 0
  most : 0 < p.N → (p.N, p.F) ∈ L
  max : p.N ≤ 9223372036854775807
  small : p.H < 18446744073709551616
  bits : ∀ k, k < 64 → (p.H.testBit k = true ↔ k < p.N ∧ (p.N - k) ∈ L.map Prod.fst)
  m0 : 0 ≤ p.M
  m1 : p.M ≤ L.length
theorem Hd.new : Hd [] ⟨0, 0, 0, 0⟩ := ⟨by simp, by simp, fun _ => ⟨rfl, rfl⟩, fun h => absurd h (by simp), by simp, by simp, by simp, by simp, by simp⟩
theorem Hd.heard {L : List (Nat × Int)} {p : PV} (h : Hd L p) (n : Nat) : heardS p.N p.H n = true ↔ 0 < p.N ∧ n ≤ p.N ∧ (n = 0 ∨ 64 ≤ p.N - n ∨ n ∈ L.map Prod.fst) := by
  unfold heardS
  by_cases h0 : p.N = 0
  · simp [h0]
  by_cases h1 : n ≤ p.N
  · by_cases h2 : n = 0
    · simp [h2]
      omega
    by_cases h3 : 64 ≤ p.N - n
    · simp [h0, h1, h3]; omega
    · have := h.bits (p.N - n) (by omega)
      rw [show p.N - (p.N - n) = n by omega] at this
      simp only [h0, h1, h2, h3, ne_eq, not_false_iff, decide_true, decide_false, Bool.true_and, Bool.false_or, false_or, true_and]
      rw [this]
      exact ⟨fun h => ⟨by omega, h.2⟩, fun h => ⟨by omega, h.2⟩⟩
  · simp [h1]
theorem or_bit (H d k : Nat) : (H ||| 2 ^ d).testBit k = (H.testBit k || decide (d = k)) := by
  rw [Nat.testBit_or, Nat.testBit_two_pow]
theorem sh_bit (H d k : Nat) (hk : k < 64) : (H * 2 ^ d % 18446744073709551616 ||| 1).testBit k = ((decide (d ≤ k) && H.testBit (k - d)) || decide (k = 0)) := by
  rw [Nat.testBit_or, show (18446744073709551616 : Nat) = 2 ^ 64 from rfl, Nat.testBit_mod_two_pow, Nat.testBit_mul_two_pow, show (1 : Nat) = 2 ^ 0 from rfl, Nat.testBit_two_pow]
  simp [hk, eq_comm]
theorem Hd.hear {L : List (Nat × Int)} {p : PV} (h : Hd L p) (n : Nat) (f : Int) :
    ((hearS p n f).2.2 ≠ 0 ∧ (hearS p n f).1 = p ∧ (hearS p n f).2.1 = false ∧ ((n = 0 ∨ 9223372036854775807 < n) ∧ (hearS p n f).2.2 = 1 ∨ (0 < n ∧ n ≤ 9223372036854775807) ∧ heardS p.N p.H n = true ∧ (hearS p n f).2.2 = 23)) ∨
    ((hearS p n f).2.2 = 0 ∧ (0 < n ∧ n ≤ 9223372036854775807) ∧ n ∉ L.map Prod.fst ∧ Hd (L ++ [(n, f)]) (hearS p n f).1 ∧ heardS p.N p.H n = false ∧
      ((n < p.N ∧ (hearS p n f).1.N = p.N ∧ (hearS p n f).1.F = p.F ∧ (hearS p n f).1.M = p.M ∧ (hearS p n f).2.1 = false) ∨ (p.N < n ∧ (hearS p n f).1.N = n ∧ (hearS p n f).1.F = f ∧ (hearS p n f).1.M = movS p.N p.F f p.M ∧ (hearS p n f).2.1 = (p.N == 0 || f != p.F)))) := by
  have hh := h.heard n
  unfold hearS
  by_cases h0 : n = 0 ∨ 9223372036854775807 < n
  · rw [if_pos h0]
    exact .inl ⟨by simp, rfl, rfl, .inl ⟨h0, rfl⟩⟩
  rw [if_neg h0]
  by_cases h2 : heardS p.N p.H n = true
  · rw [if_pos h2]
    exact .inl ⟨by simp, rfl, rfl, .inr ⟨by omega, h2, rfl⟩⟩
  rw [if_neg h2]
  have h2' : heardS p.N p.H n = false := by simpa using h2
  have hnot : ¬(0 < p.N ∧ n ≤ p.N ∧ (n = 0 ∨ 64 ≤ p.N - n ∨ n ∈ L.map Prod.fst)) := fun h => h2 (hh.2 h)
  have hnl : n ∉ L.map Prod.fst := fun hm => by
    obtain ⟨x, hx, rfl⟩ := List.mem_map.1 hm
    have h1 := h.top x hx
    have h2 := h.pos x hx
    exact hnot ⟨by omega, h1, .inr (.inr hm)⟩
  by_cases h3 : n < p.N
  · rw [if_pos h3]
    refine .inr ⟨rfl, by omega, hnl, ?_, h2', .inl ⟨h3, rfl, rfl, rfl, rfl⟩⟩
    have h64 : p.N - n < 64 := by
      rcases Nat.lt_or_ge (p.N - n) 64 with h | h
      · exact h
      · exact absurd ⟨by omega, by omega, .inr (.inl h)⟩ hnot
    refine ⟨fun x hx => ?_, fun x hx => ?_, fun hz => absurd hz (by show p.N ≠ 0; omega), fun _ => List.mem_append_left _ (h.most (by omega)), h.max, ?_, fun k hk => ?_, h.m0, ?_⟩
    · rcases List.mem_append.1 hx with hx | hx
      · exact h.top x hx
      · rw [List.mem_singleton.1 hx]; show n ≤ p.N; omega
    · rcases List.mem_append.1 hx with hx | hx
      · exact h.pos x hx
      · rw [List.mem_singleton.1 hx]; show 0 < n; omega
    · exact Nat.or_lt_two_pow (n := 64) h.small (Nat.pow_lt_pow_right (by omega) h64)
    · show (p.H ||| 2 ^ (p.N - n)).testBit k = true ↔ k < p.N ∧ (p.N - k) ∈ (L ++ [(n, f)]).map Prod.fst
      rw [or_bit, Bool.or_eq_true, h.bits k hk, decide_eq_true_iff, List.map_append, List.mem_append]
      simp only [List.map_cons, List.map_nil, List.mem_singleton]
      constructor
      · rintro (⟨h1, h2⟩ | h1)
        · exact ⟨h1, .inl h2⟩
        · exact ⟨by omega, .inr (by omega)⟩
      · rintro ⟨h1, h2 | h2⟩
        · exact .inl ⟨h1, h2⟩
        · exact .inr (by omega)
    · have := h.m1
      rw [List.length_append]
      show p.M ≤ _
      simp
      omega
  · rw [if_neg h3]
    have hlt : p.N < n := by
      rcases Nat.lt_or_ge p.N n with h' | h'
      · exact h'
      · exfalso
        have e : n = p.N := by omega
        exact hnot ⟨by omega, h', .inr (.inr (e ▸ List.mem_map.2 ⟨_, h.most (by omega), rfl⟩))⟩
    refine .inr ⟨rfl, by omega, hnl, ?_, h2', .inr ⟨hlt, rfl, rfl, rfl, rfl⟩⟩
    refine ⟨fun x hx => ?_, fun x hx => ?_, fun hz => absurd hz (by show n ≠ 0; omega), fun _ => List.mem_append_right _ (List.mem_singleton.2 rfl), by show n ≤ _; omega, ?_, fun k hk => ?_, ?_, ?_⟩
    · show x.1 ≤ n
      rcases List.mem_append.1 hx with hx | hx
      · have := h.top x hx; omega
      · rw [List.mem_singleton.1 hx]; exact Nat.le_refl _
    · rcases List.mem_append.1 hx with hx | hx
      · exact h.pos x hx
      · rw [List.mem_singleton.1 hx]; show 0 < n; omega
    · exact Nat.or_lt_two_pow (n := 64) (Nat.mod_lt _ (by omega)) (by omega)
    · show (p.H * 2 ^ (n - p.N) % 18446744073709551616 ||| 1).testBit k = true ↔ k < n ∧ (n - k) ∈ (L ++ [(n, f)]).map Prod.fst
      rw [sh_bit _ _ _ hk, Bool.or_eq_true, Bool.and_eq_true, decide_eq_true_iff, decide_eq_true_iff, List.map_append, List.mem_append]
      simp only [List.map_cons, List.map_nil, List.mem_singleton]
      constructor
      · rintro (⟨h1, h2⟩ | h1)
        · obtain ⟨h3, h4⟩ := (h.bits (k - (n - p.N)) (by omega)).1 h2
          rw [show p.N - (k - (n - p.N)) = n - k by omega] at h4
          exact ⟨by omega, .inl h4⟩
        · exact ⟨by omega, .inr (by omega)⟩
      · rintro ⟨h1, h2 | h2⟩
        · obtain ⟨x, hx, hxe⟩ := List.mem_map.1 h2
          have ht := h.top x hx
          have hp := h.pos x hx
          have hle : n - p.N ≤ k := by omega
          refine .inl ⟨hle, (h.bits (k - (n - p.N)) (by omega)).2 ⟨by omega, ?_⟩⟩
          rw [show p.N - (k - (n - p.N)) = n - k by omega]
          exact h2
        · exact .inr (by omega)
    · have := h.m0
      show 0 ≤ movS p.N p.F f p.M
      unfold movS
      split <;> omega
    · have := h.m1
      show movS p.N p.F f p.M ≤ _
      unfold movS
      rw [List.length_append]
      simp only [List.length_cons, List.length_nil]
      split <;> omega
end Go.Proofs.Ytjbnoggmnfannaa
