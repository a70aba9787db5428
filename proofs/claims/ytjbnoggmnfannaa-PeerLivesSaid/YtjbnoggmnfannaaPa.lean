/-
  Proved here, for every peer of New, of whatever numbers that may be: isSilent, Newest, From, Moves and Heard; nothing is changed. And what a nil peer answers.
-/
import Derived.Test.YtjbnoggmnfannaaPb
namespace Go.Proofs.Ytjbnoggmnfannaa
open Go.RowKit
/-- What a peer tells of a nonce. -/
def heardS (N H n : Nat) : Bool := N ≠ 0 && n ≤ N && (n = 0 || 64 ≤ N - n || H.testBit (N - n))

theorem isSilent_nil (w : World) : Calls Try.prog 19 #[.pointer none] w fun e w' => e = .returned (.bool true) ∧ w = w' := by
  go_enter Try.func19, Try.ntmps19
  go_wp2_with fail
  refine (none_nil w).mono ?_
  rintro e w' ⟨rfl, rfl⟩
  go_wp2
  go_ret
  exact ⟨rfl, rfl⟩
theorem Newest_nil (w : World) : Calls Try.prog 12 #[.pointer none] w fun e w' => e = .returned (.int .u64 0) ∧ w = w' := by
  go_enter Try.func12, Try.ntmps12
  go_wp2_with fail
  refine (none_nil w).mono ?_
  rintro e w' ⟨rfl, rfl⟩
  go_wp2
  go_ret
  exact ⟨rfl, rfl⟩
theorem Moves_nil (w : World) : Calls Try.prog 15 #[.pointer none] w fun e w' => e = .returned (.int .i64 0) ∧ w = w' := by
  go_enter Try.func15, Try.ntmps15
  go_wp2_with fail
  refine (none_nil w).mono ?_
  rintro e w' ⟨rfl, rfl⟩
  go_wp2
  go_ret
  exact ⟨rfl, rfl⟩
theorem From_nil (w : World) : Calls Try.prog 11 #[.pointer none] w fun e w' => e = .returned (.tuple #[.int .u32 0, .bool false]) ∧ w = w' := by
  go_enter Try.func11, Try.ntmps11
  go_wp2_with fail
  refine (isSilent_nil w).mono ?_
  rintro e w' ⟨rfl, rfl⟩
  go_wp2
  go_returns
  exact ⟨rfl, rfl⟩
theorem Heard_nil (n : Int) (w : World) : Calls Try.prog 13 #[.pointer none, .int .u64 n] w fun e w' => e = .returned (.bool false) ∧ w = w' := by
  go_enter Try.func13, Try.ntmps13
  go_wp2_with fail
  refine (isSilent_nil w).mono ?_
  rintro e w' ⟨rfl, rfl⟩
  go_wp2
  go_ret
  exact ⟨rfl, rfl⟩
theorem silent_pr (g : Nat) (N H F M : Int) (w : World) (h : Pr w g N H F M) : Calls Try.prog 19 #[.pointer (some ⟨g, 0, none⟩)] w fun e w' => e = .returned (.bool (N == 0)) ∧ w = w' := by
  have c1 := h.c1
  have HH := Lib.hid h
  clear h
  go_enter Try.func19, Try.ntmps19
  go_wp2_with fail
  refine (none_pr g N H F M w HH.out).mono ?_
  rintro e w' ⟨rfl, rfl⟩
  go_wp2
  go_ret
  exact ⟨rfl, rfl⟩
theorem newest_pr (g : Nat) (N H F M : Int) (w : World) (h : Pr w g N H F M) : Calls Try.prog 12 #[.pointer (some ⟨g, 0, none⟩)] w fun e w' => e = .returned (.int .u64 N) ∧ w = w' := by
  have c1 := h.c1
  have HH := Lib.hid h
  clear h
  go_enter Try.func12, Try.ntmps12
  go_wp2_with fail
  refine (none_pr g N H F M w HH.out).mono ?_
  rintro e w' ⟨rfl, rfl⟩
  go_wp2
  go_ret
  exact ⟨rfl, rfl⟩
theorem moves_pr (g : Nat) (N H F M : Int) (w : World) (h : Pr w g N H F M) : Calls Try.prog 15 #[.pointer (some ⟨g, 0, none⟩)] w fun e w' => e = .returned (.int .i64 M) ∧ w = w' := by
  have c4 := h.c4
  have HH := Lib.hid h
  clear h
  go_enter Try.func15, Try.ntmps15
  go_wp2_with fail
  refine (none_pr g N H F M w HH.out).mono ?_
  rintro e w' ⟨rfl, rfl⟩
  go_wp2
  go_ret
  exact ⟨rfl, rfl⟩
/-- What a peer tells as its address. -/
def fromS (N F : Int) : Value := if N = 0 then .tuple #[.int .u32 0, .bool false] else .tuple #[.int .u32 F, .bool true]
theorem from_pr (g : Nat) (N H F M : Int) (w : World) (h : Pr w g N H F M) : Calls Try.prog 11 #[.pointer (some ⟨g, 0, none⟩)] w fun e w' => e = .returned (fromS N F) ∧ w = w' := by
  have c3 := h.c3
  have HH := Lib.hid h
  clear h
  unfold fromS
  by_cases hN : N = 0
  · rw [if_pos hN]
    have hb : (N == 0) = true := by simp [hN]
    go_enter Try.func11, Try.ntmps11
    go_wp2_with fail
    refine (silent_pr g N H F M w HH.out).mono ?_
    rintro e w' ⟨rfl, rfl⟩
    go_wp2
    go_returns
    exact ⟨rfl, rfl⟩
  · rw [if_neg hN]
    have hb : (N == 0) = false := by simp [hN]
    go_enter Try.func11, Try.ntmps11
    go_wp2_with fail
    refine (silent_pr g N H F M w HH.out).mono ?_
    rintro e w' ⟨rfl, rfl⟩
    go_wp2
    go_returns
    exact ⟨rfl, rfl⟩

theorem heard_no (g N H : Nat) (F M : Int) (n : Nat) (w : World) (h : Pr w g N H F M) (_hN : N < 18446744073709551616) (_hn : n < 18446744073709551616) (hz : N = 0) :
    Calls Try.prog 13 #[.pointer (some ⟨g, 0, none⟩), .int .u64 n] w fun e w' => e = .returned (.bool false) ∧ w = w' := by
  have c1 := h.c1
  have c2 := h.c2
  have HH := Lib.hid h
  clear h
  subst hz
  have hb : (((0 : Nat) : Int) == 0) = true := rfl
  go_enter Try.func13, Try.ntmps13
  go_wp2_with fail
  refine (silent_pr g (0 : Nat) H F M w HH.out).mono ?_
  rintro e w' ⟨rfl, rfl⟩
  go_wp2
  go_ret
  exact ⟨rfl, rfl⟩
theorem heard_above (g N H : Nat) (F M : Int) (n : Nat) (w : World) (h : Pr w g N H F M) (_hN : N < 18446744073709551616) (_hn : n < 18446744073709551616) (hz : 0 < N) (hlt : N < n) :
    Calls Try.prog 13 #[.pointer (some ⟨g, 0, none⟩), .int .u64 n] w fun e w' => e = .returned (.bool false) ∧ w = w' := by
  have c1 := h.c1
  have c2 := h.c2
  have HH := Lib.hid h
  clear h
  have hb : ((N : Int) == 0) = false := by simp; omega
  have hg : ((N : Nat) : Int) < (n : Int) := by omega
  go_enter Try.func13, Try.ntmps13
  go_wp2_with fail
  refine (silent_pr g N H F M w HH.out).mono ?_
  rintro e w' ⟨rfl, rfl⟩
  go_wp2
  go_ret
  exact ⟨rfl, rfl⟩
theorem heard_zero (g N H : Nat) (F M : Int) (n : Nat) (w : World) (h : Pr w g N H F M) (_hN : N < 18446744073709551616) (_hn : n < 18446744073709551616) (hz : 0 < N) (h0 : n = 0) :
    Calls Try.prog 13 #[.pointer (some ⟨g, 0, none⟩), .int .u64 n] w fun e w' => e = .returned (.bool true) ∧ w = w' := by
  have c1 := h.c1
  have c2 := h.c2
  have HH := Lib.hid h
  clear h
  subst h0
  have hb : ((N : Int) == 0) = false := by simp; omega
  have hd' : (N : Int) - ((0 : Nat) : Int) = (N : Int) := by omega
  go_enter Try.func13, Try.ntmps13
  go_wp2_with fail
  refine (silent_pr g N H F M w HH.out).mono ?_
  rintro e w' ⟨rfl, rfl⟩
  go_wp2
  go_ret
  exact ⟨rfl, rfl⟩
theorem heard_far (g N H : Nat) (F M : Int) (n : Nat) (w : World) (h : Pr w g N H F M) (_hN : N < 18446744073709551616) (_hn : n < 18446744073709551616) (hz : 0 < N) (hle : n ≤ N) (hp : 0 < n) (h64 : 64 ≤ N - n) :
    Calls Try.prog 13 #[.pointer (some ⟨g, 0, none⟩), .int .u64 n] w fun e w' => e = .returned (.bool true) ∧ w = w' := by
  have c1 := h.c1
  have c2 := h.c2
  have HH := Lib.hid h
  clear h
  have hb : ((N : Int) == 0) = false := by simp; omega
  have hn0 : ((n : Int) == 0) = false := by simp; omega
  obtain ⟨d, hd⟩ : ∃ d, N - n = d := ⟨_, rfl⟩
  have hd' : (N : Int) - (n : Int) = (d : Int) := by omega
  have hdb : (64 : Int) ≤ (d : Int) := by omega
  go_enter Try.func13, Try.ntmps13
  go_wp2_with fail
  refine (silent_pr g N H F M w HH.out).mono ?_
  rintro e w' ⟨rfl, rfl⟩
  go_wp2
  go_ret
  exact ⟨rfl, rfl⟩
theorem heard_in (g N H : Nat) (F M : Int) (n : Nat) (w : World) (h : Pr w g N H F M) (_hN : N < 18446744073709551616) (_hn : n < 18446744073709551616) (hz : 0 < N) (hle : n ≤ N) (hp : 0 < n) (h64 : N - n < 64) :
    Calls Try.prog 13 #[.pointer (some ⟨g, 0, none⟩), .int .u64 n] w fun e w' => e = .returned (.bool (H.testBit (N - n))) ∧ w = w' := by
  have c1 := h.c1
  have c2 := h.c2
  have HH := Lib.hid h
  clear h
  have hb : ((N : Int) == 0) = false := by simp; omega
  have hn0 : ((n : Int) == 0) = false := by simp; omega
  obtain ⟨d, hd⟩ : ∃ d, N - n = d := ⟨_, rfl⟩
  have hd' : (N : Int) - (n : Int) = (d : Int) := by omega
  have hdb : (d : Int) < 64 := by omega
  rw [hd]
  go_enter Try.func13, Try.ntmps13
  go_wp2_with fail
  refine (silent_pr g N H F M w HH.out).mono ?_
  rintro e w' ⟨rfl, rfl⟩
  go_wp2
  go_ret
  refine ⟨?_, rfl⟩
  have e64 : decide ((64 : Int) ≤ (d : Int)) = false := by simp; omega
  have ht := and1 H d
  simp [e64, ht]
theorem heard_pr (g N H : Nat) (F M : Int) (n : Nat) (w : World) (h : Pr w g N H F M) (hN : N < 18446744073709551616) (hn : n < 18446744073709551616) :
    Calls Try.prog 13 #[.pointer (some ⟨g, 0, none⟩), .int .u64 n] w fun e w' => e = .returned (.bool (heardS N H n)) ∧ w = w' := by
  unfold heardS
  by_cases hz : N = 0
  · have := heard_no g N H F M n w h hN hn hz
    simpa [hz] using this
  · by_cases hlt : N < n
    · have := heard_above g N H F M n w h hN hn (by omega) hlt
      have e1 : decide (n ≤ N) = false := by simp; omega
      simpa [hz, e1] using this
    · have e1 : decide (n ≤ N) = true := by simp; omega
      by_cases h0 : n = 0
      · have := heard_zero g N H F M n w h hN hn (by omega) h0
        simpa [hz, h0] using this
      · by_cases h64 : 64 ≤ N - n
        · have := heard_far g N H F M n w h hN hn (by omega) (by omega) (by omega) h64
          simpa [hz, e1, h0, h64] using this
        · have := heard_in g N H F M n w h hN hn (by omega) (by omega) (by omega) (by omega)
          simpa [hz, e1, h0, h64] using this
end Go.Proofs.Ytjbnoggmnfannaa
