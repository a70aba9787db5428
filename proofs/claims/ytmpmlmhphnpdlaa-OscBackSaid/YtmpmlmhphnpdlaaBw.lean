/-
  Proved here: the document's own letter and value of base.
-/
import Derived.Test.YtmpmlmhphnpdlaaBb
import Derived.Test.YtmpmlmhphnpdlaaOw
import Derived.RegionTactic
import Derived.BigRegion
import Derived.IntWalk
import Derived.WalkLawsBesides
import Derived.Below
import Derived.OneCell
import Derived.Laws.Rows
namespace Go.Proofs.Ytmpmlmhphnpdlaa
open Go.RowKit
/-- The letters' text. -/
def alphaT : ByteArray := ⟨#[65, 66, 67, 68, 69, 70, 71, 72, 73, 74, 75, 76, 77, 78, 79, 80, 81, 82, 83, 84, 85, 86, 87, 88, 89, 90, 97, 98, 99, 100, 101, 102, 103, 104, 105, 106, 107, 108, 109, 110, 111, 112, 113, 114, 115, 116, 117, 118, 119, 120, 121, 122, 48, 49, 50, 51, 52, 53, 54, 55, 56, 57, 43, 47]⟩
theorem alpha_at : ∀ v : Fin 64, (((alphaT[v.1]'(by have := v.2; exact this)).toNat : Nat) : Int) = lett v.1 := by decide +kernel
theorem rletter_any (v : Nat) (h : v < 64) (w : World) : Calls Try.prog 74 #[.int .i64 v] w fun e w' => e = .returned (.int .u8 (lett v)) ∧ w = w' := by
  obtain ⟨r, hr⟩ : ∃ r, lett v = r := ⟨_, rfl⟩
  have HR := Lib.hid (fun (_ : Unit) => hr)
  rw [hr]
  clear hr
  have g3 : (0 : Int) ≤ (v : Int) := by omega
  have g4 : (v : Int) < 64 := by omega
  go_enter Try.func74, Try.ntmps74
  go_wp2
  go_ret
  exact ⟨ret_int ((alpha_at ⟨v, h⟩).trans (HR.out ())), rfl⟩
theorem rvalue_any (c : Int) (w : World) : Calls Try.prog 73 #[.int .u8 c] w fun e w' => e = .returned (.int .i64 (valL c)) ∧ w = w' := by
  obtain ⟨r, hr⟩ : ∃ r, valL c = r := ⟨_, rfl⟩
  have HR := Lib.hid (fun (_ : Unit) => hr)
  rw [hr]
  clear hr
  go_enter Try.func73, Try.ntmps73
  go_wp2
  go_loopw [3] (fun iv wr => ∃ i : Nat, iv = .int .i64 i ∧ i ≤ 64 ∧ Hid (∀ j : Nat, j < i → lett j ≠ c) ∧ w = wr) (fun iv _ => 64 - (intOf iv).toNat)
  case atStart => exact ⟨0, rfl, by omega, Lib.hid (fun j hj => absurd hj (by omega)), rfl⟩
  case round =>
    obtain ⟨i, rfl, hi, HJ, rfl⟩ := hrel
    by_cases hin : i < 64
    · have d1 : decide ((i : Int) < 64) = true := by simp; omega
      obtain ⟨y, hy⟩ : ∃ y, lett i = y := ⟨_, rfl⟩
      have HY := Lib.hid (fun (_ : Unit) => hy)
      have HC : Hid (∀ w : World, Calls Try.prog 74 #[.int .i64 i] w fun e w' => e = .returned (.int .u8 y) ∧ w = w') := Lib.hid (fun w => hy ▸ rletter_any i hin w)
      clear hy
      by_cases hyc : y = c
      · have e : r = i := by rw [← HR.out (), ← hyc, ← HY.out (), val_lett (by omega) (by omega)]
        have x1 : (y == c) = true := by simpa using hyc
        subst e
        clear HJ HY HR hyc
        go_wp2_with (go_at_call 74; refine (HC.out _).mono ?_; rintro e w' ⟨rfl, rfl⟩)
        go_ret
        exact ⟨rfl, rfl⟩
      · have x1 : (y == c) = false := by simpa using hyc
        have HJ' : Hid (∀ j : Nat, j < i + 1 → lett j ≠ c) := Lib.hid (fun j hj => by
          rcases Nat.lt_or_ge j i with h | h
          · exact HJ.out j h
          · rw [show j = i by omega, HY.out ()]; exact hyc)
        clear HJ HY hyc
        go_wp2_with (go_at_call 74; refine (HC.out _).mono ?_; rintro e w' ⟨rfl, rfl⟩)
        go_roundw
        case rel => exact ⟨i + 1, by go_num, by omega, HJ', trivial⟩
        case measure => simp [intOf]; omega
    · have e : r = -1 := by
        rw [← HR.out ()]
        have hv := val_range c
        by_cases h : valL c < 0
        · omega
        · exfalso
          have h : 0 ≤ valL c := by omega
          obtain ⟨k, hk⟩ : ∃ k : Nat, valL c = k := ⟨(valL c).toNat, by omega⟩
          have := lett_val h
          rw [hk] at this
          exact HJ.out k (by omega) this
      have d1 : decide ((i : Int) < 64) = false := by simp; omega
      subst e
      clear HJ HR
      go_wp2
      go_ret
      exact ⟨rfl, rfl⟩
/-- Texts as lists of bytes. -/
theorem str_app (a b : List Int) : strOfNums a ++ strOfNums b = strOfNums (a ++ b) := by
  apply ByteArray.ext
  simp [strOfNums]
theorem str_nil : strOfNums [] = ⟨#[]⟩ := rfl
theorem conv_nums {w : World} {A : Option Addr} {bs : List Int} {n : Nat} (hn : bs.length = n) (c : Nat) (h : RI .u8 w A bs) :
    (convert 85 9 (.slice A n c)).run Try.prog w = .ok (.string (strOfNums bs)) w := by
  subst hn
  rcases Nat.eq_zero_or_pos bs.length with h0 | h0
  · obtain rfl : bs = [] := List.eq_nil_of_length_eq_zero h0
    rcases A with _ | ad
    · exact run_convert_bytes_nil (P := Try.prog) w 85 5 Try.underlying85 Try.underlying5 0 c 9 Try.underlying9
    · rw [run_convert_bytes_string w 85 9 5 _ _ c Try.underlying85 Try.underlying5 Try.underlying9]
      exact run_bytesToString w ad 0 c [] (run_loadCells_list (P := Try.prog) w ad [] (fun j v hj => by simp at hj))
  · obtain ⟨b, off, rfl, _, hc⟩ := h h0
    exact run_convert_bytes_arg (P := Try.prog) w 85 5 Try.underlying85 Try.underlying5 b off _ c bs rfl hc 9 Try.underlying9
end Go.Proofs.Ytmpmlmhphnpdlaa
