/-
  Proved here: of a sender that New made: isNone, State, Left, next and cut; and what one that is nil, or that no call made, answers.
-/
import Derived.Test.YtdlhpmbgpjjkoaaDoorFib
import Derived.BigRegion
set_option linter.unusedSimpArgs false
set_option linter.unusedVariables false
namespace Go.Proofs.YtdlhpmbgpjjkoaaDoor
open Go.RowKit
theorem none_nil (w : World) : Calls Tryd.prog 38 #[.pointer none] w fun e w' => e = .returned (.bool true) ∧ w = w' := by
  go_enter Tryd.func38, Tryd.ntmps38
  go_wp2
  go_ret
  exact ⟨rfl, rfl⟩
theorem none_zero {w : World} {g : Nat} (h : w.cell? ⟨g, 0, none⟩ = some (.int .u64 0)) : Calls Tryd.prog 38 #[.pointer (some ⟨g, 0, none⟩)] w fun e w' => e = .returned (.bool true) ∧ w = w' := by
  go_enter Tryd.func38, Tryd.ntmps38
  go_wp2
  go_ret
  exact ⟨rfl, rfl⟩
theorem none_id {w : World} {g id : Nat} (h : w.cell? ⟨g, 0, none⟩ = some (.int .u64 id)) (hid : 1 ≤ id) : Calls Tryd.prog 38 #[.pointer (some ⟨g, 0, none⟩)] w fun e w' => e = .returned (.bool false) ∧ w = w' := by
  have e0 : ((id : Int) == 0) = false := by simp; omega
  go_enter Tryd.func38, Tryd.ntmps38
  go_wp2
  go_ret
  exact ⟨rfl, rfl⟩
section
variable {w : World} {g : Nat} {id : Nat} {nm : ByteArray} {sum : List Nat} {bs : List Int} {N b p : Nat} {z : Bool}
theorem none_sd (h : Sd w g id nm sum bs N b p z) : Calls Tryd.prog 38 #[.pointer (some ⟨g, 0, none⟩)] w fun e w' => e = .returned (.bool false) ∧ w = w' := none_id h.c0 h.id1
/-- What State tells. -/
def stS (z : Bool) (N b : Nat) : Int := if z = true then 1 else if b = 2 ^ N - 1 then 2 else 0
theorem state_gone (h : Sd w g id nm sum bs N b p true) : Calls Tryd.prog 22 #[.pointer (some ⟨g, 0, none⟩)] w fun e w' => e = .returned (.int .i64 1) ∧ Below w.heap.size w w' := by
  have c39 := h.c39
  have HN := Lib.hid (none_sd h)
  have HB := Lib.hid (Below.refl w.heap.size w)
  clear h
  go_enter Tryd.func22, Tryd.ntmps22
  go_wp2_with (go_at_call 38; refine HN.out.mono ?_; rintro e wx ⟨rfl, rfl⟩)
  go_ret
  exact ⟨rfl, HB.out⟩
theorem state_here (h : Sd w g id nm sum bs N b p false) : Calls Tryd.prog 22 #[.pointer (some ⟨g, 0, none⟩)] w fun e w' => e = .returned (.int .i64 (if b = 2 ^ N - 1 then 2 else 0)) ∧ Below w.heap.size w w' := by
  have c39 := h.c39
  have c36 := h.c36
  have c37 := h.c37
  have HN := Lib.hid (none_sd h)
  have HF := Lib.hid (fun W => full_in h.right W)
  unfold mV at HF
  by_cases hf : b = 2 ^ N - 1
  · rw [decide_eq_true hf] at HF
    rw [if_pos hf]
    clear h hf
    go_enter Tryd.func22, Tryd.ntmps22
    go_wp2_with (go_at_call 38; refine HN.out.mono ?_; rintro e wx ⟨rfl, rfl⟩)
    refine (HF.out _).mono ?_
    rintro e wx ⟨rfl, hx⟩
    have HX := Lib.hid hx
    clear hx c36 c37 c39
    go_wp2
    go_ret
    exact ⟨rfl, HX.out⟩
  · rw [decide_eq_false hf] at HF
    rw [if_neg hf]
    clear h hf
    go_enter Tryd.func22, Tryd.ntmps22
    go_wp2_with (go_at_call 38; refine HN.out.mono ?_; rintro e wx ⟨rfl, rfl⟩)
    refine (HF.out _).mono ?_
    rintro e wx ⟨rfl, hx⟩
    have HX := Lib.hid hx
    clear hx c36 c37 c39
    go_wp2
    go_ret
    exact ⟨rfl, HX.out⟩
theorem state_sd (h : Sd w g id nm sum bs N b p z) : Calls Tryd.prog 22 #[.pointer (some ⟨g, 0, none⟩)] w fun e w' => e = .returned (.int .i64 (stS z N b)) ∧ Below w.heap.size w w' := by
  cases z
  · exact state_here h
  · exact state_gone h
/-- What Left tells. -/
def lfS (z : Bool) (N b : Nat) : Nat := if z = true then 0 else N - cntB N b
theorem left_gone (h : Sd w g id nm sum bs N b p true) : Calls Tryd.prog 20 #[.pointer (some ⟨g, 0, none⟩)] w fun e w' => e = .returned (.int .i64 0) ∧ Below w.heap.size w w' := by
  have c39 := h.c39
  have HN := Lib.hid (none_sd h)
  have HB := Lib.hid (Below.refl w.heap.size w)
  clear h
  go_enter Tryd.func20, Tryd.ntmps20
  go_wp2_with (go_at_call 38; refine HN.out.mono ?_; rintro e wx ⟨rfl, rfl⟩)
  go_ret
  exact ⟨rfl, HB.out⟩
/-- The map's two cells of a sender, and what was there. -/
abbrev SF (U : World) (g : Nat) (N b : Int) (W : World) : Prop := W.cell? ⟨g, 36, none⟩ = some (.int .i64 N) ∧ W.cell? ⟨g, 37, none⟩ = some (.int .u64 b) ∧ Hid (Below U.heap.size U W)
theorem SF.of {U : World} {W : World} (hc : Hid (Sd U g id nm sum bs N b p z)) (h : Hid (Below U.heap.size U W)) : SF U g N b W := ⟨(hc.out.below h.out).c36, (hc.out.below h.out).c37, h⟩
theorem SF.last {U : World} {N b : Int} {W : World} (h : SF U g N b W) : Below U.heap.size U W := h.2.2.out
theorem SF.to {U : World} {W W' : World} (hc : Hid (Sd U g id nm sum bs N b p z)) (hb : Below W.heap.size W W') (h : SF U g N b W) : SF U g N b W' := SF.of hc (Lib.hid (h.last.trans (hb.mono h.last.size)))
theorem left_here (h : Sd w g id nm sum bs N b p false) : Calls Tryd.prog 20 #[.pointer (some ⟨g, 0, none⟩)] w fun e w' => e = .returned (.int .i64 ((N - cntB N b : Nat) : Int)) ∧ Below w.heap.size w w' := by
  have c39 := h.c39
  have c36 := h.c36
  have c37 := h.c37
  have HN := Lib.hid (none_sd h)
  have HC := Lib.hid (fun W => mcount_any N (rB_lt h.right) W)
  rw [cntS_in h.right] at HC
  unfold mV at HC
  have hle := cntB_le N b
  have hn := h.n64
  have HS := Lib.hid h
  obtain ⟨c, hc⟩ : ∃ c, cntB N b = c := ⟨_, rfl⟩
  rw [hc] at HC hle ⊢
  have w1 : IntKind.i64.wrap ((N : Int) - (c : Int)) = ((N - c : Nat) : Int) := by rw [IntWalk.i64_in _ (by omega)]; omega
  clear h hc
  have HD := Lib.hid (belowN (Below.refl w.heap.size w) 1)
  go_enter Tryd.func20, Tryd.ntmps20
  go_wp2_with (go_at_call 38; refine HN.out.mono ?_; rintro e wx ⟨rfl, rfl⟩)
  go_region_held3 (SF w g N b)
    (first | exact SF.of HS HD | assumption | exact SF.to HS (by assumption) (by assumption))
    ((go_at_call 39; refine (HC.out _).mono ?_; rintro e wy ⟨rfl, hby⟩))
  have HX := Lib.hid (SF.last (W := wy) (by assumption))
  clear hby
  go_wp2
  go_ret
  exact ⟨rfl, HX.out⟩
theorem left_sd (h : Sd w g id nm sum bs N b p z) : Calls Tryd.prog 20 #[.pointer (some ⟨g, 0, none⟩)] w fun e w' => e = .returned (.int .i64 (lfS z N b : Nat)) ∧ Below w.heap.size w w' := by
  cases z
  · exact left_here h
  · exact left_gone h
end
end Go.Proofs.YtdlhpmbgpjjkoaaDoor
