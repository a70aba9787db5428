/-
  Proved here: a cell as the document's.
-/
import Derived.Test.YtahmnipcdkcpiaaGr
import Derived.Test.YtahmnipcdkcpiaaYa
set_option linter.unusedSimpArgs false
set_option linter.unusedVariables false
namespace Go.Proofs.Ytahmnipcdkcpiaa
open Go.RowKit
abbrev styV (s : Sty) : Value := .agg (styL s).toArray
theorem eight {l : List Bool} (h : l.length = 8) : ∃ a b c d e f g i, l = [a, b, c, d, e, f, g, i] := by
  match l, h with
  | [a, b, c, d, e, f, g, i], _ => exact ⟨a, b, c, d, e, f, g, i, rfl⟩
theorem info_sty : (Try.prog.info? 47).map (·.size) = some 10 := by kernel_rfl
theorem styL_size {s : Sty} (h : s.fs.length = 8) : (styL s).toArray.size = 10 := by simp [styL_len s h]
theorem styL_one (s : Sty) : (styL s).toArray.all (·.oneCell') = true := by
  simp [styL, Value.oneCell']
theorem styL_all (s : Sty) : ∀ v ∈ (styL s), v.oneCell' = true := by
  intro v hv
  have := styL_one s
  rw [List.all_toArray] at this
  exact List.all_eq_true.1 this v hv
theorem info_of {s : Sty} (h : s.fs.length = 8) : (Try.prog.info? 47).map (·.size) = some (styL s).toArray.size := by rw [styL_size h]; exact info_sty
def half : Nat → Int → Int
  | 0, f => f
  | i + 1, f => half i f / 2
theorem half_range {f : Int} (h0 : 0 ≤ f) (h1 : f < 256) : ∀ i, 0 ≤ half i f ∧ half i f < 256
  | 0 => ⟨h0, h1⟩
  | i + 1 => by have := half_range h0 h1 i; rw [half]; omega
def fsN (f : Int) : Nat → List Bool
  | 0 => zeroF
  | i + 1 => (fsN f i).set i (decide (half i f % 2 = 1))
theorem fsN_len (f : Int) : ∀ i, (fsN f i).length = 8
  | 0 => rfl
  | i + 1 => by rw [fsN, List.length_set]; exact fsN_len f i
theorem fsN_8 (f : Int) : fsN f 8 = ofF 8 f := by
  simp [fsN, zeroF, ofF, half]
  exact ⟨rfl, rfl, rfl, rfl, rfl, rfl, rfl, rfl⟩
theorem flagsF_range : ∀ l : List Bool, 0 ≤ flagsF l ∧ flagsF l < 2 ^ l.length
  | [] => by simp [flagsF]
  | b :: r => by
    have h := flagsF_range r
    rw [flagsF, List.length_cons, Int.pow_succ]
    cases b <;> simp <;> omega
theorem flagsF_ofF : ∀ (k : Nat) (f : Int), 0 ≤ f → f < 2 ^ k → flagsF (ofF k f) = f
  | 0, f, h0, h1 => by simp at h1; simp [ofF, flagsF]; omega
  | k + 1, f, h0, h1 => by
    rw [Int.pow_succ] at h1
    rw [ofF, flagsF, flagsF_ofF k (f / 2) (by omega) (by omega)]
    by_cases h : f % 2 = 1
    · simp [h]; omega
    · simp [h]; omega
/-- A style of this call's own, behind its answer's place. -/
structure Ow2 (w : World) (s : Sty) (W : World) : Prop where
  row : W.heap[w.heap.size + 1]? = some (.cells (styL s).toArray 47 (0, 0))
  zero : W.heap[w.heap.size]? = some (.cells (styL zeroY).toArray 47 (0, 0))
  below : Below w.heap.size w W
theorem Ow2.cell {w : World} {s : Sty} {W : World} (h : Ow2 w s W) {i : Nat} {v : Value} (hv : (styL s)[i]? = some v) : W.cell? ⟨w.heap.size + 1, i, none⟩ = some v := by
  unfold World.cell?; simp only [h.row]; simpa using hv
theorem Ow2.free {w : World} {s : Sty} {W : World} (h : Ow2 w s W) (i : Nat) : W.frozen? ⟨w.heap.size + 1, i, none⟩ = false := frozen_of_row W _ i _ _ h.row
theorem Ow2.set {w : World} {s s' : Sty} {W : World} (h : Ow2 w s W) (i : Nat) (v : Value) (e : (styL s).set i v = styL s') : Ow2 w s' (W.setCell ⟨w.heap.size + 1, i, none⟩ v) := by
  refine ⟨?_, ?_, h.below.setCell (Nat.le_succ _) v⟩
  · rw [heap_setCell_same W _ i _ _ v h.row, ← e]; simp
  · rw [heap_setCell_other W _ _ v (by simp)]; exact h.zero
theorem ow2_new (w : World) (s : Sty) (C : Array Value) (hC : C = (styL s).toArray) (Z : Array Value) (hZ : Z = (styL zeroY).toArray) : Ow2 w s ((w.alloc (.cells Z 47)).alloc (.cells C 47)) := by
  subst hC hZ
  exact ⟨by have := heap_alloc_new (w.alloc (.cells (styL zeroY).toArray 47)) (.cells (styL s).toArray 47); simpa using this, (Below.heap_alloc _ _ _ (by simp)).trans (heap_alloc_new _ _), ((Below.refl _ _).alloc (Nat.le_refl _) _).alloc (by simp) _⟩
set_option maxRecDepth 100000 in
set_option maxHeartbeats 1000000 in
theorem ry_of (f fg bg : Int) (w : World) (h0 : 0 ≤ f) (h1 : f < 256) :
    Calls Try.prog 53 #[.int .u8 f, .int .u32 fg, .int .u32 bg] w fun e w' => e = .returned (styV ⟨ofF 8 f, fg, bg⟩) ∧ Below w.heap.size w w' := by
  have HZ0 : Hid (Ow2 w ⟨fsN f 0, fg, bg⟩ ((w.alloc (.cells #[.bool false, .bool false, .bool false, .bool false, .bool false, .bool false, .bool false, .bool false, .int .u32 0, .int .u32 0] 47)).alloc (.cells #[.bool false, .bool false, .bool false, .bool false, .bool false, .bool false, .bool false, .bool false, .int .u32 fg, .int .u32 bg] 47))) := Lib.hid (ow2_new w _ _ rfl _ rfl)
  have HRG := Lib.hid (half_range h0 h1)
  obtain ⟨F, hF⟩ : ∃ F, ofF 8 f = F := ⟨_, rfl⟩
  rw [hF]
  have HF := Lib.hid ((fsN_8 f).trans hF)
  clear hF h0 h1
  go_enter Try.func53, Try.ntmps53
  go_wp2
  generalize ((w.alloc (.cells #[.bool false, .bool false, .bool false, .bool false, .bool false, .bool false, .bool false, .bool false, .int .u32 0, .int .u32 0] 47)).alloc (.cells #[.bool false, .bool false, .bool false, .bool false, .bool false, .bool false, .bool false, .bool false, .int .u32 fg, .int .u32 bg] 47)) = U0 at HZ0 ⊢
  go_loopw [0, 8] (fun fv iv wr => ∃ i : Nat, fv = .int .u8 (half i f) ∧ iv = .int .i64 i ∧ i ≤ 8 ∧ Hid (Ow2 w ⟨fsN f i, fg, bg⟩ wr)) (fun _ iv _ => 8 - (intOf iv).toNat)
  case atStart => exact ⟨0, rfl, rfl, by omega, HZ0⟩
  case round =>
    obtain ⟨i, rfl, rfl, hi, HZ⟩ := hrel
    clear HZ0
    by_cases hi8 : i < 8
    · have d1 : decide ((i : Int) < 8) = true := by simp; omega
      have d2 : decide (i < 8) = true := by simp; omega
      have g4 : (i : Int) < 8 := by omega
      obtain ⟨x, hx⟩ : ∃ x, half i f = x := ⟨_, rfl⟩
      have hr := HRG.out i
      rw [hx] at hr
      obtain ⟨x0, x1⟩ := hr
      have k1 := HZ.out.cell (i := i) (styL_f (fsN_len f i) hi8)
      have k2 := HZ.out.free i
      obtain ⟨b, hb⟩ : ∃ b, decide (x % 2 = 1) = b := ⟨_, rfl⟩
      have hb2 : (x % 2 == 1) = b := by rw [← hb]; exact Bool.eq_iff_iff.2 (by simp)
      have HZ2 : Hid (Ow2 w ⟨fsN f (i + 1), fg, bg⟩ (wr.setCell ⟨w.heap.size + 1, i, none⟩ (.bool b))) := Lib.hid (HZ.out.set i (.bool b) (by rw [fsN, hx, hb]; exact styL_set (s := ⟨fsN f i, fg, bg⟩) (fsN_len f i) hi8 b))
      have HH : Hid (x / 2 = half (i + 1) f) := Lib.hid (by rw [half, hx])
      rw [hx]
      clear hx hb HZ
      go_wp2
      go_roundw
      case rel => exact ⟨i + 1, by rw [HH.out], by go_num, by omega, HZ2⟩
      case measure => simp [intOf]; omega
    · obtain rfl : i = 8 := by omega
      have d1 : decide (((8 : Nat) : Int) < 8) = false := by decide
      rw [HF.out] at HZ
      have HIS := Lib.hid (info_of (s := ⟨F, fg, bg⟩) (by show F.length = 8; rw [← HF.out]; exact fsN_len f 8))
      go_wp2_with (first | refine wpList_load_row rfl 47 _ rfl (w.heap.size + 1) rfl 47 (styL ⟨F, fg, bg⟩).toArray (0,0) _ HZ.out.row Try.underlying47 rfl HIS.out ?_ | refine wpList_store_row rfl 47 _ _ rfl w.heap.size _ rfl rfl 47 (styL zeroY).toArray HZ.out.zero HIS.out ?c1 ?c2 ?_)
      case c1 =>
        have h1 := info_of (s := zeroY) rfl
        have h2 := HIS.out
        rw [h1] at h2
        exact Option.some.inj h2
      case c2 => first | exact styL_one _ | exact styL_all _
      exact bodyPost_ret (v := styV ⟨F, fg, bg⟩) (results_cell_row (p := 6) (ty := 47) Try.results53 _ _ w.heap.size 47 _ (0, 0) _ rfl (setRow_heap _ _ _ _ _ _ HZ.out.zero) Try.underlying47 rfl HIS.out) rfl ⟨rfl, below_setRow HZ.out.below (Nat.le_refl _) _⟩
set_option maxRecDepth 100000 in
set_option maxHeartbeats 4000000 in
theorem as_any (f fg bg : Int) (w : World) (h0 : 0 ≤ f) (h1 : f < 256) : Calls Try.prog 40 #[.agg #[.int .u8 f, .int .u32 fg, .int .u32 bg]] w fun e w' => e = .returned (styV ⟨ofF 8 f, fg, bg⟩) ∧ Below w.heap.size w w' := by
  have hl : (ofF 8 f).length = 8 := ofF_len 8 f
  have HO := Lib.hid (fun W => ry_of f fg bg W h0 h1)
  obtain ⟨fs, hfs⟩ : ∃ l, ofF 8 f = l := ⟨_, rfl⟩
  rw [hfs] at HO hl ⊢
  have HB0 := Lib.hid ((Below.refl w.heap.size w).alloc (Nat.le_refl _) (.cells #[.int .u8 f, .int .u32 fg, .int .u32 bg] 37))
  have h : (Sty.mk fs fg bg).fs.length = 8 := hl
  clear h0 h1 hfs hl
  go_enter Try.func40, Try.ntmps40
  go_wp2_with fail
  refine (HO.out _).mono ?_
  rintro e w1 ⟨rfl, hb⟩
  have HBX := HB0.out.alloc HB0.out.size (.cells #[.bool false, .bool false, .bool false, .bool false, .bool false, .bool false, .bool false, .bool false, .int .u32 0, .int .u32 0] 47)
  have HRO := Lib.hid ((hb.block _ (by simp)).trans (heap_alloc2_new w (.cells #[.int .u8 f, .int .u32 fg, .int .u32 bg] 37) (.cells #[.bool false, .bool false, .bool false, .bool false, .bool false, .bool false, .bool false, .bool false, .int .u32 0, .int .u32 0] 47)))
  have HB1 := Lib.hid (HBX.trans (hb.mono HBX.size))
  have HIS := Lib.hid (info_of (s := ⟨fs, fg, bg⟩) h)
  clear hb HBX h
  go_wp2_with (first | refine wpList_store_row rfl 47 _ _ rfl (w.heap.size + 1) (styL ⟨fs, fg, bg⟩).toArray rfl rfl 47 _ HRO.out HIS.out ?c1 (styL_one _) ?_)
  case c1 =>
    have h1 := info_of (s := zeroY) rfl
    have h2 := HIS.out
    rw [h1] at h2
    exact Option.some.inj h2
  exact bodyPost_ret (v := styV ⟨fs, fg, bg⟩) (results_cell_row (p := 2) (ty := 47) Try.results40 _ _ (w.heap.size + 1) 47 _ (0, 0) _ rfl (setRow_heap _ _ _ _ _ _ HRO.out) Try.underlying47 rfl HIS.out) rfl ⟨rfl, below_setRow HB1.out (by omega) _⟩
end Go.Proofs.Ytahmnipcdkcpiaa
