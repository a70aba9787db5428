/-
  Proved here: of the document's styles: isColour, Right, place, small, tell.
-/
import Derived.Test.YtjihcpnaebghnaaDoorYa
import Derived.Test.YtjihcpnaebghnaaDoorOw
import Derived.IntWalk
import Derived.WalkLawsBesides
import Derived.Below
import Derived.OneCell
import Derived.Laws.Rows
import Derived.BigQuiet
import Derived.Laws.Tables
import Derived.Laws.CopyOwn
import Derived.LoopTactic
set_option linter.unusedSimpArgs false
set_option linter.unusedVariables false
namespace Go.Proofs.YtjihcpnaebghnaaDoor
open Go.RowKit
theorem ry_colour (c : Int) (w : World) (h0 : 0 ≤ c) (h1 : c < 4294967296) : Calls Tryd.prog 99 #[.int .u32 c] w fun e w' => e = .returned (.bool (colB c)) ∧ w = w' := by
  obtain ⟨r, hr⟩ : ∃ r, colB c = r := ⟨_, rfl⟩
  have HR := Lib.hid (fun (_ : Unit) => hr)
  rw [hr]
  clear hr
  by_cases a0 : c = 0
  · subst a0
    have e : r = true := (HR.out ()).symm
    subst e
    clear HR
    go_enter Tryd.func99, Tryd.ntmps99
    go_wp2
    go_ret
    exact ⟨rfl, rfl⟩
  have z0 : (c == 0) = false := by simpa using a0
  obtain ⟨q, hq⟩ : ∃ q, c / 16777216 = q := ⟨_, rfl⟩
  obtain ⟨m, hm⟩ : ∃ m, c % 16777216 = m := ⟨_, rfl⟩
  have hr2 : r = ((q == 1 && decide (m < 256)) || q == 2) := by rw [← HR.out (), colB, z0, hq, hm]; simp
  have q0 : 0 ≤ q := by omega
  clear HR a0
  by_cases a1 : q = 1
  · subst a1
    by_cases a2 : m < 256
    · have e : r = true := by rw [hr2]; simp [a2]
      have d : decide (m < 256) = true := by simpa using a2
      subst e
      clear hr2 a2
      go_enter Tryd.func99, Tryd.ntmps99
      go_wp2
      go_ret
      exact ⟨rfl, rfl⟩
    · have e : r = false := by rw [hr2]; simp; omega
      have d : decide (m < 256) = false := by simpa using a2
      subst e
      clear hr2 a2
      go_enter Tryd.func99, Tryd.ntmps99
      go_wp2
      go_ret
      exact ⟨rfl, rfl⟩
  · have z1 : (q == 1) = false := by simpa using a1
    have e : r = (q == 2) := by rw [hr2, z1]; simp
    subst e
    clear hr2 a1
    go_enter Tryd.func99, Tryd.ntmps99
    go_wp2
    go_ret
    exact ⟨rfl, rfl⟩
end Go.Proofs.YtjihcpnaebghnaaDoor

/-
  Proved here: of the document's styles: Right, tell.
-/
set_option linter.unusedSimpArgs false
set_option linter.unusedVariables false
namespace Go.Proofs.YtjihcpnaebghnaaDoor
open Go.RowKit
/-- A style that may stand in memory. -/
structure Good (s : Sty) : Prop where
  len : s.fs.length = 8
  fg : 0 ≤ s.fg ∧ s.fg < 4294967296
  bg : 0 ≤ s.bg ∧ s.bg < 4294967296
abbrev styV (s : Sty) : Value := .agg (styL s).toArray
theorem eight {l : List Bool} (h : l.length = 8) : ∃ a b c d e f g i, l = [a, b, c, d, e, f, g, i] := by
  match l, h with
  | [a, b, c, d, e, f, g, i], _ => exact ⟨a, b, c, d, e, f, g, i, rfl⟩
theorem ry_right (s : Sty) (w : World) (hs : Good s) : Calls Tryd.prog 85 #[styV s] w fun e w' => e = .returned (.bool (rightS s)) ∧ Below w.heap.size w w' := by
  obtain ⟨fs, fg, bg⟩ := s
  obtain ⟨f0, f1, f2, f3, f4, f5, f6, f7, rfl⟩ := eight hs.len
  obtain ⟨a, ha⟩ : ∃ a, colB fg = a := ⟨_, rfl⟩
  obtain ⟨b, hb⟩ : ∃ b, colB bg = b := ⟨_, rfl⟩
  have H1 := Lib.hid (fun W : World => ha ▸ ry_colour fg W hs.fg.1 hs.fg.2)
  have H2 := Lib.hid (fun W : World => hb ▸ ry_colour bg W hs.bg.1 hs.bg.2)
  have e : rightS ⟨[f0, f1, f2, f3, f4, f5, f6, f7], fg, bg⟩ = (a && b) := by rw [← ha, ← hb]; rfl
  rw [e]
  clear e ha hb hs
  show Calls Tryd.prog 85 #[.agg #[.bool f0, .bool f1, .bool f2, .bool f3, .bool f4, .bool f5, .bool f6, .bool f7, .int .u32 fg, .int .u32 bg]] w _
  cases a
  · go_enter Tryd.func85, Tryd.ntmps85
    go_wp2_with fail
    refine (H1.out _).mono ?_
    rintro e wx ⟨rfl, rfl⟩
    go_wp2
    go_ret
    exact ⟨rfl, (Below.refl _ _).alloc (Nat.le_refl _) _⟩
  · go_enter Tryd.func85, Tryd.ntmps85
    go_wp2_with fail
    refine (H1.out _).mono ?_
    rintro e wx ⟨rfl, rfl⟩
    go_wp2_with fail
    refine (H2.out _).mono ?_
    rintro e wx ⟨rfl, rfl⟩
    go_wp2
    go_ret
    exact ⟨ret_bool (by simp), (Below.refl _ _).alloc (Nat.le_refl _) _⟩
end Go.Proofs.YtjihcpnaebghnaaDoor

/-
  Proved here: of the document's styles: one (a number that stands alone).
-/
set_option linter.unusedSimpArgs false
set_option linter.unusedVariables false
namespace Go.Proofs.YtjihcpnaebghnaaDoor
open Go.RowKit
theorem info_sty : (Tryd.prog.info? 78).map (·.size) = some 10 := by kernel_rfl
theorem styL_size {s : Sty} (h : s.fs.length = 8) : (styL s).toArray.size = 10 := by simp [styL_len s h]
theorem styL_one (s : Sty) : (styL s).toArray.all (·.oneCell') = true := by
  simp [styL, Value.oneCell']
theorem styL_all (s : Sty) : ∀ v ∈ (styL s), v.oneCell' = true := by
  intro v hv
  have := styL_one s
  rw [List.all_toArray] at this
  exact List.all_eq_true.1 this v hv
theorem info_of {s : Sty} (h : s.fs.length = 8) : (Tryd.prog.info? 78).map (·.size) = some (styL s).toArray.size := by rw [styL_size h]; exact info_sty
/-- A style of this call's own, and its answer's place. -/
structure Ow1 (w : World) (s : Sty) (W : World) : Prop where
  row : W.heap[w.heap.size]? = some (.cells (styL s).toArray 78 (0, 0))
  zero : W.heap[w.heap.size + 1]? = some (.cells (styL zeroY).toArray 78 (0, 0))
  below : Below w.heap.size w W
theorem Ow1.cell {w : World} {s : Sty} {W : World} (h : Ow1 w s W) {i : Nat} {v : Value} (hv : (styL s)[i]? = some v) : W.cell? ⟨w.heap.size, i, none⟩ = some v := by
  unfold World.cell?; simp only [h.row]; simpa using hv
theorem Ow1.free {w : World} {s : Sty} {W : World} (h : Ow1 w s W) (i : Nat) : W.frozen? ⟨w.heap.size, i, none⟩ = false := frozen_of_row W _ i _ _ h.row
theorem Ow1.set {w : World} {s s' : Sty} {W : World} (h : Ow1 w s W) (i : Nat) (v : Value) (e : (styL s).set i v = styL s') : Ow1 w s' (W.setCell ⟨w.heap.size, i, none⟩ v) := by
  refine ⟨?_, ?_, h.below.setCell (Nat.le_refl _) v⟩
  · rw [heap_setCell_same W _ i _ _ v h.row, ← e]; simp
  · rw [heap_setCell_other W _ _ v (by simp)]; exact h.zero
theorem ow1_new (w : World) (s : Sty) (C : Array Value) (hC : C = (styL s).toArray) (Z : Array Value) (hZ : Z = (styL zeroY).toArray) : Ow1 w s ((w.alloc (.cells C 78)).alloc (.cells Z 78)) := by
  subst hC hZ
  exact ⟨(Below.heap_alloc _ _ _ (by simp)).trans (heap_alloc_new _ _), by have := heap_alloc_new (w.alloc (.cells (styL s).toArray 78)) (.cells (styL zeroY).toArray 78); simpa using this, ((Below.refl _ _).alloc (Nat.le_refl _) _).alloc (by simp) _⟩
end Go.Proofs.YtjihcpnaebghnaaDoor

/-
  Proved here: of the document's styles: Params.
-/
set_option linter.unusedSimpArgs false
set_option linter.unusedVariables false
namespace Go.Proofs.YtjihcpnaebghnaaDoor
open Go.RowKit
theorem OwnI.from {w U W : World} {v : Value} {xs : List Int} (h : OwnI U v xs W) (hb : Below w.heap.size w U) : OwnI w v xs W := ⟨own_mono h.own hb.size, hb.trans (h.below.mono hb.size)⟩
theorem placeS_lt (n : Int) : placeS n < 8 ∧ -1 ≤ placeS n := by unfold placeS; repeat' split <;> omega
end Go.Proofs.YtjihcpnaebghnaaDoor

/-
  Proved here: of the document's styles: Of, Flags.
-/
set_option linter.unusedSimpArgs false
set_option linter.unusedVariables false
namespace Go.Proofs.YtjihcpnaebghnaaDoor
open Go.RowKit
def half : Nat → Int → Int
  | 0, f => f
  | i + 1, f => half i f / 2
theorem half_range {f : Int} (h0 : 0 ≤ f) (h1 : f < 256) : ∀ i, 0 ≤ half i f ∧ half i f < 256
  | 0 => ⟨h0, h1⟩
  | i + 1 => by have := half_range h0 h1 i; rw [half]; omega
def fsN (f : Int) : Nat → List Bool
  | 0 => zeroF
  | i + 1 => (fsN f i).set i (decide (half i f % 2 = 1))
theorem fsN_len (f : Int) : ∀ i, (fsN f i).length = 8
  | 0 => rfl
  | i + 1 => by rw [fsN, List.length_set]; exact fsN_len f i
theorem fsN_8 (f : Int) : fsN f 8 = ofF 8 f := by
  simp [fsN, zeroF, ofF, half]
  exact ⟨rfl, rfl, rfl, rfl, rfl, rfl, rfl, rfl⟩
theorem flagsF_range : ∀ l : List Bool, 0 ≤ flagsF l ∧ flagsF l < 2 ^ l.length
  | [] => by simp [flagsF]
  | b :: r => by
    have h := flagsF_range r
    rw [flagsF, List.length_cons, Int.pow_succ]
    cases b <;> simp <;> omega
theorem flagsF_ofF : ∀ (k : Nat) (f : Int), 0 ≤ f → f < 2 ^ k → flagsF (ofF k f) = f
  | 0, f, h0, h1 => by simp at h1; simp [ofF, flagsF]; omega
  | k + 1, f, h0, h1 => by
    rw [Int.pow_succ] at h1
    rw [ofF, flagsF, flagsF_ofF k (f / 2) (by omega) (by omega)]
    by_cases h : f % 2 = 1
    · simp [h]; omega
    · simp [h]; omega
/-- A style of this call's own, behind its answer's place. -/
structure Ow2 (w : World) (s : Sty) (W : World) : Prop where
  row : W.heap[w.heap.size + 1]? = some (.cells (styL s).toArray 78 (0, 0))
  zero : W.heap[w.heap.size]? = some (.cells (styL zeroY).toArray 78 (0, 0))
  below : Below w.heap.size w W
theorem Ow2.cell {w : World} {s : Sty} {W : World} (h : Ow2 w s W) {i : Nat} {v : Value} (hv : (styL s)[i]? = some v) : W.cell? ⟨w.heap.size + 1, i, none⟩ = some v := by
  unfold World.cell?; simp only [h.row]; simpa using hv
theorem Ow2.free {w : World} {s : Sty} {W : World} (h : Ow2 w s W) (i : Nat) : W.frozen? ⟨w.heap.size + 1, i, none⟩ = false := frozen_of_row W _ i _ _ h.row
theorem Ow2.set {w : World} {s s' : Sty} {W : World} (h : Ow2 w s W) (i : Nat) (v : Value) (e : (styL s).set i v = styL s') : Ow2 w s' (W.setCell ⟨w.heap.size + 1, i, none⟩ v) := by
  refine ⟨?_, ?_, h.below.setCell (Nat.le_succ _) v⟩
  · rw [heap_setCell_same W _ i _ _ v h.row, ← e]; simp
  · rw [heap_setCell_other W _ _ v (by simp)]; exact h.zero
theorem ow2_new (w : World) (s : Sty) (C : Array Value) (hC : C = (styL s).toArray) (Z : Array Value) (hZ : Z = (styL zeroY).toArray) : Ow2 w s ((w.alloc (.cells Z 78)).alloc (.cells C 78)) := by
  subst hC hZ
  exact ⟨by have := heap_alloc_new (w.alloc (.cells (styL zeroY).toArray 78)) (.cells (styL s).toArray 78); simpa using this, (Below.heap_alloc _ _ _ (by simp)).trans (heap_alloc_new _ _), ((Below.refl _ _).alloc (Nat.le_refl _) _).alloc (by simp) _⟩
set_option maxRecDepth 100000 in
set_option maxHeartbeats 1000000 in
theorem ry_of (f fg bg : Int) (w : World) (h0 : 0 ≤ f) (h1 : f < 256) :
    Calls Tryd.prog 86 #[.int .u8 f, .int .u32 fg, .int .u32 bg] w fun e w' => e = .returned (styV ⟨ofF 8 f, fg, bg⟩) ∧ Below w.heap.size w w' := by
  have HZ0 : Hid (Ow2 w ⟨fsN f 0, fg, bg⟩ ((w.alloc (.cells #[.bool false, .bool false, .bool false, .bool false, .bool false, .bool false, .bool false, .bool false, .int .u32 0, .int .u32 0] 78)).alloc (.cells #[.bool false, .bool false, .bool false, .bool false, .bool false, .bool false, .bool false, .bool false, .int .u32 fg, .int .u32 bg] 78))) := Lib.hid (ow2_new w _ _ rfl _ rfl)
  have HRG := Lib.hid (half_range h0 h1)
  obtain ⟨F, hF⟩ : ∃ F, ofF 8 f = F := ⟨_, rfl⟩
  rw [hF]
  have HF := Lib.hid ((fsN_8 f).trans hF)
  clear hF h0 h1
  go_enter Tryd.func86, Tryd.ntmps86
  go_wp2
  generalize ((w.alloc (.cells #[.bool false, .bool false, .bool false, .bool false, .bool false, .bool false, .bool false, .bool false, .int .u32 0, .int .u32 0] 78)).alloc (.cells #[.bool false, .bool false, .bool false, .bool false, .bool false, .bool false, .bool false, .bool false, .int .u32 fg, .int .u32 bg] 78)) = U0 at HZ0 ⊢
  go_loopw [0, 8] (fun fv iv wr => ∃ i : Nat, fv = .int .u8 (half i f) ∧ iv = .int .i64 i ∧ i ≤ 8 ∧ Hid (Ow2 w ⟨fsN f i, fg, bg⟩ wr)) (fun _ iv _ => 8 - (intOf iv).toNat)
  case atStart => exact ⟨0, rfl, rfl, by omega, HZ0⟩
  case round =>
    obtain ⟨i, rfl, rfl, hi, HZ⟩ := hrel
    clear HZ0
    by_cases hi8 : i < 8
    · have d1 : decide ((i : Int) < 8) = true := by simp; omega
      have d2 : decide (i < 8) = true := by simp; omega
      have g4 : (i : Int) < 8 := by omega
      obtain ⟨x, hx⟩ : ∃ x, half i f = x := ⟨_, rfl⟩
      have hr := HRG.out i
      rw [hx] at hr
      obtain ⟨x0, x1⟩ := hr
      have k1 := HZ.out.cell (i := i) (styL_f (fsN_len f i) hi8)
      have k2 := HZ.out.free i
      obtain ⟨b, hb⟩ : ∃ b, decide (x % 2 = 1) = b := ⟨_, rfl⟩
      have hb2 : (x % 2 == 1) = b := by rw [← hb]; exact Bool.eq_iff_iff.2 (by simp)
      have HZ2 : Hid (Ow2 w ⟨fsN f (i + 1), fg, bg⟩ (wr.setCell ⟨w.heap.size + 1, i, none⟩ (.bool b))) := Lib.hid (HZ.out.set i (.bool b) (by rw [fsN, hx, hb]; exact styL_set (s := ⟨fsN f i, fg, bg⟩) (fsN_len f i) hi8 b))
      have HH : Hid (x / 2 = half (i + 1) f) := Lib.hid (by rw [half, hx])
      rw [hx]
      clear hx hb HZ
      go_wp2
      go_roundw
      case rel => exact ⟨i + 1, by rw [HH.out], by go_num, by omega, HZ2⟩
      case measure => simp [intOf]; omega
    · obtain rfl : i = 8 := by omega
      have d1 : decide (((8 : Nat) : Int) < 8) = false := by decide
      rw [HF.out] at HZ
      have HIS := Lib.hid (info_of (s := ⟨F, fg, bg⟩) (by show F.length = 8; rw [← HF.out]; exact fsN_len f 8))
      go_wp2_with (first | refine wpList_load_row rfl 78 _ rfl (w.heap.size + 1) rfl 78 (styL ⟨F, fg, bg⟩).toArray (0,0) _ HZ.out.row Tryd.underlying78 rfl HIS.out ?_ | refine wpList_store_row rfl 78 _ _ rfl w.heap.size _ rfl rfl 78 (styL zeroY).toArray HZ.out.zero HIS.out ?c1 ?c2 ?_)
      case c1 =>
        have h1 := info_of (s := zeroY) rfl
        have h2 := HIS.out
        rw [h1] at h2
        exact Option.some.inj h2
      case c2 => first | exact styL_one _ | exact styL_all _
      exact bodyPost_ret (v := styV ⟨F, fg, bg⟩) (results_cell_row (p := 6) (ty := 78) Tryd.results86 _ _ w.heap.size 78 _ (0, 0) _ rfl (setRow_heap _ _ _ _ _ _ HZ.out.zero) Tryd.underlying78 rfl HIS.out) rfl ⟨rfl, below_setRow HZ.out.below (Nat.le_refl _) _⟩
theorem drop_b {fs : List Bool} {k : Nat} (h : k < fs.length) : fs.drop k = fs.getD k false :: fs.drop (k + 1) := by
  rw [List.drop_eq_getElem_cons h]; simp [List.getD, h]
set_option maxRecDepth 100000 in
set_option maxHeartbeats 1000000 in
theorem ry_flags (s : Sty) (w : World) (hs : Good s) :
    Calls Tryd.prog 100 #[styV s] w fun e w' => e = .returned (.int .u8 (flagsF s.fs)) ∧ Below w.heap.size w w' := by
  have hl := hs.len
  have HL := Lib.hid hl
  obtain ⟨fs, fg, bg⟩ := s
  obtain ⟨f0, f1, f2, f3, f4, f5, f6, f7, rfl⟩ := eight hl
  have HROW : Hid ((w.alloc (.cells #[.bool f0, .bool f1, .bool f2, .bool f3, .bool f4, .bool f5, .bool f6, .bool f7, .int .u32 fg, .int .u32 bg] 78)).heap[w.heap.size]? = some (.cells (styL ⟨[f0, f1, f2, f3, f4, f5, f6, f7], fg, bg⟩).toArray 78 (0, 0))) := Lib.hid (heap_alloc_new _ _)
  have HB0 : Hid (Below w.heap.size w (w.alloc (.cells #[.bool f0, .bool f1, .bool f2, .bool f3, .bool f4, .bool f5, .bool f6, .bool f7, .int .u32 fg, .int .u32 bg] 78))) := Lib.hid ((Below.refl _ _).alloc (Nat.le_refl _) _)
  show Calls Tryd.prog 100 #[.agg #[.bool f0, .bool f1, .bool f2, .bool f3, .bool f4, .bool f5, .bool f6, .bool f7, .int .u32 fg, .int .u32 bg]] w _
  obtain ⟨fs, hfs⟩ : ∃ fs, [f0, f1, f2, f3, f4, f5, f6, f7] = fs := ⟨_, rfl⟩
  simp only [hfs] at HROW HL ⊢
  clear hl hs hfs
  obtain ⟨F, hF⟩ : ∃ F, flagsF fs = F := ⟨_, rfl⟩
  rw [hF]
  have HF := Lib.hid hF
  have HE : Hid (flagsF (fs.drop 8) = 0) := Lib.hid (by rw [List.drop_of_length_le (by rw [HL.out]; omega)]; rfl)
  clear hF
  go_enter Tryd.func100, Tryd.ntmps100
  go_wp2
  generalize (w.alloc (.cells #[.bool f0, .bool f1, .bool f2, .bool f3, .bool f4, .bool f5, .bool f6, .bool f7, .int .u32 fg, .int .u32 bg] 78)) = U at HROW HB0 ⊢
  go_loop [3, 4] (fun ov iv => ∃ (k : Nat), k ≤ 8 ∧ ov = .int .u8 (flagsF (fs.drop k)) ∧ iv = .int .i64 ((k : Int) - 1)) (fun _ iv => (intOf iv + 1).toNat)
  case atStart => exact ⟨8, by omega, by rw [HE.out], rfl⟩
  case round =>
    obtain ⟨k, hk, rfl, rfl⟩ := hrel
    by_cases hk0 : 0 < k
    · obtain ⟨m, rfl⟩ : ∃ m, k = m + 1 := ⟨k - 1, by omega⟩
      have e1 : (((m + 1 : Nat) : Int) - 1) = (m : Int) := by omega
      have d1 : decide (0 ≤ (m : Int)) = true := by simp
      have m8 : (m : Int) < 8 := by omega
      have hdr := drop_b (fs := fs) (k := m) (by rw [HL.out]; omega)
      have hfr := flagsF_range (fs.drop (m + 1))
      have hdl : (fs.drop (m + 1)).length ≤ 7 := by rw [List.length_drop, HL.out]; omega
      have hpw : (2 : Int) ^ (fs.drop (m + 1)).length ≤ 2 ^ 7 := by exact_mod_cast Nat.pow_le_pow_right (by omega) hdl
      obtain ⟨o, ho⟩ : ∃ o, flagsF (fs.drop (m + 1)) = o := ⟨_, rfl⟩
      rw [ho] at hfr
      obtain ⟨o0, o1⟩ := hfr
      have o2 : o < 128 := by omega
      have hcell : U.cell? ⟨w.heap.size, m, none⟩ = some (.bool (fs.getD m false)) := by
        unfold World.cell?; simp only [HROW.out]
        have h2 := styL_f (s := ⟨fs, fg, bg⟩) HL.out (i := m) (by omega)
        simpa using h2
      obtain ⟨b, hb⟩ : ∃ b, fs.getD m false = b := ⟨_, rfl⟩
      rw [hb] at hcell hdr
      have HN : Hid (flagsF (fs.drop m) = 2 * o + (if b = true then 1 else 0)) := Lib.hid (by rw [hdr, flagsF, ho])
      rw [ho, e1]
      clear hdr hpw hdl o1 ho hb e1 hk0
      cases b
      · go_wp2
        go_round
        case rel => exact ⟨m, by omega, by rw [HN.out]; simp, rfl⟩
        case measure => simp [intOf]
      · go_wp2
        go_round
        case rel => exact ⟨m, by omega, by rw [HN.out]; simp, rfl⟩
        case measure => simp [intOf]
    · obtain rfl : k = 0 := by omega
      have d1 : decide (0 ≤ (((0 : Nat) : Int) - 1)) = false := by decide
      rw [List.drop_zero, HF.out]
      go_wp2
      go_ret
      exact ⟨rfl, HB0.out⟩
end Go.Proofs.YtjihcpnaebghnaaDoor
