/-
  Proved here: of the document's streams and sinks: Type, Ack, Take.
-/
import Derived.Test.YtlppnnehgfpgbaaKyd
set_option linter.unusedSimpArgs false
set_option linter.unusedVariables false
namespace Go.Proofs.Ytlppnnehgfpgbaa
open Go.RowKit
/-- A document's stream in block g: all that was typed, and the base. -/
structure Rs (w : World) (g : Nat) (all : List Int) (base : Nat) : Prop where
  ex : ∃ A c, w.heap[g]? = some (.cells #[.slice A all.length c, .int .u64 base] 31 (0, 0)) ∧ RI .u8 w A all ∧ all.length ≤ c ∧ c ≤ maxLen ∧ (A = none → c = 0)
theorem Rs.noU8 {w : World} {g base : Nat} {all : List Int} (h : Rs w g all base) : NoU8 w g := by
  obtain ⟨A, c, hh, _⟩ := h.ex
  refine noU8_of hh fun o x => ?_
  match o with
  | 0 => simp
  | 1 => simp
  | o + 2 => simp
theorem Rs.lt {w : World} {g base : Nat} {all : List Int} (h : Rs w g all base) : g < w.heap.size := by
  obtain ⟨A, c, hh, _⟩ := h.ex
  exact lt_of_block hh
theorem Rs.below {w w' : World} {g base : Nat} {all : List Int} (h : Rs w g all base) (hb : Below w.heap.size w w') : Rs w' g all base := by
  obtain ⟨A, c, hh, hr, h3⟩ := h.ex
  exact ⟨A, c, (hb.block g h.lt).trans hh, hr.below hb, h3⟩
theorem Rs.only {w w' : World} {g k base : Nat} {all : List Int} (h : Rs w g all base) (hk : k ≠ g) (hn : NoU8 w k) (ho : Only k w w') : Rs w' g all base := by
  obtain ⟨A, c, hh, hr, h3⟩ := h.ex
  exact ⟨A, c, (ho.block g h.lt (fun e => hk e.symm)).trans hh, hr.only hn ho, h3⟩
theorem Rs.typed {w : World} {g base : Nat} {all : List Int} (h : Rs w g all base) {v : Value} {ds : List Int} (hv : DV w v ds) : Rs (w.setCell ⟨g, 0, none⟩ v) g ds base := by
  obtain ⟨A, c, hh, _⟩ := h.ex
  obtain ⟨A2, c2, rfl, hr, h1, h2, h3⟩ := hv
  have hn := h.noU8
  exact ⟨A2, c2, by rw [heap_setCell_same w g 0 _ _ _ hh]; rfl, hr.only hn (Only.setCell w 0 _), h1, h2, h3⟩
theorem Rs.based {w : World} {g base : Nat} {all : List Int} (h : Rs w g all base) (m : Nat) : Rs (w.setCell ⟨g, 1, none⟩ (.int .u64 m)) g all m := by
  obtain ⟨A, c, hh, hr, h3⟩ := h.ex
  exact ⟨A, c, by rw [heap_setCell_same w g 1 _ _ _ hh]; rfl, hr.only h.noU8 (Only.setCell w 1 _), h3⟩
theorem rtype_full {w : World} {g base : Nat} {all : List Int} (h : Rs w g all base) {A2 : Option Addr} {m k2 : Nat} (hb : base ≤ all.length) (hs : all.length < 100000) (hm : m < 100000) (hf : 512 - (all.length - base) < m) : Calls Try.prog 14 #[.pointer (some ⟨g, 0, none⟩), .slice A2 m k2] w fun e w' => e = .returned (.int .i64 5) ∧ ∃ q, w' = w.drewN q := by
  obtain ⟨A, c, hh, hr, h1, h2, h3⟩ := h.ex
  obtain ⟨c0, c1⟩ := two_cells hh
  obtain ⟨n, hn⟩ : ∃ n, all.length = n := ⟨_, rfl⟩
  rw [hn] at c0 hb hs hf
  have w1 : IntKind.u64.wrap (n : Int) = (n : Int) := wrap64_in (by omega)
  have w2 : IntKind.u64.wrap ((n : Int) - (base : Int)) = ((n - base : Nat) : Int) := wrap64_sub hb (by omega)
  have w3 : IntKind.u64.wrap (m : Int) = (m : Int) := wrap64_in (by omega)
  obtain ⟨j, hj⟩ : ∃ j, n - base = j := ⟨_, rfl⟩
  rw [hj] at w2
  have w4 : IntKind.u64.wrap ((j : Int) + (m : Int)) = ((j + m : Nat) : Int) := wrap64_add (by omega)
  obtain ⟨q, hq⟩ : ∃ q, j + m = q := ⟨_, rfl⟩
  rw [hq] at w4
  have d1 : decide ((512 : Int) < (q : Int)) = true := by simp; omega
  have d1n : decide (512 < q) = true := by simp; omega
  have d2 : (512 : Int) < (q : Int) := by omega
  clear h hh hr hn h1 h2 h3 hj hq
  go_enter Try.func14, Try.ntmps14
  go_wp2
  go_quiet (fail)
  go_wp2
  go_ret
  exact ⟨rfl, _, rfl⟩
theorem rtype_ok {w : World} {g base : Nat} {all : List Int} (h : Rs w g all base) {A2 : Option Addr} {m k2 : Nat} {ys : List Int} (hym : ys.length = m) (hy : RI .u8 w A2 ys) (hz : A2 = none → k2 = 0) (hb : base ≤ all.length) (hw : all.length - base ≤ 512) (hs : all.length < 90000) (hf : m ≤ 512 - (all.length - base)) : Calls Try.prog 14 #[.pointer (some ⟨g, 0, none⟩), .slice A2 m k2] w fun e w' => e = .returned (.int .i64 0) ∧ Rs w' g (all ++ ys) base ∧ Only g w w' := by
  obtain ⟨A, c, hh, hr, h1, h2, h3⟩ := h.ex
  have HS := Lib.hid h
  obtain ⟨c0, c1⟩ := two_cells hh
  obtain ⟨n, hn⟩ : ∃ n, all.length = n := ⟨_, rfl⟩
  rw [hn] at c0 hb hs hf hw
  have w1 : IntKind.u64.wrap (n : Int) = (n : Int) := wrap64_in (by omega)
  have w2 : IntKind.u64.wrap ((n : Int) - (base : Int)) = ((n - base : Nat) : Int) := wrap64_sub hb (by omega)
  have w3 : IntKind.u64.wrap (m : Int) = (m : Int) := wrap64_in (by omega)
  have hmm : m ≤ 512 := by omega
  obtain ⟨j, hj⟩ : ∃ j, n - base = j := ⟨_, rfl⟩
  rw [hj] at w2
  have w4 : IntKind.u64.wrap ((j : Int) + (m : Int)) = ((j + m : Nat) : Int) := wrap64_add (by omega)
  obtain ⟨q, hq⟩ : ∃ q, j + m = q := ⟨_, rfl⟩
  rw [hq] at w4
  have d1 : decide ((512 : Int) < (q : Int)) = false := by simp; omega
  have d1n : decide (512 < q) = false := by simp; omega
  have d2 : ¬ (512 : Int) < (q : Int) := by omega
  have HY := Lib.hid (And.intro hym (And.intro hy hz))
  have HR := Lib.hid (And.intro hr (And.intro hn h3))
  have HH := Lib.hid hh
  rw [hn] at HH
  clear h hh hr hn h1 h2 h3 hj hq hym hy hz
  go_enter Try.func14, Try.ntmps14
  go_wp2
  go_quiet (fail)
  have HB0 := Lib.hid (belowN (Below.refl w.heap.size w) nq)
  obtain ⟨X, hX⟩ : ∃ X, w.drewN nq = X := ⟨_, rfl⟩
  have HHX := Lib.hid (show X.heap[g]? = some (.cells #[.slice A n c, .int .u64 base] 31 (0, 0)) from by rw [← hX]; exact HH.out)
  rw [hX] at HB0 ⊢
  clear hX c0 c1
  obtain ⟨c0, c1⟩ := two_cells HHX.out
  obtain ⟨v1, w1', hrun1, hown1, hg1, _⟩ : ∃ v' w', (Builtin.append_ #[28, 28] 28 #[.slice none 0 0, .slice A n c]).run Try.prog X = .ok v' w' ∧ w'.ownsRow X.heap.size 5 1 v' (0 + n) (NV .u8 ([] ++ all)) ∧ X.grownBy w' (Value.slice none 0 0).ownBlock ∧ True := by
    obtain ⟨v', w', a1, a2, a3⟩ := app_u8 (W := X) (base := X.heap.size) (v := .slice none 0 0) (n := 0) (xs := []) (ys := all) HR.out.2.1 c (HR.out.1.below HB0.out) HR.out.2.2 (World.ownsRow_nil _ _ _ _) (by omega) (Nat.le_refl _)
    exact ⟨v', w', a1, a2, a3, trivial⟩
  have hb1 : Below X.heap.size X w1' := ⟨hg1.os, hg1.tape, hg1.output, hg1.size, fun k hk => hg1.block k hk (by simp [Value.ownBlock])⟩
  have hown1 : w1'.ownsRow X.heap.size 5 1 v1 n (NV .u8 all) := by simpa using hown1
  obtain ⟨v2, w2', hrun2, hown2, hg2⟩ := app_u8 (W := w1') (base := X.heap.size) (v := v1) (n := n) (xs := all) (ys := ys) HY.out.1 k2 ((HY.out.2.1.below HB0.out).below hb1) HY.out.2.2 hown1 (by omega) hb1.size
  have hb2 : Below X.heap.size X w2' := hb1.grown hg2 hb1.size (ownBlock_le hown1)
  have HRUN1 := Lib.hid hrun1
  have HS2 := Lib.hid ((HS.out.below HB0.out).below hb2)
  have HBB := Lib.hid (Bto HB0.out hb2)
  have hla : (all ++ ys).length = n + m := by rw [List.length_append, HR.out.2.1, HY.out.1]
  have HDV := Lib.hid (show DV w2' v2 (all ++ ys) from DV.own (base := X.heap.size) (by rw [hla]; exact hown2))
  obtain ⟨Av, kv, hv2, _⟩ := own_slice hown2
  subst hv2
  have HRUN2 := Lib.hid hrun2
  obtain ⟨A4, k4, hh4, _⟩ := HS2.out.ex
  obtain ⟨e0, e1⟩ := two_cells hh4
  have ef := frozen_of_row w2' g 0 _ _ hh4
  clear hrun1 hown1 hg1 hb1 hrun2 hown2 hg2 hb2 hh4 hla
  go_wp2_with (first | (at_builtin; refine wpList_app rfl (.tmp 22) (.tmp 26) _ rfl _ _ rfl rfl HRUN1.out ?_) | (at_builtin; refine wpList_app rfl (.tmp 29) (.tmp 30) _ rfl _ _ rfl rfl HRUN2.out ?_))
  go_ret
  exact ⟨rfl, HS2.out.typed HDV.out, (Only.of HBB.out).trans (Only.setCell _ _ _)⟩
theorem rack_old {w : World} {g base : Nat} {all : List Int} (h : Rs w g all base) {k : Nat} (hk : k < base) : Calls Try.prog 16 #[.pointer (some ⟨g, 0, none⟩), .int .u64 k] w fun e w' => e = .returned (.int .i64 23) ∧ w = w' := by
  obtain ⟨A, c, hh, hr, h1, h2, h3⟩ := h.ex
  obtain ⟨c0, c1⟩ := two_cells hh
  have d1 : decide ((k : Int) < (base : Int)) = true := by simp; omega
  have d2 : (k : Int) < (base : Int) := by omega
  clear h hh hr h1 h2 h3
  go_enter Try.func16, Try.ntmps16
  go_wp2
  go_ret
  exact ⟨rfl, rfl⟩
theorem rack_arg {w : World} {g base : Nat} {all : List Int} (h : Rs w g all base) (hs : all.length < 100000) (hb : base ≤ all.length) {k : Nat} (hk : all.length < k) : Calls Try.prog 16 #[.pointer (some ⟨g, 0, none⟩), .int .u64 k] w fun e w' => e = .returned (.int .i64 1) ∧ w = w' := by
  obtain ⟨A, c, hh, hr, h1, h2, h3⟩ := h.ex
  obtain ⟨c0, c1⟩ := two_cells hh
  obtain ⟨n, hn⟩ : ∃ n, all.length = n := ⟨_, rfl⟩
  rw [hn] at c0 hs hk hb
  have w1 : IntKind.u64.wrap (n : Int) = (n : Int) := wrap64_in (by omega)
  have d1 : decide ((k : Int) < (base : Int)) = false := by simp; omega
  have d2 : ¬ (k : Int) < (base : Int) := by omega
  have d3 : decide ((n : Int) < (k : Int)) = true := by simp; omega
  have d4 : (n : Int) < (k : Int) := by omega
  clear h hh hr hn h1 h2 h3
  go_enter Try.func16, Try.ntmps16
  go_wp2
  go_ret
  exact ⟨rfl, rfl⟩
theorem rack_ok {w : World} {g base : Nat} {all : List Int} (h : Rs w g all base) (hs : all.length < 100000) {k : Nat} (hk1 : base ≤ k) (hk2 : k ≤ all.length) : Calls Try.prog 16 #[.pointer (some ⟨g, 0, none⟩), .int .u64 k] w fun e w' => e = .returned (.int .i64 0) ∧ Rs w' g all k ∧ Only g w w' := by
  obtain ⟨A, c, hh, hr, h1, h2, h3⟩ := h.ex
  have HS := Lib.hid h
  obtain ⟨c0, c1⟩ := two_cells hh
  have ef := frozen_of_row w g 1 _ _ hh
  obtain ⟨n, hn⟩ : ∃ n, all.length = n := ⟨_, rfl⟩
  rw [hn] at c0 hs hk2
  have w1 : IntKind.u64.wrap (n : Int) = (n : Int) := wrap64_in (by omega)
  have d1 : decide ((k : Int) < (base : Int)) = false := by simp; omega
  have d2 : ¬ (k : Int) < (base : Int) := by omega
  have d3 : decide ((n : Int) < (k : Int)) = false := by simp; omega
  have d4 : ¬ (n : Int) < (k : Int) := by omega
  clear h hh hr hn h1 h2 h3
  go_enter Try.func16, Try.ntmps16
  go_wp2
  go_ret
  exact ⟨rfl, HS.out.based k, Only.setCell w 1 _⟩
theorem rtake_long {w : World} {n k : Int} {A : Option Addr} {m c : Nat} (hm : 512 < m) : Calls Try.prog 18 #[.int .u64 n, .int .u64 k, .slice A m c] w fun e w' => e = .returned (.tuple #[.slice none 0 0, .int .i64 2]) ∧ w = w' := by
  have d1 : decide ((512 : Int) < (m : Int)) = true := by simp; omega
  have d2 : (512 : Int) < (m : Int) := by omega
  go_enter Try.func18, Try.ntmps18
  go_wp2
  go_returns
  exact ⟨rfl, rfl⟩
theorem rtake_base {w : World} {n k : Nat} {A : Option Addr} {m c : Nat} (hm : m ≤ 512) (hk : n < k) : Calls Try.prog 18 #[.int .u64 n, .int .u64 k, .slice A m c] w fun e w' => e = .returned (.tuple #[.slice none 0 0, .int .i64 30]) ∧ w = w' := by
  have d1 : decide ((512 : Int) < (m : Int)) = false := by simp; omega
  have d2 : ¬ (512 : Int) < (m : Int) := by omega
  have d3 : decide ((n : Int) < (k : Int)) = true := by simp; omega
  have d4 : (n : Int) < (k : Int) := by omega
  go_enter Try.func18, Try.ntmps18
  go_wp2
  go_returns
  exact ⟨rfl, rfl⟩
theorem take_drop_in {l : List Int} {i j : Nat} (hi : i < l.length) (hj : j ≤ i) : (l.take (i + 1)).drop j = (l.take i).drop j ++ [l.getD i 0] := by
  rw [List.take_succ_eq_append_getElem hi, List.drop_append_of_le_length (by rw [List.length_take]; omega)]
  simp [List.getD, hi]
theorem take_drop_out {l : List Int} {i j : Nat} (hj : i < j) : (l.take (i + 1)).drop j = (l.take i).drop j := by
  rw [List.drop_eq_nil_of_le (by rw [List.length_take]; omega), List.drop_eq_nil_of_le (by rw [List.length_take]; omega)]
theorem rtake_ok {w : World} {n k : Nat} (hn : n < 100000) {A : Option Addr} {m c : Nat} {ys : List Int} (hl : ys.length = m) (hR : RI .u8 w A ys) (hm : m ≤ 512) (hk : k ≤ n) : Calls Try.prog 18 #[.int .u64 n, .int .u64 k, .slice A m c] w fun e w' => ∃ v, e = .returned (.tuple #[v, .int .i64 0]) ∧ Own8 w v (ys.drop (n - k)) w' := by
  have d1 : decide ((512 : Int) < (m : Int)) = false := by simp; omega
  have d2 : ¬ (512 : Int) < (m : Int) := by omega
  have d3 : decide ((n : Int) < (k : Int)) = false := by simp; omega
  have d4 : ¬ (n : Int) < (k : Int) := by omega
  have w1 : IntKind.u64.wrap ((n : Int) - (k : Int)) = ((n - k : Nat) : Int) := wrap64_sub hk (by omega)
  obtain ⟨j, hj⟩ : ∃ j, n - k = j := ⟨_, rfl⟩
  rw [hj] at w1 ⊢
  have HL := Lib.hid hl
  have HR := Lib.hid hR
  clear hj hl hR
  go_enter Try.func18, Try.ntmps18
  go_wp2
  go_loopw [8, 9] (fun ov iv wr => ∃ (v : Value) (i : Nat), v = ov ∧ iv = .int .i64 i ∧ i ≤ m ∧ Hid (Own8 w v ((ys.take i).drop j) wr)) (fun _ iv _ => m - (intOf iv).toNat)
  case atStart => exact ⟨_, 0, rfl, rfl, by omega, Lib.hid (by simpa using Own8.new w)⟩
  case round =>
    obtain ⟨v, i, rfl, rfl, hi, HO⟩ := hrel
    by_cases hin : i < m
    · have e1 : decide ((i : Int) < (m : Int)) = true := by simp; omega
      have e2 : decide (i < m) = true := by simp; omega
      have w2 : IntKind.u64.wrap (i : Int) = (i : Int) := wrap64_in (by omega)
      have w3 : IntKind.i64.wrap ((i : Int) + 1) = (i : Int) + 1 := IntWalk.i64_in _ (by omega)
      have g1 : (0 : Int) ≤ (i : Int) := by omega
      have g2 : (i : Int) < (m : Int) := by omega
      by_cases hji : j ≤ i
      · have f1 : decide ((j : Int) ≤ (i : Int)) = true := by simp; omega
        have f2 : decide (j ≤ i) = true := by simp; omega
        obtain ⟨bl, off, hA, hbl, hc⟩ := HR.out (by rw [HL.out]; omega)
        have a0 := (HO.out.below.cell (p := ⟨bl, off + i, none⟩) hbl).trans (hc i (by rw [HL.out]; exact hin))
        have htd := take_drop_in (l := ys) (i := i) (by rw [HL.out]; exact hin) hji
        obtain ⟨y, hy⟩ : ∃ y, ys.getD i 0 = y := ⟨_, rfl⟩
        rw [hy] at a0 htd
        subst hA
        obtain ⟨A2, n2, cc, w2', hrun, hO2⟩ := HO.out.app [y] 1 rfl (by simp; omega)
        rw [← htd] at hO2
        have HRUN := Lib.hid hrun
        have HO2 := Lib.hid hO2
        clear hc htd hy hrun hO2
        go_wp2_with (first | (at_builtin; refine wpList_app rfl (.tmp 28) (.tmp 33) _ rfl _ _ rfl rfl HRUN.out ?_))
        go_roundw
        case rel => exact ⟨_, i + 1, rfl, by go_num, by omega, HO2⟩
        case measure => simp [intOf]; omega
      · have f1 : decide ((j : Int) ≤ (i : Int)) = false := by simp; omega
        have f2 : decide (j ≤ i) = false := by simp; omega
        have HO2 := Lib.hid (show Own8 w v ((ys.take (i + 1)).drop j) wr from by rw [take_drop_out (by omega)]; exact HO.out)
        go_wp2
        go_roundw
        case rel => exact ⟨_, i + 1, rfl, by go_num, by omega, HO2⟩
        case measure => simp [intOf]; omega
    · have e1 : decide ((i : Int) < (m : Int)) = false := by simp; omega
      have e2 : decide (i < m) = false := by simp; omega
      have HF := Lib.hid (show Own8 w v (ys.drop j) wr from by
        have := HO.out
        rwa [List.take_of_length_le (by rw [HL.out]; omega)] at this)
      clear HO
      go_wp2
      go_returns
      exact ⟨_, rfl, HF.out⟩
end Go.Proofs.Ytlppnnehgfpgbaa
