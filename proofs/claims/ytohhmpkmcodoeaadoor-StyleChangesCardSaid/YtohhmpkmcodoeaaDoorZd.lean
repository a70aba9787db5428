/-
  Proved here: of the program's styles: Change.
-/
import Derived.Test.YtohhmpkmcodoeaaDoorZc
import Derived.WalkMore
import Derived.ScopeJumps
set_option linter.unusedSimpArgs false
set_option linter.unusedVariables false
namespace Go.Proofs.YtohhmpkmcodoeaaDoor
open Go.RowKit
abbrev pC (s : Sty) : Array Value := #[.int .u8 (flagsF s.fs), .int .u32 s.fg, .int .u32 s.bg]
theorem info_pC {s : Sty} : (Tryd.prog.info? 24).map (·.size) = some (pC s).size := by kernel_rfl
theorem pC_one (s : Sty) : (pC s).all (·.oneCell') = true := by simp [Value.oneCell']
theorem flagsF_zero : flagsF zeroY.fs = 0 := by decide
/-- A style of this call's own, and its answer's place. -/
structure Ow3 (w : World) (s : Sty) (W : World) : Prop where
  row : W.heap[w.heap.size]? = some (.cells (pC s) 24 (0, 0))
  zero : W.heap[w.heap.size + 1]? = some (.cells #[.int .u8 0, .int .u32 0, .int .u32 0] 24 (0, 0))
  below : Below w.heap.size w W
theorem Ow3.cell1 {w : World} {s : Sty} {W : World} (h : Ow3 w s W) : W.cell? ⟨w.heap.size, 1, none⟩ = some (.int .u32 s.fg) := by
  unfold World.cell?; simp only [h.row]; rfl
theorem Ow3.cell2 {w : World} {s : Sty} {W : World} (h : Ow3 w s W) : W.cell? ⟨w.heap.size, 2, none⟩ = some (.int .u32 s.bg) := by
  unfold World.cell?; simp only [h.row]; rfl
theorem Ow3.free {w : World} {s : Sty} {W : World} (h : Ow3 w s W) (i : Nat) : W.frozen? ⟨w.heap.size, i, none⟩ = false := frozen_of_row W _ i _ _ h.row
theorem Ow3.set1 {w : World} {s : Sty} {W : World} (h : Ow3 w s W) (c : Int) : Ow3 w ⟨s.fs, c, s.bg⟩ (W.setCell ⟨w.heap.size, 1, none⟩ (.int .u32 c)) := by
  refine ⟨?_, ?_, h.below.setCell (Nat.le_refl _) _⟩
  · rw [heap_setCell_same W _ 1 _ _ _ h.row]; rfl
  · rw [heap_setCell_other W _ _ _ (by simp)]; exact h.zero
theorem Ow3.set2 {w : World} {s : Sty} {W : World} (h : Ow3 w s W) (c : Int) : Ow3 w ⟨s.fs, s.fg, c⟩ (W.setCell ⟨w.heap.size, 2, none⟩ (.int .u32 c)) := by
  refine ⟨?_, ?_, h.below.setCell (Nat.le_refl _) _⟩
  · rw [heap_setCell_same W _ 2 _ _ _ h.row]; rfl
  · rw [heap_setCell_other W _ _ _ (by simp)]; exact h.zero
theorem ow3_new (w : World) (s : Sty) : Ow3 w s ((w.alloc (.cells (pC s) 24)).alloc (.cells #[.int .u8 0, .int .u32 0, .int .u32 0] 24)) :=
  ⟨(heap_alloc_old _ _ (by simp)).trans (heap_alloc_new _ _), heap_alloc2_new _ _ _, ((Below.refl _ _).alloc (Nat.le_refl _) _).alloc (by simp) _⟩
theorem Ow3.go {w : World} {s : Sty} {W W' : World} (h : Ow3 w s W) (hb : Below W.heap.size W W') : Ow3 w s W' :=
  ⟨(hb.block _ (lt_of_block h.row)).trans h.row, (hb.block _ (lt_of_block h.zero)).trans h.zero, h.below.trans (hb.mono h.below.size)⟩
theorem Ow3.setRow {w : World} {s s' : Sty} {W : World} (h : Ow3 w s W) : Ow3 w s' (W.setRow w.heap.size (pC s')) :=
  ⟨setRow_heap _ _ _ _ _ _ h.row, (setRow_other _ _ _ _ (by omega)).trans h.zero, below_setRow h.below (Nat.le_refl _) _⟩
theorem drop_getD' (l : List Int) (i j : Nat) : (l.drop i).getD j 0 = l.getD (i + j) 0 := drop_getD l i j
/-- What comes behind 38 or 48. -/
theorem told_step {l : List Int} {n i : Nat} {s1 R : Sty} (hl : l.length = n) (hi : i < n) (h : At16 l n i s1 R) {x : Int} (hx : l.getD i 0 = x) (h1 : x = 38 ∨ x = 48) {c k : Int} {ok : Bool} (ht : toldS (l.drop (i + 1)) = (c, ok, k)) :
    (k = 0 ∧ s1 = R) ∨ (∃ m : Nat, k = (m : Int) ∧ 1 ≤ m ∧ m ≤ 4 ∧ i + m < n ∧ At16 l n (i + m + 1) (setS s1 x ok c) R ∧ (ok = true → 0 ≤ c ∧ c < 4294967296)) := by
  unfold toldS at ht
  rw [List.length_drop, hl, drop_getD, drop_getD, drop_getD, drop_getD, Nat.add_zero, show i + 1 + 1 = i + 2 by omega, show i + 1 + 2 = i + 3 by omega, show i + 1 + 3 = i + 4 by omega] at ht
  have setF : ∀ c c' : Int, setS s1 x false c = setS s1 x false c' := fun _ _ => by unfold setS; rw [if_neg (by decide), if_neg (by decide)]
  by_cases h2 : 2 ≤ n - (i + 1) ∧ l.getD (i + 1) 0 = 5
  · rw [if_pos h2] at ht
    have A := fun ok hok => h.five hl (by omega) hx h1 h2.2 (c := l.getD (i + 2) 0) (ok := ok) rfl hok
    by_cases hs : smallB (l.getD (i + 2) 0) = true
    · rw [if_pos hs] at ht
      injection ht with e1 e2
      injection e2 with e2 e3
      subst e1 e2 e3
      have := smallB_iff.1 hs
      exact .inr ⟨2, rfl, by omega, by omega, by omega, A true hs, fun _ => by omega⟩
    · rw [if_neg hs] at ht
      injection ht with e1 e2
      injection e2 with e2 e3
      subst e1 e2 e3
      exact .inr ⟨2, rfl, by omega, by omega, by omega, setF _ _ ▸ A false (by simpa using hs), fun h => by cases h⟩
  · rw [if_neg h2] at ht
    by_cases h4 : 4 ≤ n - (i + 1) ∧ l.getD (i + 1) 0 = 2
    · rw [if_pos h4] at ht
      have A := fun ok hok => h.two hl (by omega) hx h1 h4.2 (a := l.getD (i + 2) 0) (b := l.getD (i + 3) 0) (c := l.getD (i + 4) 0) rfl rfl rfl (ok := ok) hok
      by_cases hs : (smallB (l.getD (i + 2) 0) && smallB (l.getD (i + 3) 0) && smallB (l.getD (i + 4) 0)) = true
      · rw [if_pos hs] at ht
        injection ht with e1 e2
        injection e2 with e2 e3
        subst e1 e2 e3
        have hh := hs
        simp only [Bool.and_eq_true] at hh
        obtain ⟨⟨q1, q2⟩, q3⟩ := hh
        have := smallB_iff.1 q1
        have := smallB_iff.1 q2
        have := smallB_iff.1 q3
        exact .inr ⟨4, rfl, by omega, by omega, by omega, A true hs, fun _ => by omega⟩
      · rw [if_neg hs] at ht
        injection ht with e1 e2
        injection e2 with e2 e3
        subst e1 e2 e3
        exact .inr ⟨4, rfl, by omega, by omega, by omega, setF _ _ ▸ A false (by simpa using hs), fun h => by cases h⟩
    · rw [if_neg h4] at ht
      injection ht with e1 e2
      injection e2 with e2 e3
      subst e1 e2 e3
      have := h.stop hl hi hx h1 (by omega) (by omega)
      rcases this with ⟨a, _⟩ | ⟨_, b⟩
      · omega
      · exact .inl ⟨rfl, b⟩
theorem RI.drop {k : IntKind} {w : World} {b off : Nat} {l : List Int} (hb : b < w.heap.size) (hc : ∀ j, j < l.length → w.cell? ⟨b, off + j, none⟩ = some (.int k (l.getD j 0))) (i : Nat) (p : Option Addr) (hp : i < l.length → p = some ⟨b, off + i, none⟩) : RI k w p (l.drop i) := by
  intro h0
  rw [List.length_drop] at h0
  refine ⟨b, off + i, hp (by omega), hb, fun j hj => ?_⟩
  rw [List.length_drop] at hj
  rw [Nat.add_assoc, hc (i + j) (by omega), drop_getD]
set_option maxRecDepth 100000 in
set_option maxHeartbeats 4000000 in
theorem p_change (s : Sty) {w : World} {A : Option Addr} {n cp : Nat} {l : List Int} (hs : Good s) (hT : FT w) (hR : RI .i64 w A l) (hl0 : l.length = n) (hn : n ≤ 100000) (hcp : n ≤ cp) (hcm : cp ≤ maxLen) :
    Calls Tryd.prog 14 #[pV s, .slice A n cp] w fun e w' => e = .returned (pV (changeS s l)) ∧ Below w.heap.size w w' := by
  have hl := hs.len
  unfold maxLen at hcm
  by_cases hn0 : n = 0
  · have e : changeS s l = zeroY := by unfold changeS; rw [if_pos (List.eq_nil_of_length_eq_zero (hl0.trans hn0))]
    rw [e]
    have z0 : ((n : Int) == 0) = true := by simp; omega
    obtain ⟨fs, fg, bg⟩ := s
    obtain ⟨f, hf⟩ : ∃ f, flagsF fs = f := ⟨_, rfl⟩
    show Calls Tryd.prog 14 #[.agg #[.int .u8 (flagsF fs), .int .u32 fg, .int .u32 bg], .slice A n cp] w _
    rw [hf]
    clear hl hs e hl0 hn0 hf hT hR
    go_enter Tryd.func14, Tryd.ntmps14
    go_wp2
    go_step3
    go_wp2
    rw [Exit.noGoto_ret]
    exact bodyPost_ret (v := pV zeroY) (results_cell_row (p := 4) (ty := 24) Tryd.results14 _ _ (w.heap.size + 1) 24 #[.int .u8 0, .int .u32 0, .int .u32 0] (0, 0) _ rfl (heap_alloc2_new _ _ _) Tryd.underlying24 rfl (by kernel_rfl)) rfl ⟨by rw [pV, flagsF_zero], ((Below.refl _ _).alloc (Nat.le_refl _) _).alloc (by simp) _⟩
  have e : changeS s l = chF n s l := by unfold changeS; rw [if_neg (fun h => hn0 (by rw [← hl0, h]; rfl)), hl0]
  rw [e]
  obtain ⟨R, hRR⟩ : ∃ R, chF n s l = R := ⟨_, rfl⟩
  rw [hRR]
  have HAT0 : Hid (At16 l n 0 s R) := Lib.hid (.inl ⟨by omega, by rw [Nat.sub_zero, List.drop_zero]; exact hRR⟩)
  have HLL := Lib.hid (fun (_ : Unit) => hl0)
  have HG0 := Lib.hid hs
  have HT := Lib.hid hT
  have z0 : ((n : Int) == 0) = false := by simp; omega
  have HZ0 := Lib.hid (ow3_new w s)
  obtain ⟨bl, off, rfl, hbl, hc⟩ := hR (by omega)
  rw [hl0] at hc
  have hcell : ∀ W : World, Below w.heap.size w W → ∀ j, j < n → W.cell? ⟨bl, off + j, none⟩ = some (.int .i64 (l.getD j 0)) := fun W hb j hj => (hb.cell (p := ⟨bl, off + j, none⟩) hbl).trans (hc j hj)
  have HC := Lib.hid hcell
  have HBL := Lib.hid hbl
  clear hc hcell hbl
  obtain ⟨fs, fg, bg⟩ := s
  obtain ⟨f, hf⟩ : ∃ f, flagsF fs = f := ⟨_, rfl⟩
  show Calls Tryd.prog 14 #[.agg #[.int .u8 (flagsF fs), .int .u32 fg, .int .u32 bg], .slice _ n cp] w _
  dsimp only [pC] at HZ0
  rw [hf] at HZ0 ⊢
  clear hl hs e hl0 hRR hf hR hn0 hT
  go_enter Tryd.func14, Tryd.ntmps14
  go_wp2
  go_step3
  go_wp2
  go_step3
  go_wp2
  generalize ((w.alloc (.cells #[.int .u8 f, .int .u32 fg, .int .u32 bg] 24)).alloc (.cells #[.int .u8 0, .int .u32 0, .int .u32 0] 24)) = U at HZ0 ⊢
  go_loopw [5] (fun iv wr => ∃ (i : Nat) (s1 : Sty), iv = .int .i64 i ∧ i ≤ 2 * n + 2 ∧ Hid (At16 l n i s1 R) ∧ Hid (Good s1) ∧ Hid (Ow3 w s1 wr)) (fun iv _ => n - (intOf iv).toNat)
  case atStart => exact ⟨0, _, rfl, by omega, HAT0, HG0, HZ0⟩
  case round =>
    obtain ⟨i, s1, rfl, hi2, HAT, HG, HZ⟩ := hrel
    clear HAT0 HG0 HZ0
    by_cases hin : i < n
    · have d1 : decide ((i : Int) < (n : Int)) = true := by simp; omega
      have d2 : decide (i < n) = true := by simp; omega
      have e0 := HC.out wr HZ.out.below i hin
      obtain ⟨x, hx⟩ : ∃ x, l.getD i 0 = x := ⟨_, rfl⟩
      rw [hx] at e0
      have HX := Lib.hid (fun (_ : Unit) => hx)
      have g3 : (0 : Int) ≤ (i : Int) := by omega
      have g4 : (i : Int) < (n : Int) := by omega
      clear hx
      by_cases h38 : x = 38 ∨ x = 48
      · have z38 : (x != 38 && x != 48) = false := by rcases h38 with rfl | rfl <;> decide
        obtain ⟨⟨c, ok, k⟩, ht⟩ : ∃ r, toldS (l.drop (i + 1)) = r := ⟨_, rfl⟩
        have hstep := told_step (HLL.out ()) hin HAT.out (HX.out ()) h38 ht
        have HTO := Lib.hid (fun (p : Option Addr) (hp : i + 1 < n → p = some ⟨bl, off + (i + 1), none⟩) (c : Nat) =>
          ht ▸ p_told (w := wr) (A := p) (n := n - (i + 1)) (cp := c) (RI.drop (i := i + 1) (l := l) (b := bl) (off := off) (Nat.lt_of_lt_of_le HBL.out HZ.out.below.size) (by rw [HLL.out ()]; exact HC.out wr HZ.out.below) p (by rw [HLL.out ()]; exact hp)) (by rw [List.length_drop, HLL.out ()]) (by omega))
        have e3 : (i : Int) + 1 ≤ (n : Int) := by omega
        clear ht HAT
        rcases h38 with rfl | rfl
        · go_wp2_with fail
          all_goals refine (HTO.out _ (by first | (intro _; rfl) | (intro h; exfalso; omega)) _).mono ?_
          all_goals (
            rintro e wt ⟨rfl, hbt⟩
            have HZt := Lib.hid (HZ.out.go hbt)
            clear hbt HZ HTO e0)
          all_goals rcases hstep with ⟨rfl, rfl⟩ | ⟨m, rfl, hm1, hm4, hmn, hat, hgc⟩
          all_goals first
            | (exfalso; omega)
            | (go_wp2_with (first | refine wpList_load_row rfl 24 _ rfl w.heap.size rfl 24 (pC s1) (0, 0) _ HZt.out.row Tryd.underlying24 rfl info_pC ?_ | refine wpList_store_row rfl 24 _ _ rfl (w.heap.size + 1) (pC s1) rfl rfl 24 _ HZt.out.zero info_pC rfl (pC_one _) ?_)
               rw [Exit.noGoto_ret]
               exact bodyPost_ret (v := pV s1) (results_cell_row (p := 4) (ty := 24) Tryd.results14 _ _ (w.heap.size + 1) 24 _ (0, 0) _ rfl (setRow_heap _ _ _ _ _ _ HZt.out.zero) Tryd.underlying24 rfl info_pC) rfl ⟨rfl, below_setRow HZt.out.below (by omega) _⟩)
            | (have zk : ((m : Int) == 0) = false := by simp; omega
               have HAT2 := Lib.hid hat
               have HG2 := Lib.hid (HG.out.set 38 ok c hgc)
               clear hat
               cases ok
               · have HZ2 : Hid (Ow3 w (setS s1 38 false c) wt) := Lib.hid (by unfold setS; rw [if_neg (by decide)]; exact HZt.out)
                 clear hgc
                 go_wp2
                 go_roundw
                 case rel => exact ⟨i + m + 1, setS s1 38 false c, by go_num, by omega, HAT2, HG2, HZ2⟩
                 case measure => simp [intOf]; omega
               · obtain ⟨q0, q1⟩ := hgc rfl
                 have k1 := HZt.out.cell1
                 have k2 := HZt.out.free 1
                 have HZ2 : Hid (Ow3 w (setS s1 38 true c) (wt.setCell ⟨w.heap.size, 1, none⟩ (.int .u32 c))) := Lib.hid (HZt.out.set1 c)
                 clear hgc HZt
                 go_wp2
                 go_roundw
                 case rel => exact ⟨i + m + 1, setS s1 38 true c, by go_num, by omega, HAT2, HG2, HZ2⟩
                 case measure => simp [intOf]; omega)
        · go_wp2_with fail
          all_goals refine (HTO.out _ (by first | (intro _; rfl) | (intro h; exfalso; omega)) _).mono ?_
          all_goals (
            rintro e wt ⟨rfl, hbt⟩
            have HZt := Lib.hid (HZ.out.go hbt)
            clear hbt HZ HTO e0)
          all_goals rcases hstep with ⟨rfl, rfl⟩ | ⟨m, rfl, hm1, hm4, hmn, hat, hgc⟩
          all_goals first
            | (exfalso; omega)
            | (go_wp2_with (first | refine wpList_load_row rfl 24 _ rfl w.heap.size rfl 24 (pC s1) (0, 0) _ HZt.out.row Tryd.underlying24 rfl info_pC ?_ | refine wpList_store_row rfl 24 _ _ rfl (w.heap.size + 1) (pC s1) rfl rfl 24 _ HZt.out.zero info_pC rfl (pC_one _) ?_)
               rw [Exit.noGoto_ret]
               exact bodyPost_ret (v := pV s1) (results_cell_row (p := 4) (ty := 24) Tryd.results14 _ _ (w.heap.size + 1) 24 _ (0, 0) _ rfl (setRow_heap _ _ _ _ _ _ HZt.out.zero) Tryd.underlying24 rfl info_pC) rfl ⟨rfl, below_setRow HZt.out.below (by omega) _⟩)
            | (have zk : ((m : Int) == 0) = false := by simp; omega
               have HAT2 := Lib.hid hat
               have HG2 := Lib.hid (HG.out.set 48 ok c hgc)
               clear hat
               cases ok
               · have HZ2 : Hid (Ow3 w (setS s1 48 false c) wt) := Lib.hid (by unfold setS; rw [if_neg (by decide)]; exact HZt.out)
                 clear hgc
                 go_wp2
                 go_roundw
                 case rel => exact ⟨i + m + 1, setS s1 48 false c, by go_num, by omega, HAT2, HG2, HZ2⟩
                 case measure => simp [intOf]; omega
               · obtain ⟨q0, q1⟩ := hgc rfl
                 have k1 := HZt.out.cell2
                 have k2 := HZt.out.free 2
                 have HZ2 : Hid (Ow3 w (setS s1 48 true c) (wt.setCell ⟨w.heap.size, 2, none⟩ (.int .u32 c))) := Lib.hid (HZt.out.set2 c)
                 clear hgc HZt
                 go_wp2
                 go_roundw
                 case rel => exact ⟨i + m + 1, setS s1 48 true c, by go_num, by omega, HAT2, HG2, HZ2⟩
                 case measure => simp [intOf]; omega)
      · have z38 : (x != 38) = true := by simp; omega
        have z48 : (x != 48) = true := by simp; omega
        have HAT2 := Lib.hid (HAT.out.plain (HLL.out ()) hin (HX.out ()) h38)
        have HG2 := Lib.hid (HG.out.one x)
        clear h38
        go_wp2_with (first | refine wpList_load_row rfl 24 _ rfl w.heap.size rfl 24 (pC s1) (0, 0) _ HZ.out.row Tryd.underlying24 rfl info_pC ?_)
        refine (p_one s1 x _ HG.out (HT.out.below HZ.out.below HT.out.big)).mono ?_
        rintro e U1 ⟨rfl, hb1⟩
        have HZ1 := Lib.hid (HZ.out.go hb1)
        have HZ2 : Hid (Ow3 w (oneS s1 x) (U1.setRow w.heap.size (pC (oneS s1 x)))) := Lib.hid HZ1.out.setRow
        clear hb1 e0
        go_wp2_with (first | refine wpList_store_row rfl 24 _ _ rfl w.heap.size (pC (oneS s1 x)) rfl rfl 24 (pC s1) HZ1.out.row info_pC rfl (pC_one _) ?_)
        go_roundw
        case rel => exact ⟨i + 1, _, by go_num, by omega, HAT2, HG2, HZ2⟩
        case measure => simp [intOf]; omega
    · have d1 : decide ((i : Int) < (n : Int)) = false := by simp; omega
      have d2 : decide (i < n) = false := by simp; omega
      obtain rfl := HAT.out.done (HLL.out ()) hin
      go_wp2_with (first | refine wpList_load_row rfl 24 _ rfl w.heap.size rfl 24 (pC s1) (0, 0) _ HZ.out.row Tryd.underlying24 rfl info_pC ?_ | refine wpList_store_row rfl 24 _ _ rfl (w.heap.size + 1) (pC s1) rfl rfl 24 _ HZ.out.zero info_pC ?c1 ?c2 ?_)
      case c1 => rfl
      case c2 => first | exact pC_one _ | simp [Value.oneCell']
      first | rw [Exit.noGoto_ret] | skip
      exact bodyPost_ret (v := pV s1) (results_cell_row (p := 4) (ty := 24) Tryd.results14 _ _ (w.heap.size + 1) 24 _ (0, 0) _ rfl (setRow_heap _ _ _ _ _ _ HZ.out.zero) Tryd.underlying24 rfl info_pC) rfl ⟨rfl, below_setRow HZ.out.below (by omega) _⟩
end Go.Proofs.YtohhmpkmcodoeaaDoor
