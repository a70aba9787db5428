/-
  Proved here: of the document's styles: Change.
-/
import Derived.Test.YtohhmpkmcodoeaaDoorYe
import Derived.Deep.RegionHeld
import Derived.Deep.DeepCutAuto
set_option linter.unusedSimpArgs false
set_option linter.unusedVariables false
namespace Go.Proofs.YtohhmpkmcodoeaaDoor
open Go.RowKit
theorem Good.one {s : Sty} (h : Good s) (n : Int) : Good (oneS s n) := by
  refine ⟨oneS_len s n h.len, ?_, ?_⟩
  all_goals
    have h1 := h.fg
    have h2 := h.bg
    unfold oneS
    repeat' split
    all_goals first | exact h1 | exact h2 | (simp only [zeroY]; omega) | (simp only; omega)
theorem Good.set {s : Sty} (h : Good s) (x : Int) (ok : Bool) (c : Int) (hc : ok = true → 0 ≤ c ∧ c < 4294967296) : Good (setS s x ok c) := by
  refine ⟨setS_len s x ok c h.len, ?_, ?_⟩
  all_goals
    have h1 := h.fg
    have h2 := h.bg
    unfold setS
    split
    · rename_i hk
      have h3 := hc hk
      split
      · first | exact h3 | exact h2
      · first | exact h1 | exact h3
    · first | exact h1 | exact h2
theorem good_zero : Good zeroY := ⟨rfl, by simp [zeroY], by simp [zeroY]⟩
theorem smallB_iff {n : Int} : smallB n = true ↔ 0 ≤ n ∧ n ≤ 255 := by unfold smallB; simp
theorem small_at (n : Int) (w : World) {b : Bool} (h : smallB n = b) : Calls Tryd.prog 29 #[.int .i64 n] w fun e w' => e = .returned (.bool b) ∧ w = w' := by
  subst h; exact ry_small n w
theorem drop_getD (l : List Int) (i j : Nat) : (l.drop i).getD j 0 = l.getD (i + j) 0 := by simp [List.getD]
theorem drop_cons {l : List Int} {i : Nat} (h : i < l.length) : l.drop i = l.getD i 0 :: l.drop (i + 1) := by
  rw [List.drop_eq_getElem_cons h]; simp [List.getD, h]
/-- Where the numbers stand. -/
def At16 (l : List Int) (n : Nat) (i : Nat) (s1 R : Sty) : Prop := (i ≤ n ∧ chF (n - i) s1 (l.drop i) = R) ∨ (n < i ∧ s1 = R)
theorem At16.plain {l : List Int} {n i : Nat} {s1 R : Sty} (hl : l.length = n) (hi : i < n) (h : At16 l n i s1 R) {x : Int} (hx : l.getD i 0 = x) (h1 : ¬ (x = 38 ∨ x = 48)) : At16 l n (i + 1) (oneS s1 x) R := by
  rcases h with ⟨_, h⟩ | ⟨h, _⟩
  · rw [drop_cons (by omega), hx, show n - i = (n - (i + 1)) + 1 by omega, chF, if_neg h1] at h
    exact .inl ⟨by omega, h⟩
  · omega
theorem At16.five {l : List Int} {n i : Nat} {s1 R : Sty} (hl : l.length = n) (hi : i + 2 < n) (h : At16 l n i s1 R) {x : Int} (hx : l.getD i 0 = x) (h1 : x = 38 ∨ x = 48) (h5 : l.getD (i + 1) 0 = 5) {c : Int} (hc : l.getD (i + 2) 0 = c) {ok : Bool} (hok : smallB c = ok) :
    At16 l n (i + 2 + 1) (setS s1 x ok (16777216 + c)) R := by
  rcases h with ⟨_, h⟩ | ⟨h, _⟩
  · rw [drop_cons (by omega), hx, show n - i = (n - (i + 1)) + 1 by omega, chF, if_pos h1, drop_getD, drop_getD, Nat.add_zero, h5, show i + 1 + 1 = i + 2 by omega, hc, hok, if_pos ⟨by simp; omega, rfl⟩, List.drop_drop] at h
    refine .inl ⟨by omega, ?_⟩
    rw [show i + 2 + 1 = i + 1 + 2 by omega, ← h]
    exact chF_more _ _ _ _ (by simp; omega) (by simp; omega)
  · omega
theorem At16.two {l : List Int} {n i : Nat} {s1 R : Sty} (hl : l.length = n) (hi : i + 4 < n) (h : At16 l n i s1 R) {x : Int} (hx : l.getD i 0 = x) (h1 : x = 38 ∨ x = 48) (h5 : l.getD (i + 1) 0 = 2) {a b c : Int} (ha : l.getD (i + 2) 0 = a) (hb : l.getD (i + 3) 0 = b) (hc : l.getD (i + 4) 0 = c) {ok : Bool} (hok : (smallB a && smallB b && smallB c) = ok) :
    At16 l n (i + 4 + 1) (setS s1 x ok (33554432 + 65536 * a + 256 * b + c)) R := by
  rcases h with ⟨_, h⟩ | ⟨h, _⟩
  · rw [drop_cons (by omega), hx, show n - i = (n - (i + 1)) + 1 by omega, chF, if_pos h1, drop_getD, drop_getD, drop_getD, drop_getD, Nat.add_zero, h5, show i + 1 + 1 = i + 2 by omega, show i + 1 + 2 = i + 3 by omega, show i + 1 + 3 = i + 4 by omega, ha, hb, hc, hok, if_neg (by simp), if_pos ⟨by simp; omega, rfl⟩, List.drop_drop] at h
    refine .inl ⟨by omega, ?_⟩
    rw [show i + 4 + 1 = i + 1 + 4 by omega, ← h]
    exact chF_more _ _ _ _ (by simp; omega) (by simp; omega)
  · omega
theorem At16.stop {l : List Int} {n i : Nat} {s1 R : Sty} (hl : l.length = n) (hi : i < n) (h : At16 l n i s1 R) {x : Int} (hx : l.getD i 0 = x) (h1 : x = 38 ∨ x = 48) (h2 : ¬ (i + 2 < n ∧ l.getD (i + 1) 0 = 5)) (h4 : ¬ (i + 4 < n ∧ l.getD (i + 1) 0 = 2)) : At16 l n (i + n + 1) s1 R := by
  rcases h with ⟨_, h⟩ | ⟨h, _⟩
  · rw [drop_cons (by omega), hx, show n - i = (n - (i + 1)) + 1 by omega, chF, if_pos h1, drop_getD, Nat.add_zero, if_neg (fun h => h2 ⟨by have := h.1; simp at this; omega, h.2⟩), if_neg (fun h => h4 ⟨by have := h.1; simp at this; omega, h.2⟩)] at h
    exact .inr ⟨by omega, h⟩
  · omega
theorem At16.done {l : List Int} {n i : Nat} {s1 R : Sty} (hl : l.length = n) (hi : ¬ i < n) (h : At16 l n i s1 R) : s1 = R := by
  rcases h with ⟨h1, h⟩ | ⟨_, h⟩
  · rw [show n - i = 0 by omega, chF] at h; exact h
  · exact h
theorem Ow1.go {w : World} {s : Sty} {W W' : World} (h : Ow1 w s W) (hb : Below W.heap.size W W') : Ow1 w s W' :=
  ⟨(hb.block _ (lt_of_block h.row)).trans h.row, (hb.block _ (lt_of_block h.zero)).trans h.zero, h.below.trans (hb.mono h.below.size)⟩
theorem Ow1.setRow {w : World} {s s' : Sty} {W : World} (h : Ow1 w s W) : Ow1 w s' (W.setRow w.heap.size (styL s').toArray) :=
  ⟨setRow_heap _ _ _ _ _ _ h.row, (setRow_other _ _ _ _ (by omega)).trans h.zero, below_setRow h.below (Nat.le_refl _) _⟩
theorem cell_setRow {W : World} {g b i : Nat} {cs : Array Value} (h : b ≠ g) : (W.setRow g cs).cell? ⟨b, i, none⟩ = W.cell? ⟨b, i, none⟩ := World.cell?_of_block (setRow_other _ _ _ _ h)
set_option maxRecDepth 100000 in
set_option maxHeartbeats 4000000 in
theorem ry_change (s : Sty) {w : World} {A : Option Addr} {n cp : Nat} {l : List Int} (hs : Good s) (hR : RI .i64 w A l) (hl0 : l.length = n) (hn : n ≤ 100000) :
    Calls Tryd.prog 15 #[styV s, .slice A n cp] w fun e w' => e = .returned (styV (changeS s l)) ∧ Below w.heap.size w w' := by
  have hl := hs.len
  have HR := Lib.hid hR
  have HLL := Lib.hid hl0
  have HG0 := Lib.hid hs
  by_cases hn0 : n = 0
  · have e : changeS s l = zeroY := by unfold changeS; rw [if_pos (List.eq_nil_of_length_eq_zero (hl0.trans hn0))]
    rw [e]
    have z0 : ((n : Int) == 0) = true := by simp; omega
    obtain ⟨fs, fg, bg⟩ := s
    obtain ⟨f0, f1, f2, f3, f4, f5, f6, f7, rfl⟩ := eight hl
    show Calls Tryd.prog 15 #[.agg #[.bool f0, .bool f1, .bool f2, .bool f3, .bool f4, .bool f5, .bool f6, .bool f7, .int .u32 fg, .int .u32 bg], .slice A n cp] w _
    clear hl hs e hl0 hn0 HR HLL hR HG0
    go_enter Tryd.func15, Tryd.ntmps15
    go_wp2
    exact bodyPost_ret (v := styV zeroY) (by simp [results, Tryd.results15, go_sem]; rfl) rfl ⟨rfl, ((Below.refl _ _).alloc (Nat.le_refl _) _).alloc (by simp) _⟩
  have e : changeS s l = chF n s l := by unfold changeS; rw [if_neg (fun h => hn0 (by rw [← hl0, h]; rfl)), hl0]
  rw [e]
  obtain ⟨R, hRR⟩ : ∃ R, chF n s l = R := ⟨_, rfl⟩
  rw [hRR]
  have HAT0 : Hid (At16 l n 0 s R) := Lib.hid (.inl ⟨by omega, by rw [Nat.sub_zero, List.drop_zero]; exact hRR⟩)
  have z0 : ((n : Int) == 0) = false := by simp; omega
  obtain ⟨fs, fg, bg⟩ := s
  obtain ⟨f0, f1, f2, f3, f4, f5, f6, f7, rfl⟩ := eight hl
  have HZ0 : Hid (Ow1 w ⟨[f0, f1, f2, f3, f4, f5, f6, f7], fg, bg⟩ ((w.alloc (.cells #[.bool f0, .bool f1, .bool f2, .bool f3, .bool f4, .bool f5, .bool f6, .bool f7, .int .u32 fg, .int .u32 bg] 31)).alloc (.cells #[.bool false, .bool false, .bool false, .bool false, .bool false, .bool false, .bool false, .bool false, .int .u32 0, .int .u32 0] 31))) := Lib.hid (ow1_new w _ _ rfl _ rfl)
  show Calls Tryd.prog 15 #[.agg #[.bool f0, .bool f1, .bool f2, .bool f3, .bool f4, .bool f5, .bool f6, .bool f7, .int .u32 fg, .int .u32 bg], .slice A n cp] w _
  obtain ⟨fs, hfs⟩ : ∃ fs, [f0, f1, f2, f3, f4, f5, f6, f7] = fs := ⟨_, rfl⟩
  simp only [hfs] at HZ0 HAT0 HG0
  clear hl hs e hl0 hRR hfs hR
  go_enter Tryd.func15, Tryd.ntmps15
  go_wp2
  generalize ((w.alloc (.cells #[.bool f0, .bool f1, .bool f2, .bool f3, .bool f4, .bool f5, .bool f6, .bool f7, .int .u32 fg, .int .u32 bg] 31)).alloc (.cells #[.bool false, .bool false, .bool false, .bool false, .bool false, .bool false, .bool false, .bool false, .int .u32 0, .int .u32 0] 31)) = U0 at HZ0 ⊢
  go_loopw [5] (fun iv wr => ∃ (i : Nat) (s1 : Sty), iv = .int .i64 i ∧ i ≤ 2 * n + 2 ∧ Hid (At16 l n i s1 R) ∧ Hid (Good s1) ∧ Hid (Ow1 w s1 wr)) (fun iv _ => n - (intOf iv).toNat)
  case atStart => exact ⟨0, _, rfl, by omega, HAT0, HG0, HZ0⟩
  case round =>
    obtain ⟨i, s1, rfl, hi2, HAT, HG, HZ⟩ := hrel
    clear HAT0 HG0 HZ0
    by_cases hin : i < n
    · have d1 : decide ((i : Int) < (n : Int)) = true := by simp; omega
      have d2 : decide (i < n) = true := by simp; omega
      obtain ⟨bl, off, rfl, hbl, hc⟩ := HR.out (by rw [HLL.out]; omega)
      have hcell : ∀ W : World, Below w.heap.size w W → ∀ j, j < n → W.cell? ⟨bl, off + j, none⟩ = some (.int .i64 (l.getD j 0)) := fun W hb j hj => (hb.cell (p := ⟨bl, off + j, none⟩) hbl).trans (hc j (by rw [HLL.out]; exact hj))
      have e0 := hcell wr HZ.out.below i hin
      obtain ⟨x, hx⟩ : ∃ x, l.getD i 0 = x := ⟨_, rfl⟩
      rw [hx] at e0
      have HX := Lib.hid hx
      have HC := Lib.hid hcell
      have g3 : (0 : Int) ≤ (i : Int) := by omega
      have g4 : (i : Int) < (n : Int) := by omega
      have HBL : Hid (bl < w.heap.size) := Lib.hid hbl
      clear hc hcell hx hbl
      by_cases h38 : x = 38 ∨ x = 48
      · rcases h38 with rfl | rfl
        · have HXX := HX.out
          by_cases h5 : i + 2 < n ∧ l.getD (i + 1) 0 = 5
          · obtain ⟨h5a, h5b⟩ := h5
            have d3 : decide ((i : Int) + 2 < (n : Int)) = true := by simp; omega
            have e1 := HC.out wr HZ.out.below (i + 1) (by omega)
            rw [h5b] at e1
            have e2 := HC.out wr HZ.out.below (i + 2) (by omega)
            obtain ⟨c, hc⟩ : ∃ c, l.getD (i + 2) 0 = c := ⟨_, rfl⟩
            rw [hc] at e2
            have q1 : (i : Int) + 1 < (n : Int) := by omega
            have q2 : (i : Int) + 2 < (n : Int) := by omega
            cases hok : smallB c
            · have HAT2 := Lib.hid (HAT.out.five HLL.out h5a HXX (.inl rfl) h5b hc hok)
              have HG2 := Lib.hid (HG.out.set 38 false (16777216 + c) (fun h => by cases h))
              have HZ2 : Hid (Ow1 w (setS s1 38 false (16777216 + c)) wr) := Lib.hid (by unfold setS; rw [if_neg (by decide)]; exact HZ.out)
              have HS := Lib.hid (fun W : World => small_at c W hok)
              clear hok hc h5b HXX HZ HAT
              go_wp2_with fail
              refine (HS.out _).mono ?_
              rintro e wx ⟨rfl, rfl⟩
              go_wp2
              go_roundw
              case rel => exact ⟨i + 2 + 1, _, by go_num, by omega, HAT2, HG2, HZ2⟩
              case measure => simp [intOf]; omega
            · have hcb := smallB_iff.1 hok
              obtain ⟨c0, c1⟩ := hcb
              have HS := Lib.hid (fun W : World => small_at c W hok)
              have HAT2' := HAT.out.five HLL.out h5a HXX (.inl rfl) h5b hc hok
              have hG2 := HG.out.set 38 true (16777216 + c) (fun _ => by omega)
              obtain ⟨C, hC⟩ : ∃ C, 16777216 + c = C := ⟨_, rfl⟩
              rw [hC] at HAT2' hG2
              have HAT2 := Lib.hid HAT2'
              have HG2 := Lib.hid hG2
              have HSE : Hid (setS s1 38 true C = setS s1 38 true C) := Lib.hid rfl
              have k1 := HZ.out.cell (i := 8) (styL_8 HG.out.len)
              have k2 := HZ.out.free 8
              have HZ2 : Hid (Ow1 w (setS s1 38 true C) (wr.setCell ⟨w.heap.size, 8, none⟩ (.int .u32 C))) := Lib.hid (HZ.out.set 8 (.int .u32 C) (by unfold setS; rw [if_pos rfl, if_pos rfl]; exact styL_set8 HG.out.len C))
              have cw : IntKind.u32.wrap c = c := IntWalk.u32_in _ (by omega)
              have C0 : 0 ≤ C := by omega
              have C1 : C < 4294967296 := by omega
              have Cw : IntKind.u32.wrap C = C := IntWalk.u32_in _ (by omega)
              clear hok hc h5b HXX HZ HAT HAT2' hG2 HSE
              go_wp2_with fail
              refine (HS.out _).mono ?_
              rintro e wx ⟨rfl, rfl⟩
              go_wp2
              go_roundw
              case rel => exact ⟨i + 2 + 1, _, by go_num, by omega, HAT2, HG2, HZ2⟩
              case measure => simp [intOf]; omega
          · by_cases hB : i + 4 < n ∧ l.getD (i + 1) 0 = 2
            · obtain ⟨hBa, hBb⟩ := hB
              have d3 : decide ((i : Int) + 2 < (n : Int)) = true := by simp; omega
              have d4 : decide ((i : Int) + 4 < (n : Int)) = true := by simp; omega
              have e1 := HC.out wr HZ.out.below (i + 1) (by omega)
              rw [hBb] at e1
              have e2 := HC.out wr HZ.out.below (i + 2) (by omega)
              have e3 := HC.out wr HZ.out.below (i + 3) (by omega)
              have e4 := HC.out wr HZ.out.below (i + 4) (by omega)
              obtain ⟨a, ha⟩ : ∃ a, l.getD (i + 2) 0 = a := ⟨_, rfl⟩
              obtain ⟨b, hb⟩ : ∃ b, l.getD (i + 3) 0 = b := ⟨_, rfl⟩
              obtain ⟨c, hc⟩ : ∃ c, l.getD (i + 4) 0 = c := ⟨_, rfl⟩
              rw [ha] at e2
              rw [hb] at e3
              rw [hc] at e4
              have q1 : (i : Int) + 1 < (n : Int) := by omega
              have q2 : (i : Int) + 2 < (n : Int) := by omega
              have q3 : (i : Int) + 3 < (n : Int) := by omega
              have q4 : (i : Int) + 4 < (n : Int) := by omega
              have HT := Lib.hid (fun ok hok => HAT.out.two HLL.out hBa HXX (.inl rfl) hBb ha hb hc (ok := ok) hok)
              have HF : Hid (Good (setS s1 38 false (33554432 + 65536 * a + 256 * b + c)) ∧ Ow1 w (setS s1 38 false (33554432 + 65536 * a + 256 * b + c)) wr) := Lib.hid ⟨HG.out.set 38 false _ (fun h => by cases h), by unfold setS; rw [if_neg (by decide)]; exact HZ.out⟩
              cases hsa : smallB a
              · have HAT2 := Lib.hid (HT.out false (by rw [hsa]; rfl))
                have HG2 := Lib.hid HF.out.1
                have HZ2 := Lib.hid HF.out.2
                clear HT HF HZ HAT ha hb hc hBb HXX h5
                have HSa := Lib.hid (fun W : World => small_at a W hsa)
                clear hsa
                go_wp2_with fail
                refine (HSa.out _).mono ?_
                rintro e wx ⟨rfl, rfl⟩
                go_wp2
                go_roundw
                case rel => exact ⟨i + 4 + 1, _, by go_num, by omega, HAT2, HG2, HZ2⟩
                case measure => simp [intOf]; omega
              · cases hsb : smallB b
                · have HAT2 := Lib.hid (HT.out false (by rw [hsa, hsb]; rfl))
                  have HG2 := Lib.hid HF.out.1
                  have HZ2 := Lib.hid HF.out.2
                  clear HT HF HZ HAT ha hb hc hBb HXX h5
                  have HSa := Lib.hid (fun W : World => small_at a W hsa)
                  have HSb := Lib.hid (fun W : World => small_at b W hsb)
                  clear hsa hsb
                  go_wp2_with fail
                  refine (HSa.out _).mono ?_
                  rintro e wx ⟨rfl, rfl⟩
                  go_wp2_with fail
                  refine (HSb.out _).mono ?_
                  rintro e wx ⟨rfl, rfl⟩
                  go_wp2
                  go_roundw
                  case rel => exact ⟨i + 4 + 1, _, by go_num, by omega, HAT2, HG2, HZ2⟩
                  case measure => simp [intOf]; omega
                · cases hsc : smallB c
                  · have HAT2 := Lib.hid (HT.out false (by rw [hsa, hsb, hsc]; rfl))
                    have HG2 := Lib.hid HF.out.1
                    have HZ2 := Lib.hid HF.out.2
                    clear HT HF HZ HAT ha hb hc hBb HXX h5
                    have HSa := Lib.hid (fun W : World => small_at a W hsa)
                    have HSb := Lib.hid (fun W : World => small_at b W hsb)
                    have HSc := Lib.hid (fun W : World => small_at c W hsc)
                    clear hsa hsb hsc
                    go_wp2_with fail
                    refine (HSa.out _).mono ?_
                    rintro e wx ⟨rfl, rfl⟩
                    go_wp2_with fail
                    refine (HSb.out _).mono ?_
                    rintro e wx ⟨rfl, rfl⟩
                    go_wp2_with fail
                    refine (HSc.out _).mono ?_
                    rintro e wx ⟨rfl, rfl⟩
                    go_wp2
                    go_roundw
                    case rel => exact ⟨i + 4 + 1, _, by go_num, by omega, HAT2, HG2, HZ2⟩
                    case measure => simp [intOf]; omega
                  · obtain ⟨a0, a1⟩ := smallB_iff.1 hsa
                    obtain ⟨b0, b1⟩ := smallB_iff.1 hsb
                    obtain ⟨c0, c1⟩ := smallB_iff.1 hsc
                    have hT := HT.out true (by rw [hsa, hsb, hsc]; rfl)
                    have hG2 := HG.out.set 38 true (33554432 + 65536 * a + 256 * b + c) (fun _ => by omega)
                    obtain ⟨C, hC⟩ : ∃ C, 33554432 + 65536 * a + 256 * b + c = C := ⟨_, rfl⟩
                    rw [hC] at hT hG2
                    have HAT2 := Lib.hid hT
                    have HG2 := Lib.hid hG2
                    have HSa := Lib.hid (fun W : World => small_at a W hsa)
                    have HSb := Lib.hid (fun W : World => small_at b W hsb)
                    have HSc := Lib.hid (fun W : World => small_at c W hsc)
                    have hZD := HZ.out.go (Below.refl wr.heap.size wr).drew
                    clear HZ
                    have HZ := Lib.hid hZD
                    have HSE : Hid (setS s1 38 true C = setS s1 38 true C) := Lib.hid rfl
                    have k1 := HZ.out.cell (i := 8) (styL_8 HG.out.len)
                    have k2 := HZ.out.free 8
                    have HZ2 : Hid (Ow1 w (setS s1 38 true C) (wr.drew.setCell ⟨w.heap.size, 8, none⟩ (.int .u32 C))) := Lib.hid (HZ.out.set 8 (.int .u32 C) (by unfold setS; rw [if_pos rfl, if_pos rfl]; exact styL_set8 HG.out.len C))
                    have wa : IntKind.u32.wrap a = a := IntWalk.u32_in _ (by omega)
                    have wb : IntKind.u32.wrap b = b := IntWalk.u32_in _ (by omega)
                    have wc : IntKind.u32.wrap c = c := IntWalk.u32_in _ (by omega)
                    obtain ⟨a2, ha2⟩ : ∃ a2, 65536 * a = a2 := ⟨_, rfl⟩
                    obtain ⟨b2, hb2⟩ : ∃ b2, 256 * b = b2 := ⟨_, rfl⟩
                    have wa2 : IntKind.u32.wrap a2 = a2 := IntWalk.u32_in _ (by omega)
                    have wb2 : IntKind.u32.wrap b2 = b2 := IntWalk.u32_in _ (by omega)
                    obtain ⟨a3, ha3⟩ : ∃ a3, 33554432 + a2 = a3 := ⟨_, rfl⟩
                    have wa3 : IntKind.u32.wrap a3 = a3 := IntWalk.u32_in _ (by omega)
                    obtain ⟨a4, ha4⟩ : ∃ a4, a3 + b2 = a4 := ⟨_, rfl⟩
                    have wa4 : IntKind.u32.wrap a4 = a4 := IntWalk.u32_in _ (by omega)
                    have ha5 : a4 + c = C := by omega
                    have wC : IntKind.u32.wrap C = C := IntWalk.u32_in _ (by omega)
                    have s2 : IntKind.i64.wrap ((i : Int) + 2) = (i : Int) + 2 := IntWalk.i64_in _ (by omega)
                    have s3 : IntKind.i64.wrap ((i : Int) + 3) = (i : Int) + 3 := IntWalk.i64_in _ (by omega)
                    have s4 : IntKind.i64.wrap ((i : Int) + 4) = (i : Int) + 4 := IntWalk.i64_in _ (by omega)
                    have t2 : 0 ≤ (i : Int) + 2 := by omega
                    have t3 : 0 ≤ (i : Int) + 3 := by omega
                    have t4 : 0 ≤ (i : Int) + 4 := by omega
                    have u2 : ((i : Int) + 2).toNat = i + 2 := by omega
                    have u3 : ((i : Int) + 3).toNat = i + 3 := by omega
                    have u4 : ((i : Int) + 4).toNat = i + 4 := by omega
                    clear hsa hsb hsc hT hG2 HT HF HAT ha hb hc hBb HXX HSE hC hZD h5
                    go_wp2_with fail
                    refine (HSa.out _).mono ?_
                    rintro e wx ⟨rfl, rfl⟩
                    go_wp2_with fail
                    refine (HSb.out _).mono ?_
                    rintro e wx ⟨rfl, rfl⟩
                    go_wp2_with fail
                    refine (HSc.out _).mono ?_
                    rintro e wx ⟨rfl, rfl⟩
                    go_wp2
                    refine wp_region_held_drew (S := fun W => W.cell? ⟨bl, off + (i + 2), none⟩ = some (.int .i64 a) ∧ W.cell? ⟨bl, off + (i + 3), none⟩ = some (.int .i64 b) ∧ W.cell? ⟨bl, off + (i + 4), none⟩ = some (.int .i64 c)) (by kernel_rfl) ⟨e2, e3, e4⟩ (fun hHeld => ?_)
                    refine wpAnyH_take (i := 0) (v := ?_) (by simp; rfl) (by kernel_rfl) (by kernel_rfl) (by kernel_rfl) (by exact fun _ _ _ h => h) (Or.inl ⟨by rfl, fun wx hSx => ?_⟩) hHeld ?_
                    rotate_left
                    · clear hSx; go_simp; (try with_reducible rfl)
                    simp only [Act.put, List.setIfInBounds_toArray, List.set_cons_zero, List.set_cons_succ]
                    refine wpAnyH_take (i := 1) (v := ?_) (by simp; rfl) (by kernel_rfl) (by kernel_rfl) (by kernel_rfl) (by exact fun _ _ _ h => h) (Or.inl ⟨by rfl, fun wx hSx => ?_⟩) hHeld ?_
                    rotate_left
                    · clear hSx; go_simp; (try with_reducible rfl)
                    simp only [Act.put, List.setIfInBounds_toArray, List.set_cons_zero, List.set_cons_succ]
                    refine wpAnyH_take (i := 2) (v := ?_) (by simp; rfl) (by kernel_rfl) (by kernel_rfl) (by kernel_rfl) (by exact fun _ _ _ h => h) (Or.inl ⟨by rfl, fun wx hSx => ?_⟩) hHeld ?_
                    rotate_left
                    · clear hSx; go_simp; (try with_reducible rfl)
                    simp only [Act.put, List.setIfInBounds_toArray, List.set_cons_zero, List.set_cons_succ]
                    refine wpAnyH_take (i := 3) (v := ?_) (by simp; rfl) (by kernel_rfl) (by kernel_rfl) (by kernel_rfl) (by exact fun _ _ _ h => h) (Or.inl ⟨by rfl, fun wx hSx => ?_⟩) hHeld ?_
                    rotate_left
                    · clear hSx; go_simp; (try with_reducible rfl)
                    simp only [Act.put, List.setIfInBounds_toArray, List.set_cons_zero, List.set_cons_succ]
                    refine wpAnyH_take (i := 4) (v := ?_) (by simp; rfl) (by kernel_rfl) (by kernel_rfl) (by kernel_rfl) (by exact fun _ _ _ h => h) (Or.inl ⟨by rfl, fun wx hSx => ?_⟩) hHeld ?_
                    rotate_left
                    · obtain ⟨ca, cb, cc⟩ := hSx; go_simp; (try with_reducible rfl)
                    simp only [Act.put, List.setIfInBounds_toArray, List.set_cons_zero, List.set_cons_succ]
                    refine wpAnyH_take (i := 5) (v := ?_) (by simp; rfl) (by kernel_rfl) (by kernel_rfl) (by kernel_rfl) (by exact fun _ _ _ h => h) (Or.inl ⟨by rfl, fun wx hSx => ?_⟩) hHeld ?_
                    rotate_left
                    · clear hSx; go_simp; (try with_reducible rfl)
                    simp only [Act.put, List.setIfInBounds_toArray, List.set_cons_zero, List.set_cons_succ]
                    refine wpAnyH_take (i := 6) (v := ?_) (by simp; rfl) (by kernel_rfl) (by kernel_rfl) (by kernel_rfl) (by exact fun _ _ _ h => h) (Or.inl ⟨by rfl, fun wx hSx => ?_⟩) hHeld ?_
                    rotate_left
                    · clear hSx; go_simp; (try with_reducible rfl)
                    simp only [Act.put, List.setIfInBounds_toArray, List.set_cons_zero, List.set_cons_succ]
                    refine wpAnyH_take (i := 7) (v := ?_) (by simp; rfl) (by kernel_rfl) (by kernel_rfl) (by kernel_rfl) (by exact fun _ _ _ h => h) (Or.inl ⟨by rfl, fun wx hSx => ?_⟩) hHeld ?_
                    rotate_left
                    · clear hSx; go_simp; (try with_reducible rfl)
                    simp only [Act.put, List.setIfInBounds_toArray, List.set_cons_zero, List.set_cons_succ]
                    refine wpAnyH_take (i := 8) (v := ?_) (by simp; rfl) (by kernel_rfl) (by kernel_rfl) (by kernel_rfl) (by exact fun _ _ _ h => h) (Or.inl ⟨by rfl, fun wx hSx => ?_⟩) hHeld ?_
                    rotate_left
                    · clear hSx; go_simp; (try with_reducible rfl)
                    simp only [Act.put, List.setIfInBounds_toArray, List.set_cons_zero, List.set_cons_succ]
                    refine wpAnyH_take (i := 9) (v := ?_) (by simp; rfl) (by kernel_rfl) (by kernel_rfl) (by kernel_rfl) (by exact fun _ _ _ h => h) (Or.inl ⟨by rfl, fun wx hSx => ?_⟩) hHeld ?_
                    rotate_left
                    · clear hSx; go_simp; (try with_reducible rfl)
                    simp only [Act.put, List.setIfInBounds_toArray, List.set_cons_zero, List.set_cons_succ]
                    refine wpAnyH_take (i := 10) (v := ?_) (by simp; rfl) (by kernel_rfl) (by kernel_rfl) (by kernel_rfl) (by exact fun _ _ _ h => h) (Or.inl ⟨by rfl, fun wx hSx => ?_⟩) hHeld ?_
                    rotate_left
                    · clear hSx; go_simp; (try with_reducible rfl)
                    simp only [Act.put, List.setIfInBounds_toArray, List.set_cons_zero, List.set_cons_succ]
                    refine wpAnyH_take (i := 11) (v := ?_) (by simp; rfl) (by kernel_rfl) (by kernel_rfl) (by kernel_rfl) (by exact fun _ _ _ h => h) (Or.inl ⟨by rfl, fun wx hSx => ?_⟩) hHeld ?_
                    rotate_left
                    · clear hSx; go_simp; (try with_reducible rfl)
                    simp only [Act.put, List.setIfInBounds_toArray, List.set_cons_zero, List.set_cons_succ]
                    refine wpAnyH_take (i := 12) (v := ?_) (by simp; rfl) (by kernel_rfl) (by kernel_rfl) (by kernel_rfl) (by exact fun _ _ _ h => h) (Or.inl ⟨by rfl, fun wx hSx => ?_⟩) hHeld ?_
                    rotate_left
                    · obtain ⟨ca, cb, cc⟩ := hSx; go_simp; (try with_reducible rfl)
                    simp only [Act.put, List.setIfInBounds_toArray, List.set_cons_zero, List.set_cons_succ]
                    refine wpAnyH_take (i := 13) (v := ?_) (by simp; rfl) (by kernel_rfl) (by kernel_rfl) (by kernel_rfl) (by exact fun _ _ _ h => h) (Or.inl ⟨by rfl, fun wx hSx => ?_⟩) hHeld ?_
                    rotate_left
                    · clear hSx; go_simp; (try with_reducible rfl)
                    simp only [Act.put, List.setIfInBounds_toArray, List.set_cons_zero, List.set_cons_succ]
                    refine wpAnyH_take (i := 14) (v := ?_) (by simp; rfl) (by kernel_rfl) (by kernel_rfl) (by kernel_rfl) (by exact fun _ _ _ h => h) (Or.inl ⟨by rfl, fun wx hSx => ?_⟩) hHeld ?_
                    rotate_left
                    · clear hSx; go_simp; (try with_reducible rfl)
                    simp only [Act.put, List.setIfInBounds_toArray, List.set_cons_zero, List.set_cons_succ]
                    refine wpAnyH_take (i := 15) (v := ?_) (by simp; rfl) (by kernel_rfl) (by kernel_rfl) (by kernel_rfl) (by exact fun _ _ _ h => h) (Or.inl ⟨by rfl, fun wx hSx => ?_⟩) hHeld ?_
                    rotate_left
                    · clear hSx; go_simp; (try with_reducible rfl)
                    simp only [Act.put, List.setIfInBounds_toArray, List.set_cons_zero, List.set_cons_succ]
                    refine wpAnyH_take (i := 16) (v := ?_) (by simp; rfl) (by kernel_rfl) (by kernel_rfl) (by kernel_rfl) (by exact fun _ _ _ h => h) (Or.inl ⟨by rfl, fun wx hSx => ?_⟩) hHeld ?_
                    rotate_left
                    · clear hSx; go_simp; (try with_reducible rfl)
                    simp only [Act.put, List.setIfInBounds_toArray, List.set_cons_zero, List.set_cons_succ]
                    refine wpAnyH_take (i := 17) (v := ?_) (by simp; rfl) (by kernel_rfl) (by kernel_rfl) (by kernel_rfl) (by exact fun _ _ _ h => h) (Or.inl ⟨by rfl, fun wx hSx => ?_⟩) hHeld ?_
                    rotate_left
                    · clear hSx; go_simp; (try with_reducible rfl)
                    simp only [Act.put, List.setIfInBounds_toArray, List.set_cons_zero, List.set_cons_succ]
                    refine wpAnyH_take (i := 18) (v := ?_) (by simp; rfl) (by kernel_rfl) (by kernel_rfl) (by kernel_rfl) (by exact fun _ _ _ h => h) (Or.inl ⟨by rfl, fun wx hSx => ?_⟩) hHeld ?_
                    rotate_left
                    · clear hSx; go_simp; (try with_reducible rfl)
                    simp only [Act.put, List.setIfInBounds_toArray, List.set_cons_zero, List.set_cons_succ]
                    refine wpAnyH_take (i := 19) (v := ?_) (by simp; rfl) (by kernel_rfl) (by kernel_rfl) (by kernel_rfl) (by exact fun _ _ _ h => h) (Or.inl ⟨by rfl, fun wx hSx => ?_⟩) hHeld ?_
                    rotate_left
                    · clear hSx; go_simp; (try with_reducible rfl)
                    simp only [Act.put, List.setIfInBounds_toArray, List.set_cons_zero, List.set_cons_succ]
                    refine wpAnyH_take (i := 20) (v := ?_) (by simp; rfl) (by kernel_rfl) (by kernel_rfl) (by kernel_rfl) (by exact fun _ _ _ h => h) (Or.inl ⟨by rfl, fun wx hSx => ?_⟩) hHeld ?_
                    rotate_left
                    · obtain ⟨ca, cb, cc⟩ := hSx; go_simp; (try with_reducible rfl)
                    simp only [Act.put, List.setIfInBounds_toArray, List.set_cons_zero, List.set_cons_succ]
                    refine wpAnyH_take (i := 21) (v := ?_) (by simp; rfl) (by kernel_rfl) (by kernel_rfl) (by kernel_rfl) (by exact fun _ _ _ h => h) (Or.inl ⟨by rfl, fun wx hSx => ?_⟩) hHeld ?_
                    rotate_left
                    · clear hSx; go_simp; (try with_reducible rfl)
                    simp only [Act.put, List.setIfInBounds_toArray, List.set_cons_zero, List.set_cons_succ]
                    refine wpAnyH_take (i := 22) (v := ?_) (by simp; rfl) (by kernel_rfl) (by kernel_rfl) (by kernel_rfl) (by exact fun _ _ _ h => h) (Or.inl ⟨by rfl, fun wx hSx => ?_⟩) hHeld ?_
                    rotate_left
                    · clear hSx; go_simp; (try with_reducible rfl)
                    simp only [Act.put, List.setIfInBounds_toArray, List.set_cons_zero, List.set_cons_succ]
                    refine wpAnyH_take (i := 23) (v := ?_) (by simp; rfl) (by kernel_rfl) (by kernel_rfl) (by kernel_rfl) (by exact fun _ _ _ h => h) (Or.inl ⟨by rfl, fun wx hSx => ?_⟩) hHeld ?_
                    rotate_left
                    · clear hSx; go_simp; (try with_reducible rfl)
                    simp only [Act.put, List.setIfInBounds_toArray, List.set_cons_zero, List.set_cons_succ]
                    refine wpAnyH_done (by kernel_rfl) ?_ _
                    clear hHeld s2 s3 s4 t2 t3 t4 u2 u3 u4 wa wb wc wa2 wb2 wa3 wa4 ha2 hb2 ha3 ha4 ha5
                    go_wp2
                    go_roundw
                    case rel => exact ⟨i + 4 + 1, _, by go_num, by omega, HAT2, HG2, HZ2⟩
                    case measure => simp [intOf]; omega
            · have HAT2 := Lib.hid (HAT.out.stop HLL.out hin HXX (.inl rfl) h5 hB)
              have HG2 := HG
              have HZ2 := HZ
              have hin2 : (i : Int) + (n : Int) ≤ 400000 := by omega
              by_cases hc2 : i + 2 < n
              · have d3 : decide ((i : Int) + 2 < (n : Int)) = true := by simp; omega
                have e1 := HC.out wr HZ.out.below (i + 1) (by omega)
                obtain ⟨y, hy⟩ : ∃ y, l.getD (i + 1) 0 = y := ⟨_, rfl⟩
                rw [hy] at e1 h5 hB
                have y5 : (y == 5) = false := by simp; exact fun h => h5 ⟨hc2, h⟩
                have q1 : (i : Int) + 1 < (n : Int) := by omega
                by_cases hc4 : i + 4 < n
                · have d4 : decide ((i : Int) + 4 < (n : Int)) = true := by simp; omega
                  have y2 : (y == 2) = false := by simp; exact fun h => hB ⟨hc4, h⟩
                  clear hy h5 hB HXX HAT HZ HG
                  go_wp2
                  go_roundw
                  case rel => exact ⟨i + n + 1, _, by go_num, by omega, HAT2, HG2, HZ2⟩
                  case measure => simp [intOf]; omega
                · have d4 : decide ((i : Int) + 4 < (n : Int)) = false := by simp; omega
                  clear hy h5 hB HXX HAT HZ HG
                  go_wp2
                  go_roundw
                  case rel => exact ⟨i + n + 1, _, by go_num, by omega, HAT2, HG2, HZ2⟩
                  case measure => simp [intOf]; omega
              · have d3 : decide ((i : Int) + 2 < (n : Int)) = false := by simp; omega
                have d4 : decide ((i : Int) + 4 < (n : Int)) = false := by simp; omega
                clear h5 hB HXX HAT HZ HG
                go_wp2
                go_roundw
                case rel => exact ⟨i + n + 1, _, by go_num, by omega, HAT2, HG2, HZ2⟩
                case measure => simp [intOf]; omega
        · have HXX := HX.out
          by_cases h5 : i + 2 < n ∧ l.getD (i + 1) 0 = 5
          · obtain ⟨h5a, h5b⟩ := h5
            have d3 : decide ((i : Int) + 2 < (n : Int)) = true := by simp; omega
            have e1 := HC.out wr HZ.out.below (i + 1) (by omega)
            rw [h5b] at e1
            have e2 := HC.out wr HZ.out.below (i + 2) (by omega)
            obtain ⟨c, hc⟩ : ∃ c, l.getD (i + 2) 0 = c := ⟨_, rfl⟩
            rw [hc] at e2
            have q1 : (i : Int) + 1 < (n : Int) := by omega
            have q2 : (i : Int) + 2 < (n : Int) := by omega
            cases hok : smallB c
            · have HAT2 := Lib.hid (HAT.out.five HLL.out h5a HXX (.inr rfl) h5b hc hok)
              have HG2 := Lib.hid (HG.out.set 48 false (16777216 + c) (fun h => by cases h))
              have HZ2 : Hid (Ow1 w (setS s1 48 false (16777216 + c)) wr) := Lib.hid (by unfold setS; rw [if_neg (by decide)]; exact HZ.out)
              have HS := Lib.hid (fun W : World => small_at c W hok)
              clear hok hc h5b HXX HZ HAT
              go_wp2_with fail
              refine (HS.out _).mono ?_
              rintro e wx ⟨rfl, rfl⟩
              go_wp2
              go_roundw
              case rel => exact ⟨i + 2 + 1, _, by go_num, by omega, HAT2, HG2, HZ2⟩
              case measure => simp [intOf]; omega
            · have hcb := smallB_iff.1 hok
              obtain ⟨c0, c1⟩ := hcb
              have HS := Lib.hid (fun W : World => small_at c W hok)
              have HAT2' := HAT.out.five HLL.out h5a HXX (.inr rfl) h5b hc hok
              have hG2 := HG.out.set 48 true (16777216 + c) (fun _ => by omega)
              obtain ⟨C, hC⟩ : ∃ C, 16777216 + c = C := ⟨_, rfl⟩
              rw [hC] at HAT2' hG2
              have HAT2 := Lib.hid HAT2'
              have HG2 := Lib.hid hG2
              have HSE : Hid (setS s1 48 true C = setS s1 48 true C) := Lib.hid rfl
              have k1 := HZ.out.cell (i := 9) (styL_9 HG.out.len)
              have k2 := HZ.out.free 9
              have HZ2 : Hid (Ow1 w (setS s1 48 true C) (wr.setCell ⟨w.heap.size, 9, none⟩ (.int .u32 C))) := Lib.hid (HZ.out.set 9 (.int .u32 C) (by unfold setS; rw [if_pos rfl, if_neg (by decide)]; exact styL_set9 HG.out.len C))
              have cw : IntKind.u32.wrap c = c := IntWalk.u32_in _ (by omega)
              have C0 : 0 ≤ C := by omega
              have C1 : C < 4294967296 := by omega
              have Cw : IntKind.u32.wrap C = C := IntWalk.u32_in _ (by omega)
              clear hok hc h5b HXX HZ HAT HAT2' hG2 HSE
              go_wp2_with fail
              refine (HS.out _).mono ?_
              rintro e wx ⟨rfl, rfl⟩
              go_wp2
              go_roundw
              case rel => exact ⟨i + 2 + 1, _, by go_num, by omega, HAT2, HG2, HZ2⟩
              case measure => simp [intOf]; omega
          · by_cases hB : i + 4 < n ∧ l.getD (i + 1) 0 = 2
            · obtain ⟨hBa, hBb⟩ := hB
              have d3 : decide ((i : Int) + 2 < (n : Int)) = true := by simp; omega
              have d4 : decide ((i : Int) + 4 < (n : Int)) = true := by simp; omega
              have e1 := HC.out wr HZ.out.below (i + 1) (by omega)
              rw [hBb] at e1
              have e2 := HC.out wr HZ.out.below (i + 2) (by omega)
              have e3 := HC.out wr HZ.out.below (i + 3) (by omega)
              have e4 := HC.out wr HZ.out.below (i + 4) (by omega)
              obtain ⟨a, ha⟩ : ∃ a, l.getD (i + 2) 0 = a := ⟨_, rfl⟩
              obtain ⟨b, hb⟩ : ∃ b, l.getD (i + 3) 0 = b := ⟨_, rfl⟩
              obtain ⟨c, hc⟩ : ∃ c, l.getD (i + 4) 0 = c := ⟨_, rfl⟩
              rw [ha] at e2
              rw [hb] at e3
              rw [hc] at e4
              have q1 : (i : Int) + 1 < (n : Int) := by omega
              have q2 : (i : Int) + 2 < (n : Int) := by omega
              have q3 : (i : Int) + 3 < (n : Int) := by omega
              have q4 : (i : Int) + 4 < (n : Int) := by omega
              have HT := Lib.hid (fun ok hok => HAT.out.two HLL.out hBa HXX (.inr rfl) hBb ha hb hc (ok := ok) hok)
              have HF : Hid (Good (setS s1 48 false (33554432 + 65536 * a + 256 * b + c)) ∧ Ow1 w (setS s1 48 false (33554432 + 65536 * a + 256 * b + c)) wr) := Lib.hid ⟨HG.out.set 48 false _ (fun h => by cases h), by unfold setS; rw [if_neg (by decide)]; exact HZ.out⟩
              cases hsa : smallB a
              · have HAT2 := Lib.hid (HT.out false (by rw [hsa]; rfl))
                have HG2 := Lib.hid HF.out.1
                have HZ2 := Lib.hid HF.out.2
                clear HT HF HZ HAT ha hb hc hBb HXX h5
                have HSa := Lib.hid (fun W : World => small_at a W hsa)
                clear hsa
                go_wp2_with fail
                refine (HSa.out _).mono ?_
                rintro e wx ⟨rfl, rfl⟩
                go_wp2
                go_roundw
                case rel => exact ⟨i + 4 + 1, _, by go_num, by omega, HAT2, HG2, HZ2⟩
                case measure => simp [intOf]; omega
              · cases hsb : smallB b
                · have HAT2 := Lib.hid (HT.out false (by rw [hsa, hsb]; rfl))
                  have HG2 := Lib.hid HF.out.1
                  have HZ2 := Lib.hid HF.out.2
                  clear HT HF HZ HAT ha hb hc hBb HXX h5
                  have HSa := Lib.hid (fun W : World => small_at a W hsa)
                  have HSb := Lib.hid (fun W : World => small_at b W hsb)
                  clear hsa hsb
                  go_wp2_with fail
                  refine (HSa.out _).mono ?_
                  rintro e wx ⟨rfl, rfl⟩
                  go_wp2_with fail
                  refine (HSb.out _).mono ?_
                  rintro e wx ⟨rfl, rfl⟩
                  go_wp2
                  go_roundw
                  case rel => exact ⟨i + 4 + 1, _, by go_num, by omega, HAT2, HG2, HZ2⟩
                  case measure => simp [intOf]; omega
                · cases hsc : smallB c
                  · have HAT2 := Lib.hid (HT.out false (by rw [hsa, hsb, hsc]; rfl))
                    have HG2 := Lib.hid HF.out.1
                    have HZ2 := Lib.hid HF.out.2
                    clear HT HF HZ HAT ha hb hc hBb HXX h5
                    have HSa := Lib.hid (fun W : World => small_at a W hsa)
                    have HSb := Lib.hid (fun W : World => small_at b W hsb)
                    have HSc := Lib.hid (fun W : World => small_at c W hsc)
                    clear hsa hsb hsc
                    go_wp2_with fail
                    refine (HSa.out _).mono ?_
                    rintro e wx ⟨rfl, rfl⟩
                    go_wp2_with fail
                    refine (HSb.out _).mono ?_
                    rintro e wx ⟨rfl, rfl⟩
                    go_wp2_with fail
                    refine (HSc.out _).mono ?_
                    rintro e wx ⟨rfl, rfl⟩
                    go_wp2
                    go_roundw
                    case rel => exact ⟨i + 4 + 1, _, by go_num, by omega, HAT2, HG2, HZ2⟩
                    case measure => simp [intOf]; omega
                  · obtain ⟨a0, a1⟩ := smallB_iff.1 hsa
                    obtain ⟨b0, b1⟩ := smallB_iff.1 hsb
                    obtain ⟨c0, c1⟩ := smallB_iff.1 hsc
                    have hT := HT.out true (by rw [hsa, hsb, hsc]; rfl)
                    have hG2 := HG.out.set 48 true (33554432 + 65536 * a + 256 * b + c) (fun _ => by omega)
                    obtain ⟨C, hC⟩ : ∃ C, 33554432 + 65536 * a + 256 * b + c = C := ⟨_, rfl⟩
                    rw [hC] at hT hG2
                    have HAT2 := Lib.hid hT
                    have HG2 := Lib.hid hG2
                    have HSa := Lib.hid (fun W : World => small_at a W hsa)
                    have HSb := Lib.hid (fun W : World => small_at b W hsb)
                    have HSc := Lib.hid (fun W : World => small_at c W hsc)
                    have hZD := HZ.out.go (Below.refl wr.heap.size wr).drew
                    clear HZ
                    have HZ := Lib.hid hZD
                    have HSE : Hid (setS s1 48 true C = setS s1 48 true C) := Lib.hid rfl
                    have k1 := HZ.out.cell (i := 9) (styL_9 HG.out.len)
                    have k2 := HZ.out.free 9
                    have HZ2 : Hid (Ow1 w (setS s1 48 true C) (wr.drew.setCell ⟨w.heap.size, 9, none⟩ (.int .u32 C))) := Lib.hid (HZ.out.set 9 (.int .u32 C) (by unfold setS; rw [if_pos rfl, if_neg (by decide)]; exact styL_set9 HG.out.len C))
                    have wa : IntKind.u32.wrap a = a := IntWalk.u32_in _ (by omega)
                    have wb : IntKind.u32.wrap b = b := IntWalk.u32_in _ (by omega)
                    have wc : IntKind.u32.wrap c = c := IntWalk.u32_in _ (by omega)
                    obtain ⟨a2, ha2⟩ : ∃ a2, 65536 * a = a2 := ⟨_, rfl⟩
                    obtain ⟨b2, hb2⟩ : ∃ b2, 256 * b = b2 := ⟨_, rfl⟩
                    have wa2 : IntKind.u32.wrap a2 = a2 := IntWalk.u32_in _ (by omega)
                    have wb2 : IntKind.u32.wrap b2 = b2 := IntWalk.u32_in _ (by omega)
                    obtain ⟨a3, ha3⟩ : ∃ a3, 33554432 + a2 = a3 := ⟨_, rfl⟩
                    have wa3 : IntKind.u32.wrap a3 = a3 := IntWalk.u32_in _ (by omega)
                    obtain ⟨a4, ha4⟩ : ∃ a4, a3 + b2 = a4 := ⟨_, rfl⟩
                    have wa4 : IntKind.u32.wrap a4 = a4 := IntWalk.u32_in _ (by omega)
                    have ha5 : a4 + c = C := by omega
                    have wC : IntKind.u32.wrap C = C := IntWalk.u32_in _ (by omega)
                    have s2 : IntKind.i64.wrap ((i : Int) + 2) = (i : Int) + 2 := IntWalk.i64_in _ (by omega)
                    have s3 : IntKind.i64.wrap ((i : Int) + 3) = (i : Int) + 3 := IntWalk.i64_in _ (by omega)
                    have s4 : IntKind.i64.wrap ((i : Int) + 4) = (i : Int) + 4 := IntWalk.i64_in _ (by omega)
                    have t2 : 0 ≤ (i : Int) + 2 := by omega
                    have t3 : 0 ≤ (i : Int) + 3 := by omega
                    have t4 : 0 ≤ (i : Int) + 4 := by omega
                    have u2 : ((i : Int) + 2).toNat = i + 2 := by omega
                    have u3 : ((i : Int) + 3).toNat = i + 3 := by omega
                    have u4 : ((i : Int) + 4).toNat = i + 4 := by omega
                    clear hsa hsb hsc hT hG2 HT HF HAT ha hb hc hBb HXX HSE hC hZD h5
                    go_wp2_with fail
                    refine (HSa.out _).mono ?_
                    rintro e wx ⟨rfl, rfl⟩
                    go_wp2_with fail
                    refine (HSb.out _).mono ?_
                    rintro e wx ⟨rfl, rfl⟩
                    go_wp2_with fail
                    refine (HSc.out _).mono ?_
                    rintro e wx ⟨rfl, rfl⟩
                    go_wp2
                    refine wp_region_held_drew (S := fun W => W.cell? ⟨bl, off + (i + 2), none⟩ = some (.int .i64 a) ∧ W.cell? ⟨bl, off + (i + 3), none⟩ = some (.int .i64 b) ∧ W.cell? ⟨bl, off + (i + 4), none⟩ = some (.int .i64 c)) (by kernel_rfl) ⟨e2, e3, e4⟩ (fun hHeld => ?_)
                    refine wpAnyH_take (i := 0) (v := ?_) (by simp; rfl) (by kernel_rfl) (by kernel_rfl) (by kernel_rfl) (by exact fun _ _ _ h => h) (Or.inl ⟨by rfl, fun wx hSx => ?_⟩) hHeld ?_
                    rotate_left
                    · clear hSx; go_simp; (try with_reducible rfl)
                    simp only [Act.put, List.setIfInBounds_toArray, List.set_cons_zero, List.set_cons_succ]
                    refine wpAnyH_take (i := 1) (v := ?_) (by simp; rfl) (by kernel_rfl) (by kernel_rfl) (by kernel_rfl) (by exact fun _ _ _ h => h) (Or.inl ⟨by rfl, fun wx hSx => ?_⟩) hHeld ?_
                    rotate_left
                    · clear hSx; go_simp; (try with_reducible rfl)
                    simp only [Act.put, List.setIfInBounds_toArray, List.set_cons_zero, List.set_cons_succ]
                    refine wpAnyH_take (i := 2) (v := ?_) (by simp; rfl) (by kernel_rfl) (by kernel_rfl) (by kernel_rfl) (by exact fun _ _ _ h => h) (Or.inl ⟨by rfl, fun wx hSx => ?_⟩) hHeld ?_
                    rotate_left
                    · clear hSx; go_simp; (try with_reducible rfl)
                    simp only [Act.put, List.setIfInBounds_toArray, List.set_cons_zero, List.set_cons_succ]
                    refine wpAnyH_take (i := 3) (v := ?_) (by simp; rfl) (by kernel_rfl) (by kernel_rfl) (by kernel_rfl) (by exact fun _ _ _ h => h) (Or.inl ⟨by rfl, fun wx hSx => ?_⟩) hHeld ?_
                    rotate_left
                    · clear hSx; go_simp; (try with_reducible rfl)
                    simp only [Act.put, List.setIfInBounds_toArray, List.set_cons_zero, List.set_cons_succ]
                    refine wpAnyH_take (i := 4) (v := ?_) (by simp; rfl) (by kernel_rfl) (by kernel_rfl) (by kernel_rfl) (by exact fun _ _ _ h => h) (Or.inl ⟨by rfl, fun wx hSx => ?_⟩) hHeld ?_
                    rotate_left
                    · obtain ⟨ca, cb, cc⟩ := hSx; go_simp; (try with_reducible rfl)
                    simp only [Act.put, List.setIfInBounds_toArray, List.set_cons_zero, List.set_cons_succ]
                    refine wpAnyH_take (i := 5) (v := ?_) (by simp; rfl) (by kernel_rfl) (by kernel_rfl) (by kernel_rfl) (by exact fun _ _ _ h => h) (Or.inl ⟨by rfl, fun wx hSx => ?_⟩) hHeld ?_
                    rotate_left
                    · clear hSx; go_simp; (try with_reducible rfl)
                    simp only [Act.put, List.setIfInBounds_toArray, List.set_cons_zero, List.set_cons_succ]
                    refine wpAnyH_take (i := 6) (v := ?_) (by simp; rfl) (by kernel_rfl) (by kernel_rfl) (by kernel_rfl) (by exact fun _ _ _ h => h) (Or.inl ⟨by rfl, fun wx hSx => ?_⟩) hHeld ?_
                    rotate_left
                    · clear hSx; go_simp; (try with_reducible rfl)
                    simp only [Act.put, List.setIfInBounds_toArray, List.set_cons_zero, List.set_cons_succ]
                    refine wpAnyH_take (i := 7) (v := ?_) (by simp; rfl) (by kernel_rfl) (by kernel_rfl) (by kernel_rfl) (by exact fun _ _ _ h => h) (Or.inl ⟨by rfl, fun wx hSx => ?_⟩) hHeld ?_
                    rotate_left
                    · clear hSx; go_simp; (try with_reducible rfl)
                    simp only [Act.put, List.setIfInBounds_toArray, List.set_cons_zero, List.set_cons_succ]
                    refine wpAnyH_take (i := 8) (v := ?_) (by simp; rfl) (by kernel_rfl) (by kernel_rfl) (by kernel_rfl) (by exact fun _ _ _ h => h) (Or.inl ⟨by rfl, fun wx hSx => ?_⟩) hHeld ?_
                    rotate_left
                    · clear hSx; go_simp; (try with_reducible rfl)
                    simp only [Act.put, List.setIfInBounds_toArray, List.set_cons_zero, List.set_cons_succ]
                    refine wpAnyH_take (i := 9) (v := ?_) (by simp; rfl) (by kernel_rfl) (by kernel_rfl) (by kernel_rfl) (by exact fun _ _ _ h => h) (Or.inl ⟨by rfl, fun wx hSx => ?_⟩) hHeld ?_
                    rotate_left
                    · clear hSx; go_simp; (try with_reducible rfl)
                    simp only [Act.put, List.setIfInBounds_toArray, List.set_cons_zero, List.set_cons_succ]
                    refine wpAnyH_take (i := 10) (v := ?_) (by simp; rfl) (by kernel_rfl) (by kernel_rfl) (by kernel_rfl) (by exact fun _ _ _ h => h) (Or.inl ⟨by rfl, fun wx hSx => ?_⟩) hHeld ?_
                    rotate_left
                    · clear hSx; go_simp; (try with_reducible rfl)
                    simp only [Act.put, List.setIfInBounds_toArray, List.set_cons_zero, List.set_cons_succ]
                    refine wpAnyH_take (i := 11) (v := ?_) (by simp; rfl) (by kernel_rfl) (by kernel_rfl) (by kernel_rfl) (by exact fun _ _ _ h => h) (Or.inl ⟨by rfl, fun wx hSx => ?_⟩) hHeld ?_
                    rotate_left
                    · clear hSx; go_simp; (try with_reducible rfl)
                    simp only [Act.put, List.setIfInBounds_toArray, List.set_cons_zero, List.set_cons_succ]
                    refine wpAnyH_take (i := 12) (v := ?_) (by simp; rfl) (by kernel_rfl) (by kernel_rfl) (by kernel_rfl) (by exact fun _ _ _ h => h) (Or.inl ⟨by rfl, fun wx hSx => ?_⟩) hHeld ?_
                    rotate_left
                    · obtain ⟨ca, cb, cc⟩ := hSx; go_simp; (try with_reducible rfl)
                    simp only [Act.put, List.setIfInBounds_toArray, List.set_cons_zero, List.set_cons_succ]
                    refine wpAnyH_take (i := 13) (v := ?_) (by simp; rfl) (by kernel_rfl) (by kernel_rfl) (by kernel_rfl) (by exact fun _ _ _ h => h) (Or.inl ⟨by rfl, fun wx hSx => ?_⟩) hHeld ?_
                    rotate_left
                    · clear hSx; go_simp; (try with_reducible rfl)
                    simp only [Act.put, List.setIfInBounds_toArray, List.set_cons_zero, List.set_cons_succ]
                    refine wpAnyH_take (i := 14) (v := ?_) (by simp; rfl) (by kernel_rfl) (by kernel_rfl) (by kernel_rfl) (by exact fun _ _ _ h => h) (Or.inl ⟨by rfl, fun wx hSx => ?_⟩) hHeld ?_
                    rotate_left
                    · clear hSx; go_simp; (try with_reducible rfl)
                    simp only [Act.put, List.setIfInBounds_toArray, List.set_cons_zero, List.set_cons_succ]
                    refine wpAnyH_take (i := 15) (v := ?_) (by simp; rfl) (by kernel_rfl) (by kernel_rfl) (by kernel_rfl) (by exact fun _ _ _ h => h) (Or.inl ⟨by rfl, fun wx hSx => ?_⟩) hHeld ?_
                    rotate_left
                    · clear hSx; go_simp; (try with_reducible rfl)
                    simp only [Act.put, List.setIfInBounds_toArray, List.set_cons_zero, List.set_cons_succ]
                    refine wpAnyH_take (i := 16) (v := ?_) (by simp; rfl) (by kernel_rfl) (by kernel_rfl) (by kernel_rfl) (by exact fun _ _ _ h => h) (Or.inl ⟨by rfl, fun wx hSx => ?_⟩) hHeld ?_
                    rotate_left
                    · clear hSx; go_simp; (try with_reducible rfl)
                    simp only [Act.put, List.setIfInBounds_toArray, List.set_cons_zero, List.set_cons_succ]
                    refine wpAnyH_take (i := 17) (v := ?_) (by simp; rfl) (by kernel_rfl) (by kernel_rfl) (by kernel_rfl) (by exact fun _ _ _ h => h) (Or.inl ⟨by rfl, fun wx hSx => ?_⟩) hHeld ?_
                    rotate_left
                    · clear hSx; go_simp; (try with_reducible rfl)
                    simp only [Act.put, List.setIfInBounds_toArray, List.set_cons_zero, List.set_cons_succ]
                    refine wpAnyH_take (i := 18) (v := ?_) (by simp; rfl) (by kernel_rfl) (by kernel_rfl) (by kernel_rfl) (by exact fun _ _ _ h => h) (Or.inl ⟨by rfl, fun wx hSx => ?_⟩) hHeld ?_
                    rotate_left
                    · clear hSx; go_simp; (try with_reducible rfl)
                    simp only [Act.put, List.setIfInBounds_toArray, List.set_cons_zero, List.set_cons_succ]
                    refine wpAnyH_take (i := 19) (v := ?_) (by simp; rfl) (by kernel_rfl) (by kernel_rfl) (by kernel_rfl) (by exact fun _ _ _ h => h) (Or.inl ⟨by rfl, fun wx hSx => ?_⟩) hHeld ?_
                    rotate_left
                    · clear hSx; go_simp; (try with_reducible rfl)
                    simp only [Act.put, List.setIfInBounds_toArray, List.set_cons_zero, List.set_cons_succ]
                    refine wpAnyH_take (i := 20) (v := ?_) (by simp; rfl) (by kernel_rfl) (by kernel_rfl) (by kernel_rfl) (by exact fun _ _ _ h => h) (Or.inl ⟨by rfl, fun wx hSx => ?_⟩) hHeld ?_
                    rotate_left
                    · obtain ⟨ca, cb, cc⟩ := hSx; go_simp; (try with_reducible rfl)
                    simp only [Act.put, List.setIfInBounds_toArray, List.set_cons_zero, List.set_cons_succ]
                    refine wpAnyH_take (i := 21) (v := ?_) (by simp; rfl) (by kernel_rfl) (by kernel_rfl) (by kernel_rfl) (by exact fun _ _ _ h => h) (Or.inl ⟨by rfl, fun wx hSx => ?_⟩) hHeld ?_
                    rotate_left
                    · clear hSx; go_simp; (try with_reducible rfl)
                    simp only [Act.put, List.setIfInBounds_toArray, List.set_cons_zero, List.set_cons_succ]
                    refine wpAnyH_take (i := 22) (v := ?_) (by simp; rfl) (by kernel_rfl) (by kernel_rfl) (by kernel_rfl) (by exact fun _ _ _ h => h) (Or.inl ⟨by rfl, fun wx hSx => ?_⟩) hHeld ?_
                    rotate_left
                    · clear hSx; go_simp; (try with_reducible rfl)
                    simp only [Act.put, List.setIfInBounds_toArray, List.set_cons_zero, List.set_cons_succ]
                    refine wpAnyH_take (i := 23) (v := ?_) (by simp; rfl) (by kernel_rfl) (by kernel_rfl) (by kernel_rfl) (by exact fun _ _ _ h => h) (Or.inl ⟨by rfl, fun wx hSx => ?_⟩) hHeld ?_
                    rotate_left
                    · clear hSx; go_simp; (try with_reducible rfl)
                    simp only [Act.put, List.setIfInBounds_toArray, List.set_cons_zero, List.set_cons_succ]
                    refine wpAnyH_done (by kernel_rfl) ?_ _
                    clear hHeld s2 s3 s4 t2 t3 t4 u2 u3 u4 wa wb wc wa2 wb2 wa3 wa4 ha2 hb2 ha3 ha4 ha5
                    go_wp2
                    go_roundw
                    case rel => exact ⟨i + 4 + 1, _, by go_num, by omega, HAT2, HG2, HZ2⟩
                    case measure => simp [intOf]; omega
            · have HAT2 := Lib.hid (HAT.out.stop HLL.out hin HXX (.inr rfl) h5 hB)
              have HG2 := HG
              have HZ2 := HZ
              have hin2 : (i : Int) + (n : Int) ≤ 400000 := by omega
              by_cases hc2 : i + 2 < n
              · have d3 : decide ((i : Int) + 2 < (n : Int)) = true := by simp; omega
                have e1 := HC.out wr HZ.out.below (i + 1) (by omega)
                obtain ⟨y, hy⟩ : ∃ y, l.getD (i + 1) 0 = y := ⟨_, rfl⟩
                rw [hy] at e1 h5 hB
                have y5 : (y == 5) = false := by simp; exact fun h => h5 ⟨hc2, h⟩
                have q1 : (i : Int) + 1 < (n : Int) := by omega
                by_cases hc4 : i + 4 < n
                · have d4 : decide ((i : Int) + 4 < (n : Int)) = true := by simp; omega
                  have y2 : (y == 2) = false := by simp; exact fun h => hB ⟨hc4, h⟩
                  clear hy h5 hB HXX HAT HZ HG
                  go_wp2
                  go_roundw
                  case rel => exact ⟨i + n + 1, _, by go_num, by omega, HAT2, HG2, HZ2⟩
                  case measure => simp [intOf]; omega
                · have d4 : decide ((i : Int) + 4 < (n : Int)) = false := by simp; omega
                  clear hy h5 hB HXX HAT HZ HG
                  go_wp2
                  go_roundw
                  case rel => exact ⟨i + n + 1, _, by go_num, by omega, HAT2, HG2, HZ2⟩
                  case measure => simp [intOf]; omega
              · have d3 : decide ((i : Int) + 2 < (n : Int)) = false := by simp; omega
                have d4 : decide ((i : Int) + 4 < (n : Int)) = false := by simp; omega
                clear h5 hB HXX HAT HZ HG
                go_wp2
                go_roundw
                case rel => exact ⟨i + n + 1, _, by go_num, by omega, HAT2, HG2, HZ2⟩
                case measure => simp [intOf]; omega
      · have f1 : (x == 38) = false := by simp; omega
        have f2 : (x != 38) = true := by simp; omega
        have f3 : (x == 48) = false := by simp; omega
        have f4 : (x != 48) = true := by simp; omega
        have HAT2 := Lib.hid (HAT.out.plain HLL.out hin HX.out h38)
        have HG2 := Lib.hid (HG.out.one x)
        have HIS := Lib.hid (info_of (s := s1) HG.out.len)
        have HIS2 := Lib.hid (info_of (s := oneS s1 x) HG2.out.len)
        have hcx : (wr.drew).cell? ⟨bl, off + i, none⟩ = some (.int .i64 x) := e0
        have HZD : Hid (Ow1 w s1 wr.drew) := Lib.hid (HZ.out.go (Below.refl _ _).drew)
        clear HZ HAT h38
        go_wp2
        refine wp_region_held_drew (S := fun W => W.cell? ⟨bl, off + i, none⟩ = some (.int .i64 x)) (by kernel_rfl) hcx (fun hHeld => ?_)
        clear hcx e0
        refine wpAnyH_take (i := 1) (v := ?_) (by simp; rfl) (by kernel_rfl) (by kernel_rfl) (by kernel_rfl) (by exact fun _ _ _ h => h) (Or.inl ⟨by rfl, fun wx hSx => ?_⟩) hHeld ?_
        rotate_left
        · clear hSx; go_simp; (try with_reducible rfl)
        simp only [Act.put, List.setIfInBounds_toArray, List.set_cons_zero, List.set_cons_succ]
        refine wpAnyH_take (i := 2) (v := ?_) (by simp; rfl) (by kernel_rfl) (by kernel_rfl) (by kernel_rfl) (by exact fun _ _ _ h => h) (Or.inl ⟨by rfl, fun wx hSx => ?_⟩) hHeld ?_
        rotate_left
        · clear hSx; go_simp; (try with_reducible rfl)
        simp only [Act.put, List.setIfInBounds_toArray, List.set_cons_zero, List.set_cons_succ]
        refine wpAnyH_take (i := 3) (v := ?_) (by simp; rfl) (by kernel_rfl) (by kernel_rfl) (by kernel_rfl) (by exact fun _ _ _ h => h) (Or.inl ⟨by rfl, fun wx hSx => ?_⟩) hHeld ?_
        rotate_left
        · clear hSx; go_simp; (try with_reducible rfl)
        simp only [Act.put, List.setIfInBounds_toArray, List.set_cons_zero, List.set_cons_succ]
        refine wpAnyH_take (i := 4) (v := ?_) (by simp; rfl) (by kernel_rfl) (by kernel_rfl) (by kernel_rfl) (by exact fun _ _ _ h => h) (Or.inl ⟨by rfl, fun wx hSx => ?_⟩) hHeld ?_
        rotate_left
        · dsimp only at hSx; go_simp; (try with_reducible rfl)
        simp only [Act.put, List.setIfInBounds_toArray, List.set_cons_zero, List.set_cons_succ]
        refine wpAnyH_ready (rs := [0]) (by kernel_rfl) (by simp) ?_
        refine AllReadyH.cons (by simp; rfl) (fun K0 hK0 => ?_) AllReadyH.nil
        rw [if_pos (by rfl)]
        refine wp_load_row 31 (.tmp 2) rfl w.heap.size (by rfl) 31 (styL s1).toArray (0, 0) _ HZD.out.row Tryd.underlying31 rfl HIS.out ?_
        simp only [Act.put, List.setIfInBounds_toArray, List.set_cons_zero, List.set_cons_succ]
        refine hK0.out _ _ hHeld (fun hHeld => ?_)
        clear hK0 K0
        refine wpAnyH_ready (rs := [5]) (by kernel_rfl) (by simp) ?_
        refine AllReadyH.cons (by simp; rfl) (fun K0 hK0 => ?_) AllReadyH.nil
        go_simp
        refine (ry_one s1 x _ HG.out).mono ?_
        rintro e U1 ⟨rfl, hb1⟩
        have HZ1 := Lib.hid (HZD.out.go hb1)
        refine hK0.out _ _ (HX.out ▸ HC.out U1 HZ1.out.below i hin) (fun hHeld => ?_)
        clear hK0 K0 hb1
        refine wpAnyH_ready (rs := [6]) (by kernel_rfl) (by simp) ?_
        refine AllReadyH.cons (by simp; rfl) (fun K0 hK0 => ?_) AllReadyH.nil
        rw [if_pos (by rfl)]
        refine wp_store_row 31 (.tmp 2) (.tmp 36) rfl w.heap.size (styL (oneS s1 x)).toArray (by rfl) (by rfl) 31 (styL s1).toArray HZ1.out.row HIS2.out (by rw [styL_size HG.out.len, styL_size HG2.out.len]) (styL_one _) ?_
        simp only [Act.put]
        refine hK0.out _ _ ((cell_setRow (by have := HBL.out; omega)).trans (HX.out ▸ HC.out U1 HZ1.out.below i hin)) (fun hHeld => ?_)
        have HZ2 : Hid (Ow1 w (oneS s1 x) (U1.setRow w.heap.size (styL (oneS s1 x)).toArray)) := Lib.hid HZ1.out.setRow
        generalize U1.setRow w.heap.size (styL (oneS s1 x)).toArray = U2 at HZ2 hHeld ⊢
        clear hK0 K0 HZD
        refine wpAnyH_done (by kernel_rfl) ?_ _
        clear hHeld
        go_wp2
        go_roundw
        case rel => exact ⟨i + 1, _, by go_num, by omega, HAT2, HG2, HZ2⟩
        case measure => simp [intOf]; omega
    · have d1 : decide ((i : Int) < (n : Int)) = false := by simp; omega
      have d2 : decide (i < n) = false := by simp; omega
      obtain rfl := HAT.out.done HLL.out hin
      have HIS := Lib.hid (info_of (s := s1) HG.out.len)
      go_wp2_with (first | refine wpList_load_row rfl 31 _ rfl w.heap.size rfl 31 (styL s1).toArray (0,0) _ HZ.out.row Tryd.underlying31 rfl HIS.out ?_ | refine wpList_store_row rfl 31 _ _ rfl (w.heap.size + 1) _ rfl rfl 31 (styL zeroY).toArray HZ.out.zero HIS.out ?c1 ?c2 ?_)
      case c1 =>
        have h1 := info_of (s := zeroY) rfl
        have h2 := HIS.out
        rw [h1] at h2
        exact Option.some.inj h2
      case c2 => first | exact styL_one _ | exact styL_all _
      exact bodyPost_ret (v := styV s1) (results_cell_row (p := 4) (ty := 31) Tryd.results15 _ _ (w.heap.size + 1) 31 _ (0, 0) _ rfl (setRow_heap _ _ _ _ _ _ HZ.out.zero) Tryd.underlying31 rfl HIS.out) rfl ⟨rfl, below_setRow HZ.out.below (by omega) _⟩
end Go.Proofs.YtohhmpkmcodoeaaDoor
