/-
  Proved here: of the program's styles: Read.
-/
import Derived.Test.YtjihcpnaebghnaaDoorZf
import Derived.Test.YtjihcpnaebghnaaDoorYi
import Derived.Test.YtjihcpnaebghnaaDoorYk
set_option linter.unusedSimpArgs false
set_option linter.unusedVariables false
namespace Go.Proofs.YtjihcpnaebghnaaDoor
open Go.RowKit
def ReadP (r : Sty × Int × Int) (w : World) (e : Ending) (w' : World) : Prop := e = .returned (.tuple #[pV r.1, .int .i64 r.2.1, .int .i64 r.2.2]) ∧ Below w.heap.size w w'
set_option maxRecDepth 100000 in
theorem pr_out (A : Option Addr) (len cap : Nat) (p : Int) (w : World) (h : p < 0 ∨ (len : Int) < p) : Calls Tryd.prog 67 #[.slice A len cap, .int .i64 p] w (ReadP (zeroY, 0, 1) w) := by
  rcases h with h | h
  · have d1 : decide (p < 0) = true := by simpa using h
    clear h
    go_enter Tryd.func67, Tryd.ntmps67
    go_wp2
    exact bodyPost_ret (results_cell_two Tryd.results67 _ _ w.heap.size 86 #[.int .u8 0, .int .u32 0, .int .u32 0] (0, 0) _ (.int .i64 0) (.int .i64 1) rfl rfl rfl (heap_alloc_new w _) Tryd.underlying86 rfl (by kernel_rfl)) rfl ⟨rfl, ((Below.refl _ _).alloc (Nat.le_refl _) _)⟩
  · have d1 : decide (p < 0) = false := by simp; omega
    have d2 : decide ((len : Int) < p) = true := by simpa using h
    clear h
    go_enter Tryd.func67, Tryd.ntmps67
    go_wp2
    exact bodyPost_ret (results_cell_two Tryd.results67 _ _ w.heap.size 86 #[.int .u8 0, .int .u32 0, .int .u32 0] (0, 0) _ (.int .i64 0) (.int .i64 1) rfl rfl rfl (heap_alloc_new w _) Tryd.underlying86 rfl (by kernel_rfl)) rfl ⟨rfl, ((Below.refl _ _).alloc (Nat.le_refl _) _)⟩
set_option maxRecDepth 100000 in
theorem pr_end (A : Option Addr) (len cap : Nat) (w : World) : Calls Tryd.prog 67 #[.slice A len cap, .int .i64 len] w (ReadP (zeroY, 0, 10) w) := by
  have d1 : decide ((len : Int) < 0) = false := by simp
  have d2 : ((len : Int) == (len : Int)) = true := by simp
  have d3 : decide ((len : Int) < (len : Int)) = false := by simp
  go_enter Tryd.func67, Tryd.ntmps67
  go_wp2
  exact bodyPost_ret (results_cell_two Tryd.results67 _ _ w.heap.size 86 #[.int .u8 0, .int .u32 0, .int .u32 0] (0, 0) _ (.int .i64 0) (.int .i64 10) rfl rfl rfl (heap_alloc_new w _) Tryd.underlying86 rfl (by kernel_rfl)) rfl ⟨rfl, ((Below.refl _ _).alloc (Nat.le_refl _) _)⟩
set_option maxRecDepth 100000 in
/-- Get, of bytes that came in, in whatever world that grew. -/
theorem pget_in {w W : World} {A : Option Addr} {bs : List Int} {n cap : Nat} (hR : RB w w.heap.size A bs) (hl : bs.length = n) (hcap : n ≤ cap) (hm : cap ≤ maxLen) (hB : Bytes bs) (hT : Tab w) (hb : Below w.heap.size w W) (p : Int) {r : Int × Int × Int} (hr : getS bs p = r) :
    Calls Tryd.prog 57 #[.slice A n cap, .int .i64 p] W (GetPost r W) := by
  subst hl hr
  exact get_any bs A cap w.heap.size p W (hR.below hb) hcap hm hB (hT.below hb hT.big)
set_option maxRecDepth 100000 in
set_option maxHeartbeats 1000000 in
theorem p_read {w : World} {A : Option Addr} {bs : List Int} {n cap : Nat} (hR : RB w w.heap.size A bs) (hl : bs.length = n) (hn : n ≤ 100000) (hcap : n ≤ cap) (hm : cap ≤ maxLen) (hB : Bytes bs) (hT : Tab w) (p : Int) :
    Calls Tryd.prog 67 #[.slice A n cap, .int .i64 p] w (ReadP (readY bs p) w) := by
  unfold readY
  rw [hl]
  by_cases h1 : p < 0 ∨ (n : Int) < p
  · rw [if_pos h1]; exact pr_out A n cap p w h1
  rw [if_neg h1]
  by_cases h2 : p = n
  · rw [if_pos h2]; subst h2; exact pr_end A n cap w
  rw [if_neg h2]
  obtain ⟨k, rfl⟩ : ∃ k : Nat, p = (k : Int) := ⟨p.toNat, by omega⟩
  have hk : k < n := by omega
  have d1 : decide ((k : Int) < 0) = false := by simp
  have d2 : decide ((n : Int) < (k : Int)) = false := by simp; omega
  have d3 : ((k : Int) == (n : Int)) = false := by simp; omega
  have HB0 := Lib.hid (fun o : Obj => (Below.refl w.heap.size w).alloc (Nat.le_refl _) o)
  rw [Int.toNat_natCast]
  obtain ⟨⟨v1, j1, e1⟩, hg1⟩ : ∃ r, getS bs ((k : Int) + 1) = r := ⟨_, rfl⟩
  have H1 := Lib.hid (fun W hb => pget_in (W := W) hR hl hcap hm hB hT hb ((k : Int) + 1) hg1)
  rw [hg1]
  dsimp only
  have hkk : IntKind.i64.wrap ((k : Int) + 1) = (k : Int) + 1 := IntWalk.i64_in _ (by omega)
  have hpos : e1 = 0 → 0 ≤ v1 ∧ v1 < 4611686018427387904 ∧ (k : Int) + 1 < j1 ∧ j1 ≤ (n : Int) := fun h => by
    have := getS_ok1 hB (p := k) (by rw [hg1]; exact h)
    rw [hg1] at this
    rw [← hl]
    exact this
  by_cases h3 : e1 ≠ 0
  · rw [if_pos h3]
    have z : (e1 != 0) = true := by simpa using h3
    clear hR hl hT hg1 h3 hpos h1 h2 hcap hm hn hB
    go_enter Tryd.func67, Tryd.ntmps67
    go_wp2_with fail
    refine (H1.out _ (HB0.out _)).mono ?_
    rintro e wx ⟨rfl, rfl⟩
    go_wp2
    exact bodyPost_ret (results_cell_two Tryd.results67 _ _ w.heap.size 86 #[.int .u8 0, .int .u32 0, .int .u32 0] (0, 0) _ (.int .i64 0) (.int .i64 e1) rfl rfl rfl (heap_alloc_new w _) Tryd.underlying86 rfl (by kernel_rfl)) rfl ⟨rfl, ((Below.refl _ _).alloc (Nat.le_refl _) _)⟩
  rw [if_neg h3]
  obtain rfl : e1 = 0 := by omega
  obtain ⟨p1, p2, p3, p4⟩ := hpos rfl
  obtain ⟨j, rfl⟩ : ∃ j : Nat, j1 = (j : Int) := ⟨j1.toNat, by omega⟩
  obtain ⟨⟨v2, j2, e2⟩, hg2⟩ : ∃ r, getS bs (j : Int) = r := ⟨_, rfl⟩
  have H2 := Lib.hid (fun W hb => pget_in (W := W) hR hl hcap hm hB hT hb (j : Int) hg2)
  have hpos2 : e2 = 0 → 0 ≤ v2 ∧ v2 < 4611686018427387904 := fun h => by
    have := getS_ok hB (p := j) (by rw [hg2]; exact h)
    rw [hg2] at this
    exact ⟨this.1, this.2.1⟩
  rw [hg2]
  dsimp only
  clear h3
  by_cases h4 : e2 ≠ 0
  · rw [if_pos h4]
    have z : (e2 != 0) = true := by simpa using h4
    clear hR hl hT hg1 hg2 h4 hpos2 h1 h2 hcap hm hn hB
    go_enter Tryd.func67, Tryd.ntmps67
    go_wp2_with fail
    refine (H1.out _ (HB0.out _)).mono ?_
    rintro e wx ⟨rfl, rfl⟩
    go_wp2_with fail
    refine (H2.out _ (HB0.out _)).mono ?_
    rintro e wx ⟨rfl, rfl⟩
    go_wp2
    exact bodyPost_ret (results_cell_two Tryd.results67 _ _ w.heap.size 86 #[.int .u8 0, .int .u32 0, .int .u32 0] (0, 0) _ (.int .i64 0) (.int .i64 e2) rfl rfl rfl (heap_alloc_new w _) Tryd.underlying86 rfl (by kernel_rfl)) rfl ⟨rfl, ((Below.refl _ _).alloc (Nat.le_refl _) _)⟩
  rw [if_neg h4]
  obtain rfl : e2 = 0 := by omega
  obtain ⟨q1, q2⟩ := hpos2 rfl
  have hsame : (if 50331647 < v1 ∨ 50331647 < v2 then (zeroY, (0 : Int), (3 : Int)) else if rightS ⟨ofF 8 (bs.getD k 0), v1, v2⟩ = true then (⟨ofF 8 (bs.getD k 0), v1, v2⟩, j2, 0) else (zeroY, 0, 3))
      = (if (colB v1 && colB v2) = true then (⟨ofF 8 (bs.getD k 0), v1, v2⟩, j2, 0) else (zeroY, 0, 3)) := by
    by_cases h5 : 50331647 < v1 ∨ 50331647 < v2
    · rw [if_pos h5, if_neg]
      intro h
      rw [Bool.and_eq_true] at h
      have := col_le h.1
      have := col_le h.2
      omega
    · rw [if_neg h5]; rfl
  rw [hsame]
  have H3 := Lib.hid (fun W : World => p_colour v1 W p1)
  have H4 := Lib.hid (fun W : World => p_colour v2 W q1)
  obtain ⟨b, off, rfl, hbl, hc⟩ := hR (by omega)
  have hx := hc k (by omega)
  have hb0 := hB k
  obtain ⟨x, hxe⟩ : ∃ x, bs.getD k 0 = x := ⟨_, rfl⟩
  rw [hxe] at hx hb0 ⊢
  have hof := flagsF_ofF 8 x hb0.1 (by have := hb0.2; simpa using this)
  have hcl : colB v1 = true → v1 ≤ 50331647 := col_le
  have hcl2 : colB v2 = true → v2 ≤ 50331647 := col_le
  clear hsame hpos2 h4 hR hl hT hg1 hg2 h1 h2 hc hxe hB hcap hm hn hpos
  obtain ⟨c1, hc1⟩ : ∃ c, colB v1 = c := ⟨_, rfl⟩
  obtain ⟨c2, hc2⟩ : ∃ c, colB v2 = c := ⟨_, rfl⟩
  rw [hc1] at H3 hcl ⊢
  rw [hc2] at H4 hcl2 ⊢
  cases c1
  · rw [Bool.false_and, if_neg (by decide)]
    clear hc1 hc2 hcl hcl2 hof
    go_enter Tryd.func67, Tryd.ntmps67
    go_wp2_with fail
    refine (H1.out _ (HB0.out _)).mono ?_
    rintro e wx ⟨rfl, rfl⟩
    go_wp2_with fail
    refine (H2.out _ (HB0.out _)).mono ?_
    rintro e wx ⟨rfl, rfl⟩
    go_wp2_with fail
    refine (H3.out _).mono ?_
    rintro e wx ⟨rfl, rfl⟩
    go_wp2
    exact bodyPost_ret (results_cell_two Tryd.results67 _ _ w.heap.size 86 #[.int .u8 0, .int .u32 0, .int .u32 0] (0, 0) _ (.int .i64 0) (.int .i64 3) rfl rfl rfl (heap_alloc_new w _) Tryd.underlying86 rfl (by kernel_rfl)) rfl ⟨rfl, ((Below.refl _ _).alloc (Nat.le_refl _) _)⟩
  cases c2
  · rw [Bool.and_false, if_neg (by decide)]
    clear hc1 hc2 hcl hcl2 hof
    go_enter Tryd.func67, Tryd.ntmps67
    go_wp2_with fail
    refine (H1.out _ (HB0.out _)).mono ?_
    rintro e wx ⟨rfl, rfl⟩
    go_wp2_with fail
    refine (H2.out _ (HB0.out _)).mono ?_
    rintro e wx ⟨rfl, rfl⟩
    go_wp2_with fail
    refine (H3.out _).mono ?_
    rintro e wx ⟨rfl, rfl⟩
    go_wp2_with fail
    refine (H4.out _).mono ?_
    rintro e wx ⟨rfl, rfl⟩
    go_wp2
    exact bodyPost_ret (results_cell_two Tryd.results67 _ _ w.heap.size 86 #[.int .u8 0, .int .u32 0, .int .u32 0] (0, 0) _ (.int .i64 0) (.int .i64 3) rfl rfl rfl (heap_alloc_new w _) Tryd.underlying86 rfl (by kernel_rfl)) rfl ⟨rfl, ((Below.refl _ _).alloc (Nat.le_refl _) _)⟩
  rw [if_pos (by decide)]
  have l1 := hcl rfl
  have l2 := hcl2 rfl
  have u1 : IntKind.u32.wrap v1 = v1 := IntWalk.u32_in _ (by omega)
  have u2 : IntKind.u32.wrap v2 = v2 := IntWalk.u32_in _ (by omega)
  have hx2 := fun o : Obj => ((HB0.out o).cell (p := ⟨b, off + k, none⟩) hbl).trans hx
  have hx3 := hx2 (.cells #[.int .u8 0, .int .u32 0, .int .u32 0] 86)
  have hrow := Lib.hid (heap_alloc_new w (.cells #[.int .u8 0, .int .u32 0, .int .u32 0] 86))
  have hkn : (k : Int) < (n : Int) := by omega
  have HOF := Lib.hid (fun (_ : Unit) => hof)
  clear hc1 hc2 hcl hcl2 hof hx2
  go_enter Tryd.func67, Tryd.ntmps67
  go_wp2_with fail
  refine (H1.out _ (HB0.out _)).mono ?_
  rintro e wx ⟨rfl, rfl⟩
  go_wp2_with fail
  refine (H2.out _ (HB0.out _)).mono ?_
  rintro e wx ⟨rfl, rfl⟩
  go_wp2_with fail
  refine (H3.out _).mono ?_
  rintro e wx ⟨rfl, rfl⟩
  go_wp2_with fail
  refine (H4.out _).mono ?_
  rintro e wx ⟨rfl, rfl⟩
  go_wp2
  exact bodyPost_ret (results_cell_two Tryd.results67 _ _ w.heap.size 86 #[.int .u8 x, .int .u32 v1, .int .u32 v2] (0, 0) _ (.int .i64 j2) (.int .i64 0) rfl rfl rfl (heap_alloc_new w _) Tryd.underlying86 rfl (by kernel_rfl)) rfl ⟨by simp only [pV, HOF.out ()], ((Below.refl _ _).alloc (Nat.le_refl _) _)⟩
end Go.Proofs.YtjihcpnaebghnaaDoor
