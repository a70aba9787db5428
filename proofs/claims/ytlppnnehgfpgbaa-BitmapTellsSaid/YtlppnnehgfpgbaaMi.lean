/-
  Proved here: of the laws of bitmap: alive.
-/
import Derived.Test.YtlppnnehgfpgbaaMh
set_option linter.unusedSimpArgs false
set_option linter.unusedVariables false
namespace Go.Proofs.Ytlppnnehgfpgbaa
open Go.RowKit
theorem conv_text {w : World} {A : Option Addr} {bs : List Int} {n : Nat} (hn : bs.length = n) (c : Nat) (h : RI .u8 w A bs) :
    (convert 28 9 (.slice A n c)).run Try.prog w = .ok (.string (strOfNums bs)) w := by
  subst hn
  rcases Nat.eq_zero_or_pos bs.length with h0 | h0
  · obtain rfl : bs = [] := List.eq_nil_of_length_eq_zero h0
    rcases A with _ | ad
    · exact run_convert_bytes_nil (P := Try.prog) w 28 5 Try.underlying28 Try.underlying5 0 c 9 Try.underlying9
    · rw [run_convert_bytes_string w 28 9 5 _ _ c Try.underlying28 Try.underlying5 Try.underlying9]
      exact run_bytesToString w ad 0 c [] (run_loadCells_list (P := Try.prog) w ad [] (fun j v hj => by simp at hj))
  · obtain ⟨b, off, rfl, _, hc⟩ := h h0
    exact run_convert_bytes_arg (P := Try.prog) w 28 5 Try.underlying28 Try.underlying5 b off _ c bs rfl hc 9 Try.underlying9
theorem own8 {w : World} {v : Value} {xs : List Int} {W : World} (h : Own8 w v xs W) : ∃ A c, v = .slice A xs.length c ∧ xs.length ≤ c ∧ c ≤ maxLen ∧ RI .u8 W A xs := by
  obtain ⟨A, c, rfl, h1, h2, _⟩ := own_slice h.own
  exact ⟨A, c, rfl, h1, h2, h.ri.1⟩
theorem Bto {w a b : World} (h : Below w.heap.size w a) (k : Below a.heap.size a b) : Below w.heap.size w b := h.trans (k.mono h.size)
theorem Bal {w a : World} (h : Below w.heap.size w a) (o : Obj) : Below w.heap.size w (a.alloc o) := h.alloc h.size o
theorem with_fix (w : World) : Calls Try.prog 24 #[.agg #[.int .i64 9, .int .u64 0], .int .i64 8] w fun e w' => e = .returned (.tuple #[.agg #[.int .i64 9, .int .u64 256], .int .i64 0]) ∧ Below w.heap.size w w' :=
  (with_in (n := 9) (b := 0) (by decide) (i := 8) (k := 8) rfl (by decide) (by decide) w).mono fun _ _ h => h
theorem new_fix (w : World) : Calls Try.prog 37 #[.int .i64 9] w fun e w' => e = .returned (.tuple #[.agg #[.int .i64 9, .int .u64 0], .int .i64 0]) ∧ Below w.heap.size w w' :=
  (new_yes (n := 9) (by decide) w).mono fun _ _ h => h
theorem new_fix2 (w : World) : Calls Try.prog 37 #[.int .i64 65] w fun e w' => e = .returned (.tuple #[.agg #[.int .i64 0, .int .u64 0], .int .i64 1]) ∧ Below w.heap.size w w' :=
  (new_no (n := 65) (by decide) w).mono fun _ _ h => h
theorem write_fix (w : World) : Calls Try.prog 33 #[.agg #[.int .i64 9, .int .u64 256]] w (WPost [9, 0, 1] 0 w) :=
  (write_in (k := 9) (b := 256) (by decide) w).mono fun _ _ h => h
theorem read_fix {A : Option Addr} {cap : Nat} (hc : 3 ≤ cap) (hcm : cap ≤ maxLen) (w : World) (hR : RI .u8 w A [9, 0, 1]) : Calls Try.prog 34 #[.slice A 3 cap] w fun e w' => e = .returned (.tuple #[.agg #[.int .i64 9, .int .u64 256], .int .i64 0]) ∧ Below w.heap.size w w' :=
  (read_any (bs := [9, 0, 1]) (fun i => by
    match i with
    | 0 => decide
    | 1 => decide
    | 2 => decide
    | i + 3 => simp [List.getD]) rfl (by simp) hc hcm w hR).mono fun e w' ⟨hb, h⟩ => by
    have hy : isMap [9, 0, 1] 9 256 := ⟨by decide, by decide⟩
    rcases h with ⟨n, b, hm, rfl⟩ | ⟨hno, _⟩
    · obtain ⟨rfl, rfl⟩ := one_map hm hy
      exact ⟨rfl, hb⟩
    · exact absurd hy (hno _ _)
theorem has_fix8 (w : World) : Calls Try.prog 30 #[.agg #[.int .i64 9, .int .u64 256], .int .i64 8] w fun e w' => e = .returned (.bool true) ∧ Below w.heap.size w w' :=
  (has_any 9 (b := 256) (by decide) 8 w).mono fun _ _ ⟨h, k⟩ => ⟨h.trans (congrArg (fun x => Ending.returned (.bool x)) (by decide)), k⟩
theorem has_fix7 (w : World) : Calls Try.prog 30 #[.agg #[.int .i64 9, .int .u64 256], .int .i64 7] w fun e w' => e = .returned (.bool false) ∧ Below w.heap.size w w' :=
  (has_any 9 (b := 256) (by decide) 7 w).mono fun _ _ ⟨h, k⟩ => ⟨h.trans (congrArg (fun x => Ending.returned (.bool x)) (by decide)), k⟩
theorem missing_fix (w : World) : Calls Try.prog 28 #[.agg #[.int .i64 9, .int .u64 256]] w fun e w' => ∃ A c, e = .returned (.slice A 8 c) ∧ Below w.heap.size w w' :=
  (missing_any 9 (b := 256) (by decide) w).mono fun _ _ ⟨v, h, k⟩ => by
    obtain ⟨A, c, rfl, _⟩ := own_slice k.own
    exact ⟨A, c, h, k.below⟩
set_option maxRecDepth 100000 in
theorem alive_any (w : World) : Calls Try.prog 26 #[] w fun e w' => e = .returned (.bool true) ∧ Below w.heap.size w w' := by
  go_enter Try.func26, Try.ntmps26
  go_wp2_with fail
  refine (new_fix _).mono ?_
  rintro e w1 ⟨rfl, h1⟩
  have HB1 := Lib.hid (Bal h1 (.cells #[.int .i64 9, .int .u64 0] 56))
  clear h1
  go_wp2_with fail
  refine (with_fix _).mono ?_
  rintro e w2 ⟨rfl, h2⟩
  have HB2 := Lib.hid (Bal (Bto HB1.out h2) (.cells #[.int .i64 9, .int .u64 256] 56))
  have HM2 := Lib.hid (MB.new w2 9 256)
  clear h2
  go_wp2_with fail
  refine (write_fix _).mono ?_
  rintro e w3 ⟨v3, rfl, h3⟩
  obtain ⟨A3, c3, rfl, k3, l3, r3⟩ := own8 h3
  have HB3 := Lib.hid (Bto HB2.out h3.below)
  have HM3 := Lib.hid (HM2.out.below h3.below)
  have HR3 := Lib.hid r3
  have HK3 := Lib.hid (And.intro k3 l3)
  clear h3 r3 k3 l3
  go_wp2_with fail
  refine (read_fix HK3.out.1 HK3.out.2 _ HR3.out).mono ?_
  rintro e w4 ⟨rfl, h4⟩
  have hal := (Below.refl w4.heap.size w4).alloc (Nat.le_refl _) (.cells #[.int .i64 9, .int .u64 256] 56)
  have HB4 := Lib.hid (Bto (Bto HB3.out h4) hal)
  have HM4 := Lib.hid ((HM3.out.below h4).below hal)
  have HN4 := Lib.hid (MB.new w4 9 256)
  have HR4 := Lib.hid ((HR3.out.below h4).below hal)
  clear h4 hal
  go_wp2_with fail
  refine (new_fix2 _).mono ?_
  rintro e w5 ⟨rfl, h5⟩
  have hal := (Below.refl w5.heap.size w5).alloc (Nat.le_refl _) (.cells #[.int .i64 0, .int .u64 0] 56)
  have HB5 := Lib.hid (Bto (Bto HB4.out h5) hal)
  have HM5 := Lib.hid ((HM4.out.below h5).below hal)
  have HN5 := Lib.hid ((HN4.out.below h5).below hal)
  have HR5 := Lib.hid ((HR4.out.below h5).below hal)
  clear h5 hal
  go_upto_region 6 with fail
  obtain ⟨X, hX⟩ : ∃ X, w5.alloc (.cells #[.int .i64 0, .int .u64 0] 56) = X := ⟨_, rfl⟩
  rw [hX] at HB5 HM5 HN5 HR5 ⊢
  clear hX
  have a0 := HM5.out.c0
  have a1 := HM5.out.c1
  have b0 := HN5.out.c0
  have b1 := HN5.out.c1
  have hcv := conv_text (n := 3) rfl c3 HR5.out
  rw [show strOfNums [9, 0, 1] = ⟨#[9, 0, 1]⟩ from by decide] at hcv
  go_wp2_with fail
  refine (has_fix8 _).mono ?_
  rintro e w6 ⟨rfl, h6⟩
  have HB6 := Lib.hid (Bto HB5.out h6)
  have HM6 := Lib.hid (HM5.out.below h6)
  clear h6 a0 a1 b0 b1 hcv
  have a0 := HM6.out.c0
  have a1 := HM6.out.c1
  go_wp2_with fail
  refine (has_fix7 _).mono ?_
  rintro e w7 ⟨rfl, h7⟩
  have HB7 := Lib.hid (Bto HB6.out h7)
  have HM7 := Lib.hid (HM6.out.below h7)
  clear h7 a0 a1
  have a0 := HM7.out.c0
  have a1 := HM7.out.c1
  go_wp2_with fail
  refine (missing_fix _).mono ?_
  rintro e w8 ⟨A8, c8, rfl, h8⟩
  have HB8 := Lib.hid (Bto HB7.out h8)
  clear h8 a0 a1
  go_wp2
  go_ret
  exact ⟨rfl, HB8.out⟩
end Go.Proofs.Ytlppnnehgfpgbaa
