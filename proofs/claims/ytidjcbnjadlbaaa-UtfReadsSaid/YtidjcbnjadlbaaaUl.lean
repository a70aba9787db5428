/-
  Proved here: the fixed calls of utf's laws: alive.
-/
import Derived.Test.YtidjcbnjadlbaaaUk
import Derived.Test.YtidjcbnjadlbaaaUq
set_option linter.unusedSimpArgs false
set_option linter.unusedVariables false
namespace Go.Proofs.Ytidjcbnjadlbaaa
open Go.RowKit
theorem convS_nums {w : World} {A : Option Addr} {bs : List Int} {n : Nat} (hn : bs.length = n) (c : Nat) (h : RI .u8 w A bs) :
    (convert 22 9 (.slice A n c)).run Try.prog w = .ok (.string (strOfNums bs)) w := by
  subst hn
  rcases Nat.eq_zero_or_pos bs.length with h0 | h0
  · obtain rfl : bs = [] := List.eq_nil_of_length_eq_zero h0
    rcases A with _ | ad
    · exact run_convert_bytes_nil (P := Try.prog) w 22 5 Try.underlying22 Try.underlying5 0 c 9 Try.underlying9
    · rw [run_convert_bytes_string w 22 9 5 _ _ c Try.underlying22 Try.underlying5 Try.underlying9]
      exact run_bytesToString w ad 0 c [] (run_loadCells_list (P := Try.prog) w ad [] (fun j v hj => by simp at hj))
  · obtain ⟨b, off, rfl, _, hc⟩ := h h0
    exact run_convert_bytes_arg (P := Try.prog) w 22 5 Try.underlying22 Try.underlying5 b off _ c bs rfl hc 9 Try.underlying9
/-- A new Reader. -/
theorem new_rd (w : World) : Calls Try.prog 12 #[] w fun e w' => e = .returned (.pointer (some ⟨w.heap.size, 0, none⟩)) ∧ Rd w' w.heap.size 0 0 0 0 0 ∧ Below w.heap.size w w' ∧ w'.heap.size = w.heap.size + 1 := by
  refine (new_any w).mono ?_
  rintro e w' ⟨rfl, rfl⟩
  exact ⟨rfl, heap_alloc_new _ _, (Below.refl _ _).alloc (Nat.le_refl _) _, by simp⟩
/-- What a Reader answers to bytes that the caller laid just now. -/
theorem read_lit {w : World} {g : Nat} {W0 N0 P0 L0 H0 : Int} {us : List Int} (hr : Rd w g W0 N0 P0 L0 H0) (hs : St us W0 N0 P0 L0 H0) (bs : List Int) (m : Nat) (hm : bs.length = m) (hn : m ≤ 10000) (hb : ∀ j, j < m → 0 ≤ bs.getD j 0 ∧ bs.getD j 0 < 256) {xs vs : List Int} (hx : (readS (us ++ bs)).1 = xs) (hv : waitS (us ++ bs) = vs) :
    Calls Try.prog 13 #[.pointer (some ⟨g, 0, none⟩), .slice (some ⟨w.heap.size, 0, none⟩) m m] (w.alloc (.cells (NV .u8 bs).toArray 5)) fun e w' => ∃ v W N P L H, e = .returned (.tuple #[v, .int .i64 0]) ∧ Lies w' (w.heap.size + 1) v xs ∧ Only g w w' ∧ Rd w' g W N P L H ∧ St vs W N P L H := by
  subst hx hv
  have hb1 := (Below.refl w.heap.size w).alloc (Nat.le_refl _) (.cells (NV .u8 bs).toArray 5)
  have h1 := hr.keep hb1 hr.lt
  refine (read_any (c := m) h1 hs (RI.lit w bs 5) hm hn (fun _ ad e => ?_) hb).mono ?_
  · injection e with e
    subst e
    exact fun h => Nat.lt_irrefl _ (h ▸ hr.lt)
  · rintro e w' ⟨v, W, N, P, L, H, rfl, o, r, s⟩
    exact ⟨v, W, N, P, L, H, rfl, by simpa using o.lies, (Only.of_below hb1).trans o.only, r, s⟩
theorem waits_st {w : World} {g : Nat} {W N P L H : Int} {us : List Int} (h : Rd w g W N P L H) (hs : St us W N P L H) : Calls Try.prog 16 #[.pointer (some ⟨g, 0, none⟩)] w fun e w' => e = .returned (.int .i64 (us.length : Nat)) ∧ w = w' := by
  refine (waits_rd g W N P L H w h).mono ?_
  rintro e w' ⟨rfl, rfl⟩
  exact ⟨by rw [hs.len.2.1], rfl⟩
theorem same_yes {w : World} {A B : Option Addr} {n m c d : Nat} {xs ys : List Int} (hA : RI .i32 w A xs) (hB : RI .i32 w B ys) (hx : xs.length = n) (hy : ys.length = m) (hn : n ≤ 1000000) (h : xs = ys) :
    Calls Try.prog 15 #[.slice A n c, .slice B m d] w fun e w' => e = .returned (.bool true) ∧ Below w.heap.size w w' := by
  subst h
  refine (same_any hA hB hx hy hn).mono ?_
  rintro e w' ⟨rfl, k, rfl⟩
  exact ⟨ret_bool (by simp), belowN (Below.refl _ _) k⟩
/-- What the caller laid just now is what it is held against. -/
theorem same_lit {w : World} {A : Option Addr} {n c : Nat} {xs : List Int} (hA : RI .i32 w A xs) (hx : xs.length = n) (hn : n ≤ 1000000) :
    Calls Try.prog 15 #[.slice A n c, .slice (some ⟨w.heap.size, 0, none⟩) n n] (w.alloc (.cells (NV .i32 xs).toArray 21)) fun e w' => e = .returned (.bool true) ∧ Below w.heap.size w w' := by
  have hb1 := (Below.refl w.heap.size w).alloc (Nat.le_refl _) (.cells (NV .i32 xs).toArray 21)
  refine (same_yes (hA.below hb1) (RI.lit w xs 21) hx hx hn rfl).mono ?_
  rintro e w' ⟨rfl, hb⟩
  exact ⟨rfl, hb1.trans (hb.mono hb1.size)⟩
set_option maxRecDepth 100000 in
set_option maxHeartbeats 1000000 in
theorem alive_any (w : World) : Calls Try.prog 11 #[] w fun e w' => e = .returned (.bool true) ∧ Below w.heap.size w w' := by
  go_enter Try.func11, Try.ntmps11
  go_wp2_with fail
  refine (new_rd w).mono ?_
  rintro e w1 ⟨rfl, r1, b1, z1⟩
  obtain ⟨g, hg⟩ : ∃ g, w.heap.size = g := ⟨_, rfl⟩
  rw [hg] at r1 b1 z1 ⊢
  have HG := Lib.hid hg
  have HB1 := Lib.hid b1
  have HZ1 := Lib.hid z1
  have HR1 := Lib.hid (read_lit r1 St.empty [195] 1 rfl (by omega) (by decide) (xs := []) (vs := [195]) rfl rfl)
  clear r1 b1 z1 hg
  go_wp2_with fail
  refine HR1.out.mono ?_
  rintro e w2 ⟨v2, W2, N2, P2, L2, H2, rfl, l2, o2, r2, s2⟩
  have HO2 := Lib.hid o2
  have HR2 := Lib.hid (read_lit r2 s2 [164, 195, 65, 226, 130] 5 rfl (by omega) (by decide) (xs := [228, 65533, 65]) (vs := [226, 130]) (by decide) (by decide))
  obtain ⟨A2, c2, rfl, _, _, _⟩ := l2.at_
  clear l2 o2 r2 s2 HR1
  go_wp2_with fail
  refine HR2.out.mono ?_
  rintro e w3 ⟨v3, W3, N3, P3, L3, H3, rfl, l3, o3, r3, s3⟩
  have HW3 := Lib.hid (waits_st r3 s3)
  have HE3 := Lib.hid (end_rd r3 s3)
  have HO3 := Lib.hid (HO2.out.trans o3)
  have hl3 := l3.mono (B' := g + 1) (by have := HO2.out.size; rw [HZ1.out] at this; omega)
  have HL3 := Lib.hid hl3
  clear l3 o3 r3 s3 HR2 HO2 hl3
  go_wp2_with fail
  refine HW3.out.mono ?_
  rintro e w4 ⟨rfl, rfl⟩
  go_wp2_with fail
  refine HE3.out.mono ?_
  rintro e w5 ⟨v5, rfl, l5, o5, _⟩
  have l3' := HL3.out.go o5 (by omega)
  obtain ⟨A3, c3, rfl, hA3, hR3, _⟩ := l3'.at_
  obtain ⟨A5, c5, rfl, hA5, hR5, _⟩ := l5.at_
  have hb5 : Below g w w5 := (HO3.out.trans o5).below HB1.out (Nat.le_refl _) (by rw [HZ1.out]; omega)
  have HB5 : Hid (Below w.heap.size w w5) := Lib.hid (by rw [HG.out]; exact hb5)
  have HR3 := Lib.hid hR3
  have HR5 := Lib.hid hR5
  have hs5 := hb5.size
  rw [HG.out] at hs5
  have HS5 := Lib.hid hs5
  clear HW3 HE3 HO3 HB1 HZ1 HL3 l3' l5 o5 hA3 hA5 hR3 hR5 hb5 hs5
  go_wp2_with fail
  refine (same_lit (xs := [228, 65533, 65]) HR3.out rfl (by simp)).mono ?_
  rintro e w6 ⟨rfl, b6⟩
  have HB6 := Lib.hid (HB5.out.trans (b6.mono HB5.out.size))
  have HR5' : Hid (RI .i32 w6 A5 [65533]) := Lib.hid (HR5.out.below b6)
  clear HR3 HR5 b6
  go_wp2_with fail
  refine (same_lit (xs := [65533]) HR5'.out rfl (by simp)).mono ?_
  rintro e w7 ⟨rfl, b7⟩
  have HB7 := Lib.hid (HB6.out.trans (b7.mono HB6.out.size))
  clear HR5' b7 HB6 HB5 HS5
  go_wp2_with fail
  have hb8 := (Below.refl w7.heap.size w7).alloc (Nat.le_refl _) (.cells (NV .i32 [8364, -1]).toArray 21)
  refine (pbytes_any (RI.lit w7 [8364, -1] 21) rfl (by simp)).mono ?_
  rintro e w8 ⟨v8, rfl, o8⟩
  have hb9 := HB7.out.trans (hb8.mono HB7.out.size)
  have HB9 := Lib.hid (hb9.trans (o8.below.mono hb9.size))
  obtain ⟨A8, c8, rfl, _⟩ := own_slice o8.own
  have hcv := convS_nums (bs := bytesL [8364, -1]) o8.ri.2.symm c8 o8.ri.1
  rw [show strOfNums (bytesL [8364, -1]) = ⟨#[226, 130, 172, 239, 191, 189]⟩ from by decide] at hcv
  clear hb8 hb9 HB7 o8
  go_wp2
  go_ret
  exact ⟨rfl, HB9.out⟩
end Go.Proofs.Ytidjcbnjadlbaaa
