/-
  Proved here: of the laws of keys: alive.
-/
import Derived.Test.YtlppnnehgfpgbaaKyc
import Derived.Lib.SlBytesConst
set_option linter.unusedSimpArgs false
set_option linter.unusedVariables false
namespace Go.Proofs.Ytlppnnehgfpgbaa
open Go.RowKit
theorem conv_text {w : World} {A : Option Addr} {bs : List Int} {n : Nat} (hn : bs.length = n) (c : Nat) (h : RI .u8 w A bs) :
    (convert 28 9 (.slice A n c)).run Try.prog w = .ok (.string (strOfNums bs)) w := by
  subst hn
  rcases Nat.eq_zero_or_pos bs.length with h0 | h0
  · obtain rfl : bs = [] := List.eq_nil_of_length_eq_zero h0
    rcases A with _ | ad
    · exact run_convert_bytes_nil (P := Try.prog) w 28 5 Try.underlying28 Try.underlying5 0 c 9 Try.underlying9
    · rw [run_convert_bytes_string w 28 9 5 _ _ c Try.underlying28 Try.underlying5 Try.underlying9]
      exact run_bytesToString w ad 0 c [] (run_loadCells_list (P := Try.prog) w ad [] (fun j v hj => by simp at hj))
  · obtain ⟨b, off, rfl, _, hc⟩ := h h0
    exact run_convert_bytes_arg (P := Try.prog) w 28 5 Try.underlying28 Try.underlying5 b off _ c bs rfl hc 9 Try.underlying9
set_option maxRecDepth 100000 in
set_option maxHeartbeats 4000000 in
theorem alive_any (w : World) : Calls Try.prog 12 #[] w fun e w' => e = .returned (.bool true) ∧ Below w.heap.size w w' := by
  go_enter Try.func12, Try.ntmps12
  go_wp2_with fail
  refine (new_any _).mono ?_
  rintro e w1 ⟨rfl, hs1, hb1⟩
  have HS := Lib.hid hs1
  have HB := Lib.hid hb1
  have hg : w.heap.size ≤ w.heap.size := Nat.le_refl _
  obtain ⟨g, hge⟩ : ∃ g, w.heap.size = g := ⟨_, rfl⟩
  have HG := Lib.hid (show w.heap.size ≤ g from Nat.le_of_eq hge)
  rw [hge] at HS ⊢
  clear hs1 hb1 hg
  go_wp2_with fail
  refine (sink_any _).mono ?_
  rintro e w2 ⟨rfl, hk2, hb2⟩
  obtain ⟨h, hhe⟩ : ∃ h, w1.heap.size = h := ⟨_, rfl⟩
  have HNE := Lib.hid (show h ≠ g from by have := HS.out.lt; omega)
  have HGH := Lib.hid (show w.heap.size ≤ h from by rw [← hhe]; exact HB.out.size)
  have HS := Lib.hid (HS.out.below hb2)
  have HK := Lib.hid hk2
  have HB := Lib.hid (Bto (w := w) HB.out hb2)
  rw [hhe] at HK ⊢
  clear hk2 hb2 hhe hge
  have hal := (Below.refl w2.heap.size w2).alloc (Nat.le_refl _) (.cells #[.int .u8 97, .int .u8 98] 5 (2, 3))
  have HR0 := Lib.hid (show RI .u8 (w2.alloc (.cells #[.int .u8 97, .int .u8 98] 5 (2, 3))) (some ⟨w2.heap.size, 0, none⟩) [97, 98] from fun _ => ⟨_, 0, rfl, by simp, fun i hi => by
    have h4 : (w2.alloc (.cells #[.int .u8 97, .int .u8 98] 5 (2, 3))).heap[w2.heap.size]? = some (.cells #[.int .u8 97, .int .u8 98] 5 (2, 3)) := heap_alloc_new _ _
    unfold World.cell?
    dsimp only
    rw [h4]
    match i, hi with
    | 0, _ => rfl
    | 1, _ => rfl⟩)
  have HS := Lib.hid (HS.out.below hal)
  have HK := Lib.hid (HK.out.below hal)
  have HB := Lib.hid (Bto (w := w) HB.out hal)
  clear hal
  have kc := fun (w : World) (C : Array Value) (n c : Nat) => Lib.run_convert_bytes_const (P := Try.prog) w 28 5 C n c Try.underlying28 Try.underlying5
  go_wp2_with fail
  clear kc
  obtain ⟨X, hX⟩ : ∃ X, w2.alloc (.cells #[.int .u8 97, .int .u8 98] 5 (2, 3)) = X := ⟨_, rfl⟩
  rw [hX] at HS HK HB HR0
  first | rw [hX] | skip
  clear hX
  refine (type_ok HS.out (m := 2) rfl HR0.out (fun e => by cases e) (by simp) (by simp)).mono ?_
  rintro e w3 ⟨rfl, hs3, ho3, _⟩
  have HK := Lib.hid (HK.out.only (fun e => HNE.out e.symm) ho3)
  have HS := Lib.hid (show St w3 g 0 [97, 98] from hs3)
  have HB := Lib.hid (Only.below ho3 HB.out HG.out)
  clear hs3 ho3 HR0
  go_wp2_with fail
  refine (pending_st HS.out (by simp)).mono ?_
  rintro e w4 ⟨v4, rfl, hO⟩
  obtain ⟨A4, c4, hv4, hr4, hc4, _, hz4⟩ := DV.own hO.own
  have hv4 : v4 = .slice A4 2 c4 := hv4
  subst hv4
  have HR := Lib.hid (And.intro hr4 (And.intro (show 2 ≤ c4 from hc4) hz4))
  have HK := Lib.hid (HK.out.below hO.below)
  have HS := Lib.hid (HS.out.below hO.below)
  have HB := Lib.hid (Bto HB.out hO.below)
  clear hO hr4 hc4 hz4
  go_wp2_with fail
  refine (take_some HK.out (by omega) (k := 0) (m := 2) rfl HR.out.1 HR.out.2.1 HR.out.2.2 (by omega) (by omega) (by omega)).mono ?_
  rintro e w5 ⟨v5, rfl, hd5, hk5, ho5⟩
  have HR := Lib.hid (And.intro (HR.out.1.only HK.out.noU8 ho5) HR.out.2)
  have HS := Lib.hid (HS.out.only HNE.out HK.out.noU8 ho5)
  have HK := Lib.hid (show Sk w5 h 2 from hk5)
  have HB := Lib.hid (Only.below ho5 HB.out HGH.out)
  obtain ⟨A5, c5, hv5, hr5, _⟩ := hd5
  have hv5 : v5 = .slice A5 2 c5 := hv5
  subst hv5
  have HR5 := Lib.hid (show RI .u8 w5 A5 [97, 98] from hr5)
  clear hr5 hk5 ho5
  go_wp2_with fail
  refine (take_none HK.out (by omega) (k := 0) (by omega) (by omega) (by omega)).mono ?_
  rintro e w6 ⟨rfl, rfl⟩
  go_wp2_with fail
  refine (take_base HK.out (k := 5) (by omega) (by omega)).mono ?_
  rintro e w7 ⟨rfl, rfl⟩
  have hcv := conv_text (n := 2) rfl c5 HR5.out
  rw [show strOfNums [97, 98] = ⟨#[97, 98]⟩ from by decide] at hcv
  go_wp2_with fail
  refine (ack_ok HS.out (s := 2) rfl (by omega) (k := 2) (by omega) (by omega)).mono ?_
  rintro e w8 ⟨rfl, hs8, ho8, _⟩
  have HS := Lib.hid (show St w8 g 2 [] from hs8)
  have HB := Lib.hid (Only.below ho8 HB.out HG.out)
  have HB8 := HB
  clear hs8 ho8 hcv
  go_wp2_with fail
  refine (ack_old HS.out (k := 1) (by omega)).mono ?_
  rintro e w9 ⟨rfl, rfl⟩
  go_wp2_with fail
  refine (ack_arg HS.out (s := 2) rfl (by omega) (k := 3) (by omega)).mono ?_
  rintro e w10 ⟨rfl, m, rfl⟩
  have HS := Lib.hid (HS.out.below (belowN (Below.refl w8.heap.size w8) m))
  have HB := Lib.hid (Bto HB.out (belowN (Below.refl w8.heap.size w8) m))
  go_wp2_with fail
  refine (count_st HS.out (s := 2) rfl (by omega)).mono ?_
  rintro e w11 ⟨rfl, m2, rfl⟩
  have HB := Lib.hid (Bto HB.out (belowN (Below.refl _ _) m2))
  go_wp2
  go_ret
  exact ⟨rfl, belowN HB8.out _⟩
end Go.Proofs.Ytlppnnehgfpgbaa
