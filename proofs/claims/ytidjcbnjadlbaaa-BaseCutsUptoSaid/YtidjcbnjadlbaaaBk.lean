/-
  Proved here: the fixed calls of base's laws (alive); the law BaseWrites.
-/
import Derived.Test.YtidjcbnjadlbaaaBj
import Derived.Test.YtidjcbnjadlbaaaBs
import Derived.Lib.SlBytesConst
set_option linter.unusedSimpArgs false
set_option linter.unusedVariables false
namespace Go.Proofs.Ytidjcbnjadlbaaa
open Go.RowKit
theorem read_okc {w : World} {t d : List Int} {s : ByteArray} {k : Nat} (ht : IsBytes t) (hl : t.length ≤ 90000) (hg : goodB t = true) (hd : decB t = d) (hk : d.length = k) (hs : strOfNums t = s) : Calls Try.prog 27 #[.string s] w fun e w' => ∃ (A : Option Addr), e = .returned (.tuple #[.slice A k k, .int .i64 0]) ∧ RI .u8 w' A d ∧ Below w.heap.size w w' := by
  subst hs hd hk
  refine (read_ok ht hl hg).mono ?_
  rintro e w' ⟨A, k, rfl, h1, rfl, h3⟩
  exact ⟨A, rfl, h1, h3⟩
theorem read_badc {w : World} {t : List Int} {s : ByteArray} (ht : IsBytes t) (hl : t.length ≤ 90000) (hg : goodB t = false) (hs : strOfNums t = s) : Calls Try.prog 27 #[.string s] w fun e w' => e = .returned (.tuple #[.slice none 0 0, .int .i64 3]) ∧ Below w.heap.size w w' := by
  subst hs
  exact read_bad ht hl hg
theorem fault_c {w : World} {t : List Int} {s : ByteArray} {F : Int} (ht : IsBytes t) (hl : t.length ≤ 1000000) (hF : faultS t = F) (hs : strOfNums t = s) : Calls Try.prog 29 #[.string s] w fun e w' => e = .returned (.int .i64 F) ∧ Below w.heap.size w w' := by
  subst hs hF
  exact fault_any ht hl
theorem write_c {w : World} {A : Option Addr} {n c : Nat} {bs : List Int} {s : ByteArray} (hR : RI .u8 w A bs) (hl : bs.length = n) (hn : n ≤ 1100000) (hb : IsBytes bs) (hnc : n ≤ c) (hcm : c ≤ 9223372036854775807) (hs : strOfNums (writeS bs) = s) :
    Calls Try.prog 24 #[.slice A n c] w fun e w' => e = .returned (.string s) ∧ Below w.heap.size w w' := by
  subst hs
  exact write_any hR hl hn hb hnc hcm
theorem conv_c {w : World} {A : Option Addr} {bs : List Int} {n : Nat} {s : ByteArray} (hn : bs.length = n) (c : Nat) (h : RI .u8 w A bs) (hs : strOfNums bs = s) :
    (convert 22 9 (.slice A n c)).run Try.prog w = .ok (.string s) w := by
  subst hs
  exact conv_nums hn c h
theorem RI.litF {k : IntKind} (w : World) (ys : List Int) (e : TypeId) (fr : Nat × Nat) : RI k (w.alloc (.cells (NV k ys).toArray e fr)) (some ⟨w.heap.size, 0, none⟩) ys := fun _ =>
  ⟨w.heap.size, 0, rfl, by simp, fun i hi => by
    have h4 : (w.alloc (.cells (NV k ys).toArray e fr)).heap[w.heap.size]? = some (.cells (NV k ys).toArray e fr) := heap_alloc_new _ _
    rw [World.cell?, h4]
    simp [NV, List.getD, hi]⟩
set_option maxRecDepth 100000 in
set_option maxHeartbeats 1000000 in
theorem alive_any (w : World) : Calls Try.prog 23 #[] w fun e w' => e = .returned (.bool true) ∧ Below w.heap.size w w' := by
  go_enter Try.func23, Try.ntmps23
  go_wp2_with fail
  refine (read_okc (t := [84, 87, 69, 61]) (d := [77, 97]) (k := 2) (by unfold IsBytes; decide) (by decide) (by decide) (by decide) rfl (by decide)).mono ?_
  rintro e w1 ⟨A1, rfl, r1, b1⟩
  have HR1 := Lib.hid r1
  have HB1 := Lib.hid b1
  clear r1 b1
  go_wp2_with fail
  refine (read_badc (t := [84, 87, 70, 61]) (by unfold IsBytes; decide) (by decide) (by decide) (by decide)).mono ?_
  rintro e w2 ⟨rfl, b2⟩
  have HR2 := Lib.hid (HR1.out.below b2)
  have HB2 := Lib.hid (HB1.out.trans (b2.mono HB1.out.size))
  clear b2 HR1 HB1
  have hcs := fun (C : Array Value) (n c : Nat) => Lib.run_convert_bytes_const (P := Try.prog) w2 22 5 C n c Try.underlying22 Try.underlying5
  go_wp2_with fail
  clear hcs
  have hb3 := (Below.refl w2.heap.size w2).alloc (Nat.le_refl _) (.cells (NV .u8 [77, 97]).toArray 5 (2, 3))
  refine (write_c (n := 2) (c := 2) (RI.litF w2 [77, 97] 5 (2, 3)) rfl (by omega) (by unfold IsBytes; decide) (by omega) (by omega) (s := ⟨#[84, 87, 69, 61]⟩) (by decide)).mono ?_
  rintro e w3 ⟨rfl, b3⟩
  have b3' := hb3.trans (b3.mono hb3.size)
  have HB3 := Lib.hid (HB2.out.trans (b3'.mono HB2.out.size))
  have hcv := conv_c (n := 2) rfl 2 (HR2.out.below b3') (s := ⟨#[77, 97]⟩) (by decide)
  clear b3 b3' hb3 HB2 HR2
  go_wp2_with fail
  refine (fault_c (t := [84, 87, 61, 65]) (s := ⟨#[84, 87, 61, 65]⟩) (F := 2) (by unfold IsBytes; decide) (by decide) (by decide) (by decide)).mono ?_
  rintro e w4 ⟨rfl, b4⟩
  have HB4 := Lib.hid (HB3.out.trans (b4.mono HB3.out.size))
  clear b4 HB3 hcv
  go_wp2_with fail
  refine (fault_c (t := [84, 81, 61, 65]) (s := ⟨#[84, 81, 61, 65]⟩) (F := 3) (by unfold IsBytes; decide) (by decide) (by decide) (by decide)).mono ?_
  rintro e w5 ⟨rfl, b5⟩
  have HB5 := Lib.hid (HB4.out.trans (b5.mono HB4.out.size))
  clear b5 HB4
  go_wp2_with fail
  refine (size_any 4 _).mono ?_
  rintro e wx ⟨rfl, rfl⟩
  go_wp2_with fail
  refine (fault_c (t := [84, 87, 69]) (s := ⟨#[84, 87, 69]⟩) (F := 3) (by unfold IsBytes; decide) (by decide) (by decide) (by decide)).mono ?_
  rintro e w6 ⟨rfl, b6⟩
  have HB6 := Lib.hid (HB5.out.trans (b6.mono HB5.out.size))
  clear b6 HB5
  go_wp2
  go_ret
  exact ⟨rfl, HB6.out⟩
def sizeS (n : Int) : Int := if n < 0 ∨ 65536 < n then 0 else (n + 2) / 3 * 4
theorem size_s (n : Int) (w : World) {z : Int} (hz : sizeS n = z) : Calls Try.prog 26 #[.int .i64 n] w fun e w' => e = .returned (.int .i64 z) ∧ w = w' := by
  subst hz
  exact size_any n w
theorem sl_bytes {w : World} {A : Option Addr} {n c : Nat} {zs : List Int} (h : Go.Proofs.Ytidjcbnjadlbaaa.SlI .u8 w A n c zs) : IsBytes zs := sl_u8 h
set_option maxRecDepth 100000 in
set_option maxHeartbeats 1000000 in
theorem writes_law {w : World} {A : Option Addr} {n c : Nat} {bs : List Int} (hs : SlI .u8 w A n c bs) (m : Int) (hm0 : -9223372036854775808 ≤ m) (hm1 : m < 9223372036854775808) :
    Calls Try.prog 7 #[.slice A n c, .int .i64 m] w fun e w' => e = .returned (.bool true) ∧ Below w.heap.size w w' := by
  have HR := Lib.hid (sl_ri hs)
  have HL := Lib.hid hs.len_eq
  have HB := Lib.hid (sl_bytes hs)
  have hcap := hs.le
  have hmax := hs.max
  unfold maxLen at hmax
  clear hs
  by_cases h1 : 2000 < n
  · have d1 : decide ((2000 : Int) < (n : Int)) = true := by simp; omega
    have d2 : decide (2000 < n) = true := by simp; omega
    go_enter Try.func7, Try.ntmps7
    go_wp2_with fail
    refine (alive_any w).mono ?_
    rintro e w1 ⟨rfl, b1⟩
    go_wp2
    go_ret
    exact ⟨rfl, b1⟩
  · have d1 : decide ((2000 : Int) < (n : Int)) = false := by simp; omega
    have d2 : decide (2000 < n) = false := by simp; omega
    have hn2 : n ≤ 2000 := by omega
    obtain ⟨S, hS⟩ : ∃ S, strOfNums (writeS bs) = S := ⟨_, rfl⟩
    have sS : (S.toList == S.toList) = true := by simp
    have hsz : S.size = (n + 2) / 3 * 4 := by rw [← hS, strOfNums_size, write_len, HL.out]
    obtain ⟨K, hK⟩ : ∃ K, (n + 2) / 3 * 4 = K := ⟨_, rfl⟩
    rw [hK] at hsz
    have HPW := Lib.hid (fun (W : World) (hb : Below w.heap.size w W) => write_c (c := c) (HR.out.below hb) HL.out (by omega) HB.out hcap (by omega) hS)
    have HRW := Lib.hid (fun (W : World) (hb : Below w.heap.size w W) => hS ▸ rwrite_any (c := c) (HR.out.below hb) HL.out (by omega) HB.out)
    have HSN := Lib.hid (fun (W : World) => size_s (n : Int) W (z := (K : Int)) (by unfold sizeS; rw [if_neg (by omega)]; omega))
    obtain ⟨z, hz⟩ : ∃ z, sizeS m = z := ⟨_, rfl⟩
    have HSM := Lib.hid (fun (W : World) => size_s m W hz)
    have zz : (z == z) = true := by simp
    have kk : ((K : Int) == (K : Int)) = true := by simp
    have HZ := Lib.hid hz
    clear hS hK h1 HR HL HB hz
    have fin : True := trivial
    have hcase : m < 0 ∨ 65536 < m ∨ ((0 ≤ m ∧ m ≤ 65536) ∧ m % 3 = 0) ∨ ((0 ≤ m ∧ m ≤ 65536) ∧ m % 3 ≠ 0) := by omega
    rcases hcase with h | h | ⟨h, h3⟩ | ⟨h, h3⟩
    · have e1 : decide (0 ≤ m) = false := by simp; omega
      have hz0 : z = 0 := by rw [← HZ.out]; unfold sizeS; rw [if_pos (.inl h)]
      subst hz0
      clear h hcap hmax hm0 hm1 HZ
      go_enter Try.func7, Try.ntmps7
      go_wp2_with fail
      refine (alive_any w).mono ?_
      rintro e w1 ⟨rfl, b1⟩
      have HPW1 := Lib.hid (HPW.out _ b1)
      have HB1 := Lib.hid b1
      clear b1
      go_wp2_with fail
      refine HPW1.out.mono ?_
      rintro e w2 ⟨rfl, b2⟩
      have HB2 := Lib.hid (HB1.out.trans (b2.mono HB1.out.size))
      have HRW2 := Lib.hid (HRW.out _ HB2.out)
      clear b2 HPW1 HB1
      go_wp2_with fail
      refine HRW2.out.mono ?_
      rintro e w3 ⟨rfl, b3⟩
      have HB3 := Lib.hid (HB2.out.trans (b3.mono HB2.out.size))
      have HPW3 := Lib.hid (HPW.out _ HB3.out)
      clear b3 HRW2 HB2
      go_wp2_with fail
      refine (HSM.out _).mono ?_
      rintro e wx ⟨rfl, rfl⟩
      go_wp2_with fail
      refine (HSN.out _).mono ?_
      rintro e wx ⟨rfl, rfl⟩
      go_wp2_with fail
      refine HPW3.out.mono ?_
      rintro e w4 ⟨rfl, b4⟩
      have HB4 := Lib.hid (HB3.out.trans (b4.mono HB3.out.size))
      clear b4 HPW3 HB3
      go_wp2
      go_ret
      exact ⟨rfl, HB4.out⟩
    · have e1 : decide (0 ≤ m) = true := by simp; omega
      have e2 : decide (m ≤ 65536) = false := by simp; omega
      have hz0 : z = 0 := by rw [← HZ.out]; unfold sizeS; rw [if_pos (.inr h)]
      subst hz0
      clear h hcap hmax hm0 hm1 HZ
      go_enter Try.func7, Try.ntmps7
      go_wp2_with fail
      refine (alive_any w).mono ?_
      rintro e w1 ⟨rfl, b1⟩
      have HPW1 := Lib.hid (HPW.out _ b1)
      have HB1 := Lib.hid b1
      clear b1
      go_wp2_with fail
      refine HPW1.out.mono ?_
      rintro e w2 ⟨rfl, b2⟩
      have HB2 := Lib.hid (HB1.out.trans (b2.mono HB1.out.size))
      have HRW2 := Lib.hid (HRW.out _ HB2.out)
      clear b2 HPW1 HB1
      go_wp2_with fail
      refine HRW2.out.mono ?_
      rintro e w3 ⟨rfl, b3⟩
      have HB3 := Lib.hid (HB2.out.trans (b3.mono HB2.out.size))
      have HPW3 := Lib.hid (HPW.out _ HB3.out)
      clear b3 HRW2 HB2
      go_wp2_with fail
      refine (HSM.out _).mono ?_
      rintro e wx ⟨rfl, rfl⟩
      go_wp2_with fail
      refine (HSN.out _).mono ?_
      rintro e wx ⟨rfl, rfl⟩
      go_wp2_with fail
      refine HPW3.out.mono ?_
      rintro e w4 ⟨rfl, b4⟩
      have HB4 := Lib.hid (HB3.out.trans (b4.mono HB3.out.size))
      clear b4 HPW3 HB3
      go_wp2
      go_ret
      exact ⟨rfl, HB4.out⟩
    · obtain ⟨h0, h65⟩ := h
      have e1 : decide (0 ≤ m) = true := by simp; omega
      have e2 : decide (m ≤ 65536) = true := by simp; omega
      have e3 : (m % 3 == 0) = true := by simp; omega
      have e4 : (m % 3 != 0) = false := by simp; omega
      have hz0 : m / 3 * 4 = z := by rw [← HZ.out]; unfold sizeS; rw [if_neg (by omega)]; omega
      clear h3 hcap hmax hm0 hm1 HZ
      go_enter Try.func7, Try.ntmps7
      go_wp2_with fail
      refine (alive_any w).mono ?_
      rintro e w1 ⟨rfl, b1⟩
      have HPW1 := Lib.hid (HPW.out _ b1)
      have HB1 := Lib.hid b1
      clear b1
      go_wp2_with fail
      refine HPW1.out.mono ?_
      rintro e w2 ⟨rfl, b2⟩
      have HB2 := Lib.hid (HB1.out.trans (b2.mono HB1.out.size))
      have HRW2 := Lib.hid (HRW.out _ HB2.out)
      clear b2 HPW1 HB1
      go_wp2_with fail
      refine HRW2.out.mono ?_
      rintro e w3 ⟨rfl, b3⟩
      have HB3 := Lib.hid (HB2.out.trans (b3.mono HB2.out.size))
      have HPW3 := Lib.hid (HPW.out _ HB3.out)
      clear b3 HRW2 HB2
      go_wp2_with fail
      refine (HSM.out _).mono ?_
      rintro e wx ⟨rfl, rfl⟩
      go_wp2_with fail
      refine (HSN.out _).mono ?_
      rintro e wx ⟨rfl, rfl⟩
      go_wp2_with fail
      refine HPW3.out.mono ?_
      rintro e w4 ⟨rfl, b4⟩
      have HB4 := Lib.hid (HB3.out.trans (b4.mono HB3.out.size))
      clear b4 HPW3 HB3
      go_wp2
      go_ret
      exact ⟨rfl, HB4.out⟩
    · obtain ⟨h0, h65⟩ := h
      have e1 : decide (0 ≤ m) = true := by simp; omega
      have e2 : decide (m ≤ 65536) = true := by simp; omega
      have e3 : (m % 3 == 0) = false := by simp; omega
      have e4 : (m % 3 != 0) = true := by simp; omega
      have hz0 : m / 3 * 4 + 4 = z := by rw [← HZ.out]; unfold sizeS; rw [if_neg (by omega)]; omega
      clear h3 hcap hmax hm0 hm1 HZ
      go_enter Try.func7, Try.ntmps7
      go_wp2_with fail
      refine (alive_any w).mono ?_
      rintro e w1 ⟨rfl, b1⟩
      have HPW1 := Lib.hid (HPW.out _ b1)
      have HB1 := Lib.hid b1
      clear b1
      go_wp2_with fail
      refine HPW1.out.mono ?_
      rintro e w2 ⟨rfl, b2⟩
      have HB2 := Lib.hid (HB1.out.trans (b2.mono HB1.out.size))
      have HRW2 := Lib.hid (HRW.out _ HB2.out)
      clear b2 HPW1 HB1
      go_wp2_with fail
      refine HRW2.out.mono ?_
      rintro e w3 ⟨rfl, b3⟩
      have HB3 := Lib.hid (HB2.out.trans (b3.mono HB2.out.size))
      have HPW3 := Lib.hid (HPW.out _ HB3.out)
      clear b3 HRW2 HB2
      go_wp2_with fail
      refine (HSM.out _).mono ?_
      rintro e wx ⟨rfl, rfl⟩
      go_wp2_with fail
      refine (HSN.out _).mono ?_
      rintro e wx ⟨rfl, rfl⟩
      go_wp2_with fail
      refine HPW3.out.mono ?_
      rintro e w4 ⟨rfl, b4⟩
      have HB4 := Lib.hid (HB3.out.trans (b4.mono HB3.out.size))
      clear b4 HPW3 HB3
      go_wp2
      go_ret
      exact ⟨rfl, HB4.out⟩
end Go.Proofs.Ytidjcbnjadlbaaa
