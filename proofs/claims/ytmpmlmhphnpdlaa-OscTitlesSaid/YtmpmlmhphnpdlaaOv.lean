/-
  Proved here: OscTitles.
-/
import Derived.Test.YtmpmlmhphnpdlaaOu
set_option linter.unusedSimpArgs false
set_option linter.unusedVariables false
namespace Go.Proofs.Ytmpmlmhphnpdlaa
open Go.RowKit
/-- The letters that may stand ahead of a clipping, by number. -/
def letW (k : Nat) : Int := [99, 112, 115, 113, 48, 49, 50, 51, 52, 53, 54, 55, 56, 57].getD k 0
theorem letW_which : ∀ k : Fin 14, whichB (letW k.1) = true ∧ 0 ≤ letW k.1 ∧ letW k.1 < 256 := by decide
theorem letW_cut : ∀ k : Fin 14, (⟨#[99, 112, 115, 113, 48, 49, 50, 51, 52, 53, 54, 55, 56, 57]⟩ : ByteArray).extract k.1 (k.1 + 1) = strOfNums [letW k.1] := by decide +kernel
set_option maxRecDepth 100000 in
set_option maxHeartbeats 8000000 in
theorem titles_any {w : World} {t : List Int} (ht : IsBytes t) (htm : t.length ≤ 9223372036854775807) {A : Option Addr} {m c : Nat} {ks : List Int} (hR : RI .u8 w A ks) (hk : ks.length = m) (hkb : IsBytes ks) :
    Calls Try.prog 10 #[.string (strOfNums t), .slice A m c] w fun e w' => e = .returned (.bool true) ∧ Below w.heap.size w w' := by
  have HAL := Lib.hid (fun U => alive_any U)
  have hsz := strOfNums_size t
  obtain ⟨n, hn⟩ : ∃ n, t.length = n := ⟨_, rfl⟩
  rw [hn] at hsz htm
  have HR := Lib.hid hR
  have HK := Lib.hid (fun (_ : Unit) => hk)
  have HKB := Lib.hid hkb
  clear hR hk hkb
  by_cases h1 : 1000 < n
  · have d1 : decide ((1000 : Int) < (n : Int)) = true := by simp; omega
    have d1' : decide (1000 < n) = true := by simp; omega
    clear ht hn HR HK HKB
    generalize strOfNums t = s at hsz ⊢
    go_enter Try.func10, Try.ntmps10
    go_wp2_with fail
    refine (HAL.out _).mono ?_
    rintro e wx ⟨rfl, hx⟩
    have HX := Lib.hid hx
    clear hx
    go_wp2
    go_ret
    exact ⟨rfl, HX.out⟩
  have d1 : decide ((1000 : Int) < (n : Int)) = false := by simp; omega
  have d1' : decide (1000 < n) = false := by simp; omega
  by_cases h2 : 20 < m
  · have d2 : decide ((20 : Int) < (m : Int)) = true := by simp; omega
    have d2' : decide (20 < m) = true := by simp; omega
    clear ht hn HR HK HKB
    generalize strOfNums t = s at hsz ⊢
    go_enter Try.func10, Try.ntmps10
    go_wp2_with fail
    refine (HAL.out _).mono ?_
    rintro e wx ⟨rfl, hx⟩
    have HX := Lib.hid hx
    clear hx
    go_wp2
    go_ret
    exact ⟨rfl, HX.out⟩
  have d2 : decide ((20 : Int) < (m : Int)) = false := by simp; omega
  have d2' : decide (20 < m) = false := by simp; omega
  have hm20 : m ≤ 20 := by omega
  have hn1000 : n ≤ 1000 := by omega
  have hc0 : Op.stringOp .add ⟨#[48, 59]⟩ (strOfNums t) = pure (.string (strOfNums ([48, 59] ++ t))) := cat_run [48, 59] t (by simp; omega)
  have hc2 : Op.stringOp .add ⟨#[50, 59]⟩ (strOfNums t) = pure (.string (strOfNums ([50, 59] ++ t))) := cat_run [50, 59] t (by simp; omega)
  have HR0 := Lib.hid (fun (W : World) => by
    have h := oread_any (w := W) (t := [48, 59] ++ t) (fun x hx => by rcases List.mem_append.1 hx with h | h; (simp at h; omega); exact ht x h) (by simp; omega)
    rw [show readS ([48, 59] ++ t) = ⟨1, cutS t 64, 0⟩ from read_0 t] at h
    exact h)
  have HR2 := Lib.hid (fun (W : World) => by
    have h := oread_any (w := W) (t := [50, 59] ++ t) (fun x hx => by rcases List.mem_append.1 hx with h | h; (simp at h; omega); exact ht x h) (by simp; omega)
    rw [show readS ([50, 59] ++ t) = ⟨1, cutS t 64, 0⟩ from read_2 t] at h
    exact h)
  unfold AnPost AV at HR0 HR2
  dsimp only at HR0 HR2
  generalize strOfNums (cutS t 64) = C at HR0 HR2
  generalize strOfNums ([48, 59] ++ t) = S0 at hc0 HR0
  generalize strOfNums ([50, 59] ++ t) = S2 at hc2 HR2
  have HT := Lib.hid ht
  have HN := Lib.hid (fun (_ : Unit) => hn)
  have z3 : (C.toList == C.toList) = true := by simp
  obtain ⟨s, hs⟩ : ∃ s, strOfNums t = s := ⟨_, rfl⟩
  have HS := Lib.hid (fun (_ : Unit) => hs)
  rw [hs] at hsz hc0 hc2 ⊢
  clear ht hn hs h1 h2
  go_enter Try.func10, Try.ntmps10
  go_wp2_with fail
  refine (HR0.out _).mono ?_
  rintro e w1 ⟨rfl, hb1⟩
  have HB1 := Lib.hid hb1
  clear hb1 HR0 hc0
  go_wp2_with fail
  refine (HR2.out _).mono ?_
  rintro e w2 ⟨rfl, hb2⟩
  have k1 := fun o => ask_cells (hb2.alloc hb2.size o)
  have k10 := fun o => (k1 o).1
  have k11 := fun o => (k1 o).2
  have HB2 := Lib.hid hb2
  clear hb2 HR2 hc2 k1
  go_wp2
  clear k10 k11
  have HBW := Lib.hid (fun o => HB1.out.trans ((((Below.refl w1.heap.size w1).alloc (Nat.le_refl _) _).trans ((HB2.out.alloc HB2.out.size o).mono (by simp))).mono HB1.out.size))
  have HB0 := Lib.hid (HBW.out (.cells #[.int .i64 1, .string C] 72))
  generalize (w2.alloc (.cells #[.int .i64 1, .string C] 72)) = W0 at HB0 ⊢
  clear HBW HB1 HB2
  go_loopw [9, 10, 11] (fun lv iv _ wr => wr = W0 ∧ ∃ (i : Nat) (L : List Int), iv = .int .i64 i ∧ lv = .string (strOfNums L) ∧ i ≤ m ∧ Hid (L.length = i ∧ IsBytes L ∧ ∀ x ∈ L, whichB x = true)) (fun _ iv _ _ => m - (intOf iv).toNat)
  case atStart => exact ⟨rfl, 0, [], rfl, rfl, by omega, Lib.hid ⟨rfl, fun x hx => by simp at hx, fun x hx => by simp at hx⟩⟩
  case round =>
    obtain ⟨rfl, i, L, rfl, rfl, hi, HL⟩ := hrel
    by_cases hin : i < m
    · have f1 : decide ((i : Int) < (m : Int)) = true := by simp; omega
      have f1' : decide (i < m) = true := by simp; omega
      have g3 : (0 : Int) ≤ (i : Int) := by omega
      have g4 : (i : Int) < (m : Int) := by omega
      have w1' : IntKind.i64.wrap ((i : Int) + 1) = (i : Int) + 1 := IntWalk.i64_in _ (by omega)
      obtain ⟨b, off, rfl, hb, hc⟩ := HR.out (by rw [HK.out ()]; omega)
      have hci := (HB0.out.cell (p := ⟨b, off + i, none⟩) hb).trans (hc i (by rw [HK.out ()]; exact hin))
      have hxb := HKB.out (ks[i]'(by rw [HK.out ()]; exact hin)) (List.getElem_mem _)
      have hgx : ks.getD i 0 = ks[i]'(by rw [HK.out ()]; exact hin) := by simp [List.getD, show i < ks.length by rw [HK.out ()]; exact hin]
      rw [← hgx] at hxb
      obtain ⟨x, hx⟩ : ∃ x, ks.getD i 0 = x := ⟨_, rfl⟩
      rw [hx] at hci hxb
      obtain ⟨k, hkx⟩ : ∃ k : Nat, x.toNat % 14 = k := ⟨_, rfl⟩
      have hk14 : k < 14 := by omega
      have e1 : IntKind.i64.wrap x = x := IntWalk.i64_in _ (by omega)
      have e2 : x.tmod 14 = (k : Int) := by rw [Int.tmod_eq_emod_of_nonneg (by omega)]; omega
      have e3 : IntKind.i64.wrap (k : Int) = (k : Int) := IntWalk.i64_in _ (by omega)
      have e4 : IntKind.i64.wrap ((k : Int) + 1) = (k : Int) + 1 := IntWalk.i64_in _ (by omega)
      have e5 : (0 : Int) ≤ (k : Int) := by omega
      have e6 : (k : Int) + 1 ≤ 14 := by omega
      have e7 : (k : Int) ≤ (k : Int) + 1 := by omega
      have e8 : (0 : Int) ≤ (k : Int) + 1 := by omega
      have hcut := letW_cut ⟨k, hk14⟩
      dsimp only at hcut
      obtain ⟨hlw, hl0, hl1⟩ := letW_which ⟨k, hk14⟩
      dsimp only at hlw hl0 hl1
      have hcat : Op.stringOp .add (strOfNums L) (strOfNums [letW k]) = pure (.string (strOfNums (L ++ [letW k]))) := cat_run L [letW k] (by rw [HL.out.1]; simp; omega)
      have HL' := Lib.hid (show (L ++ [letW k]).length = i + 1 ∧ IsBytes (L ++ [letW k]) ∧ ∀ x ∈ L ++ [letW k], whichB x = true from
        ⟨by rw [List.length_append, HL.out.1]; rfl, fun y hy => by rcases List.mem_append.1 hy with h | h; exact HL.out.2.1 y h; (simp at h; subst h; exact ⟨hl0, hl1⟩), fun y hy => by rcases List.mem_append.1 hy with h | h; exact HL.out.2.2 y h; (simp at h; subst h; exact hlw)⟩)
      clear hc hxb hgx hx hkx hk14 HL hlw hl0 hl1 hb
      generalize strOfNums [letW k] = LW at hcut hcat
      go_wp2
      go_roundw
      case rel => exact ⟨by first | rfl | trivial, i + 1, _, by go_num, rfl, by omega, HL'⟩
      case measure => simp [intOf]; omega
    · have f1 : decide ((i : Int) < (m : Int)) = false := by simp; omega
      have f1' : decide (i < m) = false := by simp; omega
      have hLl := HL.out.1
      have hc1 : Op.stringOp .add ⟨#[53, 50, 59]⟩ (strOfNums L) = pure (.string (strOfNums ([53, 50, 59] ++ L))) := cat_run [53, 50, 59] L (by rw [hLl]; simp; omega)
      have hc2 : Op.stringOp .add (strOfNums ([53, 50, 59] ++ L)) ⟨#[59]⟩ = pure (.string (strOfNums ([53, 50, 59] ++ L ++ [59]))) := cat_run ([53, 50, 59] ++ L) [59] (by simp; omega)
      have hc3 : Op.stringOp .add (strOfNums ([53, 50, 59] ++ L ++ [59])) s = pure (.string (strOfNums ([53, 50, 59] ++ L ++ [59] ++ t))) := by
        rw [← HS.out ()]; exact cat_run _ t (by rw [HN.out ()]; simp; omega)
      have hc4 : Op.stringOp .add ⟨#[53, 50, 59, 59]⟩ s = pure (.string (strOfNums ([53, 50, 59, 59] ++ t))) := by
        rw [← HS.out ()]; exact cat_run [53, 50, 59, 59] t (by rw [HN.out ()]; simp; omega)
      have HRA := Lib.hid (fun (W : World) => by
        have h := oread_any (w := W) (t := [53, 50, 59] ++ L ++ [59] ++ t) (fun x hx => by
          rcases List.mem_append.1 hx with h | h
          · rcases List.mem_append.1 h with h | h
            · rcases List.mem_append.1 h with h | h
              · simp at h; omega
              · exact HL.out.2.1 x h
            · simp at h; omega
          · exact HT.out x h) (by have := HN.out (); simp; omega)
        rw [show readS ([53, 50, 59] ++ L ++ [59] ++ t) = decA t from by
          rw [show [53, 50, 59] ++ L ++ [59] ++ t = 53 :: 50 :: 59 :: (L ++ 59 :: t) by simp, read_52, clip_at HL.out.2.2]] at h
        exact h)
      have HRB := Lib.hid (fun (W : World) => by
        have h := oread_any (w := W) (t := [53, 50, 59, 59] ++ t) (fun x hx => by
          rcases List.mem_append.1 hx with h | h
          · simp at h; omega
          · exact HT.out x h) (by have := HN.out (); simp; omega)
        rw [show readS ([53, 50, 59, 59] ++ t) = decA t from by
          rw [show ([53, 50, 59, 59] : List Int) ++ t = 53 :: 50 :: 59 :: ([] ++ 59 :: t) by simp, read_52, clip_at (fun x hx => by simp at hx)]] at h
        exact h)
      generalize decA t = a at HRA HRB
      obtain ⟨k, d, er⟩ := a
      unfold AnPost AV at HRA HRB
      dsimp only at HRA HRB
      generalize strOfNums d = D at HRA HRB
      generalize strOfNums ([53, 50, 59] ++ L ++ [59] ++ t) = S3 at hc3 HRA
      generalize strOfNums ([53, 50, 59, 59] ++ t) = S4 at hc4 HRB
      generalize strOfNums ([53, 50, 59] ++ L ++ [59]) = S6 at hc2 hc3
      generalize strOfNums ([53, 50, 59] ++ L) = S5 at hc1 hc2
      generalize strOfNums L = S7 at hc1
      have y1 : (k == k) = true := by simp
      have y2 : (er == er) = true := by simp
      have y3 : (D.toList == D.toList) = true := by simp
      clear hLl HL HR HK HKB HT HN HS
      go_wp2_with fail
      refine (HRA.out _).mono ?_
      rintro e w3 ⟨rfl, hb3⟩
      have HB3 := Lib.hid (HB0.out.trans (hb3.mono HB0.out.size))
      clear hb3 HRA hc1 hc2 hc3 HB0
      go_wp2_with fail
      refine (HRB.out _).mono ?_
      rintro e w4 ⟨rfl, hb4⟩
      have HB4 := Lib.hid hb4
      clear hb4 HRB hc4
      go_wp2_with fail
      refine (HAL.out _).mono ?_
      rintro e w5 ⟨rfl, hb5⟩
      obtain ⟨k40, k41⟩ := ask_cells hb5
      have b45 := HB4.out.trans ((((Below.refl w4.heap.size w4).alloc (Nat.le_refl _) _).trans (hb5.mono (by simp))).mono HB4.out.size)
      obtain ⟨k30, k31⟩ := ask_cells b45
      have HZ := Lib.hid (HB3.out.trans ((((Below.refl w3.heap.size w3).alloc (Nat.le_refl _) _).trans (b45.mono (by simp))).mono HB3.out.size))
      clear hb5 b45 HB3 HB4 HAL
      go_wp2
      go_ret
      exact ⟨rfl, HZ.out⟩
end Go.Proofs.Ytmpmlmhphnpdlaa
