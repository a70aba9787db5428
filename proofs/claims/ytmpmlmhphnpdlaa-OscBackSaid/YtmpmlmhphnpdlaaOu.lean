/-
  Proved here: layer 18's fixed calls, OscReads and OscWrites.
-/
import Derived.Test.YtmpmlmhphnpdlaaOt
import Derived.BigRegion
set_option linter.unusedSimpArgs false
set_option linter.unusedVariables false
namespace Go.Proofs.Ytmpmlmhphnpdlaa
open Go.RowKit
theorem ask_cells {W0 W : World} {a b : Value} {t : TypeId} (hb : Below (W0.alloc (.cells #[a, b] t)).heap.size (W0.alloc (.cells #[a, b] t)) W) : W.cell? ⟨W0.heap.size, 0, none⟩ = some a ∧ W.cell? ⟨W0.heap.size, 1, none⟩ = some b := by
  have h0 : (W0.alloc (.cells #[a, b] t)).heap[W0.heap.size]? = some (.cells #[a, b] t (0, 0)) := heap_alloc_new W0 _
  have h1 := (hb.block W0.heap.size (by simp)).trans h0
  constructor <;> (unfold World.cell?; simp only [h1]; rfl)
theorem rd1 (W : World) : Calls Try.prog 36 #[.string ⟨#[53, 50, 59, 99, 59, 84, 87, 69, 61]⟩] W fun e w' => e = .returned (.tuple #[.agg #[.int .i64 2, .string ⟨#[77, 97]⟩], .int .i64 0]) ∧ Below W.heap.size W w' := by
  have h := oread_any (w := W) (t := [53, 50, 59, 99, 59, 84, 87, 69, 61]) (fun x hx => by simp at hx; omega) (by decide)
  rw [show readS [53, 50, 59, 99, 59, 84, 87, 69, 61] = ⟨2, [77, 97], 0⟩ from rfl] at h
  exact h
theorem rd2 (W : World) : Calls Try.prog 36 #[.string ⟨#[48, 59, 116, 105, 116, 108, 101]⟩] W fun e w' => e = .returned (.tuple #[.agg #[.int .i64 1, .string ⟨#[116, 105, 116, 108, 101]⟩], .int .i64 0]) ∧ Below W.heap.size W w' := by
  have h := oread_any (w := W) (t := [48, 59, 116, 105, 116, 108, 101]) (fun x hx => by simp at hx; omega) (by decide)
  rw [show readS [48, 59, 116, 105, 116, 108, 101] = ⟨1, [116, 105, 116, 108, 101], 0⟩ from rfl] at h
  exact h
theorem rd3 (W : World) : Calls Try.prog 36 #[.string ⟨#[55, 59, 120]⟩] W fun e w' => e = .returned (.tuple #[.agg #[.int .i64 0, .string ⟨#[]⟩], .int .i64 4]) ∧ Below W.heap.size W w' := by
  have h := oread_any (w := W) (t := [55, 59, 120]) (fun x hx => by simp at hx; omega) (by decide)
  rw [show readS [55, 59, 120] = ⟨0, [], 4⟩ from rfl] at h
  exact h
theorem rd4 (W : World) : Calls Try.prog 36 #[.string ⟨#[53, 50, 59, 120, 59, 84, 87, 69, 61]⟩] W fun e w' => e = .returned (.tuple #[.agg #[.int .i64 0, .string ⟨#[]⟩], .int .i64 3]) ∧ Below W.heap.size W w' := by
  have h := oread_any (w := W) (t := [53, 50, 59, 120, 59, 84, 87, 69, 61]) (fun x hx => by simp at hx; omega) (by decide)
  rw [show readS [53, 50, 59, 120, 59, 84, 87, 69, 61] = ⟨0, [], 3⟩ from rfl] at h
  exact h
set_option maxRecDepth 100000 in
set_option maxHeartbeats 4000000 in
theorem alive_any (w : World) : Calls Try.prog 35 #[] w fun e w' => e = .returned (.bool true) ∧ Below w.heap.size w w' := by
  go_enter Try.func35, Try.ntmps35
  go_wp2_with fail
  refine (rd1 _).mono ?_
  rintro e w1 ⟨rfl, hb1⟩
  have HB1 := Lib.hid hb1
  clear hb1
  go_wp2_with fail
  refine (rd2 _).mono ?_
  rintro e w2 ⟨rfl, hb2⟩
  have HB2 := Lib.hid hb2
  clear hb2
  go_wp2_with fail
  refine (rd3 _).mono ?_
  rintro e w3 ⟨rfl, hb3⟩
  have HB3 := Lib.hid hb3
  clear hb3
  go_wp2_with fail
  refine (rd4 _).mono ?_
  rintro e w4 ⟨rfl, hb4⟩
  have b34 := HB3.out.trans ((((Below.refl w3.heap.size w3).alloc (Nat.le_refl _) _).trans (hb4.mono (by simp))).mono HB3.out.size)
  have b24 := HB2.out.trans ((((Below.refl w2.heap.size w2).alloc (Nat.le_refl _) _).trans (b34.mono (by simp))).mono HB2.out.size)
  have k1 := fun o => ask_cells (b24.alloc b24.size o)
  have k2 := fun o => ask_cells (b34.alloc b34.size o)
  have k10 := fun o => (k1 o).1
  have k11 := fun o => (k1 o).2
  have k20 := fun o => (k2 o).1
  have k21 := fun o => (k2 o).2
  have HZ := Lib.hid (fun o => HB1.out.trans ((((Below.refl w1.heap.size w1).alloc (Nat.le_refl _) _).trans ((b24.alloc b24.size o).mono (by simp))).mono HB1.out.size))
  clear hb4 b34 b24 k1 k2 HB1 HB2 HB3
  go_wp2
  go_ret
  exact ⟨rfl, HZ.out _⟩
set_option maxRecDepth 100000 in
set_option maxHeartbeats 4000000 in
theorem reads_any {w : World} {t : List Int} (ht : IsBytes t) (htm : t.length ≤ 9223372036854775807) (most : Int) (hm : -9223372036854775808 ≤ most ∧ most < 9223372036854775808) :
    Calls Try.prog 7 #[.string (strOfNums t), .int .i64 most] w fun e w' => e = .returned (.bool true) ∧ Below w.heap.size w w' := by
  have HAL := Lib.hid (fun U => alive_any U)
  have hsz := strOfNums_size t
  obtain ⟨n, hn⟩ : ∃ n, t.length = n := ⟨_, rfl⟩
  rw [hn] at hsz htm
  by_cases h1 : 1500 < n
  · have d1 : decide ((1500 : Int) < (n : Int)) = true := by simp; omega
    have d1' : decide (1500 < n) = true := by simp; omega
    clear ht hn hm
    generalize strOfNums t = s at hsz ⊢
    go_enter Try.func7, Try.ntmps7
    go_wp2_with fail
    refine (HAL.out _).mono ?_
    rintro e wx ⟨rfl, hx⟩
    have HX := Lib.hid hx
    clear hx
    go_wp2
    go_ret
    exact ⟨rfl, HX.out⟩
  have d1 : decide ((1500 : Int) < (n : Int)) = false := by simp; omega
  have d1' : decide (1500 < n) = false := by simp; omega
  have HR := Lib.hid (fun (W : World) => oread_any (w := W) ht (by omega))
  have HS := Lib.hid (fun (W : World) => rread18_any (w := W) ht (by omega))
  have HC := Lib.hid (fun (W : World) => ocut_any (w := W) ht (by omega) most hm)
  have HD := Lib.hid (fun (W : World) => rcut_any (w := W) ht (by omega) most hm)
  generalize readS t = a at HR HS
  obtain ⟨k, d, er⟩ := a
  generalize strOfNums (cutS t most) = C at HC HD
  clear ht hn hm h1
  generalize strOfNums t = s at hsz HR HS HC HD ⊢
  unfold AnPost AV at HR HS
  dsimp only at HR HS
  generalize strOfNums d = D at HR HS
  have z1 : (k == k) = true := by simp
  have z2 : (er == er) = true := by simp
  have z3 : (D.toList == D.toList) = true := by simp
  have z4 : (C.toList == C.toList) = true := by simp
  go_enter Try.func7, Try.ntmps7
  go_wp2_with fail
  refine (HR.out _).mono ?_
  rintro e w1 ⟨rfl, hb1⟩
  have HB1 := Lib.hid hb1
  clear hb1 HR
  go_wp2_with fail
  refine (HS.out _).mono ?_
  rintro e w2 ⟨rfl, hb2⟩
  have HB2 := Lib.hid hb2
  clear hb2 HS
  go_wp2_with fail
  refine (HAL.out _).mono ?_
  rintro e w3 ⟨rfl, hb3⟩
  obtain ⟨k20, k21⟩ := ask_cells hb3
  have b23 := HB2.out.trans ((((Below.refl w2.heap.size w2).alloc (Nat.le_refl _) _).trans (hb3.mono (by simp))).mono HB2.out.size)
  obtain ⟨k10, k11⟩ := ask_cells b23
  have HZ := Lib.hid (HB1.out.trans ((((Below.refl w1.heap.size w1).alloc (Nat.le_refl _) _).trans (b23.mono (by simp))).mono HB1.out.size))
  clear hb3 b23 HB1 HB2 HAL
  go_wp2_with fail
  refine (HC.out _).mono ?_
  rintro e wx ⟨rfl, rfl⟩
  go_wp2_with fail
  refine (HD.out _).mono ?_
  rintro e wx ⟨rfl, rfl⟩
  go_wp2
  go_ret
  exact ⟨rfl, HZ.out⟩
set_option maxRecDepth 100000 in
set_option maxHeartbeats 4000000 in
theorem writes_any {w : World} {k : Int} {d : List Int} (hd : IsBytes d) (hdm : d.length ≤ 9223372036854775807) :
    Calls Try.prog 8 #[.agg #[.int .i64 k, .string (strOfNums d)]] w fun e w' => e = .returned (.bool true) ∧ Below w.heap.size w w' := by
  have HAL := Lib.hid (fun U => alive_any U)
  have hsz := strOfNums_size d
  obtain ⟨n, hn⟩ : ∃ n, d.length = n := ⟨_, rfl⟩
  rw [hn] at hsz hdm
  by_cases h1 : 400 < n
  · have d1 : decide ((400 : Int) < (n : Int)) = true := by simp; omega
    have d1' : decide (400 < n) = true := by simp; omega
    clear hd hn
    generalize strOfNums d = s at hsz ⊢
    go_enter Try.func8, Try.ntmps8
    go_wp2_with fail
    refine (HAL.out _).mono ?_
    rintro e wx ⟨rfl, hx⟩
    have HX := Lib.hid (Below.trans ((Below.refl w.heap.size w).alloc (Nat.le_refl _) _) (hx.mono (by simp)))
    clear hx
    go_wp2
    go_ret
    exact ⟨rfl, HX.out⟩
  have d1 : decide ((400 : Int) < (n : Int)) = false := by simp; omega
  have d1' : decide (400 < n) = false := by simp; omega
  have HR := Lib.hid (fun (W : World) => owrite_any (w := W) (k := k) hd (by omega))
  have HS := Lib.hid (fun (W : World) => rwrite18_any (w := W) (k := k) hd (by omega))
  generalize writeA k d = a at HR HS
  obtain ⟨T, er⟩ := a
  clear hd hn h1
  generalize strOfNums d = s at hsz HR HS ⊢
  unfold WrPost at HR HS
  dsimp only at HR HS
  generalize strOfNums T = D at HR HS
  have z2 : (er == er) = true := by simp
  have z3 : (D.toList == D.toList) = true := by simp
  go_enter Try.func8, Try.ntmps8
  go_wp2_with fail
  refine (HR.out _).mono ?_
  rintro e w1 ⟨rfl, hb1⟩
  obtain ⟨k10, k11⟩ := ask_cells hb1
  have HB1 := Lib.hid hb1
  clear hb1 HR
  go_wp2_with fail
  refine (HS.out _).mono ?_
  rintro e w2 ⟨rfl, hb2⟩
  have HB2 := Lib.hid hb2
  clear hb2 HS k10 k11
  go_wp2_with fail
  refine (HAL.out _).mono ?_
  rintro e w3 ⟨rfl, hb3⟩
  have b13 := HB2.out.trans (hb3.mono HB2.out.size)
  have HZ := Lib.hid (Below.trans ((Below.refl w.heap.size w).alloc (Nat.le_refl _) _) ((HB1.out.trans (b13.mono HB1.out.size)).mono (by simp)))
  clear hb3 b13 HB1 HB2 HAL
  go_wp2
  go_ret
  exact ⟨rfl, HZ.out⟩
end Go.Proofs.Ytmpmlmhphnpdlaa
