/-
  Proved here: the document's own Fault of base.
-/
import Derived.Test.YtidjcbnjadlbaaaBg
namespace Go.Proofs.Ytidjcbnjadlbaaa
open Go.RowKit
theorem str_take (t : List Int) (i : Nat) : (strOfNums t).extract 0 i = strOfNums (t.take i) := by
  apply ByteArray.ext
  apply Array.ext'
  simp [strOfNums, ByteArray.data_extract, List.map_take]
theorem bytes_take {t : List Int} (h : IsBytes t) (i : Nat) : IsBytes (t.take i) := fun x hx => h x (List.mem_of_mem_take hx)
set_option maxRecDepth 100000 in
set_option maxHeartbeats 2000000 in
theorem rfault_any {w : World} {t : List Int} (ht : IsBytes t) (hl : t.length ≤ 99000) :
    Calls Try.prog 30 #[.string (strOfNums t)] w fun e w' => e = .returned (.int .i64 (faultS t)) ∧ Below w.heap.size w w' := by
  have HRD := Lib.hid (rread14_any (w := w) ht (by omega))
  have HGO := Lib.hid (fun (W : World) (i : Nat) => rgoes_any (w := W) (bytes_take ht i) (by simp; omega))
  have HEX := Lib.hid (fun i => str_take t i)
  have hsz : (strOfNums t).size = t.length := strOfNums_size t
  obtain ⟨n, hnn⟩ : ∃ n, t.length = n := ⟨_, rfl⟩
  rw [hnn] at hsz hl
  have HL := Lib.hid (fun (_ : Unit) => hnn)
  obtain ⟨F, hF⟩ : ∃ F, faultS t = F := ⟨_, rfl⟩
  have HF := Lib.hid (fun (_ : Unit) => hF)
  obtain ⟨G, hG⟩ : ∃ G, goodB t = G := ⟨_, rfl⟩
  have HG := Lib.hid (fun (_ : Unit) => hG)
  rw [hF]
  rw [hG] at HRD
  clear hF hG hnn ht
  go_enter Try.func30, Try.ntmps30
  go_wp2_with fail
  refine HRD.out.mono ?_
  rintro e w1 ⟨v1, rfl, hO1⟩
  have HB1 := Lib.hid hO1.below
  clear hO1 HRD
  cases G
  · have H0 : Hid (Unit → faultF t 0 n = F) := Lib.hid (fun _ => by rw [← HF.out ()]; unfold faultS; rw [HG.out (), if_neg (by decide), HL.out ()])
    go_wp2
    go_loopw [5] (fun iv wr => ∃ i : Nat, iv = .int .i64 ((i + 1 : Nat) : Int) ∧ i ≤ n ∧ Hid (Unit → faultF t i (n - i) = F) ∧ Hid (Below w.heap.size w wr)) (fun iv _ => n + 1 - (intOf iv).toNat)
    case atStart => exact ⟨0, rfl, by omega, H0, HB1⟩
    case round =>
      obtain ⟨i, rfl, hi, HK, HB⟩ := hrel
      clear H0 HB1
      by_cases hin : i < n
      · have d1 : decide (((i + 1 : Nat) : Int) ≤ (n : Int)) = true := by simp; omega
        have d2 : decide (i + 1 ≤ n) = true := by simp; omega
        have d3 : decide ((i : Int) + 1 ≤ (n : Int)) = true := by simp; omega
        have hex := HEX.out (i + 1)
        have HGI := Lib.hid (fun W => HGO.out W (i + 1))
        obtain ⟨y, hy⟩ : ∃ y, preB (t.take (i + 1)) = y := ⟨_, rfl⟩
        rw [hy] at HGI
        obtain ⟨k, hk⟩ : ∃ k, n - i = k + 1 := ⟨n - i - 1, by omega⟩
        have HK2 := Lib.hid (fun (_ : Unit) => show (if y then faultF t (i + 1) k else (i : Int)) = F from by
          have := HK.out ()
          rw [hk, faultF, hy] at this
          exact this)
        have HKK := Lib.hid (fun (_ : Unit) => show n - (i + 1) = k by omega)
        clear hy hk HK
        go_wp2_with fail
        refine (HGI.out _).mono ?_
        rintro e w2 ⟨rfl, hb2⟩
        have HB2 := Lib.hid (HB.out.trans (hb2.mono HB.out.size))
        clear hb2 HB HGI
        cases y
        · have e : F = i := (HK2.out ()).symm
          subst e
          clear HK2 HKK
          go_wp2
          go_ret
          exact ⟨by simp, HB2.out⟩
        · have HKN := Lib.hid (fun (_ : Unit) => show faultF t (i + 1) (n - (i + 1)) = F from by rw [HKK.out ()]; exact HK2.out ())
          clear HK2 HKK
          go_wp2
          go_roundw
          case rel => exact ⟨i + 1, by go_num, by omega, HKN, HB2⟩
          case measure => simp [intOf]; omega
      · have e : F = n := by
          have := HK.out ()
          rw [show n - i = 0 by omega, faultF, HL.out ()] at this
          exact this.symm
        have d1 : decide (((i + 1 : Nat) : Int) ≤ (n : Int)) = false := by simp; omega
        have d2 : decide (i + 1 ≤ n) = false := by simp; omega
        have d3 : decide ((i : Int) + 1 ≤ (n : Int)) = false := by simp; omega
        subst e
        clear HK
        go_wp2
        go_ret
        exact ⟨rfl, HB.out⟩
  · have e : F = -1 := by rw [← HF.out ()]; unfold faultS; rw [HG.out (), if_pos rfl]
    subst e
    go_wp2
    go_ret
    exact ⟨rfl, HB1.out⟩
end Go.Proofs.Ytidjcbnjadlbaaa
