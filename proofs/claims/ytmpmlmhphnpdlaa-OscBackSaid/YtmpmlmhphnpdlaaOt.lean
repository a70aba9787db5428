/-
  Proved here: the text that asks for something, as the document writes it.
-/
import Derived.Test.YtmpmlmhphnpdlaaOr
set_option linter.unusedSimpArgs false
set_option linter.unusedVariables false
namespace Go.Proofs.Ytmpmlmhphnpdlaa
open Go.RowKit
set_option maxRecDepth 100000 in
set_option maxHeartbeats 4000000 in
theorem rwrite18_any {w : World} {k : Int} {d : List Int} (hd : IsBytes d) (hl : d.length ≤ 1000000) :
    Calls Try.prog 41 #[.agg #[.int .i64 k, .string (strOfNums d)]] w (WrPost (writeA k d) w) := by
  by_cases h1 : k = 1
  · subst h1
    have HO := Lib.hid (fun (W : World) => rcut_any (w := W) hd hl 64 (by omega))
    have hq := str_eq (hd.cut 64) hd
    by_cases hc : cutS d 64 = d
    · rw [writeA_1 hc]
      have q : ((strOfNums (cutS d 64)).toList == (strOfNums d).toList) = true := by rw [hq]; simpa using hc
      have hcat : Op.stringOp .add ⟨#[50, 59]⟩ (strOfNums d) = pure (.string (strOfNums ([50, 59] ++ d))) := cat_run [50, 59] d (by simp; omega)
      unfold WrPost
      dsimp only
      generalize strOfNums ([50, 59] ++ d) = R at hcat ⊢
      clear hq hc hd hl
      generalize strOfNums (cutS d 64) = C at HO q
      generalize strOfNums d = D at HO hcat q ⊢
      go_enter Try.func41, Try.ntmps41
      go_wp2
      go_region_held3 (fun W => W.cell? ⟨w.heap.size, 0, none⟩ = some (.int .i64 1) ∧ W.cell? ⟨w.heap.size, 1, none⟩ = some (.string D))
        (first | go_keep)
        (first | (go_at_call 39; refine (HO.out _).mono ?_; rintro e w' ⟨rfl, rfl⟩))
      go_wp2
      go_ret2
      exact ⟨rfl, belowN ((Below.refl _ _).alloc (Nat.le_refl _) _) _⟩
    · rw [writeA_1n hc]
      have q : ((strOfNums (cutS d 64)).toList == (strOfNums d).toList) = false := by rw [hq]; simpa using hc
      clear hq hc hd hl
      generalize strOfNums (cutS d 64) = C at HO q
      generalize strOfNums d = D at HO q ⊢
      go_enter Try.func41, Try.ntmps41
      go_wp2
      go_region_held3 (fun W => W.cell? ⟨w.heap.size, 0, none⟩ = some (.int .i64 1) ∧ W.cell? ⟨w.heap.size, 1, none⟩ = some (.string D))
        (first | go_keep)
        (first | (go_at_call 39; refine (HO.out _).mono ?_; rintro e w' ⟨rfl, rfl⟩))
      go_wp2
      go_ret2
      exact ⟨rfl, belowN ((Below.refl _ _).alloc (Nat.le_refl _) _) _⟩
  · have z1 : (k == 1) = false := by simpa using h1
    by_cases h2 : k = 2
    · subst h2
      obtain ⟨n, hn⟩ : ∃ n, d.length = n := ⟨_, rfl⟩
      have hsz : (strOfNums d).size = n := by rw [strOfNums_size, hn]
      by_cases h256 : 256 < n
      · rw [writeA_2l (by omega)]
        have d1 : decide ((256 : Int) < (n : Int)) = true := by simp; omega
        have d1' : decide (256 < n) = true := by simp; omega
        clear hd hn
        generalize strOfNums d = D at hsz ⊢
        go_enter Try.func41, Try.ntmps41
        go_wp2
        go_region
        go_wp2
        go_ret2
        exact ⟨rfl, belowN ((Below.refl _ _).alloc (Nat.le_refl _) _) _⟩
      · rw [writeA_2 (by omega)]
        have d1 : decide ((256 : Int) < (n : Int)) = false := by simp; omega
        have d1' : decide (256 < n) = false := by simp; omega
        have hwl : (writeS d).length ≤ 1000000 := by rw [write_len]; omega
        have hcat : Op.stringOp .add ⟨#[53, 50, 59, 99, 59]⟩ (strOfNums (writeS d)) = pure (.string (strOfNums ([53, 50, 59, 99, 59] ++ writeS d))) := cat_run [53, 50, 59, 99, 59] _ (by simp; omega)
        unfold WrPost
        dsimp only
        generalize strOfNums ([53, 50, 59, 99, 59] ++ writeS d) = R at hcat ⊢
        obtain ⟨gc, cc, Wc, hcv, hri, hnc, hcm, hbw⟩ := conv_str hd hn (by omega) (w.alloc (.cells #[.int .i64 2, .string (strOfNums d)] 75)).drew
        have HW := Lib.hid (rwrite_any (c := cc) hri hn (by omega) hd)
        have HBW := Lib.hid hbw
        clear hri hnc hcm hbw hd hwl hn
        generalize strOfNums (writeS d) = S at HW hcat
        generalize strOfNums d = D at hsz hcv HBW ⊢
        go_enter Try.func41, Try.ntmps41
        go_wp2
        go_region
        go_wp2_with fail
        refine HW.out.mono ?_
        rintro e w2 ⟨rfl, hb2⟩
        have HB2 := Lib.hid (HBW.out.trans (hb2.mono HBW.out.size))
        clear hb2 HW HBW hcv
        go_wp2
        go_ret2
        exact ⟨rfl, Below.trans (belowN ((Below.refl w.heap.size w).alloc (Nat.le_refl _) _) 1) (HB2.out.mono (by simp))⟩
    · rw [writeA_n h1 h2]
      have z2 : (k == 2) = false := by simpa using h2
      have z2' : (k != 2) = true := by simpa using h2
      clear hd hl h1 h2
      generalize strOfNums d = D
      go_enter Try.func41, Try.ntmps41
      go_wp2
      go_region
      go_wp2
      go_ret2
      exact ⟨rfl, belowN ((Below.refl _ _).alloc (Nat.le_refl _) _) _⟩
end Go.Proofs.Ytmpmlmhphnpdlaa
