/-
  Proved here: the document's own Is and Bytes of utf, for every point and points: what XUr and XUb hold of them, without the other calls of that layer.
-/
import Derived.Test.YtfacnemgjdmlmaaUn
import Derived.Test.YtfacnemgjdmlmaaOw
import Derived.RegionTactic
import Derived.BigRegion
import Derived.IntWalk
import Derived.WalkLawsBesides
import Derived.Below
import Derived.OneCell
import Derived.Laws.Rows
namespace Go.Proofs.Ytfacnemgjdmlmaa
open Go.RowKit
theorem ris_any (p : Int) (w : World) : Calls Try.prog 22 #[.int .i32 p] w fun e w' => e = .returned (.bool (isP p)) ∧ w = w' := by
  have e : isP p = (decide (0 ≤ p) && decide (p < 55296) || decide (57343 < p) && decide (p < 1114112)) := by unfold isP; rw [Bool.decide_or, Bool.decide_and, Bool.decide_and]
  rw [e]
  go_enter Try.func22, Try.ntmps22
  go_wp2
  all_goals go_ret
  all_goals exact ⟨ret_bool (Bool.eq_iff_iff.2 (by simp <;> omega)), rfl⟩
theorem bytesP_len (p : Int) : (bytesP p).length ≤ 4 := by unfold bytesP; split <;> (try split) <;> (try split) <;> simp
theorem bytesL_len : ∀ l : List Int, (bytesL l).length ≤ 4 * l.length
  | [] => by simp [bytesL]
  | p :: r => by
    have h1 := bytesP_len (fixP p)
    have h2 := bytesL_len r
    rw [bytesL, List.length_append, List.length_cons]; omega
theorem take_succ {l : List Int} {i : Nat} (hi : i < l.length) : l.take (i + 1) = l.take i ++ [l.getD i 0] := by
  rw [List.take_add_one]; simp [List.getD, hi]
theorem bytesL_one (p : Int) : bytesL [p] = bytesP (fixP p) := by simp [bytesL]
set_option maxRecDepth 100000 in
set_option maxHeartbeats 4000000 in
theorem rbytes_any {w : World} {A : Option Addr} {n c : Nat} {l : List Int} (hR : RI .i32 w A l) (hl : l.length = n) (hn : n ≤ 20000) :
    Calls Try.prog 30 #[.slice A n c] w fun e w' => ∃ v, e = .returned v ∧ Own8 w v (bytesL l) w' := by
  have HR := Lib.hid hR
  have HL := Lib.hid hl
  have HO0 := Lib.hid (show Own8 w (.slice none 0 0) (bytesL (l.take 0)) w from Own8.new w)
  clear hR hl
  go_enter Try.func30, Try.ntmps30
  go_wp2
  go_loopw [3, 4] (fun ov iv wr => ∃ (v : Value) (i : Nat), v = ov ∧ iv = .int .i64 i ∧ i ≤ n ∧ Hid (Own8 w v (bytesL (l.take i)) wr)) (fun _ iv _ => n - (intOf iv).toNat)
  case atStart => exact ⟨_, 0, rfl, rfl, by omega, HO0⟩
  case round =>
    obtain ⟨v, i, rfl, rfl, hi, HO⟩ := hrel
    clear HO0
    by_cases hin : i < n
    · have d1 : decide ((i : Int) < (n : Int)) = true := by simp; omega
      have d2 : decide (i < n) = true := by simp; omega
      obtain ⟨bl, off, rfl, hbl, hc⟩ := HR.out (by rw [HL.out]; omega)
      have e0 := (HO.out.below.cell (p := ⟨bl, off + i, none⟩) hbl).trans (hc i (by rw [HL.out]; exact hin))
      obtain ⟨p0, hp0⟩ : ∃ p, l.getD i 0 = p := ⟨_, rfl⟩
      rw [hp0] at e0
      have hTS := take_succ (l := l) (i := i) (by rw [HL.out]; exact hin)
      rw [hp0] at hTS
      have hLen := bytesL_len (l.take i)
      have hLen2 : (l.take i).length ≤ i := by simp; omega
      obtain ⟨p, hp⟩ : ∃ p, fixP p0 = p := ⟨_, rfl⟩
      have HNX := Lib.hid (fun (_ : Unit) => show bytesL (l.take (i + 1)) = bytesL (l.take i) ++ bytesP p from by rw [hTS, bytesL_app, bytesL_one, hp])
      have hpP := fixP_isP p0
      rw [hp, isP_iff] at hpP
      have g3 : (0 : Int) ≤ (i : Int) := by omega
      have g4 : (i : Int) < (n : Int) := by omega
      have hp32 : 0 ≤ p ∧ p < 1114112 := by omega
      obtain ⟨pa, pb⟩ := hp32
      obtain ⟨y, hy⟩ : ∃ y, isP p0 = y := ⟨_, rfl⟩
      have HIS : Hid (∀ w : World, Calls Try.prog 22 #[.int .i32 p0] w fun e w' => e = .returned (.bool y) ∧ w = w') := Lib.hid (fun w => hy ▸ ris_any p0 w)
      have hyp : (y = true ∧ p = p0) ∨ (y = false ∧ p = 65533) := by
        unfold fixP at hp
        rw [hy] at hp
        cases y
        · exact .inr ⟨rfl, by simpa using hp.symm⟩
        · exact .inl ⟨rfl, by simpa using hp.symm⟩
      clear hc hp0 hTS hp hpP hy
      rcases hyp with ⟨rfl, rfl⟩ | ⟨rfl, rfl⟩
      · by_cases h1 : p < 128
        · have HB4 := Lib.hid (fun (_ : Unit) => show bytesP p = [p] from by unfold bytesP; rw [if_pos h1])
          obtain ⟨A4, n4, c4, w4, hrun, hO4⟩ := HO.out.app [p] 1 rfl (by omega)
          rw [← HB4.out (), ← HNX.out ()] at hO4
          have HRUN := Lib.hid hrun
          have HO4 := Lib.hid hO4
          have u1 : IntKind.u8.wrap p = p := IntWalk.u8_in _ (by omega)
          clear hrun hO4 HB4 HNX HO hLen hLen2
          go_wp2_with (first | (go_at_call 22; refine (HIS.out _).mono ?_; rintro e w' ⟨rfl, rfl⟩) | (at_builtin; refine wpList_app rfl (.tmp 43) (.tmp 46) _ rfl _ _ rfl rfl HRUN.out ?_))
          go_roundw
          case rel => exact ⟨_, i + 1, rfl, by go_num, by omega, HO4⟩
          case measure => simp [intOf]; omega
        · by_cases h2 : p < 2048
          · have HB4 := Lib.hid (fun (_ : Unit) => show bytesP p = [192 + p / 64, 128 + p % 64] from by unfold bytesP; rw [if_neg h1, if_pos h2])
            obtain ⟨A4, n4, c4, w4, hrun, hO4⟩ := HO.out.app [192 + p / 64, 128 + p % 64] 2 rfl (by omega)
            rw [← HB4.out (), ← HNX.out ()] at hO4
            have HRUN := Lib.hid hrun
            have HO4 := Lib.hid hO4
            have a1 : p.tdiv 64 = p / 64 := Int.tdiv_eq_ediv_of_nonneg (by omega)
            have a2 : p.tmod 64 = p % 64 := Int.tmod_eq_emod_of_nonneg (by omega)
            have b1 : IntKind.i32.wrap (p / 64) = p / 64 := IntWalk.i32_in _ (by omega)
            have b2 : IntKind.i32.wrap (192 + p / 64) = 192 + p / 64 := IntWalk.i32_in _ (by omega)
            have b3 : IntKind.i32.wrap (p % 64) = p % 64 := IntWalk.i32_in _ (by omega)
            have b4 : IntKind.i32.wrap (128 + p % 64) = 128 + p % 64 := IntWalk.i32_in _ (by omega)
            have u1 : IntKind.u8.wrap (192 + p / 64) = 192 + p / 64 := IntWalk.u8_in _ (by omega)
            have u2 : IntKind.u8.wrap (128 + p % 64) = 128 + p % 64 := IntWalk.u8_in _ (by omega)
            clear hrun hO4 HB4 HNX HO hLen hLen2
            go_wp2_with (first | (go_at_call 22; refine (HIS.out _).mono ?_; rintro e w' ⟨rfl, rfl⟩) | (at_builtin; refine wpList_app rfl (.tmp 51) (.tmp 60) _ rfl _ _ rfl rfl HRUN.out ?_))
            go_roundw
            case rel => exact ⟨_, i + 1, rfl, by go_num, by omega, HO4⟩
            case measure => simp [intOf]; omega
          · by_cases h3 : p < 65536
            · have HB4 := Lib.hid (fun (_ : Unit) => show bytesP p = [224 + p / 4096, 128 + p / 64 % 64, 128 + p % 64] from by unfold bytesP; rw [if_neg h1, if_neg h2, if_pos h3])
              obtain ⟨A4, n4, c4, w4, hrun, hO4⟩ := HO.out.app [224 + p / 4096, 128 + p / 64 % 64, 128 + p % 64] 3 rfl (by omega)
              rw [← HB4.out (), ← HNX.out ()] at hO4
              have HRUN := Lib.hid hrun
              have HO4 := Lib.hid hO4
              have a2 : p.tmod 64 = p % 64 := Int.tmod_eq_emod_of_nonneg (by omega)
              have b3 : IntKind.i32.wrap (p % 64) = p % 64 := IntWalk.i32_in _ (by omega)
              have b4 : IntKind.i32.wrap (128 + p % 64) = 128 + p % 64 := IntWalk.i32_in _ (by omega)
              have u2 : IntKind.u8.wrap (128 + p % 64) = 128 + p % 64 := IntWalk.u8_in _ (by omega)
              have a1 : p.tdiv 64 = p / 64 := Int.tdiv_eq_ediv_of_nonneg (by omega)
              have b1 : IntKind.i32.wrap (p / 64) = p / 64 := IntWalk.i32_in _ (by omega)
              have a3 : (p / 64).tmod 64 = p / 64 % 64 := Int.tmod_eq_emod_of_nonneg (by omega)
              have b5 : IntKind.i32.wrap (p / 64 % 64) = p / 64 % 64 := IntWalk.i32_in _ (by omega)
              have b6 : IntKind.i32.wrap (128 + p / 64 % 64) = 128 + p / 64 % 64 := IntWalk.i32_in _ (by omega)
              have u3 : IntKind.u8.wrap (128 + p / 64 % 64) = 128 + p / 64 % 64 := IntWalk.u8_in _ (by omega)
              have a4 : p.tdiv 4096 = p / 4096 := Int.tdiv_eq_ediv_of_nonneg (by omega)
              have b7 : IntKind.i32.wrap (p / 4096) = p / 4096 := IntWalk.i32_in _ (by omega)
              have b8 : IntKind.i32.wrap (224 + p / 4096) = 224 + p / 4096 := IntWalk.i32_in _ (by omega)
              have u4 : IntKind.u8.wrap (224 + p / 4096) = 224 + p / 4096 := IntWalk.u8_in _ (by omega)
              clear hrun hO4 HB4 HNX HO hLen hLen2
              go_wp2_with (first | (go_at_call 22; refine (HIS.out _).mono ?_; rintro e w' ⟨rfl, rfl⟩) | (at_builtin; refine wpList_app rfl (.tmp 65) (.tmp 79) _ rfl _ _ rfl rfl HRUN.out ?_))
              go_roundw
              case rel => exact ⟨_, i + 1, rfl, by go_num, by omega, HO4⟩
              case measure => simp [intOf]; omega
            · have HB4 := Lib.hid (fun (_ : Unit) => show bytesP p = [240 + p / 262144, 128 + p / 4096 % 64, 128 + p / 64 % 64, 128 + p % 64] from by unfold bytesP; rw [if_neg h1, if_neg h2, if_neg h3])
              obtain ⟨A4, n4, c4, w4, hrun, hO4⟩ := HO.out.app [240 + p / 262144, 128 + p / 4096 % 64, 128 + p / 64 % 64, 128 + p % 64] 4 rfl (by omega)
              rw [← HB4.out (), ← HNX.out ()] at hO4
              have HRUN := Lib.hid hrun
              have HO4 := Lib.hid hO4
              have a2 : p.tmod 64 = p % 64 := Int.tmod_eq_emod_of_nonneg (by omega)
              have b3 : IntKind.i32.wrap (p % 64) = p % 64 := IntWalk.i32_in _ (by omega)
              have b4 : IntKind.i32.wrap (128 + p % 64) = 128 + p % 64 := IntWalk.i32_in _ (by omega)
              have u2 : IntKind.u8.wrap (128 + p % 64) = 128 + p % 64 := IntWalk.u8_in _ (by omega)
              have a1 : p.tdiv 64 = p / 64 := Int.tdiv_eq_ediv_of_nonneg (by omega)
              have b1 : IntKind.i32.wrap (p / 64) = p / 64 := IntWalk.i32_in _ (by omega)
              have a3 : (p / 64).tmod 64 = p / 64 % 64 := Int.tmod_eq_emod_of_nonneg (by omega)
              have b5 : IntKind.i32.wrap (p / 64 % 64) = p / 64 % 64 := IntWalk.i32_in _ (by omega)
              have b6 : IntKind.i32.wrap (128 + p / 64 % 64) = 128 + p / 64 % 64 := IntWalk.i32_in _ (by omega)
              have u3 : IntKind.u8.wrap (128 + p / 64 % 64) = 128 + p / 64 % 64 := IntWalk.u8_in _ (by omega)
              have a4 : p.tdiv 4096 = p / 4096 := Int.tdiv_eq_ediv_of_nonneg (by omega)
              have b7 : IntKind.i32.wrap (p / 4096) = p / 4096 := IntWalk.i32_in _ (by omega)
              have a5 : (p / 4096).tmod 64 = p / 4096 % 64 := Int.tmod_eq_emod_of_nonneg (by omega)
              have b8 : IntKind.i32.wrap (p / 4096 % 64) = p / 4096 % 64 := IntWalk.i32_in _ (by omega)
              have b9 : IntKind.i32.wrap (128 + p / 4096 % 64) = 128 + p / 4096 % 64 := IntWalk.i32_in _ (by omega)
              have u4 : IntKind.u8.wrap (128 + p / 4096 % 64) = 128 + p / 4096 % 64 := IntWalk.u8_in _ (by omega)
              have a6 : p.tdiv 262144 = p / 262144 := Int.tdiv_eq_ediv_of_nonneg (by omega)
              have c1 : IntKind.i32.wrap (p / 262144) = p / 262144 := IntWalk.i32_in _ (by omega)
              have c2 : IntKind.i32.wrap (240 + p / 262144) = 240 + p / 262144 := IntWalk.i32_in _ (by omega)
              have u5 : IntKind.u8.wrap (240 + p / 262144) = 240 + p / 262144 := IntWalk.u8_in _ (by omega)
              clear hrun hO4 HB4 HNX HO hLen hLen2
              go_wp2_with (first | (go_at_call 22; refine (HIS.out _).mono ?_; rintro e w' ⟨rfl, rfl⟩) | (at_builtin; refine wpList_app rfl (.tmp 19) (.tmp 38) _ rfl _ _ rfl rfl HRUN.out ?_))
              go_roundw
              case rel => exact ⟨_, i + 1, rfl, by go_num, by omega, HO4⟩
              case measure => simp [intOf]; omega
      · have HB4 := Lib.hid (fun (_ : Unit) => show bytesP 65533 = [239, 191, 189] from by decide)
        obtain ⟨A4, n4, c4, w4, hrun, hO4⟩ := HO.out.app [239, 191, 189] 3 rfl (by omega)
        rw [← HB4.out (), ← HNX.out ()] at hO4
        have HRUN := Lib.hid hrun
        have HO4 := Lib.hid hO4
        clear hrun hO4 HB4 HNX HO hLen hLen2
        go_wp2_with (first | (go_at_call 22; refine (HIS.out _).mono ?_; rintro e w' ⟨rfl, rfl⟩) | (at_builtin; refine wpList_app rfl (.tmp 65) (.tmp 79) _ rfl _ _ rfl rfl HRUN.out ?_))
        go_roundw
        case rel => exact ⟨_, i + 1, rfl, by go_num, by omega, HO4⟩
        case measure => simp [intOf]; omega
    · have e : l.take i = l := List.take_of_length_le (by rw [HL.out]; omega)
      have d1 : decide ((i : Int) < (n : Int)) = false := by simp; omega
      have d2 : decide (i < n) = false := by simp; omega
      have HF : Hid (Own8 w v (bytesL l) wr) := Lib.hid (by have := HO.out; rwa [e] at this)
      clear HO e
      go_wp2
      go_ret
      exact ⟨v, rfl, HF.out⟩
end Go.Proofs.Ytfacnemgjdmlmaa
