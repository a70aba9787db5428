/-
  Proved here: the program's Fault of base: where a text goes wrong.
-/
import Derived.Test.YtmpmlmhphnpdlaaBd
import Derived.Test.YtmpmlmhphnpdlaaBr
set_option linter.unusedSimpArgs false
set_option linter.unusedVariables false
namespace Go.Proofs.Ytmpmlmhphnpdlaa
open Go.RowKit
theorem mayPad_w (place before : Int) (padded : Bool) (w : World) (hb : (place = 2 ∨ (place = 3 ∧ padded = false)) → 0 ≤ before ∧ before < 64) : Calls Try.prog 83 #[.int .i64 place, .int .i64 before, .bool padded] w fun e w' => e = .returned (.bool (mayS place before padded)) ∧ w = w' := by
  by_cases h2 : place = 2
  · exact mayPad_any _ _ _ _ (hb (.inl h2)).1 (hb (.inl h2)).2
  by_cases h3 : place = 3
  · cases padded
    · exact mayPad_any _ _ _ _ (hb (.inr ⟨h3, rfl⟩)).1 (hb (.inr ⟨h3, rfl⟩)).2
    · have e : mayS place before true = true := by unfold mayS; rw [if_neg h2, if_pos h3]; rfl
      rw [e]
      subst h3
      clear e hb
      go_enter Try.func83, Try.ntmps83
      go_wp2
      go_ret
      exact ⟨rfl, rfl⟩
  · have e : mayS place before padded = false := by unfold mayS; rw [if_neg h2, if_neg h3]
    rw [e]
    have z2 : (place == 2) = false := by simpa using h2
    have z3 : (place == 3) = false := by simpa using h3
    clear e hb
    go_enter Try.func83, Try.ntmps83
    go_wp2
    go_ret
    exact ⟨rfl, rfl⟩
theorem iter_to (w : World) (s : ByteArray) (p : Nat) {w' : World} (h : Below (w.iter s p).heap.size (w.iter s p) w') : Below w.heap.size w w' :=
  (below_iter w s p).trans (h.mono (below_iter w s p).size)
theorem take_one {t : List Int} {i : Nat} (hi : i < t.length) : t.take (i + 1) = t.take i ++ [t.getD i 0] := by
  rw [List.take_add_one]; simp [List.getD, hi]
/-- What is known of the next letter, and of where it stands. -/
structure Nx (t : List Int) (i : Nat) (b : Int) (p : Bool) (q : Int) : Prop where
  ok : preB (t.take (i + 1)) = okC (i % 4 : Nat) b p q
  last : ((i % 4 : Nat) = (2 : Int) ∨ ((i % 4 : Nat) = (3 : Int) ∧ p = false)) → 0 ≤ b ∧ b < 64
  next : valL (lastC (t.take (i + 1))) = valL q ∧ decide (lastC (t.take (i + 1)) = 61) = decide (q = 61)
  bad : okC (i % 4 : Nat) b p q = false → faultS t = i
theorem nx_of {t : List Int} {i : Nat} (hi : i < t.length) (hp : preB (t.take i) = true) : Nx t i (valL (lastC (t.take i))) (decide (lastC (t.take i) = 61)) (t.getD i 0) := by
  have hlen : (t.take i).length = i := by simp; omega
  have h1 := pre_next (t.take i) (t.getD i 0) hp
  rw [← take_one hi, hlen] at h1
  refine ⟨h1, fun h => ?_, ?_, fun h => fault_at hi hp (h1.trans h)⟩
  · refine pre_last _ hp ?_
    rw [hlen]
    rcases h with h | ⟨h, h'⟩
    · exact .inl (by omega)
    · exact .inr ⟨by omega, by simpa using h'⟩
  · rw [take_one hi, lastC_snoc]; exact ⟨rfl, rfl⟩
set_option maxRecDepth 100000 in
set_option maxHeartbeats 2000000 in
theorem fault_any {w : World} {t : List Int} (ht : IsBytes t) (hl : t.length ≤ 1000000) :
    Calls Try.prog 78 #[.string (strOfNums t)] w fun e w' => e = .returned (.int .i64 (faultS t)) ∧ Below w.heap.size w w' := by
  have HT := Lib.hid ht
  have HAT := Lib.hid (fun (i : Nat) (hi : i < t.length) (h : i < (strOfNums t).size) => str_at ht hi h)
  obtain ⟨s, hs⟩ : ∃ s, strOfNums t = s := ⟨_, rfl⟩
  have hsz : s.size = t.length := by rw [← hs]; exact strOfNums_size t
  obtain ⟨n, hn⟩ : ∃ n, t.length = n := ⟨_, rfl⟩
  rw [hs] at HAT ⊢
  rw [hn] at hsz hl
  have HN := Lib.hid hn
  have HP0 : Hid (preB (t.take 0) = true) := Lib.hid rfl
  obtain ⟨F, hF⟩ : ∃ F, faultS t = F := ⟨_, rfl⟩
  have HF := Lib.hid hF
  rw [hF]
  have HSZ := Lib.hid hsz
  clear ht hs hn hF
  go_enter Try.func78, Try.ntmps78
  go_wp2
  go_loopw [3, 4, 5, 6, 7] (fun bv pv _ _ _ wr => ∃ (i : Nat) (b : Int) (p : Bool), wr = w.iter s i ∧ i ≤ n ∧ bv = .int .i64 b ∧ pv = .bool p ∧ Hid (preB (t.take i) = true ∧ valL (lastC (t.take i)) = b ∧ decide (lastC (t.take i) = 61) = p)) (fun _ _ _ _ _ wr => n - wr.iterPos w.heap.size)
  case atStart => exact ⟨0, -1, false, rfl, by omega, rfl, rfl, Lib.hid ⟨HP0.out, by rw [List.take_zero]; rfl, by rw [List.take_zero]; rfl⟩⟩
  case round =>
    obtain ⟨i, b, p, rfl, hi, rfl, rfl, HP⟩ := hrel
    clear HP0
    by_cases hin : i < n
    · have hiz : i < s.size := by rw [HSZ.out]; exact hin
      have hnx := nx_of (t := t) (i := i) (by rw [HN.out]; exact hin) HP.out.1
      rw [HP.out.2.1, HP.out.2.2] at hnx
      have hat := HAT.out i (by rw [HN.out]; exact hin) hiz
      obtain ⟨q, hq⟩ : ∃ q, t.getD i 0 = q := ⟨_, rfl⟩
      rw [hq] at hnx hat
      have HNX := Lib.hid hnx
      have g3 : (0 : Int) ≤ (i : Int) := by omega
      have g4 : (i : Int) < (n : Int) := by omega
      have hpl : ((i % 4 : Nat) : Int) = (i : Int) % 4 := by omega
      have HMP := Lib.hid (fun W : World => mayPad_w ((i : Int) % 4) b p W (by have h := hnx.last; rw [hpl] at h; exact h))
      obtain ⟨r, hr⟩ : ∃ r, mayS ((i : Int) % 4) b p = r := ⟨_, rfl⟩
      rw [hr] at HMP
      have HOK := hnx.ok
      rw [hpl] at HOK
      have HBAD := hnx.bad
      rw [hpl, HF.out] at HBAD
      have HNEXT := Lib.hid hnx.next
      clear hnx hpl hq
      by_cases hq8 : q < 128
      · have q0 : 0 ≤ q := by rw [← hat]; omega
        have hnext : ∀ ty, (Instr.next (.pointer (some ⟨w.heap.size, 0, none⟩)) true ty).run Try.prog (w.iter s i) = .ok (.tuple #[.bool true, .int .i64 i, .int .i32 q]) (w.iter s (i + 1)) := fun ty => by
          rw [run_next_ascii w s i ty hiz (by omega)]; rw [hat]
        clear hat
        by_cases h61 : q = 61
        · subst h61
          rw [okC_61] at HOK HBAD
          rw [hr] at HOK HBAD
          have HOK' := Lib.hid HOK
          have HBAD' := Lib.hid HBAD
          have HNO := Lib.hid (fun W : World => val_pad ▸ number_lo 61 W (by omega) (by omega))
          clear HOK HBAD hr
          cases r
          · cases p <;>
            · go_wp2_with fail
              refine (HMP.out _).mono ?_
              rintro e wx ⟨rfl, rfl⟩
              go_wp2
              go_ret
              exact ⟨ret_int (by first | exact (HBAD'.out rfl).symm | exact (HBAD'.out trivial).symm), below_iter w s _⟩
          · cases p <;>
            · go_wp2_with fail
              refine (HMP.out _).mono ?_
              rintro e wx ⟨rfl, rfl⟩
              go_wp2_with fail
              refine (HNO.out _).mono ?_
              rintro e wx ⟨rfl, rfl⟩
              go_wp2
              go_roundw
              case rel => exact ⟨i + 1, -1, true, rfl, by omega, rfl, rfl, Lib.hid ⟨HOK'.out, HNEXT.out.1.trans val_pad, HNEXT.out.2⟩⟩
              case measure => simp; omega
        · have f1 : (q == 61) = false := by simpa using h61
          have f2 : (q != 61) = true := by simpa using h61
          cases p
          · rw [okC_l _ _ h61] at HOK HBAD
            obtain ⟨l, hl2⟩ : ∃ l, isL q = l := ⟨_, rfl⟩
            rw [hl2] at HOK HBAD
            have HOK' := Lib.hid HOK
            have HBAD' := Lib.hid HBAD
            obtain ⟨v, hv⟩ : ∃ v, valL q = v := ⟨_, rfl⟩
            have HNO := Lib.hid (fun W : World => hv ▸ number_lo q W q0 hq8)
            rw [hv] at HNEXT
            have hlv : l = decide (0 ≤ v) := by rw [← hl2, ← hv]; rfl
            have hvr := (val_range q).1
            rw [hv] at hvr
            clear HOK HBAD hr hl2 hv h61
            cases l
            · have hv1 : v = -1 := by have := hlv; simp at this; omega
              subst hv1
              clear hlv hvr
              go_wp2_with fail
              refine (HNO.out _).mono ?_
              rintro e wx ⟨rfl, rfl⟩
              go_wp2
              go_ret
              exact ⟨ret_int (by first | exact (HBAD'.out rfl).symm | exact (HBAD'.out trivial).symm), below_iter w s _⟩
            · have hv0 : (v == -1) = false := by have := hlv; simp at this; simp; omega
              have HLV := Lib.hid hlv
              clear hlv
              go_wp2_with fail
              refine (HNO.out _).mono ?_
              rintro e wx ⟨rfl, rfl⟩
              go_wp2_with fail
              refine (HNO.out _).mono ?_
              rintro e wx ⟨rfl, rfl⟩
              go_wp2
              go_roundw
              case rel => exact ⟨i + 1, v, false, rfl, by omega, rfl, rfl, Lib.hid ⟨HOK'.out, HNEXT.out.1, by rw [HNEXT.out.2]; simp at f1; simp [f1]⟩⟩
              case measure => simp; omega
          · rw [okC_no _ _ h61] at HBAD
            have HBAD' := Lib.hid HBAD
            clear HOK HBAD hr h61
            go_wp2
            go_ret
            exact ⟨ret_int (by first | exact (HBAD'.out rfl).symm | exact (HBAD'.out trivial).symm), below_iter w s _⟩
      · have hd := decode_high s i hiz (by omega)
        obtain ⟨c, hc⟩ : ∃ c, (Utf8.decode s i).1 = c := ⟨_, rfl⟩
        obtain ⟨k, hk⟩ : ∃ k, (Utf8.decode s i).2 = k := ⟨_, rfl⟩
        rw [hc, hk] at hd
        have hnext : ∀ ty, (Instr.next (.pointer (some ⟨w.heap.size, 0, none⟩)) true ty).run Try.prog (w.iter s i) = .ok (.tuple #[.bool true, .int .i64 i, .int .i32 c]) (w.iter s (i + k)) := fun ty => by
          rw [run_next_any w s i ty hiz, hc, hk]
        have f1 : ((c : Int) == 61) = false := by simp; omega
        have f2 : ((c : Int) != 61) = true := by simp; omega
        have h61 : q ≠ 61 := by omega
        have HNO := Lib.hid (fun W : World => number_hi (c : Int) W (by omega))
        have hhi := isL_high (c := q) (by omega)
        clear hat hd hc hk HOK hr
        cases p
        · rw [okC_l _ _ h61, hhi] at HBAD
          have HBAD' := Lib.hid HBAD
          clear HBAD hhi h61
          go_wp2_with fail
          refine (HNO.out _).mono ?_
          rintro e wx ⟨rfl, hbx⟩
          have HBX := Lib.hid (iter_to w s _ hbx)
          clear hbx
          go_wp2
          go_ret
          exact ⟨ret_int (by first | exact (HBAD'.out rfl).symm | exact (HBAD'.out trivial).symm), HBX.out⟩
        · rw [okC_no _ _ h61] at HBAD
          have HBAD' := Lib.hid HBAD
          clear HBAD hhi h61
          go_wp2
          go_ret
          exact ⟨ret_int (by first | exact (HBAD'.out rfl).symm | exact (HBAD'.out trivial).symm), below_iter w s _⟩
    · have e : i = n := by omega
      have hnext : ∀ ty, (Instr.next (.pointer (some ⟨w.heap.size, 0, none⟩)) true ty).run Try.prog (w.iter s i) = .ok (.tuple #[.bool false]) (w.iter s i) := fun ty => run_next_end w s i ty (by rw [HSZ.out]; exact hin)
      have hpre := HP.out.1
      rw [List.take_of_length_le (by rw [HN.out]; omega)] at hpre
      have hfe := fault_end hpre
      rw [HN.out, HF.out] at hfe
      have HFE := Lib.hid hfe
      clear hpre hfe HP e
      by_cases h4 : n % 4 = 0
      · have f1 : ((n : Int) % 4 == 0) = true := by simp; omega
        have f2 : ((n : Int) % 4 != 0) = false := by simp; omega
        have HH := Lib.hid h4
        clear h4
        go_wp2
        go_ret
        exact ⟨ret_int (by rw [HFE.out, if_pos HH.out]), below_iter w s _⟩
      · have f1 : ((n : Int) % 4 == 0) = false := by simp; omega
        have f2 : ((n : Int) % 4 != 0) = true := by simp; omega
        have HH := Lib.hid h4
        clear h4
        go_wp2
        go_ret
        exact ⟨ret_int (by rw [HFE.out, if_neg HH.out]), below_iter w s _⟩
end Go.Proofs.Ytmpmlmhphnpdlaa
