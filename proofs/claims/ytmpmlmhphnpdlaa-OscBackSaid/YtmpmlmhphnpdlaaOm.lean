/-
  Proved here: strings.Cut at a semicolon, and the program's Cut and what goes ahead of a clipping.
-/
import Derived.Test.YtmpmlmhphnpdlaaBj
import Derived.Test.YtmpmlmhphnpdlaaBs
import Derived.Test.YtmpmlmhphnpdlaaOl
import Derived.Lib.IndexLaws
set_option linter.unusedSimpArgs false
set_option linter.unusedVariables false
namespace Go.Proofs.Ytmpmlmhphnpdlaa
open Go.RowKit
theorem str_bytes8 {l : List Int} (h : IsBytes l) (k : Nat) : (strOfNums l).data.toList[k]? = (l[k]?).map (fun n => UInt8.ofNat n.toNat) := by
  rw [strOfNums_data]; simp
theorem u8_eq59 {x : Int} (h : 0 ≤ x ∧ x < 256) : UInt8.ofNat x.toNat = 59 ↔ x = 59 := by
  constructor
  · intro e
    have e := congrArg UInt8.toNat e
    simp only [UInt8.toNat_ofNat'] at e
    have : (59 : UInt8).toNat = 59 := rfl
    omega
  · rintro rfl; rfl
/-- Where the first semicolon stands. -/
theorem ix_miss {l : List Int} (hb : IsBytes l) (h : (59 : Int) ∉ l) : Lib.indexByte (strOfNums l).data.toList 59 = -1 := by
  have hge := Lib.indexByte_ge (strOfNums l).data.toList 59
  by_cases e : Lib.indexByte (strOfNums l).data.toList 59 = -1
  · exact e
  · obtain ⟨o, ho⟩ : ∃ o : Nat, Lib.indexByte (strOfNums l).data.toList 59 = o := ⟨(Lib.indexByte (strOfNums l).data.toList 59).toNat, by omega⟩
    have h1 := (Lib.indexByte_some ho).1
    rw [str_bytes8 hb] at h1
    obtain ⟨x, hx, hx2⟩ := Option.map_eq_some_iff.1 h1
    have hm := List.mem_of_getElem? hx
    rw [u8_eq59 (hb x hm)] at hx2
    subst hx2
    exact absurd hm h
theorem ix_hit {n r : List Int} (hb : IsBytes (n ++ 59 :: r)) (h : (59 : Int) ∉ n) : Lib.indexByte (strOfNums (n ++ 59 :: r)).data.toList 59 = n.length := by
  have hge := Lib.indexByte_ge (strOfNums (n ++ 59 :: r)).data.toList 59
  have hat : (strOfNums (n ++ 59 :: r)).data.toList[n.length]? = some 59 := by rw [str_bytes8 hb]; simp
  by_cases e : Lib.indexByte (strOfNums (n ++ 59 :: r)).data.toList 59 = -1
  · exact absurd hat (Lib.indexByte_none e n.length)
  · obtain ⟨o, ho⟩ : ∃ o : Nat, Lib.indexByte (strOfNums (n ++ 59 :: r)).data.toList 59 = o := ⟨(Lib.indexByte (strOfNums (n ++ 59 :: r)).data.toList 59).toNat, by omega⟩
    obtain ⟨h1, h2⟩ := Lib.indexByte_some ho
    rw [ho]
    have g1 : ¬ n.length < o := fun hlt => h2 n.length hlt hat
    have g2 : ¬ o < n.length := fun hlt => by
      rw [str_bytes8 hb] at h1
      rw [List.getElem?_append_left hlt] at h1
      obtain ⟨x, hx, hx2⟩ := Option.map_eq_some_iff.1 h1
      have hm := List.mem_of_getElem? hx
      rw [u8_eq59 (hb x (List.mem_append_left _ hm))] at hx2
      subst hx2
      exact absurd hm h
    omega
theorem str_front (a b : List Int) : (strOfNums (a ++ b)).extract 0 a.length = strOfNums a := by
  apply ByteArray.ext
  apply Array.ext'
  simp [strOfNums, ByteArray.data_extract]
theorem str_back (a b : List Int) : (strOfNums (a ++ b)).extract a.length (a.length + b.length) = strOfNums b := by
  apply ByteArray.ext
  apply Array.ext'
  simp [strOfNums, ByteArray.data_extract]
  rw [List.take_of_length_le (by simp)]
set_option maxRecDepth 100000 in
/-- Index of a semicolon. -/
theorem ix_any {s : ByteArray} {v : Int} (hv : Lib.indexByte s.data.toList 59 = v) (w : World) : Calls Try.prog 82 #[.string s, .string ⟨#[59]⟩] w fun e w' => e = .returned (.int .i64 v) ∧ w = w' := by
  have HV := Lib.hid (fun (_ : Unit) => hv)
  clear hv
  by_cases h : (⟨#[59]⟩ : ByteArray) = s
  · subst h
    have e : v = 0 := by rw [← HV.out ()]; rfl
    subst e
    clear HV
    go_enter Try.func82, Try.ntmps82
    go_wp2
    go_ret
    exact ⟨rfl, rfl⟩
  · have q : (([59] : List UInt8) == s.toList) = false := by
      rw [beq_eq_false_iff_ne]
      intro e
      apply h
      apply ByteArray.ext
      rw [ByteArray.toList_eq] at e
      exact Array.ext' e
    have HS := Lib.hid (fun W => slIndexByte s 59 W)
    clear h
    go_enter Try.func82, Try.ntmps82
    go_wp2_with fail
    refine (HS.out _).mono ?_
    rintro e wx ⟨rfl, rfl⟩
    rw [show Lib.indexByte s.data.toList (59 : Int).toNat.toUInt8 = v from HV.out ()]
    go_wp2
    go_ret
    exact ⟨rfl, rfl⟩
theorem slcut_hit {s : ByteArray} {m : Nat} (hv : Lib.indexByte s.data.toList 59 = (m : Int)) (hm : m + 1 ≤ s.size) (hs : s.size ≤ 1000000000) (w : World) :
    Calls Try.prog 76 #[.string s, .string ⟨#[59]⟩] w fun e w' => e = .returned (.tuple #[.string (s.extract 0 m), .string (s.extract (m + 1) s.size), .bool true]) ∧ ∃ k, w' = w.drewN k := by
  have HI := Lib.hid (fun W => ix_any hv W)
  obtain ⟨z, hz⟩ : ∃ z, s.size = z := ⟨_, rfl⟩
  rw [hz] at hm hs
  rw [hz]
  have c1 : (0 : Int) ≤ (m : Int) := by omega
  have c2 : (m : Int) ≤ (z : Int) := by omega
  have c3 : (m : Int) + 1 ≤ (z : Int) := by omega
  have c5 : (0 : Int) ≤ (m : Int) + 1 := by omega
  have w1 : IntKind.i64.wrap ((m : Int) + 1) = (m : Int) + 1 := IntWalk.i64_in _ (by omega)
  have d1 : decide ((0 : Int) ≤ (m : Int)) = true := by simp
  clear hv
  go_enter Try.func76, Try.ntmps76
  go_wp2_with fail
  refine (HI.out _).mono ?_
  rintro e wx ⟨rfl, rfl⟩
  go_wp2
  go_region
  go_wp2
  go_ret3
  exact ⟨rfl, 1, rfl⟩
theorem slcut_miss {s : ByteArray} (hv : Lib.indexByte s.data.toList 59 = -1) (w : World) :
    Calls Try.prog 76 #[.string s, .string ⟨#[59]⟩] w fun e w' => e = .returned (.tuple #[.string s, .string ⟨#[]⟩, .bool false]) ∧ ∃ k, w' = w.drewN k := by
  have HI := Lib.hid (fun W => ix_any hv W)
  clear hv
  go_enter Try.func76, Try.ntmps76
  go_wp2_with fail
  refine (HI.out _).mono ?_
  rintro e wx ⟨rfl, rfl⟩
  go_wp2
  go_ret3
  exact ⟨rfl, 0, rfl⟩
/-- strings.Cut at a semicolon. -/
theorem cut_hit {n r : List Int} (hb : IsBytes (n ++ 59 :: r)) (h : (59 : Int) ∉ n) (hl : (n ++ 59 :: r).length ≤ 1000000) (w : World) :
    Calls Try.prog 71 #[.string (strOfNums (n ++ 59 :: r)), .string ⟨#[59]⟩] w fun e w' => e = .returned (.tuple #[.string (strOfNums n), .string (strOfNums r), .bool true]) ∧ Below w.heap.size w w' := by
  have hsz := strOfNums_size (n ++ 59 :: r)
  have HC := Lib.hid (slcut_hit (ix_hit hb h) (by rw [hsz]; simp) (by rw [hsz]; omega) w)
  have e1 : (strOfNums (n ++ 59 :: r)).extract 0 n.length = strOfNums n := str_front _ _
  have e2 : (strOfNums (n ++ 59 :: r)).extract (n.length + 1) (strOfNums (n ++ 59 :: r)).size = strOfNums r := by
    have := str_back (n ++ [59]) r
    rw [hsz]
    simpa [Nat.add_assoc, Nat.add_comm, Nat.add_left_comm] using this
  rw [e1, e2] at HC
  clear e1 e2 hsz hb h hl
  generalize strOfNums (n ++ 59 :: r) = s at HC ⊢
  go_enter Try.func71, Try.ntmps71
  go_wp2_with fail
  refine HC.out.mono ?_
  rintro e wx ⟨rfl, k, rfl⟩
  go_wp2
  go_ret3
  exact ⟨rfl, belowN (Below.refl _ _) k⟩
theorem cut_miss {l : List Int} (hb : IsBytes l) (h : (59 : Int) ∉ l) (w : World) :
    Calls Try.prog 71 #[.string (strOfNums l), .string ⟨#[59]⟩] w fun e w' => e = .returned (.tuple #[.string (strOfNums l), .string ⟨#[]⟩, .bool false]) ∧ Below w.heap.size w w' := by
  have HC := Lib.hid (slcut_miss (ix_miss hb h) w)
  clear hb h
  generalize strOfNums l = s at HC ⊢
  go_enter Try.func71, Try.ntmps71
  go_wp2_with fail
  refine HC.out.mono ?_
  rintro e wx ⟨rfl, k, rfl⟩
  go_wp2
  go_ret3
  exact ⟨rfl, belowN (Below.refl _ _) k⟩
theorem follows_any (c : Int) (w : World) : Calls Try.prog 65 #[.int .u8 c] w fun e w' => e = .returned (.bool (folB c)) ∧ w = w' := by
  by_cases h1 : 128 ≤ c
  · have d1 : decide (128 ≤ c) = true := by simpa using h1
    go_enter Try.func65, Try.ntmps65
    go_wp2
    go_ret
    exact ⟨by unfold folB; rw [d1]; rfl, rfl⟩
  · have d1 : decide (128 ≤ c) = false := by simpa using h1
    go_enter Try.func65, Try.ntmps65
    go_wp2
    go_ret
    exact ⟨by unfold folB; rw [d1]; rfl, rfl⟩
theorem cutAt_succ (l : List Int) (k : Nat) : cutAt l (k + 1) = if folB (l.getD (k + 1) 0) = true then cutAt l k else k + 1 := rfl
theorem str_take (t : List Int) (i : Nat) : (strOfNums t).extract 0 i = strOfNums (t.take i) := by
  apply ByteArray.ext
  apply Array.ext'
  simp [strOfNums, ByteArray.data_extract, List.map_take]
set_option maxHeartbeats 1000000 in
/-- The program's Cut. -/
theorem ocut_any {w : World} {t : List Int} (ht : IsBytes t) (hl : t.length ≤ 1000000) (most : Int) (hm : -9223372036854775808 ≤ most ∧ most < 9223372036854775808) :
    Calls Try.prog 38 #[.string (strOfNums t), .int .i64 most] w fun e w' => e = .returned (.string (strOfNums (cutS t most))) ∧ w = w' := by
  have hsz := strOfNums_size t
  obtain ⟨n, hn⟩ : ∃ n, t.length = n := ⟨_, rfl⟩
  rw [hn] at hsz hl
  by_cases h1 : most < 1
  · have d1 : decide (most < 1) = true := by simpa using h1
    have e : strOfNums (cutS t most) = ⟨#[]⟩ := by
      have e2 : cutS t most = [] := by
        by_cases h2 : (t.length : Int) ≤ most
        · rw [cutS_all h2]; exact List.eq_nil_of_length_eq_zero (by omega)
        · have h3 := cutS_part (l := t) (most := most) (by omega)
          exact List.eq_nil_of_length_eq_zero (by omega)
      rw [e2]; rfl
    rw [e]
    clear e hm
    generalize strOfNums t = s at hsz ⊢
    go_enter Try.func38, Try.ntmps38
    go_wp2
    go_ret
    exact ⟨rfl, rfl⟩
  have d1 : decide (most < 1) = false := by simpa using h1
  obtain ⟨m, rfl⟩ : ∃ m : Nat, most = m := ⟨most.toNat, by omega⟩
  by_cases h2 : n ≤ m
  · have d2 : decide ((n : Int) ≤ (m : Int)) = true := by simp; omega
    have d2' : decide (n ≤ m) = true := by simp; omega
    rw [cutS_all (by rw [hn]; omega)]
    generalize strOfNums t = s at hsz ⊢
    go_enter Try.func38, Try.ntmps38
    go_wp2
    go_ret
    exact ⟨rfl, rfl⟩
  have d2 : decide ((n : Int) ≤ (m : Int)) = false := by simp; omega
  have d2' : decide (n ≤ m) = false := by simp; omega
  have hp := (cutS_part (l := t) (most := (m : Int)) (by rw [hn]; omega)).1
  rw [Int.toNat_natCast] at hp
  have HP := Lib.hid (fun (_ : Unit) => show strOfNums (cutS t (m : Int)) = strOfNums (t.take (cutAt t m)) from by rw [hp])
  have HAT := Lib.hid (fun (i : Nat) (hi : i < t.length) (h : i < (strOfNums t).size) => str_at ht hi h)
  have HTK := Lib.hid (fun i => str_take t i)
  have HN := Lib.hid (fun (_ : Unit) => hn)
  have hmn : m < n := by omega
  have HM := Lib.hid (fun (_ : Unit) => hmn)
  obtain ⟨R, hR⟩ : ∃ R, strOfNums (cutS t (m : Int)) = R := ⟨_, rfl⟩
  rw [hR]
  rw [hR] at HP
  clear hp ht hn hm h1 h2 hR hmn
  generalize strOfNums t = s at hsz HAT HTK ⊢
  go_enter Try.func38, Try.ntmps38
  go_wp2
  clear d2 d2' d1
  go_loopw [1] (fun mv wr => wr = w ∧ ∃ k : Nat, mv = .int .i64 k ∧ k ≤ m ∧ Hid (cutAt t m = cutAt t k)) (fun mv _ => (intOf mv).toNat)
  case atStart => exact ⟨rfl, m, rfl, Nat.le_refl _, Lib.hid rfl⟩
  case round =>
    obtain ⟨rfl, k, rfl, hk, HK⟩ := hrel
    have hkn := HM.out ()
    have g1 : (0 : Int) ≤ (k : Int) := by omega
    have g2 : (k : Int) < (n : Int) := by omega
    by_cases hk0 : k = 0
    · subst hk0
      have hcut : R = ByteArray.empty := by
        rw [HP.out (), HK.out]
        show strOfNums (t.take 0) = _
        rw [List.take_zero]; rfl
      subst hcut
      clear HM hkn
      go_wp2
      go_ret
      exact ⟨rfl, rfl⟩
    · obtain ⟨j, rfl⟩ : ∃ j, k = j + 1 := ⟨k - 1, by omega⟩
      have d3 : decide ((0 : Int) < ((j + 1 : Nat) : Int)) = true := by simp
      have w1 : IntKind.i64.wrap (((j + 1 : Nat) : Int) - 1) = (j : Int) := by rw [show ((j + 1 : Nat) : Int) - 1 = (j : Int) by omega]; exact IntWalk.i64_in _ (by omega)
      have HF := Lib.hid (fun (h : j + 1 < s.size) => HAT.out (j + 1) (by rw [HN.out ()]; omega) h)
      have HTK1 := HTK.out (j + 1)
      by_cases hf : folB (t.getD (j + 1) 0) = true
      · have HK' := Lib.hid (show cutAt t m = cutAt t j from by rw [HK.out, cutAt_succ, if_pos hf])
        clear HTK1
        go_wp2_with fail
        refine (follows_any _ _).mono ?_
        rintro e wx ⟨rfl, rfl⟩
        rw [HF.out _, hf]
        go_wp2
        go_roundw
        case rel => exact ⟨trivial, j, by go_num, by omega, HK'⟩
        case measure => simp [intOf]
      · have hcut : R = s.extract 0 (j + 1) := by rw [HTK1, HP.out (), HK.out, cutAt_succ, if_neg hf]
        have hf' : folB (t.getD (j + 1) 0) = false := by simpa using hf
        subst hcut
        clear HTK1 HM
        go_wp2_with fail
        refine (follows_any _ _).mono ?_
        rintro e wx ⟨rfl, rfl⟩
        rw [HF.out _, hf']
        go_wp2
        go_ret
        exact ⟨rfl, rfl⟩
end Go.Proofs.Ytmpmlmhphnpdlaa
