/-
  Proved here: the law UtfBack.
-/
import Derived.Test.YtidjcbnjadlbaaaUl
import Derived.Test.YtidjcbnjadlbaaaOs
set_option linter.unusedSimpArgs false
set_option linter.unusedVariables false
namespace Go.Proofs.Ytidjcbnjadlbaaa
open Go.RowKit
theorem range_at {bs : List Int} {n : Nat} (hl : bs.length = n) (h : ∀ x ∈ bs, 0 ≤ x ∧ x < 256) : ∀ j, j < n → 0 ≤ bs.getD j 0 ∧ bs.getD j 0 < 256 := fun j hj => by
  subst hl
  have := h (bs.getD j 0) (by simp [List.getD, hj])
  exact this
theorem bytesP_range {p : Int} (hp : isP p = true) : ∀ x ∈ bytesP p, 0 ≤ x ∧ x < 256 := by
  rw [isP_iff] at hp
  unfold bytesP
  intro x hx
  split at hx
  · simp at hx; omega
  · split at hx
    · simp at hx; omega
    · split at hx
      · simp at hx; omega
      · simp at hx; omega
theorem bytesL_range : ∀ l : List Int, ∀ x ∈ bytesL l, 0 ≤ x ∧ x < 256
  | [], x, hx => by simp [bytesL] at hx
  | p :: r, x, hx => by
    rw [bytesL] at hx
    rcases List.mem_append.1 hx with h | h
    · exact bytesP_range (fixP_isP p) x h
    · exact bytesL_range r x h
theorem points_back {l : List Int} (h : ∀ p ∈ l, isP p = true) : pointsS (bytesL l) = l := by
  unfold pointsS
  rw [read_back l h]; simp
theorem filter_snoc {l : List Int} {i : Nat} {p : Int} (hi : i < l.length) (hp : l.getD i 0 = p) : (l.take (i + 1)).filter isP = (l.take i).filter isP ++ (if isP p then [p] else []) := by
  rw [take_succ hi, hp, List.filter_append]
  congr 1
  cases h : isP p <;> simp [List.filter, h]
theorem Own32.rd {w W : World} {A : Option Addr} {n c : Nat} {xs : List Int} (h : Own32 w (.slice A n c) xs W) : RI .i32 W A xs ∧ n = xs.length ∧ (A = none → c = 0) := by
  obtain ⟨A', c', e, hA, hR, _⟩ := h.lies.at_
  injection e with e1 e2 e3
  subst e1 e2 e3
  exact ⟨hR, rfl, hA⟩
set_option maxRecDepth 100000 in
set_option maxHeartbeats 1000000 in
theorem back_law {w : World} {A B : Option Addr} {n c m d : Nat} {ls bs : List Int} (hs : SlI .i32 w A n c ls) (hs2 : SlI .u8 w B m d bs) :
    Calls Try.prog 5 #[.slice A n c, .slice B m d] w fun e w' => e = .returned (.bool true) ∧ Below w.heap.size w w' := by
  have HR := Lib.hid (sl_ri hs)
  have HL := Lib.hid hs.len_eq
  have HR2 := Lib.hid (sl_ri hs2)
  have HL2 := Lib.hid hs2.len_eq
  have HB2 := Lib.hid (sl_u8 hs2)
  clear hs hs2
  by_cases hbig : 500 < n ∨ 2000 < m
  · by_cases h1 : 500 < n
    · have d1 : decide ((500 : Int) < (n : Int)) = true := by simp; omega
      have d2 : decide (500 < n) = true := by simp; omega
      clear hbig
      go_enter Try.func5, Try.ntmps5
      go_wp2_with fail
      refine (alive_any w).mono ?_
      rintro e w1 ⟨rfl, b1⟩
      go_wp2
      go_ret
      exact ⟨rfl, b1⟩
    · have d1 : decide ((500 : Int) < (n : Int)) = false := by simp; omega
      have d2 : decide (500 < n) = false := by simp; omega
      have d3 : decide ((2000 : Int) < (m : Int)) = true := by simp; omega
      have d4 : decide (2000 < m) = true := by simp; omega
      clear hbig h1
      go_enter Try.func5, Try.ntmps5
      go_wp2_with fail
      refine (alive_any w).mono ?_
      rintro e w1 ⟨rfl, b1⟩
      go_wp2
      go_ret
      exact ⟨rfl, b1⟩
  · have d1 : decide ((500 : Int) < (n : Int)) = false := by simp; omega
    have d2 : decide (500 < n) = false := by simp; omega
    have d3 : decide ((2000 : Int) < (m : Int)) = false := by simp; omega
    have d4 : decide (2000 < m) = false := by simp; omega
    have h1 : n ≤ 500 := by omega
    have h2 : m ≤ 2000 := by omega
    have HO0 : Hid (Own32 w (.slice none 0 0) ((ls.take 0).filter isP) w) := Lib.hid (Own32.new w)
    clear hbig
    go_enter Try.func5, Try.ntmps5
    go_wp2
    go_loopw [5, 6] (fun ov iv wr => ∃ (v : Value) (i : Nat), v = ov ∧ iv = .int .i64 i ∧ i ≤ n ∧ Hid (Own32 w v ((ls.take i).filter isP) wr)) (fun _ iv _ => n - (intOf iv).toNat)
    case atStart => exact ⟨_, 0, rfl, rfl, by omega, HO0⟩
    case round =>
      obtain ⟨v, i, rfl, rfl, hi, HO⟩ := hrel
      clear HO0
      by_cases hin : i < n
      · have d5 : decide ((i : Int) < (n : Int)) = true := by simp; omega
        have d6 : decide (i < n) = true := by simp; omega
        obtain ⟨bl, off, rfl, hbl, hc⟩ := HR.out (by rw [HL.out]; omega)
        have e0 := (HO.out.below.cell (p := ⟨bl, off + i, none⟩) hbl).trans (hc i (by rw [HL.out]; exact hin))
        obtain ⟨p, hp⟩ : ∃ p, ls.getD i 0 = p := ⟨_, rfl⟩
        rw [hp] at e0
        have hfs := filter_snoc (l := ls) (i := i) (by rw [HL.out]; exact hin) hp
        have hlen : ((ls.take i).filter isP).length ≤ i := Nat.le_trans (List.length_filter_le _ _) (by simp; omega)
        have g3 : (0 : Int) ≤ (i : Int) := by omega
        have g4 : (i : Int) < (n : Int) := by omega
        obtain ⟨y, hy⟩ : ∃ y, isP p = y := ⟨_, rfl⟩
        have HIS := Lib.hid (fun W : World => hy ▸ is_any p W)
        rw [hy] at hfs
        clear hc hp hy
        cases y
        · simp only [Bool.false_eq_true, if_false, List.append_nil] at hfs
          have HO4 : Hid (Own32 w v ((ls.take (i + 1)).filter isP) wr) := Lib.hid (by rw [hfs]; exact HO.out)
          clear hfs hlen HO
          go_wp2_with fail
          refine (HIS.out _).mono ?_
          rintro e wx ⟨rfl, rfl⟩
          go_wp2
          go_roundw
          case rel => exact ⟨_, i + 1, rfl, by go_num, by omega, HO4⟩
          case measure => simp [intOf]; omega
        · simp only [if_true] at hfs
          obtain ⟨A4, c4, w4, hrun, hO4⟩ := HO.out.app (by omega) p
          rw [← hfs] at hO4
          have HRUN := Lib.hid hrun
          have HO4 := Lib.hid hO4
          clear hfs hlen HO hrun hO4
          go_wp2_with fail
          refine (HIS.out _).mono ?_
          rintro e wx ⟨rfl, rfl⟩
          go_wp2_with (first | (at_builtin; refine wpList_app rfl (.tmp 29) (.tmp 34) _ rfl _ _ rfl rfl HRUN.out ?_))
          go_roundw
          case rel => exact ⟨_, i + 1, rfl, by go_num, by omega, HO4⟩
          case measure => simp [intOf]; omega
      · have e : i = n := by omega
        have d5 : decide ((i : Int) < (n : Int)) = false := by simp; omega
        have d6 : decide (i < n) = false := by simp; omega
        have hO := HO.out
        rw [List.take_of_length_le (by rw [HL.out]; omega)] at hO
        obtain ⟨rt, hrt⟩ : ∃ rt, ls.filter isP = rt := ⟨_, rfl⟩
        have hall : ∀ p ∈ rt, isP p = true := fun p hp => by rw [← hrt] at hp; exact (List.mem_filter.1 hp).2
        have hrl : rt.length ≤ 500 := by rw [← hrt]; have := List.length_filter_le isP ls; rw [HL.out] at this; omega
        rw [hrt] at hO
        have HO4 := Lib.hid hO
        have HALL := Lib.hid hall
        have HPT := Lib.hid (points_any (c := d) (HR2.out.below hO.below) HL2.out (by omega) (range_at HL2.out HB2.out))
        clear hO HO e hrt hall HR HL
        go_wp2_with fail
        refine HPT.out.mono ?_
        rintro e w2 ⟨v2, rfl, o2⟩
        obtain ⟨A2, c2, rfl, _⟩ := own_slice o2.own
        obtain ⟨hR3, _, _⟩ := o2.rd
        obtain ⟨ps, hps⟩ : ∃ ps, pointsS bs = ps := ⟨_, rfl⟩
        rw [hps] at hR3
        have hpi : ∀ p ∈ ps, isP p = true := by rw [← hps]; exact points_isP HB2.out
        have hpl := points_len bs
        rw [hps, HL2.out] at hpl
        have hpl2 : bs ≠ [] ↔ m ≠ 0 := by rw [← HL2.out]; simp
        rw [hpl2] at hpl
        obtain ⟨k, hk⟩ : ∃ k, ps.length = k := ⟨_, rfl⟩
        have hlen : (pointsS bs).length = k := by rw [hps]; exact hk
        rw [hlen] at *
        rw [hk] at hpl
        obtain ⟨hk1, hk2⟩ := hpl
        have HR3 := Lib.hid hR3
        have HPI := Lib.hid hpi
        have HK := Lib.hid hk
        have HB3 := Lib.hid o2.below
        have HO5 := Lib.hid (HO4.out.to o2.below)
        clear HPT o2 hR3 hps hpi hpl2 hk hlen HO4
        go_wp2
        go_loopw [8] (fun iv wr => ∃ (i : Nat), iv = .int .i64 i ∧ i ≤ k ∧ wr = w2) (fun iv _ => k - (intOf iv).toNat)
        case atStart => exact ⟨0, rfl, by omega, rfl⟩
        case round =>
          obtain ⟨q, rfl, hq, rfl⟩ := hrel
          by_cases hqk : q < k
          · have d7 : decide ((q : Int) < (k : Int)) = true := by simp; omega
            have d8 : decide (q < k) = true := by simp; omega
            obtain ⟨bl, off, rfl, hbl, hc⟩ := HR3.out (by rw [HK.out]; omega)
            have e0 := hc q (by rw [HK.out]; exact hqk)
            obtain ⟨p, hp⟩ : ∃ p, ps.getD q 0 = p := ⟨_, rfl⟩
            rw [hp] at e0
            have hy : isP p = true := HPI.out p (by rw [← hp]; have := HK.out; simp [List.getD, this, hqk])
            have HIS := Lib.hid (fun W : World => hy ▸ is_any p W)
            have g3 : (0 : Int) ≤ (q : Int) := by omega
            have g4 : (q : Int) < (k : Int) := by omega
            clear hc hp hy
            go_wp2_with fail
            refine (HIS.out _).mono ?_
            rintro e wx ⟨rfl, rfl⟩
            go_wp2
            go_roundw
            case rel => exact ⟨q + 1, by simp, by omega, by simp⟩
            case measure => simp [intOf]; omega
          · have e : q = k := by omega
            have d7 : decide ((q : Int) < (k : Int)) = false := by simp; omega
            have d8 : decide (q < k) = false := by simp; omega
            clear e
            go_wp2_with fail
            refine (alive_any _).mono ?_
            rintro e w3 ⟨rfl, b3⟩
            have HO6 := Lib.hid (HO5.out.to b3)
            obtain ⟨A6, c6, rfl, _⟩ := own_slice HO6.out.own
            obtain ⟨hR6, _, _⟩ := HO6.out.rd
            have HPB := Lib.hid (pbytes_any (c := c6) hR6 rfl (by omega))
            have HR6 := Lib.hid hR6
            clear b3 hR6 HO5
            go_wp2_with fail
            refine HPB.out.mono ?_
            rintro e w4 ⟨v4, rfl, o4⟩
            obtain ⟨A4, c4, rfl, _⟩ := own_slice o4.own
            have hBL := bytesL_len rt
            have HP2 := Lib.hid (points_any (c := c4) o4.ri.1 o4.ri.2.symm (by omega) (range_at o4.ri.2.symm (bytesL_range rt)))
            have HR7 := Lib.hid (HR6.out.below o4.below)
            have HO7 := Lib.hid (HO6.out.to o4.below)
            clear HPB o4 HR6 HO6
            go_wp2_with fail
            refine HP2.out.mono ?_
            rintro e w5 ⟨v5, rfl, o5⟩
            rw [points_back HALL.out] at o5
            obtain ⟨A5, c5, rfl, _⟩ := own_slice o5.own
            obtain ⟨hR8, hl8, _⟩ := o5.rd
            have HSM := Lib.hid (same_yes (c := c5) (d := c6) hR8 (HR7.out.below o5.below) hl8.symm rfl (by omega) rfl)
            have HO8 := Lib.hid (HO7.out.to o5.below)
            clear HP2 o5 hR8 HR7 HO7 hl8
            go_wp2_with fail
            refine HSM.out.mono ?_
            rintro e w6 ⟨rfl, b6⟩
            have HO9 := Lib.hid (HO8.out.to b6)
            clear HSM b6 HO8
            have x1 : decide ((k : Int) ≤ (m : Int)) = true := by simp; omega
            have x2 : decide (k ≤ m) = true := by simp; omega
            by_cases hm0 : m = 0
            · have x3 : ((m : Int) == 0) = true := by simp; omega
              clear hk2
              go_wp2
              go_ret
              exact ⟨rfl, HO9.out.below⟩
            · have x3 : ((m : Int) == 0) = false := by simp; omega
              have x4 : decide ((0 : Int) < (k : Int)) = true := by have := hk2 hm0; simp; omega
              have x5 : decide (0 < k) = true := by have := hk2 hm0; simp; omega
              clear hk2
              go_wp2
              go_ret
              exact ⟨rfl, HO9.out.below⟩
end Go.Proofs.Ytidjcbnjadlbaaa
