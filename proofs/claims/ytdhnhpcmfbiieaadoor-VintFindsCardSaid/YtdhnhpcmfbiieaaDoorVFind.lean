/-
  Proved here: for every slice that reads as fields and every tag, Find and the document's own Find answer what 'findS' says: the data of the first field with the tag, or nothing and false.
-/
import Derived.Test.YtdhnhpcmfbiieaaDoorVAs
namespace Go.Proofs.YtdhnhpcmfbiieaaDoor
open Go.RowKit

/-- The data of the first field with the tag, and whether there is one. -/
def findS (t : Int) : List Fld → List Int × Bool
  | [] => ([], false)
  | f :: r => if f.1 = t then (f.2, true) else findS t r
theorem findS_no {t : Int} : ∀ {fs : List Fld}, (∀ j, j < fs.length → (fAt fs j).1 ≠ t) → findS t fs = ([], false)
  | [], _ => rfl
  | f :: r, h => by
    have h0 := h 0 (by simp)
    rw [findS, if_neg (by simpa [fAt] using h0)]
    exact findS_no (fun j hj => by simpa [fAt] using h (j + 1) (by simpa using hj))
theorem findS_yes {t : Int} : ∀ {fs : List Fld} {k : Nat}, k < fs.length → (∀ j, j < k → (fAt fs j).1 ≠ t) → (fAt fs k).1 = t → findS t fs = ((fAt fs k).2, true)
  | [], _, hk, _, _ => absurd hk (by simp)
  | f :: r, 0, _, _, he => by
    have : f.1 = t := by simpa [fAt] using he
    rw [findS, if_pos this]
    simp [fAt]
  | f :: r, k + 1, hk, h, he => by
    have h0 := h 0 (by omega)
    rw [findS, if_neg (by simpa [fAt] using h0)]
    have := findS_yes (fs := r) (k := k) (by simpa using hk) (fun j hj => by simpa [fAt] using h (j + 1) (by omega)) (by simpa [fAt] using he)
    rw [this]
    simp [fAt]

def FindPost (R : List Int × Bool) (w : World) (e : Ending) (w' : World) : Prop :=
  ∃ v, e = .returned (.tuple #[v, .bool R.2]) ∧ w'.ownsRow w.heap.size 5 1 v R.1.length (B8 R.1) ∧ Below w.heap.size w w'
def RFindPost (R : List Int × Bool) (w : World) (e : Ending) (w' : World) : Prop :=
  ∃ v, e = .returned (.tuple #[v, .bool R.2]) ∧ DVal w w.heap.size v R.1 ∧ w = w'

set_option maxHeartbeats 1000000 in
theorem find_any (fs : List Fld) (t : Int) (A : Option Addr) (cap : Nat) (w : World) (hF : FS w w.heap.size A fs) (hl : fs.length ≤ maxLen) (hd : ∀ i, i < fs.length → (fAt fs i).2.length ≤ 140737488351232) :
    Calls Tryd.prog 23 #[.slice A fs.length cap, .int .u8 t] w (FindPost (findS t fs) w) := by
  unfold maxLen at hl
  have HF := Lib.hid hF
  have HD := Lib.hid hd
  clear hF hd
  go_enter Tryd.func23, Tryd.ntmps23
  go_wp2
  go_loopw [7, 10] (fun _ i wr => ∃ k : Nat, k ≤ fs.length ∧ i = .int .i64 k ∧ Below w.heap.size w wr ∧ ∀ j, j < k → (fAt fs j).1 ≠ t) (fun _ i _ => fs.length - (intOf i).toNat)
  case atStart => exact ⟨0, by omega, rfl, Below.refl _ _, fun j h => absurd h (by omega)⟩
  case round =>
    obtain ⟨k, hk, rfl, hbel, hj⟩ := hrel
    have HJ := Lib.hid hj
    clear hj
    have hbs := hbel.size
    by_cases hlt : k < fs.length
    · obtain ⟨b, off, hA, hb, hc⟩ := (HF.out.below hbel) (by omega)
      subst hA
      obtain ⟨ct, D, cD, hcd, hRB, _, _, hDn⟩ := hc k hlt
      have hdl := HD.out k hlt
      clear hc
      by_cases he : (fAt fs k).1 = t
      · have HY := Lib.hid (findS_yes hlt HJ.out he)
        obtain ⟨d, hd⟩ : ∃ d, (fAt fs k).2 = d := ⟨_, rfl⟩
        rw [hd] at hcd hRB hdl HY
        rw [he] at ct
        clear hd he
        have tt : (t == t) = true := by simp
        have hRB' : RB (wr.alloc (.cells #[.int .u8 t, .slice D d.length cD] 54)) (wr.alloc (.cells #[.int .u8 t, .slice D d.length cD] 54)).heap.size D d := (hRB.alloc hbs _).keep' (by simp; omega)
        go_wp2_with fail
        refine (clone_any d D cD _ hRB' hdl hDn).mono ?_
        rintro e w1 ⟨v, rfl, hv, hb1⟩
        have hb2 : Below w.heap.size w w1 := (hbel.alloc hbs _).trans (hb1.mono (by simp; omega))
        go_wp2
        go_ret2
        rw [HY.out]
        exact ⟨v, rfl, own_mono hv (by simp; omega), hb2⟩
      · have bn : ((fAt fs k).1 == t) = false := beq_eq_false_iff_ne.2 he
        obtain ⟨u, hu⟩ : ∃ u, (fAt fs k).1 = u := ⟨_, rfl⟩
        have HE : Hid ((fAt fs k).1 ≠ t) := he
        rw [hu] at ct bn
        clear hu he
        obtain ⟨n, hn⟩ : ∃ n, (fAt fs k).2.length = n := ⟨_, rfl⟩
        rw [hn] at hcd
        clear hn
        go_wp2
        go_roundw
        case rel =>
          refine ⟨k + 1, by omega, by go_num, hbel.alloc hbs _, fun j hj => ?_⟩
          rcases Nat.lt_or_ge j k with h' | h'
          · exact HJ.out j h'
          · obtain rfl : j = k := by omega
            exact HE.out
        case measure => simp [intOf]; omega
    · have HY := Lib.hid (findS_no (t := t) (fs := fs) (fun j hj => HJ.out j (by omega)))
      go_wp2
      go_ret2
      rw [HY.out]
      exact ⟨_, rfl, World.ownsRow_nil _ _ _ _, hbel⟩

set_option maxHeartbeats 1000000 in
theorem rfind_any (fs : List Fld) (t : Int) (A : Option Addr) (cap : Nat) (w : World) (hF : FS w w.heap.size A fs) (hl : fs.length ≤ maxLen) :
    Calls Tryd.prog 24 #[.slice A fs.length cap, .int .u8 t] w (RFindPost (findS t fs) w) := by
  unfold maxLen at hl
  have HF := Lib.hid hF
  clear hF
  go_enter Tryd.func24, Tryd.ntmps24
  go_wp2
  go_loop [6] (fun i => ∃ k : Nat, k ≤ fs.length ∧ i = .int .i64 k ∧ ∀ j, j < k → (fAt fs j).1 ≠ t) (fun i => fs.length - (intOf i).toNat)
  case atStart => exact ⟨0, by omega, rfl, fun j h => absurd h (by omega)⟩
  case round =>
    obtain ⟨k, hk, rfl, hj⟩ := hrel
    have HJ := Lib.hid hj
    clear hj
    by_cases hlt : k < fs.length
    · obtain ⟨b, off, hA, hb, hc⟩ := HF.out (by omega)
      subst hA
      obtain ⟨ct, D, cD, hcd, hRB⟩ := hc k hlt
      clear hc
      have HDV : Hid (DVal w w.heap.size (.slice D (fAt fs k).2.length cD) (fAt fs k).2) := ⟨D, cD, rfl, hRB⟩
      clear hRB
      by_cases he : (fAt fs k).1 = t
      · have HY := Lib.hid (findS_yes hlt HJ.out he)
        obtain ⟨d, hd⟩ : ∃ d, (fAt fs k).2 = d := ⟨_, rfl⟩
        rw [hd] at hcd HY HDV
        rw [he] at ct
        clear hd he
        have tt : (t == t) = true := by simp
        go_wp2
        go_ret2
        rw [HY.out]
        exact ⟨_, rfl, HDV.out, rfl⟩
      · have bn : ((fAt fs k).1 == t) = false := beq_eq_false_iff_ne.2 he
        obtain ⟨u, hu⟩ : ∃ u, (fAt fs k).1 = u := ⟨_, rfl⟩
        have HE : Hid ((fAt fs k).1 ≠ t) := he
        rw [hu] at ct bn
        clear hu he HDV
        go_wp2
        go_round
        case rel =>
          refine ⟨k + 1, by omega, by go_num, fun j hj => ?_⟩
          rcases Nat.lt_or_ge j k with h' | h'
          · exact HJ.out j h'
          · obtain rfl : j = k := by omega
            exact HE.out
        case measure => simp [intOf]; omega
    · have HY := Lib.hid (findS_no (t := t) (fs := fs) (fun j hj => HJ.out j (by omega)))
      go_wp2
      go_ret2
      rw [HY.out]
      exact ⟨_, rfl, ⟨none, 0, rfl, RB.nothing _ _ _, by simp, by unfold maxLen; omega, fun _ => rfl⟩, rfl⟩
end Go.Proofs.YtdhnhpcmfbiieaaDoor
