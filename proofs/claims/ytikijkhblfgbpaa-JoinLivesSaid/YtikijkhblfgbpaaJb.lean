/-
  Proved here: the three Puts of the fixed calls of join's laws.
-/
import Derived.Test.YtikijkhblfgbpaaJa
namespace Go.Proofs.Ytikijkhblfgbpaa
open Go.RowKit Go.Maps Go.Sort

theorem alive_put1 {w : World} {base t : Nat} (h : TabAt w base t ⟨1, []⟩) (d : List Int) (hd : d.length = 20) (A : Option Addr) (c : Nat) (hA : A = none → c = 0) (hR : RB w w.heap.size A d) (hbw : base ≤ w.heap.size) :
    Calls Try.prog 9 #[.pointer (some ⟨t, 0, none⟩), PV 3 1 2 A 20 c] w fun e w' => ∃ g, e = .returned (.tuple #[.slice none 0 0, .bool false, .int .i64 0]) ∧ TabAt w' base t ⟨1, [oneF g d]⟩ ∧ w.heap.size ≤ g ∧ RowsBut t g w w' ∧ Below base w w' :=
  (put_good h (fun y hy => absurd hy (by simp)) ⟨3, 1, 2, d⟩ 1 rfl A 20 c hd hA hR ref_1 hbw).mono (by
    rintro e w' ⟨f, T1, hO, _, hf, hr, hb, hor⟩
    obtain ⟨hf1, rfl⟩ := open_1 hO
    obtain ⟨hl1, hl2⟩ := laid_1 (d := d) hf1
    rw [hl1, hl2] at hor
    have hct : f.ct = 2 := by rw [hf1]; rfl
    rw [hct, miss_1] at hor
    rcases hor with ⟨_, rfl, hT⟩ | ⟨h0, _⟩
    · exact ⟨f.g, rfl, hT, hf.elim (fun hm => absurd hm (by simp)) id, hr, hb⟩
    · cases h0)

theorem alive_put2 {w : World} {base t g : Nat} {d : List Int} (h : TabAt w base t ⟨1, [oneF g d]⟩) (hd : d.length = 20) (e0 : List Int) (he : e0.length = 480) (A : Option Addr) (c : Nat) (hA : A = none → c = 0) (hR : RB w w.heap.size A e0) (hbw : base ≤ w.heap.size) :
    Calls Try.prog 9 #[.pointer (some ⟨t, 0, none⟩), PV 3 0 2 A 480 c] w fun e w' => ∃ v xs, e = .returned (.tuple #[v, .bool true, .int .i64 0]) ∧ w'.ownsRow base 5 1 v 500 xs ∧ TabAt w' base t ⟨4, []⟩ ∧ RowsBut t g w w' ∧ Below base w w' :=
  (put_good h (good_1 g d hd) ⟨3, 0, 2, e0⟩ 0 rfl A 480 c he hA hR (ref_2 g d) hbw).mono (by
    rintro e w' ⟨f, T1, hO, _, hf, hr, hb, hor⟩
    obtain ⟨rfl, rfl⟩ := open_2 hO
    rw [ct_1, miss_2] at hor
    rcases hor with ⟨h0, _⟩ | ⟨_, v, rfl, hv, hT⟩
    · omega
    · have e1 : ((laid ⟨1, [oneF g d]⟩ (oneF g d) 0 ⟨3, 0, 2, e0⟩).fs.filter fun y => decide ((3 : Int) + 1 ≤ y.id)) = [] := done_2 g d e0
      have hT' : TabAt w' base t ⟨3 + 1, []⟩ := by
        have hT2 : TabAt w' base t ⟨3 + 1, (laid ⟨1, [oneF g d]⟩ (oneF g d) 0 ⟨3, 0, 2, e0⟩).fs.filter fun y => decide ((3 : Int) + 1 ≤ y.id)⟩ := hT
        rwa [e1] at hT2
      have hc : (cat ((laidF (oneF g d) 0 ⟨3, 0, 2, e0⟩).ps.take 2)).length = 500 := by
        have h64 : (laidF (oneF g d) 0 ⟨3, 0, 2, e0⟩).ps.length = 64 := by
          show (((List.replicate 64 pNil).set 1 _).set 0 _).length = 64
          rw [List.length_set, List.length_set, List.length_replicate]
        have p0 : pAt (laidF (oneF g d) 0 ⟨3, 0, 2, e0⟩).ps 0 = ⟨3, 0, 2, e0⟩ := by
          show pAt ((oneF g d).ps.set 0 _) 0 = _
          rw [pAt_set (by show 0 < ((List.replicate 64 pNil).set 1 _).length; rw [List.length_set, List.length_replicate]; omega)]; rfl
        have p1 : pAt (laidF (oneF g d) 0 ⟨3, 0, 2, e0⟩).ps 1 = ⟨3, 1, 2, d⟩ := by
          show pAt ((oneF g d).ps.set 0 _) 1 = _
          rw [pAt_set (by show 0 < ((List.replicate 64 pNil).set 1 _).length; rw [List.length_set, List.length_replicate]; omega), one_at]; rfl
        rw [show (2 : Nat) = 0 + 1 + 1 from rfl, cat_take (by omega), cat_take (by omega), p1, p0, List.length_append, List.length_append, he, hd]
        rfl
      rw [hc] at hv
      exact ⟨v, _, rfl, hv, hT', hr, hb⟩)

theorem alive_put3 {w : World} {base t : Nat} (h : TabAt w base t ⟨4, []⟩) (A : Option Addr) (c : Nat) :
    Calls Try.prog 9 #[.pointer (some ⟨t, 0, none⟩), PV 3 0 2 A 480 c] w fun e w' => e = .returned (.tuple #[.slice none 0 0, .bool false, .int .i64 23]) ∧ Below w.heap.size w w' :=
  put_bad _ 3 0 2 A 480 c 23 (by omega) w (fun W hb _ => (refusal_any (h.keep hb) 3 0 2 A 480 c (by omega) (by omega) (by omega) (by omega) (by unfold maxLen; omega)).mono (by
    rintro e w' ⟨rfl, hb'⟩
    exact ⟨by rw [show refS ⟨4, []⟩ 3 0 2 480 = 23 from ref_3], hb'⟩))

end Go.Proofs.Ytikijkhblfgbpaa
