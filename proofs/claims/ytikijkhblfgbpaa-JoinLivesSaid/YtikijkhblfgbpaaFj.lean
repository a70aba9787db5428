/-
  Proved here: Join (frag) answers the frame that parts are, or why they are none, as 'joinS' says, in memory of its own.
-/
import Derived.Test.YtikijkhblfgbpaaFj0
namespace Go.Proofs.Ytikijkhblfgbpaa
open Go.RowKit

/-- Parts whose numbers are of their kinds. -/
def POk (ps : List Prt) : Prop := ∀ i, i < ps.length → (0 ≤ (pAt ps i).id ∧ (pAt ps i).id < 18446744073709551616) ∧ (-9223372036854775808 ≤ (pAt ps i).ct ∧ (pAt ps i).ct < 9223372036854775808) ∧ (-9223372036854775808 ≤ (pAt ps i).ix ∧ (pAt ps i).ix < 9223372036854775808)
def BytPost (R : List Int × Int) (w : World) (e : Ending) (w' : World) : Prop :=
  ∃ v, e = .returned (.tuple #[v, .int .i64 R.2]) ∧ w'.ownsRow w.heap.size 5 1 v R.1.length (B8 R.1) ∧ Below w.heap.size w w'
theorem belB_yes {p : Prt} {id0 len i : Int} : belB p.id p.ix p.ct p.d.length id0 len i = true ↔ (p.ok = true ∧ p.id = id0 ∧ p.ct = len ∧ p.ix = i) := by
  unfold belB Prt.ok
  simp [Bool.and_eq_true, and_assoc]
theorem bytpost_nil {R : List Int × Int} {E : Int} {w w' : World} (h : R = ([], E)) (hb : Below w.heap.size w w') : BytPost R w (.returned (.tuple #[.slice none 0 0, .int .i64 E])) w' := by
  subst h
  exact ⟨_, rfl, World.ownsRow_nil _ _ _ _, hb⟩
theorem join_nil (A : Option Addr) (c : Nat) (w : World) : Calls Try.prog 22 #[.slice A 0 c] w (BytPost (joinS []) w) := by
  have HP := Lib.hid (fun w' => bytpost_nil (w := w) (w' := w') joinS_none)
  go_enter Try.func22, Try.ntmps22
  go_wp2
  go_ret2
  exact HP.out _ ((Below.refl _ _).alloc (Nat.le_refl _) _)
/-- What the loop leaves. -/
structure JoinAt (w : World) (A : Option Addr) (n c : Nat) (ps : List Prt) (k : Nat) (fr : Value) (wr : World) : Prop where
  box : wr.heap[w.heap.size]? = some (.cells #[.slice A n c] 22 (0, 0))
  below : Below w.heap.size w wr
  own : wr.ownsRow (w.heap.size + 1) 5 1 fr (cat (ps.take k)).length (B8 (cat (ps.take k)))
  ok : okJ ps k
set_option maxRecDepth 100000 in
set_option maxHeartbeats 2000000 in
theorem join_some (ps : List Prt) (n : Nat) (hlen : ps.length = n) (A : Option Addr) (c : Nat) (w : World) (hP : PS w w.heap.size A ps) (hO : POk ps) (hn : 0 < n) (hm : n ≤ maxLen) :
    Calls Try.prog 22 #[.slice A n c] w (BytPost (joinS ps) w) := by
  unfold maxLen at hm
  have HLN := Lib.hid hlen
  obtain ⟨b, off, rfl, hb, hc⟩ := hP (by omega)
  have HC := Lib.hid hc
  have HO := Lib.hid hO
  clear hc hO hP
  have hz : ((n : Int) == 0) = false := by simp; omega
  have hJ0 : JoinAt w (some ⟨b, off, none⟩) n c ps 0 (.slice none 0 0) (w.alloc (.cells #[.slice (some ⟨b, off, none⟩) n c] 22)) :=
    ⟨heap_alloc_new _ _, (Below.refl _ _).alloc (Nat.le_refl _) _, by simpa [cat] using World.ownsRow_nil _ _ _ _, fun i hi => absurd hi (by omega)⟩
  have HJ0 := Lib.hid hJ0
  clear hJ0 hlen
  go_enter Try.func22, Try.ntmps22
  go_wp2
  go_loopw [5, 14] (fun fr i wr => ∃ k : Nat, k ≤ n ∧ i = .int .i64 k ∧ JoinAt w (some ⟨b, off, none⟩) n c ps k fr wr) (fun _ i _ => n - (intOf i).toNat)
  case atStart => exact ⟨0, by omega, rfl, HJ0.out⟩
  case round =>
    clear HJ0
    obtain ⟨k, hk, rfl, hJ⟩ := hrel
    have HJ := Lib.hid hJ
    by_cases hlt : k < n
    · obtain ⟨p0, p1, p2, A', c', p3, hRB, hdl, hcm, hAn⟩ := HC.out k (by rw [HLN.out]; exact hlt)
      have HO1 := HO.out k (by rw [HLN.out]; exact hlt)
      obtain ⟨⟨o0, o1⟩, ⟨o2, o3⟩, _⟩ := HO1
      have e0 := (hJ.below.cell (p := ⟨b, off + k * 4, none⟩) hb).trans p0
      have e1 := (hJ.below.cell (p := ⟨b, off + k * 4 + 1, none⟩) hb).trans p1
      have e2 := (hJ.below.cell (p := ⟨b, off + k * 4 + 2, none⟩) hb).trans p2
      have e3 := (hJ.below.cell (p := ⟨b, off + k * 4 + 3, none⟩) hb).trans p3
      have g3 : (0 : Int) ≤ (k : Int) := by omega
      have g4 : (k : Int) < (n : Int) := by omega
      clear p0 p1 p2 p3 hJ
      obtain ⟨p, hp⟩ : ∃ p, pAt ps k = p := ⟨_, rfl⟩
      have HPA := Lib.hid hp
      rw [hp] at e0 e1 e2 e3 hRB hdl o0 o1 o2 o3
      clear hp
      obtain ⟨id, ix, ct, d⟩ := p
      obtain ⟨m, hm2⟩ : ∃ m, d.length = m := ⟨_, rfl⟩
      have HM := Lib.hid hm2
      simp only at e0 e1 e2 e3 hRB hdl o0 o1 o2 o3
      rw [hm2] at e3 hdl
      clear hm2
      obtain ⟨id0, hid0⟩ : ∃ id0, (pAt ps 0).id = id0 := ⟨_, rfl⟩
      have hi0 : wr.cell? ⟨b, off, none⟩ = some (.int .u64 id0) := by
        have := (HC.out 0 (by rw [HLN.out]; exact hn)).1
        rw [hid0] at this
        simpa using (HJ.out.below.cell (p := ⟨b, off + 0 * 4, none⟩) hb).trans this
      have HI0 := Lib.hid hi0
      have HID := Lib.hid hid0
      clear hid0 hi0
      have hs := HJ.out.below.size
      have hgb : w.heap.size < wr.heap.size := lt_of_block HJ.out.box
      have hBl : Bl (wr.alloc (.cells #[.int .u64 id, .int .i64 ix, .int .i64 ct, .slice A' m c'] 30)) w.heap.size b off n c id0 := by
        refine ⟨?_, ?_, by simp; omega, by simp; omega⟩
        · rw [World.cell?_of_block (Below.heap_alloc wr _ w.heap.size hgb)]; simp [World.cell?, HJ.out.box]
        · rw [World.cell?_of_block (Below.heap_alloc wr _ b (by omega))]; exact HI0.out
      have HBl := Lib.hid hBl
      clear hBl
      have HB := Lib.hid (bel_any id ix ct k id0 A' m c' n c w.heap.size b off _ o0 o1 o2 o3 (by omega) HBl.out hn)
      have hown1 : (wr.alloc (.cells #[.int .u64 id, .int .i64 ix, .int .i64 ct, .slice A' m c'] 30)).ownsRow (w.heap.size + 1) 5 1 u5 (cat (ps.take k)).length (B8 (cat (ps.take k))) := own_below HJ.out.own ((Below.refl _ _).alloc (Nat.le_refl _) _)
      have HOW := Lib.hid hown1
      clear hown1
      have hnew : (wr.alloc (.cells #[.int .u64 id, .int .i64 ix, .int .i64 ct, .slice A' m c'] 30)).cell? ⟨wr.heap.size, 3, none⟩ = some (.slice A' m c') := by simp [World.cell?_alloc_at]
      have HNW := Lib.hid hnew
      clear hnew
      go_wp2_with fail
      refine HB.out.mono ?_
      rintro e wy ⟨rfl, hby⟩
      have hbw : Below w.heap.size w wy := (HJ.out.below.alloc hs _).trans (hby.mono (by simp; omega))
      have hbox : wy.heap[w.heap.size]? = some (.cells #[.slice (some ⟨b, off, none⟩) n c] 22 (0, 0)) := (hby.block _ (by simp; omega)).trans ((Below.heap_alloc wr _ w.heap.size hgb).trans HJ.out.box)
      have hnw := (hby.cell (p := ⟨wr.heap.size, 3, none⟩) (by simp)).trans HNW.out
      have hown := own_below HOW.out hby
      have hsy := hby.size
      clear hby
      obtain ⟨B, hBe⟩ : ∃ B, belB id ix ct m id0 n k = B := ⟨_, rfl⟩
      rw [hBe]
      have HBE := Lib.hid hBe
      clear hBe
      cases B
      · have HPP := Lib.hid (bytpost_nil (w := w) (w' := wy) (joinS_bad (ps := ps) (k := k) (by rw [HLN.out]; exact hlt) (by
          rw [HPA.out, HID.out, HLN.out, ← belB_yes]
          have := HBE.out
          rw [← HM.out] at this
          rw [this]; simp)) hbw)
        clear hown hnw hbox hbw
        go_wp2
        go_ret2
        exact HPP.out
      · have hok : okJ ps (k + 1) := okJ_succ HJ.out.ok (by
          rw [HPA.out, HID.out, HLN.out, ← belB_yes]
          have := HBE.out
          rw [← HM.out] at this
          exact this)
        have h64 := okJ_le hok (by omega)
        rw [HLN.out] at h64
        have hcl := okJ_cat HJ.out.ok (by rw [HLN.out]; omega)
        have hm480 : m ≤ 480 := by
          have := ok_len (hok k (by omega)).1
          rw [HPA.out] at this
          rw [← HM.out]
          exact this
        have hct := cat_take (ps := ps) (k := k) (by rw [HLN.out]; exact hlt)
        rw [HPA.out] at hct
        have hRy : RB wy w.heap.size A' d := hRB.below hbw
        obtain ⟨v', w2, hrun, hown2, hgr⟩ := app_bytes c' hRy hAn hown (by rw [HM.out]; omega) (by simp at hsy; omega)
        rw [HM.out] at hrun hown2
        have HRN := Lib.hid hrun
        have HO2 := Lib.hid (own_cast (xs := B8 (cat (ps.take k) ++ d)) (ys := B8 (cat (ps.take (k + 1)))) hown2 (m := (cat (ps.take (k + 1))).length) (by rw [hct, List.length_append, HM.out]) (by rw [hct]))
        have hb2 : Below w.heap.size w w2 := hbw.grown hgr hbw.size (fun g hg => by have := ownBlock_le hown g hg; omega)
        have hbox2 : w2.heap[w.heap.size]? = some (.cells #[.slice (some ⟨b, off, none⟩) n c] 22 (0, 0)) := by
          rw [hgr.block _ (lt_of_block hbox) ?_, hbox]
          intro e
          have := ownBlock_le hown _ e.symm
          omega
        have HJN := Lib.hid (show JoinAt w (some ⟨b, off, none⟩) n c ps (k + 1) v' w2 from ⟨hbox2, hb2, HO2.out, hok⟩)
        clear hrun hown2 hgr hown hRy hct hok hb2 hbox2 hbox hbw
        go_wp2_with (first | (at_builtin; refine wpList_app rfl (.tmp 24) (.tmp 26) _ rfl _ _ rfl rfl HRN.out ?_))
        go_roundw
        case rel => exact ⟨k + 1, by omega, by go_num, HJN.out⟩
        case measure => simp [intOf]; omega
    · obtain rfl : k = n := by omega
      have HPP := Lib.hid (show BytPost (joinS ps) w (.returned (.tuple #[u5, .int .i64 0])) wr from by
        rw [joinS_ok (by rw [HLN.out]; exact hn) (by rw [HLN.out]; exact hJ.ok)]
        have h1 := hJ.own
        have h2 : ps.take k = ps := List.take_of_length_le (by rw [HLN.out]; exact Nat.le_refl _)
        rw [h2] at h1
        exact ⟨_, rfl, own_mono h1 (by omega), hJ.below⟩)
      clear hJ
      go_wp2
      go_ret2
      exact HPP.out
end Go.Proofs.Ytikijkhblfgbpaa
