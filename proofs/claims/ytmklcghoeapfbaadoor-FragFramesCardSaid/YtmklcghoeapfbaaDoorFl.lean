/-
  Proved here: the law's own list hands parts on as the document's, or says that they are too much; Split (frag) and the document's own in one word each.
-/
import Derived.Test.YtmklcghoeapfbaaDoorFh
import Derived.Test.YtmklcghoeapfbaaDoorFg2
import Derived.Test.YtmklcghoeapfbaaDoorFb2
namespace Go.Proofs.YtmklcghoeapfbaaDoor
open Go.RowKit

/-- What Split answers, whatever comes in. -/
def splitR (id : Int) (bs : List Int) : List Prt × Int := if 24000 < bs.length then ([], 2) else if 1 ≤ id ∧ id ≤ 4611686018427387903 then (splitS id bs, 0) else ([], 1)
def PartsPost (R : List Prt × Int) (w : World) (e : Ending) (w' : World) : Prop := ∃ A c, e = .returned (.tuple #[.slice A R.1.length c, .int .i64 R.2]) ∧ PS w' w'.heap.size A R.1 ∧ Below w.heap.size w w'
theorem PS.nothing (w : World) (B : Nat) (A : Option Addr) : PS w B A [] := fun h => absurd h (by simp)
theorem split_all (id : Int) (bs : List Int) (n : Nat) (hn : bs.length = n) (A : Option Addr) (cap : Nat) (w : World) (h0 : 0 ≤ id) (h1 : id < 18446744073709551616) (hR : RB w w.heap.size A bs) (hA : A = none → cap = 0) :
    Calls Tryd.prog 17 #[.int .u64 id, .slice A n cap] w (PartsPost (splitR id bs) w) := by
  unfold splitR
  by_cases h : 24000 < bs.length
  · rw [if_pos h]
    exact (split_long id A n cap w (by omega)).mono fun e w' ⟨he, hw⟩ => ⟨none, 0, he, PS.nothing _ _ _, by rw [hw]; exact Below.refl _ _⟩
  · rw [if_neg h]
    by_cases h2 : 1 ≤ id ∧ id ≤ 4611686018427387903
    · rw [if_pos h2]
      refine (split_good id bs n hn A cap w h2.1 h2.2 (by omega) hR hA).mono fun e w' ⟨A', he, hP, hb⟩ => ⟨A', cntS bs.length, ?_, hP, hb⟩
      rw [he, splitS_length]
    · rw [if_neg h2]
      exact (split_arg id A n cap w (by omega) h0 h1 h2).mono fun e w' ⟨he, hw⟩ => ⟨none, 0, he, PS.nothing _ _ _, by rw [hw]; exact Below.refl _ _⟩
theorem rsplit_all (id : Int) (bs : List Int) (n : Nat) (hn : bs.length = n) (A : Option Addr) (cap : Nat) (w : World) (h0 : 0 ≤ id) (hR : RB w w.heap.size A bs) :
    Calls Tryd.prog 18 #[.int .u64 id, .slice A n cap] w (PartsPost (splitR id bs) w) := by
  unfold splitR
  by_cases h : 24000 < bs.length
  · rw [if_pos h]
    exact (rsplit_long id A n cap w (by omega)).mono fun e w' ⟨he, hw⟩ => ⟨none, 0, he, PS.nothing _ _ _, by rw [hw]; exact Below.refl _ _⟩
  · rw [if_neg h]
    by_cases h2 : 1 ≤ id ∧ id ≤ 4611686018427387903
    · rw [if_pos h2]
      refine (rsplit_good id bs n hn A cap w h2.1 h2.2 (by omega) hR).mono fun e w' ⟨A', c, he, hP, hb⟩ => ⟨A', c, ?_, hP, hb⟩
      rw [he, splitS_length]
    · rw [if_neg h2]
      exact (rsplit_arg id A n cap w (by omega) h0 h2).mono fun e w' ⟨he, hw⟩ => ⟨none, 0, he, PS.nothing _ _ _, by rw [hw]; exact Below.refl _ _⟩
theorem splitR_le (id : Int) (bs : List Int) : (splitR id bs).1.length ≤ 64 := by
  unfold splitR
  split
  · simp
  · split
    · rw [splitS_length]
      have := cntS_le (show bs.length ≤ 24000 by omega)
      omega
    · simp

theorem PS.keepB {w w' : World} {B : Nat} {A : Option Addr} {ps : List Prt} (h : PS w B A ps) (hb : Below B w w') : PS w' B A ps := fun hp => by
  obtain ⟨b, off, e1, h2, h3⟩ := h hp
  refine ⟨b, off, e1, h2, fun i hi => ?_⟩
  obtain ⟨c0, c1, c2, A', c', c3, hr, hrest⟩ := h3 i hi
  exact ⟨(hb.cell (p := ⟨b, off + i * 4, none⟩) h2).trans c0, (hb.cell (p := ⟨b, off + i * 4 + 1, none⟩) h2).trans c1, (hb.cell (p := ⟨b, off + i * 4 + 2, none⟩) h2).trans c2, A', c', (hb.cell (p := ⟨b, off + i * 4 + 3, none⟩) h2).trans c3, hr.below hb, hrest⟩
theorem PS.more {w : World} {B B' : Nat} {A : Option Addr} {ps : List Prt} (h : PS w B A ps) (hB : B ≤ B') : PS w B' A ps := fun hp => by
  obtain ⟨b, off, e1, h2, h3⟩ := h hp
  refine ⟨b, off, e1, by omega, fun i hi => ?_⟩
  obtain ⟨c0, c1, c2, A', c', c3, hr, hrest⟩ := h3 i hi
  exact ⟨c0, c1, c2, A', c', c3, hr.keep' hB, hrest⟩
/-- What the law's list answers. -/
inductive ListPost (ps : List Prt) (n : Nat) (w : World) (e : Ending) (w' : World) : Prop
  | no (he : e = .returned (.tuple #[.slice none 0 0, .bool false])) (hb : Below w.heap.size w w')
  | yes (A : Option Addr) (c : Nat) (he : e = .returned (.tuple #[.slice A n c, .bool true])) (hn : n ≤ 80) (hl : ∀ i, i < n → (pAt ps i).d.length ≤ 600) (hP : PS w' w'.heap.size A ps) (hb : Below w.heap.size w w')
/-- What the loop leaves. -/
structure ListAt (w : World) (ps : List Prt) (k : Nat) (out : Value) (wr : World) : Prop where
  below : Below w.heap.size w wr
  own : ∃ cs, wr.ownsRow w.heap.size 27 4 out k cs ∧ PC wr w.heap.size cs (ps.take k)
  short : ∀ i, i < k → (pAt ps i).d.length ≤ 600
set_option maxRecDepth 100000 in
set_option maxHeartbeats 2000000 in
theorem list_any (ps : List Prt) (n : Nat) (hlen : ps.length = n) (A : Option Addr) (c : Nat) (w : World) (hP : PS w w.heap.size A ps) (hm : n ≤ maxLen) :
    Calls Tryd.prog 16 #[.slice A n c] w (ListPost ps n w) := by
  unfold maxLen at hm
  have HLN := Lib.hid hlen
  have HP := Lib.hid hP
  have H0 := Lib.hid (show ListAt w ps 0 (.slice none 0 0) w from ⟨Below.refl _ _, ⟨[], World.ownsRow_nil _ _ _ _, by simp [PC]⟩, fun i hi => absurd hi (by omega)⟩)
  have hn80 : n ≤ 80 ∨ 80 < n := by omega
  clear hlen hP
  go_enter Tryd.func16, Tryd.ntmps16
  go_wp2
  go_loopw [4, 5] (fun out i wr => ∃ k : Nat, k ≤ n ∧ i = .int .i64 k ∧ (0 < k → n ≤ 80) ∧ ListAt w ps k out wr) (fun _ i _ => n - (intOf i).toNat)
  case atStart => exact ⟨0, by omega, rfl, by omega, H0.out⟩
  case round =>
    clear H0
    obtain ⟨k, hk, rfl, hk80, hL⟩ := hrel
    have HLA := Lib.hid hL
    clear hL
    by_cases hlt : k < n
    · obtain ⟨b, off, hAe, hb, hc⟩ := HP.out (by rw [HLN.out]; omega)
      subst hAe
      have g3 : (0 : Int) ≤ (k : Int) := by omega
      have g4 : (k : Int) < (n : Int) := by omega
      by_cases h8 : 80 < n
      · have d1 : decide ((80 : Int) < (n : Int)) = true := by simp; omega
        have HN := Lib.hid (show ListPost ps n w (.returned (.tuple #[.slice none 0 0, .bool false])) wr from .no rfl HLA.out.below)
        clear hc hk80 hn80
        go_wp2
        go_ret2
        exact HN.out
      · have d1 : decide ((80 : Int) < (n : Int)) = false := by simp; omega
        obtain ⟨p0, p1, p2, A', c', p3, hRB, hdl, hcm, hAn⟩ := hc k (by rw [HLN.out]; exact hlt)
        have e0 := (HLA.out.below.cell (p := ⟨b, off + k * 4, none⟩) hb).trans p0
        have e1 := (HLA.out.below.cell (p := ⟨b, off + k * 4 + 1, none⟩) hb).trans p1
        have e2 := (HLA.out.below.cell (p := ⟨b, off + k * 4 + 2, none⟩) hb).trans p2
        have e3 := (HLA.out.below.cell (p := ⟨b, off + k * 4 + 3, none⟩) hb).trans p3
        have HTK := Lib.hid (ptake_snoc (ps := ps) (k := k) (by rw [HLN.out]; exact hlt))
        have HDV := Lib.hid (show DVal w w.heap.size (.slice A' (pAt ps k).d.length c') (pAt ps k).d from ⟨A', c', rfl, hRB, hdl, hcm, hAn⟩)
        have HSH := Lib.hid (show (pAt ps k).d.length ≤ 600 → ∀ i, i < k + 1 → (pAt ps i).d.length ≤ 600 from fun h i hi => by
          rcases Nat.lt_or_ge i k with h' | h'
          · exact HLA.out.short i h'
          · obtain rfl : i = k := by omega
            exact h)
        clear hc p0 p1 p2 p3 hRB hdl hcm hAn
        obtain ⟨p, hp⟩ : ∃ p, pAt ps k = p := ⟨_, rfl⟩
        rw [hp] at e0 e1 e2 e3 HTK HDV HSH
        clear hp
        obtain ⟨m, hm2⟩ : ∃ m, p.d.length = m := ⟨_, rfl⟩
        rw [hm2] at e3 HDV HSH
        clear hm2
        by_cases h6 : 600 < m
        · have d2 : decide ((600 : Int) < (m : Int)) = true := by simp; omega
          have HN := Lib.hid (show ListPost ps n w (.returned (.tuple #[.slice none 0 0, .bool false])) wr from .no rfl HLA.out.below)
          clear hk80 hn80
          go_wp2
          go_ret2
          exact HN.out
        · have d2 : decide ((600 : Int) < (m : Int)) = false := by simp; omega
          go_wp2_with fail
          refine (as_any _ _ _ _ _ _ _).mono ?_
          rintro e wy ⟨rfl, hby⟩
          obtain ⟨cs, hrow, hPC⟩ := HLA.out.own
          have hs := HLA.out.below.size
          have hby' := HLA.out.below.trans (hby.mono hs)
          obtain ⟨v5, w5, hrun5, hown5, hgr5, _⟩ := app_rpart (fb := wy.heap.size) (own_below (own_below hrow hby) ((Below.refl _ _).alloc (Nat.le_refl wy.heap.size) (.cells #[.int .u64 p.id, .int .i64 p.ix, .int .i64 p.ct, .slice A' m c'] 27))) (heap_alloc_new _ _) (by omega) (by have := hby.size; simp; omega)
          have hb5 : Below w.heap.size w w5 := (hby'.alloc hby'.size _).grown hgr5 (by have := hby'.size; simp; omega) (ownBlock_le hrow)
          have hb05 : Below w.heap.size wr w5 := ((hby.mono hs).alloc (by have := hby.size; omega) _).grown hgr5 (by have := hby'.size; simp; omega) (ownBlock_le hrow)
          have HNX := Lib.hid (show ListAt w ps (k + 1) v5 w5 from ⟨hb5, ⟨_, hown5, by
            rw [HTK.out]
            exact PC.snoc (p := p) (HDV.out.keep fun _ hp => hb5.cell hp) (hPC.below hb05)⟩, HSH.out (by omega)⟩)
          have HR5 := Lib.hid hrun5
          clear hrow hPC hby hby' hrun5 hown5 hgr5 hb5 hb05 e0 e1 e2 e3
          go_wp2_with (first | (at_builtin; refine wpList_app rfl (.tmp 24) (.tmp 30) _ rfl _ _ rfl rfl HR5.out ?_))
          go_roundw
          case rel => exact ⟨k + 1, by omega, by go_num, fun _ => by omega, HNX.out⟩
          case measure => simp [intOf]; omega
    · obtain rfl : k = n := by omega
      have HY := Lib.hid (show ListPost ps k w (.returned (.tuple #[u4, .bool true])) wr from by
        obtain ⟨cs, hrow, hPC⟩ := HLA.out.own
        have htk : ps.take k = ps := List.take_of_length_le (by rw [HLN.out]; exact Nat.le_refl _)
        rw [htk] at hPC
        obtain ⟨A2, c2, rfl, _⟩ := own_slice hrow
        exact .yes A2 c2 rfl (by omega) HLA.out.short (PS.of_rows HLN.out hrow hPC HLA.out.below.size) HLA.out.below)
      go_wp2
      go_ret2
      exact HY.out
end Go.Proofs.YtmklcghoeapfbaaDoor
