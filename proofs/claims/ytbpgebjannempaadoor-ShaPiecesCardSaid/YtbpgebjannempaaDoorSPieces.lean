/-
  Proved here, where the table of constants is as the program lays it: ShaPieces returns true at every slice of bytes and every slice of cuts, and nothing that was there is changed.
-/
import Derived.Test.YtbpgebjannempaaDoorSAsks
import Derived.Deep.RegionHeld
namespace Go.Proofs.YtbpgebjannempaaDoor
open Go.RowKit
/-- Values that are slices, which read as qs. -/
def PV (w : World) (vs : List Value) (qs : List (List Nat)) : Prop :=
  vs.length = qs.length ∧ ∀ i, i < qs.length → ∃ A c, vs[i]? = some (.slice A (qs.getD i []).length c) ∧ R0 w A (qs.getD i []) ∧ (qs.getD i []).length ≤ c ∧ c ≤ maxLen
theorem PV.nil (w : World) : PV w [] [] := ⟨rfl, fun i hi => by simp at hi⟩
theorem PV.to {w w' : World} {vs : List Value} {qs : List (List Nat)} (h : PV w vs qs) (hb : Below w.heap.size w w') : PV w' vs qs :=
  ⟨h.1, fun i hi => by
    obtain ⟨A, c, h1, h2, h3, h4⟩ := h.2 i hi
    exact ⟨A, c, h1, h2.to hb, h3, h4⟩⟩
theorem PV.snoc {w : World} {vs : List Value} {qs : List (List Nat)} (h : PV w vs qs) {A : Option Addr} {q : List Nat} {c : Nat} (hr : R0 w A q) (hc : q.length ≤ c) (hm : c ≤ maxLen) : PV w (vs ++ [.slice A q.length c]) (qs ++ [q]) := by
  refine ⟨by simp [h.1], fun i hi => ?_⟩
  by_cases hlt : i < qs.length
  · obtain ⟨A', c', h1, h2, h3, h4⟩ := h.2 i hlt
    have e : (qs ++ [q]).getD i [] = qs.getD i [] := by simp [List.getD_eq_getElem?_getD, List.getElem?_append_left hlt]
    rw [e]
    exact ⟨A', c', by rw [List.getElem?_append_left (by rw [h.1]; exact hlt)]; exact h1, h2, h3, h4⟩
  · have hi' : i = qs.length := by simp at hi; omega
    subst hi'
    have e : (qs ++ [q]).getD qs.length [] = q := by simp [List.getD_eq_getElem?_getD]
    rw [e]
    exact ⟨A, c, by rw [← h.1]; simp, hr, hc, hm⟩
theorem PV.rs {w : World} {base n : Nat} {v : Value} {vs : List Value} {qs : List (List Nat)} (h : w.ownsRow base 22 1 v n vs) (hp : PV w vs qs) (hn : qs.length = n) : ∃ A cap, v = .slice A n cap ∧ RS w A qs ∧ n ≤ cap ∧ cap ≤ maxLen := by
  obtain ⟨hl, ⟨rfl, rfl⟩ | ⟨b, cap, cur, rfl, hb, hblk, hnc, hmx, hsz, htk⟩⟩ := id h
  · exact ⟨none, 0, rfl, fun hp' => by omega, Nat.le_refl _, by unfold maxLen; omega⟩
  · refine ⟨_, cap, rfl, fun _ => ⟨b, 0, rfl, (Array.getElem?_eq_some_iff.1 hblk).1, fun i hi => ?_⟩, hnc, hmx⟩
    obtain ⟨A', c', h1, h2, h3, h4⟩ := hp.2 i hi
    have := h.cellAt i (by omega)
    exact ⟨A', c', by rw [Nat.zero_add, this]; exact h1, h2, h3, h4⟩
theorem own_only {w w' : World} {base g n : Nat} {e : TypeId} {v : Value} {vs : List Value} (h : w.ownsRow base e 1 v n vs) (ho : Only g w w') (hg : g < base) : w'.ownsRow base e 1 v n vs := by
  obtain ⟨hl, ⟨rfl, rfl⟩ | ⟨b, cap, cur, rfl, hb, hblk, hnc, hmx, hsz, htk⟩⟩ := h
  · exact ⟨hl, .inl ⟨rfl, rfl⟩⟩
  · exact ⟨hl, .inr ⟨b, cap, cur, rfl, hb, (ho.block b (Array.getElem?_eq_some_iff.1 hblk).1 (by omega)).trans hblk, hnc, hmx, hsz, htk⟩⟩
theorem own_below {w w' : World} {base n : Nat} {e : TypeId} {v : Value} {vs : List Value} (h : w.ownsRow base e 1 v n vs) (hb : Below w.heap.size w w') : w'.ownsRow base e 1 v n vs := by
  obtain ⟨hl, ⟨rfl, rfl⟩ | ⟨b, cap, cur, rfl, hb', hblk, hnc, hmx, hsz, htk⟩⟩ := h
  · exact ⟨hl, .inl ⟨rfl, rfl⟩⟩
  · exact ⟨hl, .inr ⟨b, cap, cur, rfl, hb', (hb.block b (Array.getElem?_eq_some_iff.1 hblk).1).trans hblk, hnc, hmx, hsz, htk⟩⟩
theorem infoSl : (Tryd.prog.info? 22).map (fun i => (i.zero, i.size, i.bytes)) = some (some (.slice none 0 0), 1, 24) := by kernel_rfl
/-- A slice's beginning, and what is behind it. -/
theorem cut_front (b off l c m : Nat) (hm : m ≤ l) (hl : l ≤ c) (W : World) : (Instr.slice 22 (.slice (some ⟨b, off, none⟩) l c) none (some (.int .i64 (m : Int))) none).run Tryd.prog W = .ok (.slice (some ⟨b, off, none⟩) m c) W := by
  have h1 : (m : Int) ≤ (c : Int) := by omega
  have ha : (⟨b, off, none⟩ : Addr).add 0 = ⟨b, off, none⟩ := rfl
  simp [Instr.slice, run_underlying Tryd.underlying22, Instr.sliceBounds, run_sliceBound, h1, ha]
theorem cut_back {w : World} {b off l c m : Nat} {cs : List Nat} (hcs : cs.length = l) (hb : b < w.heap.size) (hc : ∀ i, i < cs.length → w.cell? ⟨b, off + i, none⟩ = some (.int .u8 (cs.getD i 0 : Nat))) (hl : l ≤ c) (hm : m ≤ l) :
    ∃ A, R0 w A (cs.drop m) ∧ ∀ W : World, (Instr.slice 22 (.slice (some ⟨b, off, none⟩) l c) (some (.int .i64 (m : Int))) none none).run Tryd.prog W = .ok (.slice A (l - m) (c - m)) W := by
  have ha : (⟨b, off, none⟩ : Addr).add m = ⟨b, off + m, none⟩ := by unfold Addr.add; split <;> simp_all
  have h1 : (m : Int) ≤ (l : Int) := by omega
  have hrun : ∀ W : World, (Instr.slice 22 (.slice (some ⟨b, off, none⟩) l c) (some (.int .i64 (m : Int))) none none).run Tryd.prog W = .ok (.slice (some (if c = m then ⟨b, off, none⟩ else ⟨b, off + m, none⟩)) (l - m) (c - m)) W := by
    intro W
    simp [Instr.slice, run_underlying Tryd.underlying22, Instr.sliceBounds, run_sliceBound, h1, ha]
    split <;> rfl
  refine ⟨_, fun hp => ?_, hrun⟩
  have hp' : m < l := by simp at hp; omega
  rw [if_neg (by omega)]
  refine ⟨b, off + m, rfl, hb, fun i hi => ?_⟩
  rw [List.length_drop] at hi
  have := hc (m + i) (by omega)
  rw [show off + m + i = off + (m + i) by omega, this]
  simp [List.getD_eq_getElem?_getD]
theorem R0.take {w : World} {b off m : Nat} {cs : List Nat} (hb : b < w.heap.size) (hc : ∀ i, i < cs.length → w.cell? ⟨b, off + i, none⟩ = some (.int .u8 (cs.getD i 0 : Nat))) : R0 w (some ⟨b, off, none⟩) (cs.take m) := fun _ => by
  refine ⟨b, off, rfl, hb, fun i hi => ?_⟩
  have hi' : i < m ∧ i < cs.length := by simp at hi; omega
  rw [hc i hi'.2]
  simp [List.getD_eq_getElem?_getD, hi'.1]

theorem add_any_n (bs cs : List Nat) (n : Nat) (hl : cs.length = n) (g : Nat) (A : Option Addr) (cap : Nat) (w : World) (hS : IsSha w g bs) (hR : Rd w g A cs) (hcap : n ≤ cap) (hm : cap ≤ maxLen) (hT : Tab w) (hg : 0 < g) (hn : bs.length + n < 1152921504606846976) :
    Calls Tryd.prog 12 #[.pointer (some ⟨g, 0, none⟩), .slice A n cap] w fun e w' => e = .returned (.int .i64 0) ∧ IsSha w' g (bs ++ cs) ∧ Only g w w' := by
  subst hl
  exact add_any bs cs g A cap w hS hR hcap hm hT hg hn
theorem sha_lo {w w' : World} {B g : Nat} {bs : List Nat} (h : IsSha w g bs) (hb : Below B w w') (hg : g < B) : IsSha w' g bs := by
  obtain ⟨s, rest, n, hH, hO⟩ := h
  exact ⟨s, rest, n, ⟨hH.len, (hb.block g hg).trans hH.blk⟩, hO⟩
/-- Behind some pieces: j bytes are added, in the parts qs. -/
structure PK (w : World) (bs : List Nat) (j : Nat) (qs : List (List Nat)) (vs : List Value) (A : Option Addr) (c : Nat) (v : Value) (wr : World) : Prop where
  sha : IsSha wr w.heap.size (bs.take j)
  below : Below w.heap.size w wr
  size : w.heap.size + 1 ≤ wr.heap.size
  flat : qs.flatten = bs.take j
  few : qs.length ≤ 60
  rd : R0 w A (bs.drop j)
  le : bs.length - j ≤ c
  max : c ≤ maxLen
  own : wr.ownsRow (w.heap.size + 1) 22 1 v qs.length vs
  pv : PV w vs qs

/-- What there is when the answers are compared. -/
structure QP (w : World) (bs X : List Nat) (gx : Nat) (v : Value) (n : Nat) (vs : List Value) (U : World) : Prop where
  sha : IsSha U w.heap.size bs
  below : Below w.heap.size w U
  blk : U.heap[gx]? = some (.cells (V8 X).toArray 29 (0, 0))
  size : gx + 1 ≤ U.heap.size
  own : U.ownsRow (w.heap.size + 1) 22 1 v n vs
  base : w.heap.size + 1 ≤ gx
theorem QP.drew {w : World} {bs X : List Nat} {gx : Nat} {v : Value} {n : Nat} {vs : List Value} {U : World} (h : QP w bs X gx v n vs U) : QP w bs X gx v n vs U.drew := ⟨h.sha.drew, h.below.drew, h.blk, h.size, h.own.drew, h.base⟩
theorem QP.to {w : World} {bs X : List Nat} {gx : Nat} {v : Value} {n : Nat} {vs : List Value} {U U' : World} (h : QP w bs X gx v n vs U) (hb : Below U.heap.size U U') : QP w bs X gx v n vs U' := by
  have h1 := h.size
  have h2 := h.base
  exact ⟨sha_to h.sha hb (by omega), h.below.trans (hb.mono (by omega)), (hb.block _ (by omega)).trans h.blk, Nat.le_trans h1 hb.size, own_below h.own hb, h2⟩

theorem QP.grown {w : World} {bs X : List Nat} {gx : Nat} {v v' : Value} {n m : Nat} {vs us : List Value} {U U' : World} (h : QP w bs X gx v n vs U) (ho : U'.ownsRow (w.heap.size + 1) 22 1 v' m us) (hg : U.grownBy U' v.ownBlock) : QP w bs X gx v' m us U' := by
  have h1 := h.size
  have h2 := h.base
  have hB : Below (w.heap.size + 1) U U' := (Below.refl _ _).grown hg (by omega) fun g hg => (h.own.lt g hg).1
  have hne : ∀ g, v.ownBlock = some g → g ≠ gx := by
    intro g hg' e
    subst e
    obtain ⟨_, ⟨rfl, _⟩ | ⟨b, cap, cur, rfl, _, hblk, _⟩⟩ := h.own
    · simp [Value.ownBlock] at hg'
    · obtain rfl : b = g := by simpa [Value.ownBlock] using hg'
      rw [h.blk] at hblk
      injection hblk with hblk
      injection hblk with _ ht _
      exact absurd ht (by decide)
  refine ⟨sha_lo h.sha hB (by omega), h.below.trans (hB.mono (by omega)), ?_, Nat.le_trans h1 hB.size, ho, h2⟩
  exact (hg.block gx (by omega) (fun e => hne gx e.symm rfl)).trans h.blk

theorem pieces_long (A B : Option Addr) (la ca lb cb : Nat) (w : World) (hT : Tab w) (h : 4000 < la ∨ 60 < lb) : Calls Tryd.prog 4 #[.slice A la ca, .slice B lb cb] w (Ok w) := by
  by_cases h1 : 4000 < la
  · have hd : decide (4000 < la) = true := by simpa using h1
    go_enter Tryd.func4, Tryd.ntmps4
    go_wp2_with fail
    refine (alive_any _ hT).mono ?_
    rintro e w1 ⟨rfl, hb⟩
    go_wp2
    go_ret
    exact ⟨rfl, hb⟩
  · have hd : decide (4000 < la) = false := by simpa using h1
    have hd2 : decide (60 < lb) = true := by simp; omega
    go_enter Tryd.func4, Tryd.ntmps4
    go_wp2_with fail
    refine (alive_any _ hT).mono ?_
    rintro e w1 ⟨rfl, hb⟩
    go_wp2
    go_ret
    exact ⟨rfl, hb⟩

set_option maxRecDepth 100000 in
set_option maxHeartbeats 2000000 in
theorem pieces_short (bs cuts : List Nat) (A B : Option Addr) (ca cb : Nat) (w : World) (hT : Tab w) (hR : R0 w A bs) (hca : bs.length ≤ ca) (hma : ca ≤ maxLen) (hRB : R0 w B cuts) (hbb : ∀ i, cuts.getD i 0 < 256) (h1 : bs.length ≤ 4000) (h2 : cuts.length ≤ 60) :
    Calls Tryd.prog 4 #[.slice A bs.length ca, .slice B cuts.length cb] w (Ok w) := by
  obtain ⟨i0, hi, hz0, hz1, hz2⟩ := info_parts infoSl
  have hbig := hT.big
  have HBIG := Lib.hid hbig
  have HR := Lib.hid hR
  have HA := Lib.hid (And.intro hca hma)
  have HRB := Lib.hid hRB
  have HT := Lib.hid hT
  have HBB := Lib.hid hbb
  have hd1 : decide (4000 < bs.length) = false := by simpa using h1
  have hd2 : decide (60 < cuts.length) = false := by simpa using h2
  clear hR hT hRB hbb hbig hca hma
  go_enter Tryd.func4, Tryd.ntmps4
  go_wp2_with fail
  refine (new_any _).mono ?_
  rintro e w1 ⟨rfl, hs1, hz1', hb1⟩
  have H0 := Lib.hid (show PK w bs 0 [] [] A ca (.slice none 0 0) w1 from ⟨by simpa using hs1, hb1, by omega, by simp, by simp, by simpa using HR.out, by simpa using HA.out.1, HA.out.2, World.ownsRow_nil _ _ _ _, PV.nil _⟩)
  clear hs1 hz1' hb1
  go_wp2
  go_loopw [6, 7, 8] (fun r v i wr => ∃ (k j : Nat) (qs : List (List Nat)) (vs : List Value) (A' : Option Addr) (c' : Nat), k ≤ cuts.length ∧ qs.length ≤ k ∧ j ≤ bs.length ∧ i = .int .i64 k ∧ r = .slice A' (bs.length - j) c' ∧ Hid (PK w bs j qs vs A' c' v wr)) (fun _ _ i _ => cuts.length - (intOf i).toNat)
  case atStart => exact ⟨0, 0, [], [], A, ca, by omega, by simp, by omega, rfl, rfl, H0⟩
  case round =>
    obtain ⟨k, j, qs, vs, A', c', hk, hqk, hj, rfl, rfl, HK⟩ := hrel
    obtain ⟨l, hl⟩ : ∃ l, bs.length - j = l := ⟨_, rfl⟩
    rw [hl]
    have HL := Lib.hid hl
    have hlb : l ≤ 4000 := by omega
    by_cases hgo : k < cuts.length ∧ 0 < l
    · obtain ⟨hlt, hl0⟩ := hgo
      have hdl : decide (0 < l) = true := by simpa using hl0
      obtain ⟨b, off, rfl, hbl, hc⟩ := HK.out.rd (by simp; omega)
      have HC := Lib.hid hc
      obtain ⟨b2, off2, rfl, hbl2, hc2⟩ := HRB.out (by omega)
      have hcw : wr.cell? ⟨b2, off2 + k, none⟩ = some (.int .u8 (cuts.getD k 0 : Nat)) := (HK.out.below.cell (p := ⟨b2, off2 + k, none⟩) hbl2).trans (hc2 k hlt)
      have hcb := HBB.out k
      obtain ⟨x, hx⟩ : ∃ x, cuts.getD k 0 = x := ⟨_, rfl⟩
      rw [hx] at hcw hcb
      clear hx hc2 hc hl
      by_cases hxl : l < x
      · have hdx : decide (l < x) = true := by simpa using hxl
        have hnl : l ≤ l := by omega
        have hlc : l ≤ c' := by have := HK.out.le; have := HL.out; omega
        have hnc : l ≤ c' := by omega
        have hpl : ((bs.drop j).take l).length = l := by have := HL.out; simp; omega
        obtain ⟨p, hp⟩ : ∃ p, (bs.drop j).take l = p := ⟨_, rfl⟩
        rw [hp] at hpl
        have htk : bs.take (j + l) = bs.take j ++ p := by rw [← hp, List.take_add]
        have hjl : (bs.take j).length = j := by simp; omega
        have hRp : R0 w (some ⟨b, off, none⟩) p := by rw [← hp]; exact R0.take hbl HC.out
        have HX := Lib.hid (add_any_n (bs.take j) p l hpl w.heap.size (some ⟨b, off, none⟩) c' wr HK.out.sha (hRp.rd HK.out.below (Nat.le_refl _)) hnc HK.out.max (HT.out.to HK.out.below) HBIG.out (by omega))
        obtain ⟨A2, hA2, hsl⟩ := cut_back (cs := bs.drop j) (m := l) (c := c') (by have := HL.out; simp; omega) hbl HC.out hlc hnl
        rw [List.drop_drop] at hA2
        have HA2 := Lib.hid hA2
        have HP := Lib.hid (And.intro htk (And.intro hjl (And.intro hpl hRp)))
        clear hA2 htk hjl hpl hp hRp
        go_wp2_with fail
        refine HX.out.mono ?_
        rintro e w2 ⟨rfl, hS2, hO2⟩
        rw [← HP.out.1] at hS2
        have hz := HK.out.size
        have HS2 := Lib.hid hS2
        have HB2 := Lib.hid (show Below w.heap.size w w2 from hO2.below HK.out.below (by omega) (by omega))
        have hz2 : w.heap.size + 1 ≤ w2.heap.size := Nat.le_trans hz hO2.size
        have HW2 := Lib.hid (own_only HK.out.own hO2 (by omega))
        clear hS2 hO2 HX hcw
        go_wp2_with fail
        refine (sum_any (bs.take (j + l)) w.heap.size w2 HS2.out (HT.out.to HB2.out) (by simp; omega)).mono ?_
        rintro e w3 ⟨rfl, hb3⟩
        have HS3 := Lib.hid (sha_to HS2.out hb3 (by omega))
        have HB3 := Lib.hid (HB2.out.trans (hb3.mono (by omega)))
        have hz3 : w.heap.size + 1 ≤ w3.heap.size := Nat.le_trans hz2 hb3.size
        have hown := own_below HW2.out hb3
        have hq60 : qs.length < 60 := by omega
        clear hb3 HS2 HB2 HW2 hz2 hz
        go_wp2_with (at_builtin; refine wpList_append_own _ rfl _ _ 42 rfl (w.heap.size + 1) 22 i0 (.slice none 0 0) 1 24 Tryd.underlying42 hi hz0 hz1 hz2 rfl (by decide) _ _ _ rfl (hown.alloc _) ⟨w3.heap.size, 0, none⟩ 1 1 [.slice (some ⟨b, off, none⟩) l c'] rfl rfl ?c1 ?c2 ?c3 ?c4 ?c5 ?_)
        case c1 => exact cell_one_new _ _ _
        case c2 => simp [Value.oneCell']
        case c3 => unfold maxLen; omega
        case c4 => omega
        case c5 => simp; omega
        intro v' w4 hown4 hgrow _
        have hbb : Below w3.heap.size w3 (w3.alloc (.cells #[.slice (some ⟨b, off, none⟩) l c'] 22)) := (Below.refl _ _).alloc (Nat.le_refl _) _
        have hB4 : Below (w.heap.size + 1) w3 w4 := ((Below.refl _ _).alloc (by omega) _).grown hgrow (by simp; omega) fun g hg => (hown.lt g hg).1
        have HK4 := Lib.hid (show PK w bs (j + l) (qs ++ [p]) (vs ++ [.slice (some ⟨b, off, none⟩) l c']) A2 (c' - l) v' w4 from ⟨sha_lo HS3.out hB4 (by omega), HB3.out.trans (hB4.mono (by omega)), Nat.le_trans hz3 hB4.size, by rw [List.flatten_append, HK.out.flat, HP.out.1]; simp, by simp; omega, HA2.out, by have := HK.out.le; have := HL.out; omega, by have := HK.out.max; omega, by simpa using hown4, by have := HK.out.pv.snoc HP.out.2.2.2 (by rw [HP.out.2.2.1]; exact hnc) HK.out.max; rw [HP.out.2.2.1] at this; exact this⟩)
        clear hown hown4 hgrow hbb hB4 HS3 HB3
        go_wp2
        go_roundw
        case rel => exact ⟨k + 1, j + l, qs ++ [p], vs ++ [.slice (some ⟨b, off, none⟩) l c'], A2, c' - l, by omega, by simp; omega, by have := HL.out; omega, by go_num, by have := HL.out; congr 1; omega, HK4⟩
        case measure => simp [intOf]; omega
      · have hdx : decide (l < x) = false := by simpa using hxl
        have hnl : x ≤ l := by omega
        have hlc : l ≤ c' := by have := HK.out.le; have := HL.out; omega
        have hnc : x ≤ c' := by omega
        have hpl : ((bs.drop j).take x).length = x := by have := HL.out; simp; omega
        obtain ⟨p, hp⟩ : ∃ p, (bs.drop j).take x = p := ⟨_, rfl⟩
        rw [hp] at hpl
        have htk : bs.take (j + x) = bs.take j ++ p := by rw [← hp, List.take_add]
        have hjl : (bs.take j).length = j := by simp; omega
        have hRp : R0 w (some ⟨b, off, none⟩) p := by rw [← hp]; exact R0.take hbl HC.out
        have HX := Lib.hid (add_any_n (bs.take j) p x hpl w.heap.size (some ⟨b, off, none⟩) c' wr HK.out.sha (hRp.rd HK.out.below (Nat.le_refl _)) hnc HK.out.max (HT.out.to HK.out.below) HBIG.out (by omega))
        obtain ⟨A2, hA2, hsl⟩ := cut_back (cs := bs.drop j) (m := x) (c := c') (by have := HL.out; simp; omega) hbl HC.out hlc hnl
        rw [List.drop_drop] at hA2
        have HA2 := Lib.hid hA2
        have HP := Lib.hid (And.intro htk (And.intro hjl (And.intro hpl hRp)))
        clear hA2 htk hjl hpl hp hRp
        go_wp2_with fail
        refine HX.out.mono ?_
        rintro e w2 ⟨rfl, hS2, hO2⟩
        rw [← HP.out.1] at hS2
        have hz := HK.out.size
        have HS2 := Lib.hid hS2
        have HB2 := Lib.hid (show Below w.heap.size w w2 from hO2.below HK.out.below (by omega) (by omega))
        have hz2 : w.heap.size + 1 ≤ w2.heap.size := Nat.le_trans hz hO2.size
        have HW2 := Lib.hid (own_only HK.out.own hO2 (by omega))
        clear hS2 hO2 HX hcw
        go_wp2_with fail
        refine (sum_any (bs.take (j + x)) w.heap.size w2 HS2.out (HT.out.to HB2.out) (by simp; omega)).mono ?_
        rintro e w3 ⟨rfl, hb3⟩
        have HS3 := Lib.hid (sha_to HS2.out hb3 (by omega))
        have HB3 := Lib.hid (HB2.out.trans (hb3.mono (by omega)))
        have hz3 : w.heap.size + 1 ≤ w3.heap.size := Nat.le_trans hz2 hb3.size
        have hown := own_below HW2.out hb3
        have hq60 : qs.length < 60 := by omega
        clear hb3 HS2 HB2 HW2 hz2 hz
        go_wp2_with (at_builtin; refine wpList_append_own _ rfl _ _ 42 rfl (w.heap.size + 1) 22 i0 (.slice none 0 0) 1 24 Tryd.underlying42 hi hz0 hz1 hz2 rfl (by decide) _ _ _ rfl (hown.alloc _) ⟨w3.heap.size, 0, none⟩ 1 1 [.slice (some ⟨b, off, none⟩) x c'] rfl rfl ?c1 ?c2 ?c3 ?c4 ?c5 ?_)
        case c1 => exact cell_one_new _ _ _
        case c2 => simp [Value.oneCell']
        case c3 => unfold maxLen; omega
        case c4 => omega
        case c5 => simp; omega
        intro v' w4 hown4 hgrow _
        have hbb : Below w3.heap.size w3 (w3.alloc (.cells #[.slice (some ⟨b, off, none⟩) x c'] 22)) := (Below.refl _ _).alloc (Nat.le_refl _) _
        have hB4 : Below (w.heap.size + 1) w3 w4 := ((Below.refl _ _).alloc (by omega) _).grown hgrow (by simp; omega) fun g hg => (hown.lt g hg).1
        have HK4 := Lib.hid (show PK w bs (j + x) (qs ++ [p]) (vs ++ [.slice (some ⟨b, off, none⟩) x c']) A2 (c' - x) v' w4 from ⟨sha_lo HS3.out hB4 (by omega), HB3.out.trans (hB4.mono (by omega)), Nat.le_trans hz3 hB4.size, by rw [List.flatten_append, HK.out.flat, HP.out.1]; simp, by simp; omega, HA2.out, by have := HK.out.le; have := HL.out; omega, by have := HK.out.max; omega, by simpa using hown4, by have := HK.out.pv.snoc HP.out.2.2.2 (by rw [HP.out.2.2.1]; exact hnc) HK.out.max; rw [HP.out.2.2.1] at this; exact this⟩)
        clear hown hown4 hgrow hbb hB4 HS3 HB3
        go_wp2
        go_roundw
        case rel => exact ⟨k + 1, j + x, qs ++ [p], vs ++ [.slice (some ⟨b, off, none⟩) x c'], A2, c' - x, by omega, by simp; omega, by have := HL.out; omega, by go_num, by have := HL.out; congr 1; omega, HK4⟩
        case measure => simp [intOf]; omega
    · have hgo' : ¬ k < cuts.length ∨ (k < cuts.length ∧ l = 0) := by omega
      have HX := Lib.hid (add_any_n (bs.take j) (bs.drop j) l (by have := HL.out; simp; omega) w.heap.size A' c' wr HK.out.sha (HK.out.rd.rd HK.out.below (Nat.le_refl _)) (by have := HK.out.le; have := HL.out; omega) HK.out.max (HT.out.to HK.out.below) HBIG.out (by simp; omega))
      clear hgo
      rcases hgo' with hgo | ⟨hgo, hl0⟩
      · have hdk : decide (k < cuts.length) = false := by simpa using hgo
        go_wp2_with fail
        refine HX.out.mono ?_
        rintro e w2 ⟨rfl, hS2, hO2⟩
        rw [List.take_append_drop] at hS2
        have hz := HK.out.size
        have HS2 := Lib.hid hS2
        have HB2 := Lib.hid (show Below w.heap.size w w2 from hO2.below HK.out.below (by omega) (by omega))
        have hz2 : w.heap.size + 1 ≤ w2.heap.size := Nat.le_trans hz hO2.size
        have HW2 := Lib.hid (own_only HK.out.own hO2 (by omega))
        clear hS2 hO2 HX hz
        go_wp2_with fail
        refine (sum_any bs w.heap.size w2 HS2.out (HT.out.to HB2.out) (by omega)).mono ?_
        rintro e w3 ⟨rfl, hb3⟩
        obtain ⟨X, hX⟩ : ∃ X, sumS bs = X := ⟨_, rfl⟩
        rw [hX]
        have hXl : X.length = 32 := by rw [← hX]; exact length_sumS bs
        have HXX := Lib.hid (And.intro hX hXl)
        have HS := Lib.hid (show (Tryd.prog.info? 29).map (·.size) = some (V8 X).toArray.size by rw [List.size_toArray, length_V8, hXl]; exact info29)
        have HE := Lib.hid (show (V8 Z32).toArray.size = (V8 X).toArray.size by simp [hXl, Z32])
        have HO := Lib.hid (show (V8 X).toArray.all (·.oneCell') = true by simpa using one_V8 X)
        clear hX hXl
        have HS3 := Lib.hid (sha_to HS2.out hb3 (by omega))
        have HB3 := Lib.hid (HB2.out.trans (hb3.mono (by omega)))
        have hz3 : w.heap.size + 1 ≤ w3.heap.size := Nat.le_trans hz2 hb3.size
        have HW3 := Lib.hid (own_below HW2.out hb3)
        clear hb3 HS2 HB2 HW2 hz2
        go_wp2_with (refine wpList_store_row rfl 29 _ _ rfl w3.heap.size (V8 X).toArray rfl rfl 29 (V8 Z32).toArray (heap_alloc_new _ _) HS.out HE.out HO.out ?_)
        have hbU : ∀ (o : Obj) (cs : Array Value), Below w3.heap.size w3 ((w3.alloc o).setRow w3.heap.size cs) := fun o cs => below_setRow ((Below.refl _ _).alloc (Nat.le_refl _) _) (Nat.le_refl _) _
        obtain ⟨U, hU, HQ⟩ : ∃ U : World, U = (w3.alloc (.cells ZL 29)).setRow w3.heap.size (V8 X).toArray ∧ Hid (QP w bs X w3.heap.size u7 qs.length vs U) := ⟨_, rfl, Lib.hid ⟨sha_to HS3.out (hbU _ _) (by omega), HB3.out.trans ((hbU _ _).mono (by omega)), setRow_heap _ _ _ _ _ _ (heap_alloc_new _ _), by simp, own_below HW3.out (hbU _ _), by omega⟩⟩
        unfold ZL at hU
        rw [← hU]
        clear hU hbU HS3 HB3 HW3 hz3
        obtain ⟨gx, hgx⟩ : ∃ gx, w3.heap.size = gx := ⟨_, rfl⟩
        rw [hgx] at HQ ⊢
        clear hgx
        have heq := eqSum X X HXX.out.2 HXX.out.2
        rw [show (X == X) = true by simp] at heq
        have hHeld0 : U.drew.heap[gx]? = some (.cells (V8 X).toArray 29 (0, 0)) := HQ.out.blk
        refine wp_region_held_drew (S := fun w' => w'.heap[gx]? = some (.cells (V8 X).toArray 29 (0, 0))) (by kernel_rfl) hHeld0 (fun hHeld => ?_)
        clear hHeld0
        refine wpAnyH_ready (rs := [0]) (by kernel_rfl) (by simp) ?_
        refine AllReadyH.cons (by simp; rfl) (fun K hK => ?_) AllReadyH.nil
        go_simp
        refine (alive_any U.drew (HT.out.to HQ.out.below.drew)).mono ?_
        rintro e w7 ⟨rfl, hb7⟩
        have HQ7 := Lib.hid ((QP.drew HQ.out).to hb7)
        refine hK.out _ _ HQ7.out.blk (fun hHeld => ?_)
        clear hK K hb7 HQ
        refine wpAnyH_take (i := 1) (v := ?_) (by simp; rfl) (by kernel_rfl) (by kernel_rfl) (by kernel_rfl) (by exact fun _ _ _ h => h) (Or.inl ⟨by rfl, fun wx hSx => ?_⟩) hHeld ?_
        rotate_left
        · clear hSx; go_simp; (try with_reducible rfl)
        simp only [Act.put, List.setIfInBounds_toArray, List.set_cons_zero, List.set_cons_succ]
        refine wpAnyH_take (i := 2) (v := ?_) (by simp; rfl) (by kernel_rfl) (by kernel_rfl) (by kernel_rfl) (by exact fun _ _ _ h => h) (Or.inl ⟨by rfl, fun wx hSx => ?_⟩) hHeld ?_
        rotate_left
        · clear hSx; go_simp; (try with_reducible rfl)
        simp only [Act.put, List.setIfInBounds_toArray, List.set_cons_zero, List.set_cons_succ]
        refine wpAnyH_take (i := 3) (v := ?_) (by simp; rfl) (by kernel_rfl) (by kernel_rfl) (by kernel_rfl) (by exact fun _ _ _ h => h) (Or.inl ⟨by rfl, fun wx hSx => ?_⟩) hHeld ?_
        rotate_left
        · clear hSx; go_simp; (try with_reducible rfl)
        simp only [Act.put, List.setIfInBounds_toArray, List.set_cons_zero, List.set_cons_succ]
        refine wpAnyH_take (i := 4) (v := ?_) (by simp; rfl) (by kernel_rfl) (by kernel_rfl) (by kernel_rfl) (by exact fun _ _ _ h => h) (Or.inl ⟨by rfl, fun wx hSx => ?_⟩) hHeld ?_
        rotate_left
        · clear hSx; go_simp; (try with_reducible rfl)
        simp only [Act.put, List.setIfInBounds_toArray, List.set_cons_zero, List.set_cons_succ]
        refine wpAnyH_take (i := 5) (v := ?_) (by simp; rfl) (by kernel_rfl) (by kernel_rfl) (by kernel_rfl) (by exact fun _ _ _ h => h) (Or.inl ⟨by rfl, fun wx hSx => ?_⟩) hHeld ?_
        rotate_left
        · clear hSx; go_simp; (try with_reducible rfl)
        simp only [Act.put, List.setIfInBounds_toArray, List.set_cons_zero, List.set_cons_succ]
        refine wpAnyH_take (i := 6) (v := ?_) (by simp; rfl) (by kernel_rfl) (by kernel_rfl) (by kernel_rfl) (by exact fun _ _ _ h => h) (Or.inl ⟨by rfl, fun wx hSx => ?_⟩) hHeld ?_
        rotate_left
        · clear hSx; go_simp; (try with_reducible rfl)
        simp only [Act.put, List.setIfInBounds_toArray, List.set_cons_zero, List.set_cons_succ]
        refine wpAnyH_take (i := 7) (v := ?_) (by simp; rfl) (by kernel_rfl) (by kernel_rfl) (by kernel_rfl) (by exact fun _ _ _ h => h) (Or.inl ⟨by rfl, fun wx hSx => ?_⟩) hHeld ?_
        rotate_left
        · clear hSx; go_simp; (try with_reducible rfl)
        simp only [Act.put, List.setIfInBounds_toArray, List.set_cons_zero, List.set_cons_succ]
        refine wpAnyH_take (i := 8) (v := ?_) (by simp; rfl) (by kernel_rfl) (by kernel_rfl) (by kernel_rfl) (by exact fun _ _ _ h => h) (Or.inl ⟨by rfl, fun wx hSx => ?_⟩) hHeld ?_
        rotate_left
        · clear hSx; go_simp; (try with_reducible rfl)
        simp only [Act.put, List.setIfInBounds_toArray, List.set_cons_zero, List.set_cons_succ]
        refine wpAnyH_take (i := 9) (v := ?_) (by simp; rfl) (by kernel_rfl) (by kernel_rfl) (by kernel_rfl) (by exact fun _ _ _ h => h) (Or.inl ⟨by rfl, fun wx hSx => ?_⟩) hHeld ?_
        rotate_left
        · clear hSx; go_simp; (try with_reducible rfl)
        simp only [Act.put, List.setIfInBounds_toArray, List.set_cons_zero, List.set_cons_succ]
        refine wpAnyH_take (i := 10) (v := ?_) (by simp; rfl) (by kernel_rfl) (by kernel_rfl) (by kernel_rfl) (by exact fun _ _ _ h => h) (Or.inl ⟨by rfl, fun wx hSx => ?_⟩) hHeld ?_
        rotate_left
        · refine exec_load_row 29 (.tmp 11) ?_ gx ?_ 29 (V8 X).toArray (0, 0) _ hSx Tryd.underlying29 rfl HS.out <;> rfl
        simp only [Act.put, List.setIfInBounds_toArray, List.set_cons_zero, List.set_cons_succ]
        refine wpAnyH_take (i := 11) (v := ?_) (by simp; rfl) (by kernel_rfl) (by kernel_rfl) (by kernel_rfl) (by exact fun _ _ _ h => h) (Or.inl ⟨by rfl, fun wx hSx => ?_⟩) hHeld ?_
        rotate_left
        · clear hSx; go_simp; (try with_reducible rfl)
        simp only [Act.put, List.setIfInBounds_toArray, List.set_cons_zero, List.set_cons_succ]
        refine wpAnyH_ready (rs := [12]) (by kernel_rfl) (by simp) ?_
        refine AllReadyH.cons (by simp; rfl) (fun K hK => ?_) AllReadyH.nil
        go_simp
        have hb8 : Below w7.heap.size w7 (w7.alloc (.cells #[.slice A bs.length ca] 22)) := (Below.refl _ _).alloc (Nat.le_refl _) _
        have HQ8 := Lib.hid (HQ7.out.to hb8)
        refine hK.out _ _ HQ8.out.blk (fun hHeld => ?_)
        clear hK K hb8
        refine wpAnyH_ready (rs := [13]) (by kernel_rfl) (by simp) ?_
        refine AllReadyH.cons (by simp; rfl) (fun K hK => ?_) AllReadyH.nil
        go_simp
        refine (of_any_n [bs] 1 rfl (some ⟨w7.heap.size, 0, none⟩) 1 _ (RS.one (A := A) (c := ca) (heap_alloc_new _ _) (HR.out.to HQ8.out.below) HA.out.1 HA.out.2) (Nat.le_refl _) (by unfold maxLen; omega) (HT.out.to HQ8.out.below) (by simp; omega)).mono ?_
        rintro e w9 ⟨rfl, hb9⟩
        rw [show [bs].flatten = bs by simp, HXX.out.1]
        have HQ9 := Lib.hid (HQ8.out.to hb9)
        refine hK.out _ _ HQ9.out.blk (fun hHeld => ?_)
        clear hK K hb9 HQ8 HQ7
        refine wpAnyH_take (i := 14) (v := ?_) (by simp; rfl) (by kernel_rfl) (by kernel_rfl) (by kernel_rfl) (by exact fun _ _ _ h => h) (Or.inl ⟨by rfl, fun wx hSx => ?_⟩) hHeld ?_
        rotate_left
        · clear hSx; go_simp; (try with_reducible rfl)
        simp only [Act.put, List.setIfInBounds_toArray, List.set_cons_zero, List.set_cons_succ]
        refine wpAnyH_take (i := 15) (v := ?_) (by simp; rfl) (by kernel_rfl) (by kernel_rfl) (by kernel_rfl) (by exact fun _ _ _ h => h) (Or.inl ⟨by rfl, fun wx hSx => ?_⟩) hHeld ?_
        rotate_left
        · clear hSx; go_simp; (try with_reducible rfl)
        simp only [Act.put, List.setIfInBounds_toArray, List.set_cons_zero, List.set_cons_succ]
        refine wpAnyH_take (i := 16) (v := ?_) (by simp; rfl) (by kernel_rfl) (by kernel_rfl) (by kernel_rfl) (by exact fun _ _ _ h => h) (Or.inl ⟨by rfl, fun wx hSx => ?_⟩) hHeld ?_
        rotate_left
        · clear hSx; go_simp; (try with_reducible rfl)
        simp only [Act.put, List.setIfInBounds_toArray, List.set_cons_zero, List.set_cons_succ]
        refine wpAnyH_take (i := 17) (v := ?_) (by simp; rfl) (by kernel_rfl) (by kernel_rfl) (by kernel_rfl) (by exact fun _ _ _ h => h) (Or.inl ⟨by rfl, fun wx hSx => ?_⟩) hHeld ?_
        rotate_left
        · refine exec_load_row 29 (.tmp 11) ?_ gx ?_ 29 (V8 X).toArray (0, 0) _ hSx Tryd.underlying29 rfl HS.out <;> rfl
        simp only [Act.put, List.setIfInBounds_toArray, List.set_cons_zero, List.set_cons_succ]
        refine wpAnyH_take (i := 18) (v := ?_) (by simp; rfl) (by kernel_rfl) (by kernel_rfl) (by kernel_rfl) (by exact fun _ _ _ h => h) (Or.inl ⟨by rfl, fun wx hSx => ?_⟩) hHeld ?_
        rotate_left
        · clear hSx; go_simp; (try with_reducible rfl)
        simp only [Act.put, List.setIfInBounds_toArray, List.set_cons_zero, List.set_cons_succ]
        refine wpAnyH_take (i := 19) (v := ?_) (by simp; rfl) (by kernel_rfl) (by kernel_rfl) (by kernel_rfl) (by exact fun _ _ _ h => h) (Or.inl ⟨by rfl, fun wx hSx => ?_⟩) hHeld ?_
        rotate_left
        · clear hSx; go_simp; (try with_reducible rfl)
        simp only [Act.put, List.setIfInBounds_toArray, List.set_cons_zero, List.set_cons_succ]
        refine wpAnyH_ready (rs := [20]) (by kernel_rfl) (by simp) ?_
        refine AllReadyH.cons (by simp; rfl) (fun K hK => ?_) AllReadyH.nil
        go_simp
        have hb10 : Below w9.heap.size w9 (w9.alloc (.cells #[.slice A' l c'] 22)) := (Below.refl _ _).alloc (Nat.le_refl _) _
        have HQ10 := Lib.hid (HQ9.out.to hb10)
        refine hK.out _ _ HQ10.out.blk (fun hHeld => ?_)
        clear hK K hb10
        refine wpAnyH_ready (rs := [21]) (by kernel_rfl) (by simp) ?_
        refine AllReadyH.cons (by simp; rfl) (fun K hK => ?_) AllReadyH.nil
        rw [if_pos (by rfl)]
        refine wp_append_own _ (.tmp 89) (.tmp 91) 42 rfl (w.heap.size + 1) 22 i0 (.slice none 0 0) 1 24 Tryd.underlying42 hi hz0 hz1 hz2 rfl (by decide) u7 qs.length vs rfl HQ10.out.own ⟨w9.heap.size, 0, none⟩ 1 1 [.slice A' l c'] rfl rfl (cell_one_new _ _ _) (fun u hu => by rcases List.mem_singleton.1 hu with rfl; rfl) (by unfold maxLen; omega) (by omega) (by have := HQ9.out.size; have := HQ9.out.base; simp; omega) ?_
        intro v' w11 hown11 hgrow _
        have HQ11 := Lib.hid (QP.grown HQ10.out hown11 hgrow)
        have hdl' : (bs.drop j).length = l := by rw [List.length_drop]; exact HL.out
        have hpv := HK.out.pv.snoc (A := A') (q := bs.drop j) (c := c') HK.out.rd (by have := HK.out.le; rw [List.length_drop]; omega) HK.out.max
        rw [hdl'] at hpv
        obtain ⟨AA, cc, rfl, hRS, hcc, hcm⟩ := PV.rs hown11 (hpv.to HQ11.out.below) (List.length_append)
        refine hK.out _ _ HQ11.out.blk (fun hHeld => ?_)
        have HRS := Lib.hid (And.intro hRS (And.intro hcc hcm))
        clear hK K hown11 hgrow HQ10 HQ9 hRS hcc hcm hpv hdl'
        simp only [Act.put, List.setIfInBounds_toArray, List.set_cons_zero, List.set_cons_succ]
        refine wpAnyH_ready (rs := [22]) (by kernel_rfl) (by simp) ?_
        refine AllReadyH.cons (by simp; rfl) (fun K hK => ?_) AllReadyH.nil
        go_simp
        have hfl : (qs ++ [bs.drop j]).flatten = bs := by rw [List.flatten_append, HK.out.flat]; simp
        refine (of_any_n (qs ++ [bs.drop j]) (qs.length + 1) (by simp) AA cc _ HRS.out.1 HRS.out.2.1 HRS.out.2.2 (HT.out.to HQ11.out.below) (by rw [hfl]; omega)).mono ?_
        rintro e w12 ⟨rfl, hb12⟩
        rw [hfl, HXX.out.1]
        have HQ12 := Lib.hid (HQ11.out.to hb12)
        refine hK.out _ _ HQ12.out.blk (fun hHeld => ?_)
        clear hK K hb12 HQ11 hfl
        refine wpAnyH_take (i := 23) (v := ?_) (by simp; rfl) (by kernel_rfl) (by kernel_rfl) (by kernel_rfl) (by exact fun _ _ _ h => h) (Or.inl ⟨by rfl, fun wx hSx => ?_⟩) hHeld ?_
        rotate_left
        · clear hSx; go_simp; (try with_reducible rfl)
        simp only [Act.put, List.setIfInBounds_toArray, List.set_cons_zero, List.set_cons_succ]
        refine wpAnyH_take (i := 24) (v := ?_) (by simp; rfl) (by kernel_rfl) (by kernel_rfl) (by kernel_rfl) (by exact fun _ _ _ h => h) (Or.inl ⟨by rfl, fun wx hSx => ?_⟩) hHeld ?_
        rotate_left
        · clear hSx; go_simp; (try with_reducible rfl)
        simp only [Act.put, List.setIfInBounds_toArray, List.set_cons_zero, List.set_cons_succ]
        refine wpAnyH_take (i := 25) (v := ?_) (by simp; rfl) (by kernel_rfl) (by kernel_rfl) (by kernel_rfl) (by exact fun _ _ _ h => h) (Or.inl ⟨by rfl, fun wx hSx => ?_⟩) hHeld ?_
        rotate_left
        · clear hSx; go_simp; (try with_reducible rfl)
        simp only [Act.put, List.setIfInBounds_toArray, List.set_cons_zero, List.set_cons_succ]
        refine wpAnyH_take (i := 26) (v := ?_) (by simp; rfl) (by kernel_rfl) (by kernel_rfl) (by kernel_rfl) (by exact fun _ _ _ h => h) (Or.inl ⟨by rfl, fun wx hSx => ?_⟩) hHeld ?_
        rotate_left
        · clear hSx; go_simp; (try with_reducible rfl)
        simp only [Act.put, List.setIfInBounds_toArray, List.set_cons_zero, List.set_cons_succ]
        refine wpAnyH_take (i := 28) (v := ?_) (by simp; rfl) (by kernel_rfl) (by kernel_rfl) (by kernel_rfl) (by exact fun _ _ _ h => h) (Or.inl ⟨by rfl, fun wx hSx => ?_⟩) hHeld ?_
        rotate_left
        · clear hSx; go_simp; (try with_reducible rfl)
        simp only [Act.put, List.setIfInBounds_toArray, List.set_cons_zero, List.set_cons_succ]
        refine wpAnyH_take (i := 29) (v := ?_) (by simp; rfl) (by kernel_rfl) (by kernel_rfl) (by kernel_rfl) (by exact fun _ _ _ h => h) (Or.inl ⟨by rfl, fun wx hSx => ?_⟩) hHeld ?_
        rotate_left
        · clear hSx; go_simp; (try with_reducible rfl)
        simp only [Act.put, List.setIfInBounds_toArray, List.set_cons_zero, List.set_cons_succ]
        refine wpAnyH_ready (rs := [27]) (by kernel_rfl) (by simp) ?_
        refine AllReadyH.cons (by simp; rfl) (fun K hK => ?_) AllReadyH.nil
        go_simp
        refine (len_any bs w.heap.size w12 HQ12.out.sha (by omega)).mono ?_
        rintro e w13 ⟨rfl, hw13⟩
        subst hw13
        refine hK.out _ _ hHeld (fun _ => ?_)
        clear hK K
        refine wpAnyH_take (i := 30) (v := ?_) (by simp; rfl) (by kernel_rfl) (by kernel_rfl) (by kernel_rfl) (by exact fun _ _ _ h => h) (Or.inl ⟨by rfl, fun wx hSx => ?_⟩) hHeld ?_
        rotate_left
        · clear hSx; go_simp; (try with_reducible rfl)
        simp only [Act.put, List.setIfInBounds_toArray, List.set_cons_zero, List.set_cons_succ]
        refine wpAnyH_take (i := 31) (v := ?_) (by simp; rfl) (by kernel_rfl) (by kernel_rfl) (by kernel_rfl) (by exact fun _ _ _ h => h) (Or.inl ⟨by rfl, fun wx hSx => ?_⟩) hHeld ?_
        rotate_left
        · clear hSx; go_simp; (try with_reducible rfl)
        simp only [Act.put, List.setIfInBounds_toArray, List.set_cons_zero, List.set_cons_succ]
        refine wpAnyH_take (i := 32) (v := ?_) (by simp; rfl) (by kernel_rfl) (by kernel_rfl) (by kernel_rfl) (by exact fun _ _ _ h => h) (Or.inl ⟨by rfl, fun wx hSx => ?_⟩) hHeld ?_
        rotate_left
        · clear hSx; go_simp; (try with_reducible rfl)
        simp only [Act.put, List.setIfInBounds_toArray, List.set_cons_zero, List.set_cons_succ]
        refine wpAnyH_done (by kernel_rfl) ?_ _
        go_wp2
        go_ret
        exact ⟨rfl, HQ12.out.below⟩
      · have hdk : decide (k < cuts.length) = true := by simpa using hgo
        have hdl : decide (0 < l) = false := by simp; omega
        clear hl0
        go_wp2_with fail
        refine HX.out.mono ?_
        rintro e w2 ⟨rfl, hS2, hO2⟩
        rw [List.take_append_drop] at hS2
        have hz := HK.out.size
        have HS2 := Lib.hid hS2
        have HB2 := Lib.hid (show Below w.heap.size w w2 from hO2.below HK.out.below (by omega) (by omega))
        have hz2 : w.heap.size + 1 ≤ w2.heap.size := Nat.le_trans hz hO2.size
        have HW2 := Lib.hid (own_only HK.out.own hO2 (by omega))
        clear hS2 hO2 HX hz
        go_wp2_with fail
        refine (sum_any bs w.heap.size w2 HS2.out (HT.out.to HB2.out) (by omega)).mono ?_
        rintro e w3 ⟨rfl, hb3⟩
        obtain ⟨X, hX⟩ : ∃ X, sumS bs = X := ⟨_, rfl⟩
        rw [hX]
        have hXl : X.length = 32 := by rw [← hX]; exact length_sumS bs
        have HXX := Lib.hid (And.intro hX hXl)
        have HS := Lib.hid (show (Tryd.prog.info? 29).map (·.size) = some (V8 X).toArray.size by rw [List.size_toArray, length_V8, hXl]; exact info29)
        have HE := Lib.hid (show (V8 Z32).toArray.size = (V8 X).toArray.size by simp [hXl, Z32])
        have HO := Lib.hid (show (V8 X).toArray.all (·.oneCell') = true by simpa using one_V8 X)
        clear hX hXl
        have HS3 := Lib.hid (sha_to HS2.out hb3 (by omega))
        have HB3 := Lib.hid (HB2.out.trans (hb3.mono (by omega)))
        have hz3 : w.heap.size + 1 ≤ w3.heap.size := Nat.le_trans hz2 hb3.size
        have HW3 := Lib.hid (own_below HW2.out hb3)
        clear hb3 HS2 HB2 HW2 hz2
        go_wp2_with (refine wpList_store_row rfl 29 _ _ rfl w3.heap.size (V8 X).toArray rfl rfl 29 (V8 Z32).toArray (heap_alloc_new _ _) HS.out HE.out HO.out ?_)
        have hbU : ∀ (o : Obj) (cs : Array Value), Below w3.heap.size w3 ((w3.alloc o).setRow w3.heap.size cs) := fun o cs => below_setRow ((Below.refl _ _).alloc (Nat.le_refl _) _) (Nat.le_refl _) _
        obtain ⟨U, hU, HQ⟩ : ∃ U : World, U = (w3.alloc (.cells ZL 29)).setRow w3.heap.size (V8 X).toArray ∧ Hid (QP w bs X w3.heap.size u7 qs.length vs U) := ⟨_, rfl, Lib.hid ⟨sha_to HS3.out (hbU _ _) (by omega), HB3.out.trans ((hbU _ _).mono (by omega)), setRow_heap _ _ _ _ _ _ (heap_alloc_new _ _), by simp, own_below HW3.out (hbU _ _), by omega⟩⟩
        unfold ZL at hU
        rw [← hU]
        clear hU hbU HS3 HB3 HW3 hz3
        obtain ⟨gx, hgx⟩ : ∃ gx, w3.heap.size = gx := ⟨_, rfl⟩
        rw [hgx] at HQ ⊢
        clear hgx
        have heq := eqSum X X HXX.out.2 HXX.out.2
        rw [show (X == X) = true by simp] at heq
        have hHeld0 : U.drew.heap[gx]? = some (.cells (V8 X).toArray 29 (0, 0)) := HQ.out.blk
        refine wp_region_held_drew (S := fun w' => w'.heap[gx]? = some (.cells (V8 X).toArray 29 (0, 0))) (by kernel_rfl) hHeld0 (fun hHeld => ?_)
        clear hHeld0
        refine wpAnyH_ready (rs := [0]) (by kernel_rfl) (by simp) ?_
        refine AllReadyH.cons (by simp; rfl) (fun K hK => ?_) AllReadyH.nil
        go_simp
        refine (alive_any U.drew (HT.out.to HQ.out.below.drew)).mono ?_
        rintro e w7 ⟨rfl, hb7⟩
        have HQ7 := Lib.hid ((QP.drew HQ.out).to hb7)
        refine hK.out _ _ HQ7.out.blk (fun hHeld => ?_)
        clear hK K hb7 HQ
        refine wpAnyH_take (i := 1) (v := ?_) (by simp; rfl) (by kernel_rfl) (by kernel_rfl) (by kernel_rfl) (by exact fun _ _ _ h => h) (Or.inl ⟨by rfl, fun wx hSx => ?_⟩) hHeld ?_
        rotate_left
        · clear hSx; go_simp; (try with_reducible rfl)
        simp only [Act.put, List.setIfInBounds_toArray, List.set_cons_zero, List.set_cons_succ]
        refine wpAnyH_take (i := 2) (v := ?_) (by simp; rfl) (by kernel_rfl) (by kernel_rfl) (by kernel_rfl) (by exact fun _ _ _ h => h) (Or.inl ⟨by rfl, fun wx hSx => ?_⟩) hHeld ?_
        rotate_left
        · clear hSx; go_simp; (try with_reducible rfl)
        simp only [Act.put, List.setIfInBounds_toArray, List.set_cons_zero, List.set_cons_succ]
        refine wpAnyH_take (i := 3) (v := ?_) (by simp; rfl) (by kernel_rfl) (by kernel_rfl) (by kernel_rfl) (by exact fun _ _ _ h => h) (Or.inl ⟨by rfl, fun wx hSx => ?_⟩) hHeld ?_
        rotate_left
        · clear hSx; go_simp; (try with_reducible rfl)
        simp only [Act.put, List.setIfInBounds_toArray, List.set_cons_zero, List.set_cons_succ]
        refine wpAnyH_take (i := 4) (v := ?_) (by simp; rfl) (by kernel_rfl) (by kernel_rfl) (by kernel_rfl) (by exact fun _ _ _ h => h) (Or.inl ⟨by rfl, fun wx hSx => ?_⟩) hHeld ?_
        rotate_left
        · clear hSx; go_simp; (try with_reducible rfl)
        simp only [Act.put, List.setIfInBounds_toArray, List.set_cons_zero, List.set_cons_succ]
        refine wpAnyH_take (i := 5) (v := ?_) (by simp; rfl) (by kernel_rfl) (by kernel_rfl) (by kernel_rfl) (by exact fun _ _ _ h => h) (Or.inl ⟨by rfl, fun wx hSx => ?_⟩) hHeld ?_
        rotate_left
        · clear hSx; go_simp; (try with_reducible rfl)
        simp only [Act.put, List.setIfInBounds_toArray, List.set_cons_zero, List.set_cons_succ]
        refine wpAnyH_take (i := 6) (v := ?_) (by simp; rfl) (by kernel_rfl) (by kernel_rfl) (by kernel_rfl) (by exact fun _ _ _ h => h) (Or.inl ⟨by rfl, fun wx hSx => ?_⟩) hHeld ?_
        rotate_left
        · clear hSx; go_simp; (try with_reducible rfl)
        simp only [Act.put, List.setIfInBounds_toArray, List.set_cons_zero, List.set_cons_succ]
        refine wpAnyH_take (i := 7) (v := ?_) (by simp; rfl) (by kernel_rfl) (by kernel_rfl) (by kernel_rfl) (by exact fun _ _ _ h => h) (Or.inl ⟨by rfl, fun wx hSx => ?_⟩) hHeld ?_
        rotate_left
        · clear hSx; go_simp; (try with_reducible rfl)
        simp only [Act.put, List.setIfInBounds_toArray, List.set_cons_zero, List.set_cons_succ]
        refine wpAnyH_take (i := 8) (v := ?_) (by simp; rfl) (by kernel_rfl) (by kernel_rfl) (by kernel_rfl) (by exact fun _ _ _ h => h) (Or.inl ⟨by rfl, fun wx hSx => ?_⟩) hHeld ?_
        rotate_left
        · clear hSx; go_simp; (try with_reducible rfl)
        simp only [Act.put, List.setIfInBounds_toArray, List.set_cons_zero, List.set_cons_succ]
        refine wpAnyH_take (i := 9) (v := ?_) (by simp; rfl) (by kernel_rfl) (by kernel_rfl) (by kernel_rfl) (by exact fun _ _ _ h => h) (Or.inl ⟨by rfl, fun wx hSx => ?_⟩) hHeld ?_
        rotate_left
        · clear hSx; go_simp; (try with_reducible rfl)
        simp only [Act.put, List.setIfInBounds_toArray, List.set_cons_zero, List.set_cons_succ]
        refine wpAnyH_take (i := 10) (v := ?_) (by simp; rfl) (by kernel_rfl) (by kernel_rfl) (by kernel_rfl) (by exact fun _ _ _ h => h) (Or.inl ⟨by rfl, fun wx hSx => ?_⟩) hHeld ?_
        rotate_left
        · refine exec_load_row 29 (.tmp 11) ?_ gx ?_ 29 (V8 X).toArray (0, 0) _ hSx Tryd.underlying29 rfl HS.out <;> rfl
        simp only [Act.put, List.setIfInBounds_toArray, List.set_cons_zero, List.set_cons_succ]
        refine wpAnyH_take (i := 11) (v := ?_) (by simp; rfl) (by kernel_rfl) (by kernel_rfl) (by kernel_rfl) (by exact fun _ _ _ h => h) (Or.inl ⟨by rfl, fun wx hSx => ?_⟩) hHeld ?_
        rotate_left
        · clear hSx; go_simp; (try with_reducible rfl)
        simp only [Act.put, List.setIfInBounds_toArray, List.set_cons_zero, List.set_cons_succ]
        refine wpAnyH_ready (rs := [12]) (by kernel_rfl) (by simp) ?_
        refine AllReadyH.cons (by simp; rfl) (fun K hK => ?_) AllReadyH.nil
        go_simp
        have hb8 : Below w7.heap.size w7 (w7.alloc (.cells #[.slice A bs.length ca] 22)) := (Below.refl _ _).alloc (Nat.le_refl _) _
        have HQ8 := Lib.hid (HQ7.out.to hb8)
        refine hK.out _ _ HQ8.out.blk (fun hHeld => ?_)
        clear hK K hb8
        refine wpAnyH_ready (rs := [13]) (by kernel_rfl) (by simp) ?_
        refine AllReadyH.cons (by simp; rfl) (fun K hK => ?_) AllReadyH.nil
        go_simp
        refine (of_any_n [bs] 1 rfl (some ⟨w7.heap.size, 0, none⟩) 1 _ (RS.one (A := A) (c := ca) (heap_alloc_new _ _) (HR.out.to HQ8.out.below) HA.out.1 HA.out.2) (Nat.le_refl _) (by unfold maxLen; omega) (HT.out.to HQ8.out.below) (by simp; omega)).mono ?_
        rintro e w9 ⟨rfl, hb9⟩
        rw [show [bs].flatten = bs by simp, HXX.out.1]
        have HQ9 := Lib.hid (HQ8.out.to hb9)
        refine hK.out _ _ HQ9.out.blk (fun hHeld => ?_)
        clear hK K hb9 HQ8 HQ7
        refine wpAnyH_take (i := 14) (v := ?_) (by simp; rfl) (by kernel_rfl) (by kernel_rfl) (by kernel_rfl) (by exact fun _ _ _ h => h) (Or.inl ⟨by rfl, fun wx hSx => ?_⟩) hHeld ?_
        rotate_left
        · clear hSx; go_simp; (try with_reducible rfl)
        simp only [Act.put, List.setIfInBounds_toArray, List.set_cons_zero, List.set_cons_succ]
        refine wpAnyH_take (i := 15) (v := ?_) (by simp; rfl) (by kernel_rfl) (by kernel_rfl) (by kernel_rfl) (by exact fun _ _ _ h => h) (Or.inl ⟨by rfl, fun wx hSx => ?_⟩) hHeld ?_
        rotate_left
        · clear hSx; go_simp; (try with_reducible rfl)
        simp only [Act.put, List.setIfInBounds_toArray, List.set_cons_zero, List.set_cons_succ]
        refine wpAnyH_take (i := 16) (v := ?_) (by simp; rfl) (by kernel_rfl) (by kernel_rfl) (by kernel_rfl) (by exact fun _ _ _ h => h) (Or.inl ⟨by rfl, fun wx hSx => ?_⟩) hHeld ?_
        rotate_left
        · clear hSx; go_simp; (try with_reducible rfl)
        simp only [Act.put, List.setIfInBounds_toArray, List.set_cons_zero, List.set_cons_succ]
        refine wpAnyH_take (i := 17) (v := ?_) (by simp; rfl) (by kernel_rfl) (by kernel_rfl) (by kernel_rfl) (by exact fun _ _ _ h => h) (Or.inl ⟨by rfl, fun wx hSx => ?_⟩) hHeld ?_
        rotate_left
        · refine exec_load_row 29 (.tmp 11) ?_ gx ?_ 29 (V8 X).toArray (0, 0) _ hSx Tryd.underlying29 rfl HS.out <;> rfl
        simp only [Act.put, List.setIfInBounds_toArray, List.set_cons_zero, List.set_cons_succ]
        refine wpAnyH_take (i := 18) (v := ?_) (by simp; rfl) (by kernel_rfl) (by kernel_rfl) (by kernel_rfl) (by exact fun _ _ _ h => h) (Or.inl ⟨by rfl, fun wx hSx => ?_⟩) hHeld ?_
        rotate_left
        · clear hSx; go_simp; (try with_reducible rfl)
        simp only [Act.put, List.setIfInBounds_toArray, List.set_cons_zero, List.set_cons_succ]
        refine wpAnyH_take (i := 19) (v := ?_) (by simp; rfl) (by kernel_rfl) (by kernel_rfl) (by kernel_rfl) (by exact fun _ _ _ h => h) (Or.inl ⟨by rfl, fun wx hSx => ?_⟩) hHeld ?_
        rotate_left
        · clear hSx; go_simp; (try with_reducible rfl)
        simp only [Act.put, List.setIfInBounds_toArray, List.set_cons_zero, List.set_cons_succ]
        refine wpAnyH_ready (rs := [20]) (by kernel_rfl) (by simp) ?_
        refine AllReadyH.cons (by simp; rfl) (fun K hK => ?_) AllReadyH.nil
        go_simp
        have hb10 : Below w9.heap.size w9 (w9.alloc (.cells #[.slice A' l c'] 22)) := (Below.refl _ _).alloc (Nat.le_refl _) _
        have HQ10 := Lib.hid (HQ9.out.to hb10)
        refine hK.out _ _ HQ10.out.blk (fun hHeld => ?_)
        clear hK K hb10
        refine wpAnyH_ready (rs := [21]) (by kernel_rfl) (by simp) ?_
        refine AllReadyH.cons (by simp; rfl) (fun K hK => ?_) AllReadyH.nil
        rw [if_pos (by rfl)]
        refine wp_append_own _ (.tmp 89) (.tmp 91) 42 rfl (w.heap.size + 1) 22 i0 (.slice none 0 0) 1 24 Tryd.underlying42 hi hz0 hz1 hz2 rfl (by decide) u7 qs.length vs rfl HQ10.out.own ⟨w9.heap.size, 0, none⟩ 1 1 [.slice A' l c'] rfl rfl (cell_one_new _ _ _) (fun u hu => by rcases List.mem_singleton.1 hu with rfl; rfl) (by unfold maxLen; omega) (by omega) (by have := HQ9.out.size; have := HQ9.out.base; simp; omega) ?_
        intro v' w11 hown11 hgrow _
        have HQ11 := Lib.hid (QP.grown HQ10.out hown11 hgrow)
        have hdl' : (bs.drop j).length = l := by rw [List.length_drop]; exact HL.out
        have hpv := HK.out.pv.snoc (A := A') (q := bs.drop j) (c := c') HK.out.rd (by have := HK.out.le; rw [List.length_drop]; omega) HK.out.max
        rw [hdl'] at hpv
        obtain ⟨AA, cc, rfl, hRS, hcc, hcm⟩ := PV.rs hown11 (hpv.to HQ11.out.below) (List.length_append)
        refine hK.out _ _ HQ11.out.blk (fun hHeld => ?_)
        have HRS := Lib.hid (And.intro hRS (And.intro hcc hcm))
        clear hK K hown11 hgrow HQ10 HQ9 hRS hcc hcm hpv hdl'
        simp only [Act.put, List.setIfInBounds_toArray, List.set_cons_zero, List.set_cons_succ]
        refine wpAnyH_ready (rs := [22]) (by kernel_rfl) (by simp) ?_
        refine AllReadyH.cons (by simp; rfl) (fun K hK => ?_) AllReadyH.nil
        go_simp
        have hfl : (qs ++ [bs.drop j]).flatten = bs := by rw [List.flatten_append, HK.out.flat]; simp
        refine (of_any_n (qs ++ [bs.drop j]) (qs.length + 1) (by simp) AA cc _ HRS.out.1 HRS.out.2.1 HRS.out.2.2 (HT.out.to HQ11.out.below) (by rw [hfl]; omega)).mono ?_
        rintro e w12 ⟨rfl, hb12⟩
        rw [hfl, HXX.out.1]
        have HQ12 := Lib.hid (HQ11.out.to hb12)
        refine hK.out _ _ HQ12.out.blk (fun hHeld => ?_)
        clear hK K hb12 HQ11 hfl
        refine wpAnyH_take (i := 23) (v := ?_) (by simp; rfl) (by kernel_rfl) (by kernel_rfl) (by kernel_rfl) (by exact fun _ _ _ h => h) (Or.inl ⟨by rfl, fun wx hSx => ?_⟩) hHeld ?_
        rotate_left
        · clear hSx; go_simp; (try with_reducible rfl)
        simp only [Act.put, List.setIfInBounds_toArray, List.set_cons_zero, List.set_cons_succ]
        refine wpAnyH_take (i := 24) (v := ?_) (by simp; rfl) (by kernel_rfl) (by kernel_rfl) (by kernel_rfl) (by exact fun _ _ _ h => h) (Or.inl ⟨by rfl, fun wx hSx => ?_⟩) hHeld ?_
        rotate_left
        · clear hSx; go_simp; (try with_reducible rfl)
        simp only [Act.put, List.setIfInBounds_toArray, List.set_cons_zero, List.set_cons_succ]
        refine wpAnyH_take (i := 25) (v := ?_) (by simp; rfl) (by kernel_rfl) (by kernel_rfl) (by kernel_rfl) (by exact fun _ _ _ h => h) (Or.inl ⟨by rfl, fun wx hSx => ?_⟩) hHeld ?_
        rotate_left
        · clear hSx; go_simp; (try with_reducible rfl)
        simp only [Act.put, List.setIfInBounds_toArray, List.set_cons_zero, List.set_cons_succ]
        refine wpAnyH_take (i := 26) (v := ?_) (by simp; rfl) (by kernel_rfl) (by kernel_rfl) (by kernel_rfl) (by exact fun _ _ _ h => h) (Or.inl ⟨by rfl, fun wx hSx => ?_⟩) hHeld ?_
        rotate_left
        · clear hSx; go_simp; (try with_reducible rfl)
        simp only [Act.put, List.setIfInBounds_toArray, List.set_cons_zero, List.set_cons_succ]
        refine wpAnyH_take (i := 28) (v := ?_) (by simp; rfl) (by kernel_rfl) (by kernel_rfl) (by kernel_rfl) (by exact fun _ _ _ h => h) (Or.inl ⟨by rfl, fun wx hSx => ?_⟩) hHeld ?_
        rotate_left
        · clear hSx; go_simp; (try with_reducible rfl)
        simp only [Act.put, List.setIfInBounds_toArray, List.set_cons_zero, List.set_cons_succ]
        refine wpAnyH_take (i := 29) (v := ?_) (by simp; rfl) (by kernel_rfl) (by kernel_rfl) (by kernel_rfl) (by exact fun _ _ _ h => h) (Or.inl ⟨by rfl, fun wx hSx => ?_⟩) hHeld ?_
        rotate_left
        · clear hSx; go_simp; (try with_reducible rfl)
        simp only [Act.put, List.setIfInBounds_toArray, List.set_cons_zero, List.set_cons_succ]
        refine wpAnyH_ready (rs := [27]) (by kernel_rfl) (by simp) ?_
        refine AllReadyH.cons (by simp; rfl) (fun K hK => ?_) AllReadyH.nil
        go_simp
        refine (len_any bs w.heap.size w12 HQ12.out.sha (by omega)).mono ?_
        rintro e w13 ⟨rfl, hw13⟩
        subst hw13
        refine hK.out _ _ hHeld (fun _ => ?_)
        clear hK K
        refine wpAnyH_take (i := 30) (v := ?_) (by simp; rfl) (by kernel_rfl) (by kernel_rfl) (by kernel_rfl) (by exact fun _ _ _ h => h) (Or.inl ⟨by rfl, fun wx hSx => ?_⟩) hHeld ?_
        rotate_left
        · clear hSx; go_simp; (try with_reducible rfl)
        simp only [Act.put, List.setIfInBounds_toArray, List.set_cons_zero, List.set_cons_succ]
        refine wpAnyH_take (i := 31) (v := ?_) (by simp; rfl) (by kernel_rfl) (by kernel_rfl) (by kernel_rfl) (by exact fun _ _ _ h => h) (Or.inl ⟨by rfl, fun wx hSx => ?_⟩) hHeld ?_
        rotate_left
        · clear hSx; go_simp; (try with_reducible rfl)
        simp only [Act.put, List.setIfInBounds_toArray, List.set_cons_zero, List.set_cons_succ]
        refine wpAnyH_take (i := 32) (v := ?_) (by simp; rfl) (by kernel_rfl) (by kernel_rfl) (by kernel_rfl) (by exact fun _ _ _ h => h) (Or.inl ⟨by rfl, fun wx hSx => ?_⟩) hHeld ?_
        rotate_left
        · clear hSx; go_simp; (try with_reducible rfl)
        simp only [Act.put, List.setIfInBounds_toArray, List.set_cons_zero, List.set_cons_succ]
        refine wpAnyH_done (by kernel_rfl) ?_ _
        go_wp2
        go_ret
        exact ⟨rfl, HQ12.out.below⟩
end Go.Proofs.YtbpgebjannempaaDoor
