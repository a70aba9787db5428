/-
  Proved here: of the program's patches: the base's cells, the head's bytes, numbers, how far cells are equal.
-/
import Derived.Test.YtjihcpnaebghnaaDoorPdb
import Derived.Test.YtjihcpnaebghnaaDoorIg
import Derived.BigRegion
import Derived.WalkMore
set_option linter.unusedSimpArgs false
set_option linter.unusedVariables false
namespace Go.Proofs.YtjihcpnaebghnaaDoor
open Go.RowKit
theorem CR.at_ {W : World} {b off : Nat} {L : List Ce} (hcs : ∀ i, i < L.length → ∀ j v, (gC (ceAt L i))[j]? = some v → W.cell? ⟨b, off + i * 4 + j, none⟩ = some v) {k : Nat} (hk : k < L.length * 4) : W.cell? ⟨b, off + k, none⟩ = (flat L)[k]? := by
  have e : k = k / 4 * 4 + k % 4 := by omega
  have hi : k / 4 < L.length := by omega
  have h2 : (flat L)[k]? = (gC (ceAt L (k / 4)))[k % 4]? := by
    conv => lhs; rw [e]
    rw [flat_get L (k / 4) (k % 4) hi (by omega)]
    simp [ceAt, List.getD, hi]
  obtain ⟨v, hv⟩ : ∃ v, (gC (ceAt L (k / 4)))[k % 4]? = some v := by
    have : k % 4 < (gC (ceAt L (k / 4))).length := by show _ < 4; omega
    exact ⟨_, List.getElem?_eq_getElem this⟩
  rw [h2, hv]
  have := hcs (k / 4) hi (k % 4) v hv
  rwa [show off + k / 4 * 4 + k % 4 = off + k by omega] at this
set_option maxRecDepth 100000 in
set_option maxHeartbeats 4000000 in
theorem clone_cr {w : World} {A : Option Addr} {cap n : Nat} {L : List Ce} (h : CR w A L) (hn : L.length = n) (h1 : 1 ≤ n) (h2 : n ≤ 1000) :
    Calls Tryd.prog 80 #[.slice A n cap] w fun e w' => ∃ b2 c2, e = .returned (.slice (some ⟨b2, 0, none⟩) n c2) ∧ w.heap.size ≤ b2 ∧ RowAt w' b2 c2 L ∧ Below w.heap.size w w' := by
  obtain ⟨b, off, rfl, hlt, hcs⟩ := h (by omega)
  have hnil := fun W => Lib.run_eql_slice_nil (P := Tryd.prog) W 22 88 (some ⟨b, off, none⟩) n cap 0 0 Tryd.underlying22
  obtain ⟨i0, hi, hz0, hz1, hz2⟩ := info_parts infoCell
  have hat := fun k (hk : k < n * 4) => CR.at_ hcs (k := k) (by rw [hn]; exact hk)
  have HF := Lib.hid (flat_cells L)
  have hfl := flat_len L
  rw [hn] at hfl
  obtain ⟨FL, hFL⟩ : ∃ l, flat L = l := ⟨_, rfl⟩
  have HFE := Lib.hid (fun (_ : Unit) => hFL)
  have HN := Lib.hid (fun (_ : Unit) => hn)
  rw [hFL] at hfl hat HF
  clear h hFL hn hcs
  go_enter Tryd.func80, Tryd.ntmps80
  go_wp2_with (at_builtin; refine wpList_append_own _ rfl _ _ 22 rfl w.heap.size 88 i0 (cV zeC) 4 16 Tryd.underlying22 hi hz0 hz1 hz2 rfl (by decide) _ 0 [] rfl (World.ownsRow_made w #[] 0 (Nat.le_refl _) (by unfold maxLen; omega) rfl) ⟨b, off, none⟩ n cap FL rfl hfl ?c1 HF.out ?c3 ?c4 ?c5 ?_)
  case c1 =>
    intro j u hj
    have hjl : j < n * 4 := by rw [← hfl]; exact (List.getElem?_eq_some_iff.1 hj).1
    have e : (⟨b, off, none⟩ : Addr).add j = ⟨b, off + j, none⟩ := by unfold Addr.add; split <;> simp_all
    rw [e]
    exact ((Below.refl w.heap.size w).alloc (Nat.le_refl _) _ |>.cell (p := ⟨b, off + j, none⟩) hlt).trans ((hat j hjl).trans hj)
  case c3 => unfold maxLen; omega
  case c4 => omega
  case c5 => simp
  · intro v' w1 hown1 hgrow _
    have hb1 : Below w.heap.size w w1 := ((Below.refl _ _).alloc (Nat.le_refl _) _).grown hgrow (by simp) (by
      intro k hk
      have : w.heap.size = k := by simpa [Value.ownBlock] using hk
      omega)
    have HZ : ∃ b2 c2, v' = .slice (some ⟨b2, 0, none⟩) n c2 ∧ w.heap.size ≤ b2 ∧ RowAt w1 b2 c2 L := by
      have hh := hown1
      obtain ⟨_, hh⟩ := hh
      rcases hh with ⟨_, h0⟩ | ⟨g, c, cur, rfl, hB, _⟩
      · omega
      · rw [← HFE.out ()] at hown1
        have := RowAt.of_own hown1
        exact ⟨g, c, rfl, hB, this.1⟩
    obtain ⟨b2, c2, rfl, hb2, hr2⟩ := HZ
    have HE := Lib.hid (And.intro hb2 (And.intro hr2 hb1))
    clear hown1 hgrow hb2 hr2 hb1 hat hnil hi hz0 hz1 hz2
    go_wp2
    go_ret
    exact ⟨b2, c2, rfl, HE.out⟩
set_option maxRecDepth 100000 in
set_option maxHeartbeats 4000000 in
theorem repeat_zero {w : World} {a : Addr} : Calls Tryd.prog 81 #[.slice (some a) 1 1, .int .i64 0] w fun e w' => ∃ b, e = .returned (.slice (some ⟨b, 0, none⟩) 0 0) ∧ w.heap.size ≤ b ∧ RowAt w' b 0 [] ∧ Below w.heap.size w w' := by
  obtain ⟨W1, hmk, hR1, hB1⟩ := run_make4 w 0 (by omega)
  have hcp := run_copy0 W1 3 (d := some ⟨w.heap.size, 0, none⟩) (s := some a) (m := 0) (dc := 0) (k := 1) (sc := 1) (by simp)
  rw [show goInt 0 = .int .i64 0 from rfl] at hcp
  have HCP := Lib.hid hcp
  have HR1 := Lib.hid hR1
  have HB1 := Lib.hid hB1
  have HMU := Lib.hid (fun W => mul_1 0 (by omega) W)
  simp only [Int.ofNat_zero, Int.natCast_zero] at hmk HMU
  clear hR1 hB1 hcp
  go_enter Tryd.func81, Tryd.ntmps81
  go_wp2_with fail
  refine (HMU.out _).mono ?_
  rintro e wx ⟨rfl, rfl⟩
  go_wp2_with (refine wpList_copy rfl (.tmp 31) (.tmp 32) _ _ rfl _ _ rfl rfl HCP.out ?_)
  go_loopw [8] (fun kv wr => kv = .int .i64 0 ∧ Hid (RowAt wr w.heap.size 0 [] ∧ Below w.heap.size w wr)) (fun kv _ => 0)
  case atStart => exact ⟨rfl, Lib.hid ⟨HR1.out, HB1.out⟩⟩
  case round =>
    obtain ⟨rfl, HL⟩ := hrel
    go_wp2
    go_ret
    exact ⟨_, rfl, Nat.le_refl _, HL.out⟩
/-- The cells that a patch begins with. -/
def baseL (Ra Ca : Int) (La : List Ce) (R C : Nat) : List Ce := if Ra = (R : Int) ∧ Ca = (C : Int) then La else rep (R * C) blC
set_option maxRecDepth 100000 in
set_option maxHeartbeats 4000000 in
theorem p_base {w : World} {A : Option Addr} {n cap : Nat} {La : List Ce} (h : CR w A La) (hl : La.length = n) (h1 : 1 ≤ n) (h2 : n ≤ 480) (Ra Ca row col : Int) (vis : Bool) (R C : Nat) (hR : R ≤ 255) (hC : C ≤ 255) :
    Calls Tryd.prog 50 #[vV Ra Ca A n cap row col vis, .int .i64 R, .int .i64 C] w fun e w' => ∃ b N c, e = .returned (.slice (some ⟨b, 0, none⟩) N c) ∧ w.heap.size ≤ b ∧ RowAt w' b c (baseL Ra Ca La R C) ∧ (baseL Ra Ca La R C).length = N ∧ Below w.heap.size w w' := by
  have HB0 := (Below.refl w.heap.size w).alloc (Nat.le_refl _) (.cells #[.int .i64 Ra, .int .i64 Ca, .slice A n cap, .int .i64 row, .int .i64 col, .bool vis] 24)
  have HC0 := heap_alloc_new w (.cells #[.int .i64 Ra, .int .i64 Ca, .slice A n cap, .int .i64 row, .int .i64 col, .bool vis] 24)
  have HCL := Lib.hid (clone_cr (cap := cap) (h.below HB0) hl h1 (by omega))
  obtain ⟨vb, hvb⟩ : ∃ b, w.heap.size = b := ⟨_, rfl⟩
  have HVB := Lib.hid hvb
  have HL := Lib.hid hl
  have hN : R * C ≤ 65025 := by have := Nat.mul_le_mul hR hC; omega
  obtain ⟨N, hNN⟩ : ∃ N, R * C = N := ⟨_, rfl⟩
  have hw : IntKind.i64.wrap ((R : Int) * (C : Int)) = (N : Int) := by rw [← Int.natCast_mul, hNN]; exact IntWalk.i64_in _ (by omega)
  rw [hNN] at hN
  have HNN := Lib.hid (fun (_ : Unit) => hNN)
  have HN := Lib.hid hN
  clear h hl h1 h2 hNN hN
  go_enter Tryd.func50, Tryd.ntmps50
  go_upto_region 1 with fail
  simp only [hvb] at HC0 ⊢
  generalize (w.alloc (.cells #[.int .i64 Ra, .int .i64 Ca, .slice A n cap, .int .i64 row, .int .i64 col, .bool vis] 24)) = U at HB0 HC0 HCL ⊢
  have HB := Lib.hid HB0
  have HU := Lib.hid (show vb ≤ U.heap.size from by have := HB0.size; omega)
  obtain ⟨x0, x1, x2, x3, x4, x5⟩ := six_cells HC0
  clear HB0 HC0 hvb
  by_cases he : Ra = (R : Int) ∧ Ca = (C : Int)
  · obtain ⟨rfl, rfl⟩ := he
    have HBL9 := Lib.hid (show La = baseL (R : Int) (C : Int) La R C from by unfold baseL; rw [if_pos ⟨rfl, rfl⟩])
    go_wp2_with fail
    refine HCL.out.mono ?_
    rintro e w1 ⟨b2, c2, rfl, g1, g2, g3⟩
    have HE := Lib.hid (And.intro g1 (And.intro g2 g3))
    clear g1 g2 g3
    go_wp2
    go_ret
    exact ⟨b2, n, c2, rfl, by have := HE.out.1; have := HU.out; have := HVB.out; omega, HBL9.out ▸ HE.out.2.1, HBL9.out ▸ HL.out, HB.out.trans (HE.out.2.2.mono HB.out.size)⟩
  · have HBL9 := Lib.hid (show rep N blC = baseL Ra Ca La R C from by unfold baseL; rw [if_neg he, HNN.out ()])
    clear HCL
    have HGO : ∀ (Z : Bool × Bool), (decide (Ra = (R : Int)), decide (Ca = (C : Int))) = Z → Z ≠ (true, true) := fun Z hz e => by
      subst e
      have e1 := congrArg Prod.fst hz
      have e2 := congrArg Prod.snd hz
      exact he ⟨by simpa using e1, by simpa using e2⟩
    obtain ⟨z1, hz1⟩ : ∃ z, decide (Ra = (R : Int)) = z := ⟨_, rfl⟩
    obtain ⟨z2, hz2⟩ : ∃ z, decide (Ca = (C : Int)) = z := ⟨_, rfl⟩
    have hz1' : (Ra == (R : Int)) = z1 := by rw [← hz1]; exact (Bool.eq_iff_iff).2 (by simp)
    have hz2' : (Ca == (C : Int)) = z2 := by rw [← hz2]; exact (Bool.eq_iff_iff).2 (by simp)
    have HZ := Lib.hid (HGO (z1, z2) (by rw [hz1, hz2]))
    clear HGO he
    have HBK : ∀ (W : World), Calls Tryd.prog 48 #[] W fun e w' => e = .returned (.agg #[.int .i32 32, .int .u8 0, .int .u32 0, .int .u32 0]) ∧ Below W.heap.size W w' := fun W => blank_any W
    have HBL := Lib.hid HBK
    clear HBK
    cases z1 <;> cases z2
    case true.true => exact absurd rfl HZ.out
    all_goals
      go_wp2_with fail
      refine (HBL.out _).mono ?_
      rintro e w1 ⟨rfl, b1⟩
      have hba := (Below.refl w1.heap.size w1).alloc (Nat.le_refl _) (.cells #[.int .i32 32, .int .u8 0, .int .u32 0, .int .u32 0] 88)
      have HN1 := Lib.hid (heap_alloc_new w1 (.cells #[.int .i32 32, .int .u8 0, .int .u32 0, .int .u32 0] 88))
      have HB1 := Lib.hid (HB.out.trans ((b1.trans (hba.mono b1.size)).mono HB.out.size))
      have HG1 := Lib.hid (show vb ≤ w1.heap.size from by have := HU.out; have := b1.size; omega)
      clear b1 hba x0 x1 x2 x3 x4 x5
      go_wp2_with fail
      obtain ⟨cb, hcb⟩ : ∃ b, w1.heap.size = b := ⟨_, rfl⟩
      have HN2 := Lib.hid (hcb ▸ HN1.out)
      have HG2 := Lib.hid (hcb ▸ HG1.out)
      simp only [hcb]
      have HS2 := Lib.hid (show cb ≤ (w1.alloc (.cells #[.int .i32 32, .int .u8 0, .int .u32 0, .int .u32 0] 88)).heap.size from by rw [← hcb]; exact ((Below.refl w1.heap.size w1).alloc (Nat.le_refl _) _).size)
      generalize (w1.alloc (.cells #[.int .i32 32, .int .u8 0, .int .u32 0, .int .u32 0] 88)) = V at HB1 HN1 HN2 HS2 ⊢
      clear hcb HN1 HG1
      rcases Nat.eq_zero_or_pos N with h0 | h0
      · subst h0
        refine repeat_zero.mono ?_
        rintro e w3 ⟨b2, rfl, g1, g2, g3⟩
        have HE := Lib.hid (And.intro g1 (And.intro g2 g3))
        clear g1 g2 g3
        go_wp2
        go_ret
        exact ⟨b2, 0, 0, rfl, by have := HE.out.1; have := HG2.out; have := HS2.out; have := HVB.out; omega, HBL9.out ▸ HE.out.2.1, HBL9.out ▸ rfl, HB1.out.trans (HE.out.2.2.mono HB1.out.size)⟩
      · refine (repeat_any (c := blC) (lt_of_block HN2.out) (fun j v hv => by unfold World.cell?; simp only [HN2.out]; simpa [gC, blC] using hv) h0 (by have := HN.out; omega)).mono ?_
        rintro e w3 ⟨b2, rfl, g1, g2, g3⟩
        have HE := Lib.hid (And.intro g1 (And.intro g2 g3))
        clear g1 g2 g3
        go_wp2
        go_ret
        exact ⟨b2, N, N, rfl, by have := HE.out.1; have := HG2.out; have := HS2.out; have := HVB.out; omega, HBL9.out ▸ HE.out.2.1, HBL9.out ▸ rep_len _ _, HB1.out.trans (HE.out.2.2.mono HB1.out.size)⟩
/-- Blocks but a slice's own are as they were. -/
def KeepX (v : Value) (w w' : World) : Prop := ∀ b, b < w.heap.size → v.ownBlock ≠ some b → w'.heap[b]? = w.heap[b]?
theorem own_ne {w0 W : World} {u : Value} {xs : List Int} (h : Own8 w0 u xs W) {bb cc : Nat} {O : List Ce} (hr : RowAt W bb cc O) : u.ownBlock ≠ some bb := by
  intro e
  obtain ⟨cur2, h2, _⟩ := hr
  rcases h.own.2 with ⟨rfl, _⟩ | ⟨g, cap, cur, rfl, _, h1, _⟩
  · cases e
  · have : g = bb := by simpa [Value.ownBlock] using e
    subst this
    rw [h1] at h2
    injection h2 with h2
    injection h2 with _ h3 _
    exact absurd h3 (by decide)
theorem RowAt.keepX {v : Value} {W W' w0 : World} {bb cc : Nat} {O : List Ce} {xs : List Int} (hr : RowAt W bb cc O) (h : Own8 w0 v xs W) (hk : KeepX v W W') : RowAt W' bb cc O := hr.keep (hk bb hr.lt (own_ne h hr))
set_option maxRecDepth 100000 in
set_option maxHeartbeats 4000000 in
theorem p_appendnumber {w0 w : World} {v : Value} {xs : List Int} (h : Own8 w0 v xs w) (hn : xs.length ≤ 50000) (k : Nat) (hk : k ≤ 100000) (hT : Tab w0) : Calls Tryd.prog 52 #[v, .int .i64 k] w fun e w' => ∃ u, e = .returned u ∧ Own8 w0 u (xs ++ numB (k : Int)) w' ∧ KeepX v w w' := by
  have u1 : IntKind.u64.wrap (k : Int) = (k : Int) := IntWalk.u64_in _ (by omega)
  obtain ⟨B2, hB2⟩ : ∃ B, numB (k : Int) = B := ⟨_, rfl⟩
  have HP := Lib.hid (fun (W : World) hW => hB2 ▸ p_put (k : Int) W (by omega) (by omega) hW)
  have HL := Lib.hid (And.intro hn (show B2.length ≤ 8 by rw [← hB2, numB_length]; exact (szN_le _).2))
  rw [hB2]
  obtain ⟨A0, n0, c0, hv0⟩ : ∃ A n c, v = .slice A n c := by obtain ⟨A, c, e, _⟩ := own_slice h.own; exact ⟨A, _, c, e⟩
  subst hv0
  have HO := Lib.hid h
  have HT := Lib.hid hT
  clear h hn hk hT hB2
  go_enter Tryd.func52, Tryd.ntmps52
  go_wp2_with fail
  refine (HP.out _ (HT.out.below HO.out.below HT.out.big)).mono ?_
  rintro e w2 ⟨u2, rfl, o2⟩
  obtain ⟨A6, c6, w6, hrun6, o6, hg6⟩ := (HO.out.to o2.below).appg (ys := B2) (u := u2) o2.rit (by have := HL.out; omega)
  have HRUN := Lib.hid hrun6
  have HKX := Lib.hid (show KeepX (.slice A0 n0 c0) w w6 from fun b hb hne => (hg6.block b (Nat.lt_of_lt_of_le hb o2.below.size) (fun e => hne e.symm)).trans (o2.below.block b hb))
  have HO6 := Lib.hid o6
  clear hrun6 o6 hg6 o2 HP
  go_wp2_with (at_builtin; refine wpList_app rfl (.tmp 13) (.tmp 14) _ rfl _ _ rfl rfl HRUN.out ?_)
  go_ret
  exact ⟨_, rfl, HO6.out, HKX.out⟩
set_option maxRecDepth 100000 in
set_option maxHeartbeats 8000000 in
theorem p_appendhead {w : World} {A : Option Addr} {n cap : Nat} (R C row col : Int) (vis : Bool) (h : 0 ≤ R ∧ R < 256 ∧ 0 ≤ C ∧ C < 256 ∧ 0 ≤ row ∧ row < 256 ∧ 0 ≤ col ∧ col < 256) : Calls Tryd.prog 49 #[.slice none 0 0, vV R C A n cap row col vis] w fun e w' => ∃ u, e = .returned u ∧ Own8 w u [R, C, row, col, if vis = true then 1 else 0] w' := by
  have HB0 := (Below.refl w.heap.size w).alloc (Nat.le_refl _) (.cells #[.int .i64 R, .int .i64 C, .slice A n cap, .int .i64 row, .int .i64 col, .bool vis] 24)
  have HC0 := heap_alloc_new w (.cells #[.int .i64 R, .int .i64 C, .slice A n cap, .int .i64 row, .int .i64 col, .bool vis] 24)
  have u0 : IntKind.u8.wrap R = R := IntWalk.u8_in _ (by omega)
  have u1 : IntKind.u8.wrap C = C := IntWalk.u8_in _ (by omega)
  have u2 : IntKind.u8.wrap row = row := IntWalk.u8_in _ (by omega)
  have u3 : IntKind.u8.wrap col = col := IntWalk.u8_in _ (by omega)
  obtain ⟨vb, hvb⟩ : ∃ b, w.heap.size = b := ⟨_, rfl⟩
  clear h
  go_enter Tryd.func49, Tryd.ntmps49
  go_upto_region 1 with fail
  simp only [hvb] at HC0 ⊢
  generalize (w.alloc (.cells #[.int .i64 R, .int .i64 C, .slice A n cap, .int .i64 row, .int .i64 col, .bool vis] 24)) = U at HB0 HC0 ⊢
  have HB := Lib.hid HB0
  obtain ⟨x0, x1, x2, x3, x4, x5⟩ := six_cells HC0
  clear HB0 HC0 hvb
  cases vis with
  | false =>
    have ho : Own8 U (.slice (some ⟨U.heap.size, 0, none⟩) 5 5) [R, C, row, col, 0] (U.alloc (.cells #[.int .u8 R, .int .u8 C, .int .u8 row, .int .u8 col, .int .u8 0] 5)) := Own8.lit U [R, C, row, col, 0] 5 rfl (by omega)
    have ho1 := ((Own8.new U).from HB.out).to ho.below
    obtain ⟨A6, c6, w6, hrun6, o6, hg6⟩ := ho1.appg (ys := [R, C, row, col, 0]) ho.rit (by simp)
    have HRUN := Lib.hid hrun6
    have HO6 := Lib.hid o6
    clear ho ho1 hrun6 o6 hg6
    go_wp2_with (at_builtin; refine wpList_app rfl (.tmp 8) (.tmp 22) _ rfl _ _ rfl rfl HRUN.out ?_)
    go_ret
    exact ⟨_, rfl, by simpa using HO6.out⟩
  | true =>
    have ho : Own8 U (.slice (some ⟨U.heap.size, 0, none⟩) 5 5) [R, C, row, col, 1] (U.alloc (.cells #[.int .u8 R, .int .u8 C, .int .u8 row, .int .u8 col, .int .u8 1] 5)) := Own8.lit U [R, C, row, col, 1] 5 rfl (by omega)
    have ho1 := ((Own8.new U).from HB.out).to ho.below
    obtain ⟨A6, c6, w6, hrun6, o6, hg6⟩ := ho1.appg (ys := [R, C, row, col, 1]) ho.rit (by simp)
    have HRUN := Lib.hid hrun6
    have HO6 := Lib.hid o6
    clear ho ho1 hrun6 o6 hg6
    go_wp2_with (at_builtin; refine wpList_app rfl (.tmp 8) (.tmp 22) _ rfl _ _ rfl rfl HRUN.out ?_)
    go_ret
    exact ⟨_, rfl, by simpa using HO6.out⟩
set_option maxRecDepth 100000 in
set_option maxHeartbeats 8000000 in
theorem p_reach {w : World} {A B : Option Addr} {n ca cb : Nat} {O L : List Ce} (hA : CR w A O) (hB : CR w B L) (hO : O.length = n) (hL : L.length = n) (hn : n ≤ 70000) (k : Nat) (hk : k ≤ n) (eq : Bool) :
    Calls Tryd.prog 51 #[.slice A n ca, .slice B n cb, .int .i64 k, .bool eq] w fun e w' => ∃ t : Nat, e = .returned (.int .i64 t) ∧ k ≤ t ∧ t ≤ n ∧ (∀ i, k ≤ i → i < t → decide (ceAt O i = ceAt L i) ≠ eq) ∧ (t = n ∨ decide (ceAt O t = ceAt L t) = eq) ∧ Below w.heap.size w w' := by
  have HA := Lib.hid hA
  have HB := Lib.hid hB
  have HO := Lib.hid hO
  have HL := Lib.hid hL
  have HK := Lib.hid hk
  clear hA hB hO hL hk
  go_enter Tryd.func51, Tryd.ntmps51
  go_wp2
  go_loopw [2] (fun tv wr => ∃ t : Nat, tv = .int .i64 t ∧ k ≤ t ∧ t ≤ n ∧ Hid ((∀ i, k ≤ i → i < t → decide (ceAt O i = ceAt L i) ≠ eq) ∧ Below w.heap.size w wr)) (fun tv _ => n - (intOf tv).toNat)
  case atStart => exact ⟨k, rfl, Nat.le_refl _, HK.out, Lib.hid ⟨fun i h1 h2 => by omega, Below.refl _ _⟩⟩
  case round =>
    obtain ⟨t, rfl, ht1, ht2, HS⟩ := hrel
    by_cases htn : t < n
    · have e1 : decide ((t : Int) < (n : Int)) = true := by simp; omega
      have e1' : decide (t < n) = true := by simp; omega
      have g1 : (0 : Int) ≤ (t : Int) := by omega
      have g2 : (t : Int) < (n : Int) := by omega
      have wr1 : IntKind.i64.wrap ((t : Int) + 1) = (t : Int) + 1 := IntWalk.i64_in _ (by omega)
      obtain ⟨b, off, rfl, hbl, hcs⟩ := HA.out (by rw [HO.out]; omega)
      obtain ⟨b', off', rfl, hbl', hcs'⟩ := HB.out (by rw [HL.out]; omega)
      have hcel := hcs t (by rw [HO.out]; omega)
      have hcel' := hcs' t (by rw [HL.out]; omega)
      have hbw := HS.out.2.drew
      obtain ⟨⟨p, f, gg, bb⟩, hce⟩ : ∃ c, ceAt O t = c := ⟨_, rfl⟩
      obtain ⟨⟨p', f', gg', bb'⟩, hce'⟩ : ∃ c, ceAt L t = c := ⟨_, rfl⟩
      rw [hce] at hcel
      rw [hce'] at hcel'
      obtain ⟨k0, k1, k2, k3⟩ := ce_four (fun j v hv => (hbw.cell (p := ⟨b, off + t * 4 + j, none⟩) hbl).trans (hcel j v hv))
      obtain ⟨y0, y1, y2, y3⟩ := ce_four (fun j v hv => (hbw.cell (p := ⟨b', off' + t * 4 + j, none⟩) hbl').trans (hcel' j v hv))
      have HEC := fun W => eq_ce p f gg bb p' f' gg' bb' W
      have HBW := Lib.hid hbw
      have HTN := Lib.hid (And.intro ht1 htn)
      have HCE := Lib.hid (And.intro hce hce')
      clear hbl hbl' hcs hcs' hcel hcel' hbw hce hce' ht1 ht2 htn
      by_cases he : (⟨p, f, gg, bb⟩ : Ce) = ⟨p', f', gg', bb'⟩
      · simp only [decide_eq_true he] at HEC
        have HEE := Lib.hid (show decide (ceAt O t = ceAt L t) = true from by rw [HCE.out.1, HCE.out.2]; exact decide_eq_true he)
        clear he
        cases eq with
        | true =>
          go_wp2
          go_big_region
          clear HEC k0 k1 k2 k3 y0 y1 y2 y3
          go_wp2
          go_ret
          exact ⟨t, rfl, HTN.out.1, by have := HTN.out.2; omega, HS.out.1, .inr HEE.out, HBW.out⟩
        | false =>
          go_wp2
          go_big_region
          clear HEC k0 k1 k2 k3 y0 y1 y2 y3
          have HS2 := Lib.hid (show (∀ i, k ≤ i → i < t + 1 → decide (ceAt O i = ceAt L i) ≠ false) ∧ Below w.heap.size w wr.drew from ⟨fun i h1 h2 => by
            rcases Nat.lt_or_ge i t with h | h
            · exact HS.out.1 i h1 h
            · obtain rfl : i = t := by omega
              rw [HEE.out]; simp, HBW.out⟩)
          clear HS
          go_wp2
          go_roundw
          case rel => exact ⟨t + 1, by go_num, by have := HTN.out.1; omega, by have := HTN.out.2; omega, HS2⟩
          case measure => have := HTN.out.2; simp [intOf]; omega
      · simp only [decide_eq_false he] at HEC
        have HEE := Lib.hid (show decide (ceAt O t = ceAt L t) = false from by rw [HCE.out.1, HCE.out.2]; exact decide_eq_false he)
        clear he
        cases eq with
        | false =>
          go_wp2
          go_big_region
          clear HEC k0 k1 k2 k3 y0 y1 y2 y3
          go_wp2
          go_ret
          exact ⟨t, rfl, HTN.out.1, by have := HTN.out.2; omega, HS.out.1, .inr HEE.out, HBW.out⟩
        | true =>
          go_wp2
          go_big_region
          clear HEC k0 k1 k2 k3 y0 y1 y2 y3
          have HS2 := Lib.hid (show (∀ i, k ≤ i → i < t + 1 → decide (ceAt O i = ceAt L i) ≠ true) ∧ Below w.heap.size w wr.drew from ⟨fun i h1 h2 => by
            rcases Nat.lt_or_ge i t with h | h
            · exact HS.out.1 i h1 h
            · obtain rfl : i = t := by omega
              rw [HEE.out]; simp, HBW.out⟩)
          clear HS
          go_wp2
          go_roundw
          case rel => exact ⟨t + 1, by go_num, by have := HTN.out.1; omega, by have := HTN.out.2; omega, HS2⟩
          case measure => have := HTN.out.2; simp [intOf]; omega
    · have e1 : decide ((t : Int) < (n : Int)) = false := by simp; omega
      have e1' : decide (t < n) = false := by simp; omega
      obtain rfl : t = n := by omega
      have HBW := Lib.hid HS.out.2.drew
      have HT1 := Lib.hid ht1
      clear htn ht1 ht2
      go_wp2
      try go_big_region
      try go_wp2
      go_ret
      exact ⟨t, rfl, HT1.out, Nat.le_refl _, HS.out.1, .inl rfl, HBW.out⟩
end Go.Proofs.YtjihcpnaebghnaaDoor
