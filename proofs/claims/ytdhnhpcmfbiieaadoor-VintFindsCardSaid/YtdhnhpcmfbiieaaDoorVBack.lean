/-
  Proved here: VintBack walked: for every list of numbers, every list of fields and every list of bytes that slices read as, the law returns true and changes nothing that was there.
-/
import Derived.Test.YtdhnhpcmfbiieaaDoorVAlive
import Derived.Test.YtdhnhpcmfbiieaaDoorVMath2
import Derived.Test.YtdhnhpcmfbiieaaDoorVSame
namespace Go.Proofs.YtdhnhpcmfbiieaaDoor
open Go.RowKit

/-- A slice of numbers that reads as ls. -/
def RU (w : World) (B : Nat) (A : Option Addr) (ls : List Int) : Prop :=
  0 < ls.length → ∃ b off, A = some ⟨b, off, none⟩ ∧ b < B ∧ ∀ i, i < ls.length → w.cell? ⟨b, off + i, none⟩ = some (.int .u64 (ls.getD i 0)) ∧ 0 ≤ ls.getD i 0 ∧ ls.getD i 0 < 18446744073709551616
theorem RU.below {w w' : World} {B : Nat} {A : Option Addr} {ls : List Int} (h : RU w B A ls) (hb : Below B w w') : RU w' B A ls := fun hl => by
  obtain ⟨b, off, e, hlt, hc⟩ := h hl
  exact ⟨b, off, e, hlt, fun i hi => ⟨(hb.cell (p := ⟨b, off + i, none⟩) hlt).trans (hc i hi).1, (hc i hi).2⟩⟩

/-- Of the first k numbers those that have bytes. -/
def fitsTo (ls : List Int) : Nat → List Int
  | 0 => []
  | k + 1 => if ls.getD k 0 < 4611686018427387904 then fitsTo ls k ++ [ls.getD k 0] else fitsTo ls k
theorem fitsTo_length (ls : List Int) : ∀ k, (fitsTo ls k).length ≤ k
  | 0 => by simp [fitsTo]
  | k + 1 => by
    have := fitsTo_length ls k
    rw [fitsTo]
    split
    · simp; omega
    · omega
theorem encs_length : ∀ (l : List Int), (encs l).length ≤ l.length * 8
  | [] => by simp [encs]
  | v :: r => by
    have := encs_length r
    have := (szN_le v).2
    simp [encs, numB_length]
    omega
theorem fitsTo_nums {ls : List Int} (h : ∀ i, i < ls.length → 0 ≤ ls.getD i 0) : ∀ k, k ≤ ls.length → Nums (fitsTo ls k)
  | 0, _ => fun x hx => by simp [fitsTo] at hx
  | k + 1, hk => by
    rw [fitsTo]
    split
    · intro x hx
      rcases List.mem_append.1 hx with hx | hx
      · exact fitsTo_nums h k (by omega) x hx
      · simp only [List.mem_singleton] at hx
        subst hx
        exact ⟨h k (by omega), by assumption⟩
    · exact fitsTo_nums h k (by omega)
theorem encs_next {ls : List Int} {k : Nat} (h : ls.getD k 0 < 4611686018427387904) : encs (fitsTo ls (k + 1)) = encs (fitsTo ls k) ++ numB (ls.getD k 0) := by
  rw [fitsTo, if_pos h, encs_append, encs_one]
theorem fitsTo_yes {ls : List Int} {k : Nat} (h : ls.getD k 0 < 4611686018427387904) : (fitsTo ls (k + 1)).length = (fitsTo ls k).length + 1 := by
  rw [fitsTo, if_pos h]; simp
theorem fitsTo_no {ls : List Int} {k : Nat} (h : ¬ ls.getD k 0 < 4611686018427387904) : fitsTo ls (k + 1) = fitsTo ls k := by
  rw [fitsTo, if_neg h]
theorem take_next {vs : List Int} {k : Nat} (h : k < vs.length) : encs (vs.take (k + 1)) = encs (vs.take k) ++ numB (vs.getD k 0) := by
  rw [List.take_succ_eq_append_getElem h, encs_append, encs_one]
  simp [List.getD, h]
theorem nums_at {vs : List Int} (h : Nums vs) {k : Nat} (hk : k < vs.length) : 0 ≤ vs.getD k 0 ∧ vs.getD k 0 < 4611686018427387904 := by
  have : vs.getD k 0 ∈ vs := by simp [List.getD, hk]
  exact h _ this
theorem bytes_of_mem {l : List Int} (h : ∀ x ∈ l, 0 ≤ x ∧ x < 256) : Bytes l := fun i => by
  by_cases hi : i < l.length
  · exact h _ (by simp [List.getD, hi])
  · have : l.getD i 0 = 0 := by simp [List.getD, List.getElem?_eq_none (Nat.le_of_not_lt hi)]
    rw [this]; omega
theorem mem_of_bytes {l : List Int} (h : Bytes l) : ∀ x ∈ l, 0 ≤ x ∧ x < 256 := fun x hx => by
  obtain ⟨i, hi, rfl⟩ := List.getElem_of_mem hx
  have := h i
  simpa [List.getD, hi] using this
theorem encs_bytes : ∀ (l : List Int), ∀ x ∈ encs l, 0 ≤ x ∧ x < 256
  | [], x, hx => by simp [encs] at hx
  | v :: r, x, hx => by
    rcases List.mem_append.1 hx with hx | hx
    · exact numB_byte v x hx
    · exact encs_bytes r x hx
theorem fldsB_bytes : ∀ (fs : List Fld), FOk fs → ∀ x ∈ fldsB fs, 0 ≤ x ∧ x < 256
  | [], _, x, hx => by simp [fldsB] at hx
  | f :: r, h, x, hx => by
    rcases List.mem_append.1 hx with hx | hx
    · obtain ⟨h1, h2, h3⟩ := h f (by simp)
      rcases List.mem_cons.1 hx with rfl | hx
      · exact ⟨h1, h2⟩
      · rcases List.mem_append.1 hx with hx | hx
        · exact numB_byte _ x hx
        · exact mem_of_bytes h3 x hx
    · exact fldsB_bytes r (fun g hg => h g (by simp [hg])) x hx

theorem RB.own {w : World} {base : Nat} {A : Option Addr} {c : Nat} {bs : List Int} (h : w.ownsRow base 5 1 (.slice A bs.length c) bs.length (B8 bs)) : RB w w.heap.size A bs := by
  obtain ⟨A', c', e, h1, _⟩ := RB.of_own h
  injection e with e
  subst e
  exact h1
theorem short_of {fs : List Fld} (h : shortB fs = true) : Short fs := fun f hf => by
  rw [shortB, List.all_eq_true] at h
  simpa using h f hf
theorem short_to {fs : List Fld} (h : Short fs) : shortB fs = true := by
  rw [shortB, List.all_eq_true]
  intro f hf
  simpa using h f hf
theorem putFS_yes {fs : List Fld} (h : fs.length ≤ 128) (hs : Short fs) : putFS fs = (fldsB fs, 0) := by
  rw [putFS, if_neg (by omega), if_pos (short_to hs)]
theorem putFS_no {fs : List Fld} (h : ¬ (fs.length ≤ 128 ∧ Short fs)) : (putFS fs).2 ≠ 0 := by
  unfold putFS
  split
  · simp
  · split
    · rename_i h1 h2
      exact absurd ⟨by omega, short_of h2⟩ h
    · simp
/-- What is written of fields that were read. -/
theorem putFS_back {bs : List Int} (hB : Bytes bs) (h : (fieldsS bs).2 = 0) : putFS (fieldsS bs).1 = (bs, 0) := by
  obtain ⟨e, hs, hn⟩ := fields_inv (fs := (fieldsS bs).1) hB (Prod.ext rfl h)
  rw [putFS_yes hn hs, e]
theorem fit_bound {fs : List Fld} (h : Fit fs) : (fldsB fs).length ≤ 2381400 := by
  have := fldsB_length fs (fun f hf => by
    obtain ⟨i, hi, rfl⟩ := List.getElem_of_mem hf
    have := h.2 i hi
    simpa only [fAt, List.getD, List.getElem?_eq_getElem hi, Option.getD_some] using this)
  have := h.1
  omega

theorem putF_any (fs : List Fld) (A : Option Addr) (cap : Nat) (w : World) (hF : FS w w.heap.size A fs) (hT : Tab w) : Calls Tryd.prog 18 #[.slice A fs.length cap] w (PutFPost (putFS fs) w) := by
  by_cases h : 128 < fs.length
  · exact putF_full fs A cap w h
  · exact putF_fits fs A cap w hF (by omega) hT

abbrev Tru (w : World) (e : Ending) (w' : World) : Prop := e = .returned (.bool true) ∧ Below w.heap.size w w'

set_option maxRecDepth 100000 in
set_option maxHeartbeats 4000000 in
theorem back_long (ls : List Int) (fs : List Fld) (AL AF AB : Option Addr) (cL cF lB cB : Nat) (w : World) (hT : Tab w) (hF : FS w w.heap.size AF fs) (hfl : fs.length ≤ maxLen) (h : 100 < ls.length ∨ 3000 < lB) :
    Calls Tryd.prog 5 #[.slice AL ls.length cL, .slice AF fs.length cF, .slice AB lB cB] w (Tru w) := by
  go_enter Tryd.func5, Tryd.ntmps5
  go_wp2_with fail
  refine (great_any fs AF cF w.heap.size w hF hfl).mono ?_
  rintro e w' ⟨rfl, he⟩
  rcases he with rfl | ⟨rfl, hfit⟩
  · go_wp2_with fail
    refine (alive_any _ hT).mono ?_
    rintro e w1 ⟨rfl, hb1⟩
    go_wp2
    go_ret
    exact ⟨rfl, hb1⟩
  · by_cases h1 : 100 < ls.length
    · have d1 : decide ((100 : Int) < (ls.length : Int)) = true := by simp; omega
      go_wp2_with fail
      refine (alive_any _ hT).mono ?_
      rintro e w1 ⟨rfl, hb1⟩
      go_wp2
      go_ret
      exact ⟨rfl, hb1⟩
    · have d1 : decide ((100 : Int) < (ls.length : Int)) = false := by simp; omega
      have d2 : decide ((3000 : Int) < (lB : Int)) = true := by simp; omega
      go_wp2_with fail
      refine (alive_any _ hT).mono ?_
      rintro e w1 ⟨rfl, hb1⟩
      go_wp2
      go_ret
      exact ⟨rfl, hb1⟩

set_option maxRecDepth 100000 in
set_option maxHeartbeats 4000000 in
theorem back_short (ls : List Int) (fs : List Fld) (bs : List Int) (AL AF AB : Option Addr) (cL cF cB : Nat) (w : World) (hT : Tab w) (hU : RU w w.heap.size AL ls) (hF : FS w w.heap.size AF fs) (hfl : fs.length ≤ maxLen) (hok : FOk fs)
    (hR : RB w w.heap.size AB bs) (hB : Bytes bs) (hbc : bs.length ≤ cB) (hbm : cB ≤ maxLen) (hl : ls.length ≤ 100) (hbl : bs.length ≤ 3000) :
    Calls Tryd.prog 5 #[.slice AL ls.length cL, .slice AF fs.length cF, .slice AB bs.length cB] w (Tru w) := by
  obtain ⟨i0, hi, hz0, hz1, hz2⟩ := info_parts infoByte
  have d1 : decide ((100 : Int) < (ls.length : Int)) = false := by simp; omega
  have d2 : decide ((3000 : Int) < (bs.length : Int)) = false := by simp; omega
  have HU := Lib.hid hU
  have HF := Lib.hid hF
  have HR := Lib.hid hR
  clear hU hF hR
  have HNN : Hid (∀ i, i < ls.length → 0 ≤ ls.getD i 0) := fun i hi => by
    obtain ⟨b, off, _, _, hc⟩ := HU.out (by omega)
    exact (hc i hi).2.1
  go_enter Tryd.func5, Tryd.ntmps5
  go_wp2_with fail
  refine (great_any fs AF cF w.heap.size w HF.out hfl).mono ?_
  rintro e w' ⟨rfl, he⟩
  rcases he with rfl | ⟨rfl, hfit⟩
  · go_wp2_with fail
    refine (alive_any _ hT).mono ?_
    rintro e w1 ⟨rfl, hb1⟩
    go_wp2
    go_ret
    exact ⟨rfl, hb1⟩
  have HFIT := Lib.hid hfit
  clear hfit
  go_wp2
  go_loopw [7, 9, 10, 11, 12] (fun all n i _ _ wr => ∃ k : Nat, k ≤ ls.length ∧ i = .int .i64 k ∧ n = .int .i64 ((fitsTo ls k).length : Int) ∧ wr.ownsRow w.heap.size 5 1 all (encs (fitsTo ls k)).length (B8 (encs (fitsTo ls k))) ∧ Below w.heap.size w wr) (fun _ _ i _ _ _ => ls.length - (intOf i).toNat)
  case atStart => exact ⟨0, by omega, rfl, rfl, World.ownsRow_nil _ _ _ _, Below.refl _ _⟩
  case round =>
    obtain ⟨k, hk, rfl, rfl, hown, hbel⟩ := hrel
    have hfl1 := fitsTo_length ls k
    have hel := encs_length (fitsTo ls k)
    have hTr := hT.below hbel hT.big
    have hbs := hbel.size
    by_cases hlt : k < ls.length
    · obtain ⟨b, off, hA, hb, hc⟩ := (HU.out.below hbel) (by omega)
      subst hA
      obtain ⟨hck, v0, v1⟩ := hc k hlt
      clear hc
      by_cases hfit : ls.getD k 0 < 4611686018427387904
      · have HX := Lib.hid (encs_next hfit)
        have HN := Lib.hid (fitsTo_yes hfit)
        obtain ⟨v, hv⟩ : ∃ v, ls.getD k 0 = v := ⟨_, rfl⟩
        rw [hv] at hck v0 v1 HX hfit
        clear hv
        obtain ⟨xs, hxs⟩ : ∃ xs, encs (fitsTo ls k) = xs := ⟨_, rfl⟩
        rw [hxs] at hown HX hel
        clear hxs
        obtain ⟨nn, hnn⟩ : ∃ nn, (fitsTo ls k).length = nn := ⟨_, rfl⟩
        rw [hnn] at HN hfl1 hel ⊢
        clear hnn
        go_wp2_with fail
        refine (put_fits v _ v0 hfit hTr).mono ?_
        rintro e w1 ⟨x, rfl, hx, hb1⟩
        have hnl := szN_le v
        obtain ⟨g, cx, rfl, hgx, hgl⟩ := hx.form (by rw [numB_length]; omega)
        have hown1 := own_below hown hb1
        rw [← numB_length] at hnl
        have hbx : Below w.heap.size w w1 := hbel.trans (hb1.mono hbs)
        clear hown hbel
        go_wp2_with (at_builtin; refine wpList_append_own _ rfl _ _ 23 rfl w.heap.size 5 i0 (.int .u8 0) 1 1 Tryd.underlying23 hi hz0 hz1 hz2 rfl (by decide) _ _ _ rfl hown1 ⟨g, 0, none⟩ (numB v).length cx (B8 (numB v)) rfl (by simp) ?c1 (oneCell_B8 _) ?c3 ?c4 ?c5 ?_)
        case c1 => exact hx.cells rfl
        case c3 => unfold maxLen; omega
        case c4 => omega
        case c5 => exact hbx.size
        · intro v' w2 hown2 hgrow _
          have hb2 : Below w.heap.size w w2 := hbx.grown hgrow hbx.size (ownBlock_le hown1)
          clear hown1 hgrow hbx hb1 hx
          go_wp2
          go_roundw
          case rel => exact ⟨k + 1, by omega, by go_num, by rw [HN.out]; go_num, by rw [HX.out]; exact own_cast hown2 (by simp) (by simp [B8]), hb2⟩
          case measure => simp [intOf]; omega
      · have HN := Lib.hid (fitsTo_no hfit)
        obtain ⟨v, hv⟩ : ∃ v, ls.getD k 0 = v := ⟨_, rfl⟩
        rw [hv] at hck v0 v1 hfit
        clear hv
        go_wp2_with fail
        refine (put_big v _ (by omega) v1 hTr).mono ?_
        rintro e w1 ⟨rfl, rfl⟩
        go_wp2
        go_roundw
        case rel => exact ⟨k + 1, by omega, by go_num, by rw [HN.out], by rw [HN.out]; exact hown, hbel⟩
        case measure => simp [intOf]; omega
    · obtain rfl : k = ls.length := by omega
      have hns := fitsTo_nums HNN.out ls.length (Nat.le_refl _)
      obtain ⟨vs, hvs⟩ : ∃ vs, fitsTo ls ls.length = vs := ⟨_, rfl⟩
      rw [hvs] at hown hfl1 hel hns ⊢
      clear hvs
      have HNS := Lib.hid hns
      clear hns
      obtain ⟨AA, cA, rfl, hRA, hA1, hA2, _⟩ := RB.of_own hown
      go_wp2_with fail
      refine (nums_any (encs vs) AA cA wr hRA hA1 hA2 (by omega) (bytes_of_mem (encs_bytes vs)) hTr).mono ?_
      rw [nums_encs HNS.out]
      rintro e w2 ⟨m, rfl, hm, hb2⟩
      have hown2 := own_below hown hb2
      have hbel2 : Below w.heap.size w w2 := hbel.trans (hb2.mono hbs)
      clear hown hbel hb2 hRA hTr hbs
      have hm' : w2.ownsRow wr.heap.size 22 1 m vs.length (U64 vs) := hm
      clear hm
      obtain ⟨AM, cM, rfl, _⟩ := own_slice hm'
      go_wp2
      go_loopw [8, 15, 16, 17] (fun want i _ _ w3 => ∃ k : Nat, k ≤ vs.length ∧ i = .int .i64 k ∧ w3.ownsRow w2.heap.size 5 1 want (encs (vs.take k)).length (B8 (encs (vs.take k))) ∧ Below w2.heap.size w2 w3) (fun _ i _ _ _ => vs.length - (intOf i).toNat)
      case atStart => exact ⟨0, by omega, rfl, by simpa [encs] using World.ownsRow_nil w2 w2.heap.size 5 1, Below.refl _ _⟩
      case round =>
        obtain ⟨k, hk, rfl, howw, hbw⟩ := hrel
        have hsw := hbw.size
        have htl : (vs.take k).length ≤ vs.length := List.length_take_le' _ _
        have htk := encs_length (vs.take k)
        have hT3 := hT.below (hbel2.trans (hbw.mono hbel2.size)) hT.big
        by_cases hlt2 : k < vs.length
        · obtain ⟨g, rfl, hg, hcg⟩ := nums_cell hm' hlt2
          have c1 : wr.cell? ⟨g, k, none⟩ = some (.int .u64 (vs.getD k 0)) := (hbw.cell (p := ⟨g, k, none⟩) hg).trans hcg
          obtain ⟨v0, v1⟩ := nums_at HNS.out hlt2
          have HX := Lib.hid (take_next hlt2)
          obtain ⟨v, hv⟩ : ∃ v, vs.getD k 0 = v := ⟨_, rfl⟩
          rw [hv] at c1 v0 v1 HX
          clear hv hcg
          obtain ⟨xs, hxs⟩ : ∃ xs, encs (vs.take k) = xs := ⟨_, rfl⟩
          rw [hxs] at howw HX htk
          clear hxs
          go_wp2_with fail
          refine (put_fits v _ v0 v1 hT3).mono ?_
          rintro e w4 ⟨x, rfl, hx, hb4⟩
          have hnl := szN_le v
          obtain ⟨gx, cx, rfl, hgx, hgl⟩ := hx.form (by rw [numB_length]; omega)
          have howw4 := own_below howw hb4
          rw [← numB_length] at hnl
          have hbx := hbw.trans (hb4.mono hsw)
          clear howw hbw
          go_wp2_with (at_builtin; refine wpList_append_own _ rfl _ _ 23 rfl w2.heap.size 5 i0 (.int .u8 0) 1 1 Tryd.underlying23 hi hz0 hz1 hz2 rfl (by decide) _ _ _ rfl howw4 ⟨gx, 0, none⟩ (numB v).length cx (B8 (numB v)) rfl (by simp) ?c1 (oneCell_B8 _) ?c3 ?c4 ?c5 ?_)
          case c1 => exact hx.cells rfl
          case c3 => unfold maxLen; omega
          case c4 => omega
          case c5 => exact hbx.size
          · intro v' w5 hown5 hgrow _
            have hb5 := hbx.grown hgrow hbx.size (ownBlock_le howw4)
            clear howw4 hgrow hbx hb4 hx
            go_wp2
            go_roundw
            case rel => exact ⟨k + 1, by omega, by go_num, by rw [HX.out]; exact own_cast hown5 (by simp) (by simp [B8]), hb5⟩
            case measure => simp [intOf]; omega
        · obtain rfl : k = vs.length := by omega
          rw [List.take_length] at howw
          obtain ⟨AW, cW, rfl, hRW, _⟩ := RB.of_own howw
          have hcw := conv_any cW hRW
          have hca := conv_any cA (RB.own (own_below hown2 hbw))
          have ss : (!((strOfNums (encs vs)).toList == (strOfNums (encs vs)).toList)) = false := by simp
          have dl : ((vs.length : Int) != (vs.length : Int)) = false := by simp
          have hbel3 : Below w.heap.size w wr := hbel2.trans (hbw.mono hbel2.size)
          clear hown2 hbel2 howw hbw hRW hm'
          have hFT := (HF.out.below hbel3).more hbel3.size
          by_cases hP : fs.length ≤ 128 ∧ Short fs
          · have hps := putFS_yes hP.1 hP.2
            go_wp2_with fail
            refine (putF_any fs AF cF wr hFT hT3).mono ?_
            rw [hps]
            rintro e w4 ⟨x, rfl, hx, hb4⟩
            have hx' : w4.ownsRow wr.heap.size 5 1 x (fldsB fs).length (B8 (fldsB fs)) := hx
            clear hx hps hcw hca ss dl
            obtain ⟨AX, cX, rfl, hRX, hX1, hX2, _⟩ := RB.of_own hx'
            have hT4 := hT3.below hb4 hT3.big
            have hbel4 : Below w.heap.size w w4 := hbel3.trans (hb4.mono hbel3.size)
            have hfb := fit_bound HFIT.out
            go_wp2_with fail
            refine (fields_any (fldsB fs) AX cX w4 hRX hX1 hX2 (by omega) (bytes_of_mem (fldsB_bytes fs hok)) hT4).mono ?_
            rw [fields_flds hP.2 hP.1]
            rintro e w5 ⟨kv, cs, rfl, hk5, hFO, hb5⟩
            have hk' : w5.ownsRow w4.heap.size 54 2 kv fs.length cs := hk5
            have hFO' : FO w5 w4.heap.size cs fs := hFO
            clear hk5 hFO
            obtain ⟨AK, cK, rfl, _⟩ := own_slice hk'
            have hFK := FS.of_rows hk' hFO'.toFC (Nat.le_refl _)
            have hbel5 : Below w.heap.size w w5 := hbel4.trans (hb5.mono hbel4.size)
            clear hk' hFO' hx' hRX
            go_wp2_with fail
            refine (as_any fs AK cK w5 hFK HFIT.out.1).mono ?_
            rintro e w6 ⟨A6, c6, rfl, hF6, hb6⟩
            have hbel6 : Below w.heap.size w w6 := hbel5.trans (hb6.mono hbel5.size)
            go_wp2_with fail
            refine (as_any fs AF cF w6 ((HF.out.below hbel6).more hbel6.size) HFIT.out.1).mono ?_
            rintro e w7 ⟨A7, c7, rfl, hF7, hb7⟩
            have hbel7 : Below w.heap.size w w7 := hbel6.trans (hb7.mono hbel6.size)
            go_wp2_with fail
            refine (same_true fs A6 A7 c6 c7 w7 ((hF6.below hb7).more hb7.size) hF7 hfl).mono ?_
            rintro e wz ⟨rfl, hb8⟩
            have hbz : Below w.heap.size w wz := hbel7.trans (hb8.mono hbel7.size)
            clear hbel3 hbel4 hbel5 hbel6 hbel7 hb4 hb5 hb6 hb7 hb8 hF6 hF7 hFK hFT hT3 hT4 hP
            have hTz := hT.below hbz hT.big
            have hRz := (HR.out.below hbz).keep' hbz.size
            go_wp2_with fail
            refine (fields_any bs AB cB wz hRz hbc hbm (by omega) hB hTz).mono ?_
            rintro e wa ⟨kv, cs, rfl, hka, hFO, hba⟩
            obtain ⟨AK, cK, rfl, _⟩ := own_slice hka
            have hFK := FS.of_rows hka hFO.toFC (Nat.le_refl _)
            have hbwa : Below w.heap.size w wa := hbz.trans (hba.mono hbz.size)
            have hTa := hT.below hbwa hT.big
            clear hka hFO hba hbz hRz hTz
            go_wp2_with fail
            refine (putF_any (fieldsS bs).1 AK cK wa hFK hTa).mono ?_
            rintro e wb ⟨y, rfl, hy, hbb⟩
            obtain ⟨AY, cY, rfl, hRY, _⟩ := RB.of_own hy
            have hbwb : Below w.heap.size w wb := hbwa.trans (hbb.mono hbwa.size)
            have hTb := hT.below hbwb hT.big
            clear hy hbb hbwa hTa hFK
            go_wp2_with fail
            refine (alive_any _ hTb).mono ?_
            rintro e wc ⟨rfl, hbc2⟩
            have hbwc : Below w.heap.size w wc := hbwb.trans (hbc2.mono hbwb.size)
            have hcy := conv_any cY (hRY.below hbc2)
            have hcb := conv_any cB (HR.out.below hbwc)
            clear hRY hbc2 hTb hbwb
            by_cases hE : (fieldsS bs).2 = 0
            · have hpb := putFS_back hB hE
              rw [hpb] at hcy ⊢
              rw [hE]
              have ss : ((strOfNums bs).toList == (strOfNums bs).toList) = true := by simp
              clear hpb hE
              go_wp2
              go_ret
              exact ⟨rfl, hbwc⟩
            · have bE : ((fieldsS bs).2 != 0) = true := by simpa using hE
              clear hE
              go_wp2
              go_ret
              exact ⟨rfl, hbwc⟩
          · have hno := putFS_no hP
            have bno : ((putFS fs).2 == 0) = false := beq_eq_false_iff_ne.2 hno
            go_wp2_with fail
            refine (putF_any fs AF cF wr hFT hT3).mono ?_
            rintro e wz ⟨x, rfl, hx, hb4⟩
            obtain ⟨E, hE⟩ : ∃ E, (putFS fs).2 = E := ⟨_, rfl⟩
            rw [hE] at bno ⊢
            have hbz : Below w.heap.size w wz := hbel3.trans (hb4.mono hbel3.size)
            clear hbel3 hb4 hFT hT3 hP hno hE hx hcw hca ss dl
            have hTz := hT.below hbz hT.big
            have hRz := (HR.out.below hbz).keep' hbz.size
            go_wp2_with fail
            refine (fields_any bs AB cB wz hRz hbc hbm (by omega) hB hTz).mono ?_
            rintro e wa ⟨kv, cs, rfl, hka, hFO, hba⟩
            obtain ⟨AK, cK, rfl, _⟩ := own_slice hka
            have hFK := FS.of_rows hka hFO.toFC (Nat.le_refl _)
            have hbwa : Below w.heap.size w wa := hbz.trans (hba.mono hbz.size)
            have hTa := hT.below hbwa hT.big
            clear hka hFO hba hbz hRz hTz
            go_wp2_with fail
            refine (putF_any (fieldsS bs).1 AK cK wa hFK hTa).mono ?_
            rintro e wb ⟨y, rfl, hy, hbb⟩
            obtain ⟨AY, cY, rfl, hRY, _⟩ := RB.of_own hy
            have hbwb : Below w.heap.size w wb := hbwa.trans (hbb.mono hbwa.size)
            have hTb := hT.below hbwb hT.big
            clear hy hbb hbwa hTa hFK
            go_wp2_with fail
            refine (alive_any _ hTb).mono ?_
            rintro e wc ⟨rfl, hbc2⟩
            have hbwc : Below w.heap.size w wc := hbwb.trans (hbc2.mono hbwb.size)
            have hcy := conv_any cY (hRY.below hbc2)
            have hcb := conv_any cB (HR.out.below hbwc)
            clear hRY hbc2 hTb hbwb
            by_cases hE : (fieldsS bs).2 = 0
            · have hpb := putFS_back hB hE
              rw [hpb] at hcy ⊢
              rw [hE]
              have ss : ((strOfNums bs).toList == (strOfNums bs).toList) = true := by simp
              clear hpb hE
              go_wp2
              go_ret
              exact ⟨rfl, hbwc⟩
            · have bE : ((fieldsS bs).2 != 0) = true := by simpa using hE
              clear hE
              go_wp2
              go_ret
              exact ⟨rfl, hbwc⟩
end Go.Proofs.YtdhnhpcmfbiieaaDoor
