/-
  Proved here: VintFields walked: for every slice of fields, every slice of bytes and every tag, the law returns true and changes nothing that was there.
-/
import Derived.Test.YtdhnhpcmfbiieaaDoorVBack
import Derived.Test.YtdhnhpcmfbiieaaDoorVFind
import Derived.Test.YtdhnhpcmfbiieaaDoorVRefF
namespace Go.Proofs.YtdhnhpcmfbiieaaDoor
open Go.RowKit

theorem fgo_len {bs : List Int} : ∀ (f p : Nat) (out : List Fld), out.length ≤ 128 → (fgo bs f p out).1.length ≤ 128
  | 0, _, _, h => h
  | f + 1, p, out, h => by
    rw [fgo]
    split
    · split
      · rename_i h2
        refine fgo_len f _ _ ?_
        have : out.length ≠ 128 := by
          intro e
          rw [stepE, if_pos e] at h2
          omega
        simp
        omega
      · simp
    · exact h
theorem fieldsS_len (bs : List Int) : (fieldsS bs).1.length ≤ 128 := fgo_len _ _ _ (by simp)

theorem FO.far {w w' : World} {base : Nat} {row : Option Nat} : ∀ {cs : List Value} {fs : List Fld}, FO w base cs fs → w.grownBy w' row → (∀ g, row = some g → g < base) → FO w' base cs fs
  | [], [], _, _, _ => trivial
  | [], _ :: _, h, _, _ => h.elim
  | [_], [], h, _, _ => h.elim
  | [_], _ :: _, h, _, _ => h.elim
  | _ :: _ :: _, [], h, _, _ => h.elim
  | _ :: v :: _, _ :: _, ⟨h1, h2, h3⟩, hg, hr => ⟨h1, h2.kept hg (by
      cases hv : v.ownBlock with
      | none => exact .inl rfl
      | some g => exact .inr fun e => by have := hr g e.symm; have := ownBlock_le h2 g hv; omega), FO.far h3 hg hr⟩
theorem own_far {w w' : World} {base : Nat} {e : TypeId} {size : Nat} {v : Value} {n : Nat} {xs : List Value} {row : Option Nat} (h : w.ownsRow base e size v n xs) (hg : w.grownBy w' row) (hr : ∀ g, row = some g → g < base) : w'.ownsRow base e size v n xs :=
  h.kept hg (by
    cases hv : v.ownBlock with
    | none => exact .inl rfl
    | some g => exact .inr fun e => by have := hr g e.symm; have := ownBlock_le h g hv; omega)
theorem grown_store {w wr w' : World} {row : Option Nat} {g : Nat} (h : w.grownBy wr row) (hg : wr.grownBy w' (some g)) (hr : row = some g) : w.grownBy w' row := by
  subst hr
  exact ⟨hg.os.trans h.os, hg.tape.trans h.tape, hg.output.trans h.output, Nat.le_trans h.size hg.size, fun k hk hne => (hg.block k (Nat.lt_of_lt_of_le hk h.size) hne).trans (h.block k hk hne)⟩
theorem B8_set (zs : List Int) (i : Nat) (y : Int) : (B8 zs).set i (.int .u8 y) = B8 (zs.set i y) := by simp [B8]

set_option maxRecDepth 100000 in
set_option maxHeartbeats 4000000 in
theorem fields_long (fs : List Fld) (AF AB : Option Addr) (cF lB cB : Nat) (t : Int) (w : World) (hT : Tab w) (hF : FS w w.heap.size AF fs) (hfl : fs.length ≤ maxLen) (h : 40000 < lB) :
    Calls Tryd.prog 4 #[.slice AF fs.length cF, .slice AB lB cB, .int .u8 t] w (Tru w) := by
  have d2 : decide ((40000 : Int) < (lB : Int)) = true := by simp; omega
  go_enter Tryd.func4, Tryd.ntmps4
  go_wp2_with fail
  refine (great_any fs AF cF w.heap.size w hF hfl).mono ?_
  rintro e w' ⟨rfl, he⟩
  rcases he with rfl | ⟨rfl, hfit⟩
  all_goals (
    go_wp2_with fail
    refine (alive_any _ hT).mono ?_
    rintro e w1 ⟨rfl, hb1⟩
    go_wp2
    go_ret
    exact ⟨rfl, hb1⟩)

set_option maxRecDepth 100000 in
set_option maxHeartbeats 4000000 in
theorem fields_short (fs : List Fld) (bs : List Int) (AF AB : Option Addr) (cF cB : Nat) (t : Int) (w : World) (hT : Tab w) (hF : FS w w.heap.size AF fs) (hfl : fs.length ≤ maxLen)
    (hR : RB w w.heap.size AB bs) (hB : Bytes bs) (hbc : bs.length ≤ cB) (hbm : cB ≤ maxLen) (hbn : AB = none → cB = 0) (hbl : bs.length ≤ 40000) :
    Calls Tryd.prog 4 #[.slice AF fs.length cF, .slice AB bs.length cB, .int .u8 t] w (Tru w) := by
  obtain ⟨i0, hi, hz0, hz1, hz2⟩ := info_parts infoByte
  have d2 : decide ((40000 : Int) < (bs.length : Int)) = false := by simp; omega
  have HF := Lib.hid hF
  have HR := Lib.hid hR
  clear hF hR
  go_enter Tryd.func4, Tryd.ntmps4
  go_wp2_with fail
  refine (great_any fs AF cF w.heap.size w HF.out hfl).mono ?_
  rintro e w' ⟨rfl, he⟩
  rcases he with rfl | ⟨rfl, hfit⟩
  · go_wp2_with fail
    refine (alive_any _ hT).mono ?_
    rintro e w1 ⟨rfl, hb1⟩
    go_wp2
    go_ret
    exact ⟨rfl, hb1⟩
  have HFIT := Lib.hid hfit
  clear hfit
  go_wp2_with fail
  refine (putF_any fs AF cF w HF.out hT).mono ?_
  rintro e w1 ⟨x, rfl, hx, hb1⟩
  obtain ⟨AX, cX, rfl, hRX, _⟩ := RB.of_own hx
  go_wp2_with fail
  refine (as_any fs AF cF w1 ((HF.out.below hb1).more hb1.size) HFIT.out.1).mono ?_
  rintro e w2 ⟨A2, c2, rfl, hF2, hb2⟩
  go_wp2_with fail
  refine (rputF_any fs A2 c2 w2 hF2).mono ?_
  rintro e w3 ⟨y, rfl, hy, hb3⟩
  obtain ⟨AY, cY, rfl, hRY, _⟩ := RB.of_own hy
  have hb12 : Below w.heap.size w w2 := hb1.trans (hb2.mono hb1.size)
  have hbw3 : Below w.heap.size w w3 := hb12.trans (hb3.mono hb12.size)
  have hRX3 : RB w3 w3.heap.size AX (putFS fs).1 := ((hRX.below hb2).below (hb3.mono hb2.size)).keep' (Nat.le_trans hb2.size hb3.size)
  have hs3 := hbw3.size
  clear hx hy hb1 hb2 hb3 hb12 hF2 hRX
  obtain ⟨xb, hxb⟩ : ∃ xb, (putFS fs).1 = xb := ⟨_, rfl⟩
  obtain ⟨E, hE⟩ : ∃ E, (putFS fs).2 = E := ⟨_, rfl⟩
  rw [hxb] at hRX3 hRY ⊢
  rw [hE]
  clear hxb hE
  rcases AB with _ | ab
  · have hd0 : bs.length = 0 := by
      rcases Nat.eq_zero_or_pos bs.length with h' | h'
      · exact h'
      · obtain ⟨_, _, h', _⟩ := HR.out h'
        cases h'
    obtain rfl : bs = [] := List.eq_nil_of_length_eq_zero hd0
    obtain rfl := hbn rfl
    clear hd0
    go_wp2_with (at_builtin; refine wpList_append_own_none rfl _ _ 23 rfl w3.heap.size 5 i0 1 Tryd.underlying23 hi _ 0 [] rfl (World.ownsRow_made w3 #[] 0 (Nat.le_refl _) (by unfold maxLen; omega) rfl) rfl ?_)
    · have hown : (w3.alloc (.cells #[] 5)).ownsRow w3.heap.size 5 1 (.slice (some ⟨w3.heap.size, 0, none⟩) 0 0) 0 (B8 []) := World.ownsRow_made w3 #[] 0 (Nat.le_refl _) (by unfold maxLen; omega) rfl
      have hb34 : Below w3.heap.size w3 (w3.alloc (.cells #[] 5)) := (Below.refl _ _).alloc (Nat.le_refl _) _
      obtain ⟨w4, hw4⟩ : ∃ w4, w3.alloc (.cells #[] 5) = w4 := ⟨_, rfl⟩
      rw [hw4] at hown hb34 ⊢
      clear hw4
      obtain ⟨ov, hov⟩ : ∃ ov, Value.slice (some ⟨w3.heap.size, 0, none⟩) 0 0 = ov := ⟨_, rfl⟩
      rw [hov] at hown ⊢
      clear hov
      obtain ⟨AO, cO, rfl, hRO, hO1, hO2, _⟩ := RB.of_own (bs := ([] : List Int)) hown
      have hbw4 : Below w.heap.size w w4 := hbw3.trans (hb34.mono hs3)
      have hs34 := hb34.size
      go_wp2_with fail
      refine (fields_any ([] : List Int) AO cO w4 hRO hO1 hO2 (by simp) hB (hT.below hbw4 hT.big)).mono ?_
      rintro e w5 ⟨m, cs, rfl, hm, hFO, hb45⟩
      have hown5 := own_below hown hb45
      have hb35 : Below w3.heap.size w3 w5 := hb34.trans (hb45.mono hs34)
      have hob : ∀ g, (Value.slice AO ([] : List Int).length cO).ownBlock = some g → g < w4.heap.size := fun g hg => (hown.lt g hg).2
      clear hown hRO hb45 hb34 hbw4
      obtain ⟨ms, hms⟩ : ∃ ms, (fieldsS ([] : List Int)).1 = ms := ⟨_, rfl⟩
      obtain ⟨G, hG⟩ : ∃ G, (fieldsS ([] : List Int)).2 = G := ⟨_, rfl⟩
      have hml := fieldsS_len ([] : List Int)
      have HMG : Hid (fieldsS ([] : List Int) = (ms, G)) := Prod.ext hms hG
      rw [hms] at hm hFO hml
      rw [hG]
      clear hms hG
      obtain ⟨AM, cM, rfl, _⟩ := own_slice hm
      go_wp2
      go_loopw [14] (fun i wr => ∃ (k : Nat) (zs : List Int), k ≤ ([] : List Int).length ∧ zs.length = ([] : List Int).length ∧ i = .int .i64 k ∧ wr.ownsRow w3.heap.size 5 1 (.slice AO ([] : List Int).length cO) ([] : List Int).length (B8 zs) ∧ Below w3.heap.size w3 wr ∧ w5.grownBy wr (Value.slice AO ([] : List Int).length cO).ownBlock) (fun i _ => ([] : List Int).length - (intOf i).toNat)
      case atStart => exact ⟨0, ([] : List Int), Nat.zero_le _, rfl, rfl, hown5, hb35, World.grownBy.refl _ _⟩
      case round =>
        clear hown5 hb35
        obtain ⟨k, zs, hk, hzl, rfl, hoz, hbz, hgz⟩ := hrel
        have HZL := Lib.hid hzl
        clear hzl
        by_cases hlt : k < ([] : List Int).length
        · exact absurd hlt (by simp)
        · have hbw6 : Below w.heap.size w wr := hbw3.trans (hbz.mono hs3)
          have hm6 := own_far hm hgz hob
          have hFO6 := hFO.far hgz hob
          have hRX6 : RB wr w3.heap.size AX xb := hRX3.below hbz
          have hRY6 : RB wr w3.heap.size AY xb := hRY.below hbz
          have hs36 := hbz.size
          clear hm hFO hgz hoz hRX3 hRY
          go_wp2_with fail
          refine (rfields_any ([] : List Int) _ _ wr ((HR.out.below hbw6).keep' hbw6.size) hbc hbm (by simp) hB).mono ?_
          rw [HMG.out]
          rintro e w7 ⟨kv, cs7, rfl, hk7, hFC7, hb7⟩
          have hk7' : w7.ownsRow wr.heap.size 61 2 kv ms.length cs7 := hk7
          have hFC7' : FC wr wr.heap.size cs7 ms := hFC7
          clear hk7 hFC7
          obtain ⟨AK, cK, rfl, _⟩ := own_slice hk7'
          have hFS7 := FS.of_rows hk7' (hFC7'.below hb7) hb7.size
          have hm7 := own_below hm6 hb7
          have hFO7 := hFO6.below hb7
          have hFSm := FS.of_rows hm7 hFO7.toFC (Nat.le_refl _)
          have hbw7 : Below w.heap.size w w7 := hbw6.trans (hb7.mono hbw6.size)
          have hRX7 : RB w7 w3.heap.size AX xb := hRX6.below (hb7.mono hs36)
          have hRY7 : RB w7 w3.heap.size AY xb := hRY6.below (hb7.mono hs36)
          have hs37 : w3.heap.size ≤ w7.heap.size := Nat.le_trans hs36 hb7.size
          clear hk7' hFC7' hb7 hm6 hFO6 hm7 hFO7 hRX6 hRY6 hbw6 hbz hs36
          go_wp2_with fail
          refine (find_any fs t AF cF w7 ((HF.out.below hbw7).more hbw7.size) hfl (fun i hi => by have := HFIT.out.2 i hi; omega)).mono ?_
          rintro e w8 ⟨p, rfl, hp, hb8⟩
          obtain ⟨AP, cP, rfl, hRP, _⟩ := RB.of_own hp
          have hbw8 : Below w.heap.size w w8 := hbw7.trans (hb8.mono hbw7.size)
          have hs78 := hb8.size
          go_wp2_with fail
          refine (as_any fs AF cF w8 ((HF.out.below hbw8).more hbw8.size) HFIT.out.1).mono ?_
          rintro e w9 ⟨A9, c9, rfl, hF9, hb9⟩
          have hs89 := hb9.size
          have hbw9 : Below w.heap.size w w9 := hbw8.trans (hb9.mono hbw8.size)
          go_wp2_with fail
          refine (rfind_any fs t A9 c9 w9 hF9 hfl).mono ?_
          rintro e wq ⟨q, rfl, ⟨AQ, cQ, rfl, hRQ, _⟩, rfl⟩
          have hb79 : Below w7.heap.size w7 w9 := hb8.trans (hb9.mono hs78)
          have hRP9 := (hRP.below hb9).keep' hs89
          have hFSm9 := (hFSm.below hb79).more hb79.size
          have hFS9 := (hFS7.below hb79).more hb79.size
          have hRX9 := (hRX7.below (hb79.mono hs37)).keep' (Nat.le_trans hs37 hb79.size)
          have hRY9 := (hRY7.below (hb79.mono hs37)).keep' (Nat.le_trans hs37 hb79.size)
          clear hp hRP hF9 hb8 hb9 hb79 hFSm hFS7 hRX7 hRY7 hbw7 hbw8 hs78 hs89 hs37
          have hT9 := hT.below hbw9 hT.big
          go_wp2_with fail
          refine (alive_any _ hT9).mono ?_
          rintro e wa ⟨rfl, hba⟩
          have hcx := conv_any cX (hRX9.below hba)
          have hcy := conv_any cY (hRY9.below hba)
          have ss : ((strOfNums xb).toList == (strOfNums xb).toList) = true := by simp
          have eE : (E == E) = true := by simp
          have hbwa : Below w.heap.size w wa := hbw9.trans (hba.mono hbw9.size)
          have hsa := hba.size
          have hFSma := (hFSm9.below hba).more hsa
          have hFSa := (hFS9.below hba).more hsa
          have hRPa := (hRP9.below hba).keep' hsa
          have hRQa := (hRQ.below hba).keep' hsa
          clear hRX9 hRY9 hFSm9 hFS9 hRP9 hRQ hba hsa hbw9 hT9
          go_wp2_with fail
          refine (as_any ms AM cM wa hFSma (by omega)).mono ?_
          rintro e wb ⟨Ab, cb, rfl, hFb, hbb⟩
          go_wp2_with fail
          refine (same_true ms Ab AK cb cK wb hFb ((hFSa.below hbb).more hbb.size) (by unfold maxLen; omega)).mono ?_
          rintro e wc ⟨rfl, hbcc⟩
          have hbac : Below wa.heap.size wa wc := hbb.trans (hbcc.mono hbb.size)
          have hcp := conv_any cP (hRPa.below hbac)
          have hcq := conv_any cQ (hRQa.below hbac)
          have ss2 : ((strOfNums (findS t fs).1).toList == (strOfNums (findS t fs).1).toList) = true := by simp
          have eG : (G == G) = true := by simp
          have eB : ((findS t fs).2 == (findS t fs).2) = true := by simp
          have hfin : Below w.heap.size w wc := hbwa.trans (hbac.mono hbwa.size)
          clear hcx hcy hRPa hRQa hbac hFb hFSa hFSma
          obtain ⟨fd, hfd⟩ : ∃ fd, findS t fs = fd := ⟨_, rfl⟩
          rw [hfd] at hcp hcq ss2 eB ⊢
          clear hfd
          go_wp2
          go_ret
          exact ⟨rfl, hfin⟩
  · go_wp2_with (at_builtin; refine wpList_append_own _ rfl _ _ 23 rfl w3.heap.size 5 i0 (.int .u8 0) 1 1 Tryd.underlying23 hi hz0 hz1 hz2 rfl (by decide) _ 0 [] rfl (World.ownsRow_made w3 #[] 0 (Nat.le_refl _) (by unfold maxLen; omega) rfl) ab bs.length cB (B8 bs) rfl (by simp) ?c1 (oneCell_B8 bs) ?c3 ?c4 ?c5 ?_)
    case c1 => exact ((HR.out.below hbw3).alloc hs3 _).cells
    case c3 => unfold maxLen; omega
    case c4 => omega
    case c5 => simp
    · intro ov w4 hown4 hgrow _
      have hown : w4.ownsRow w3.heap.size 5 1 ov bs.length (B8 bs) := own_cast hown4 (by simp) (by simp)
      have hb34 : Below w3.heap.size w3 w4 := ((Below.refl _ _).alloc (Nat.le_refl _) _).grown hgrow (by simp) (fun _ hx => lit_le (Nat.le_refl _) hx)
      clear hown4 hgrow
      obtain ⟨AO, cO, rfl, hRO, hO1, hO2, _⟩ := RB.of_own (bs := bs) hown
      have hbw4 : Below w.heap.size w w4 := hbw3.trans (hb34.mono hs3)
      have hs34 := hb34.size
      go_wp2_with fail
      refine (fields_any bs AO cO w4 hRO hO1 hO2 (by omega) hB (hT.below hbw4 hT.big)).mono ?_
      rintro e w5 ⟨m, cs, rfl, hm, hFO, hb45⟩
      have hown5 := own_below hown hb45
      have hb35 : Below w3.heap.size w3 w5 := hb34.trans (hb45.mono hs34)
      have hob : ∀ g, (Value.slice AO bs.length cO).ownBlock = some g → g < w4.heap.size := fun g hg => (hown.lt g hg).2
      clear hown hRO hb45 hb34 hbw4
      obtain ⟨ms, hms⟩ : ∃ ms, (fieldsS bs).1 = ms := ⟨_, rfl⟩
      obtain ⟨G, hG⟩ : ∃ G, (fieldsS bs).2 = G := ⟨_, rfl⟩
      have hml := fieldsS_len bs
      have HMG : Hid (fieldsS bs = (ms, G)) := Prod.ext hms hG
      rw [hms] at hm hFO hml
      rw [hG]
      clear hms hG
      obtain ⟨AM, cM, rfl, _⟩ := own_slice hm
      go_wp2
      go_loopw [14] (fun i wr => ∃ (k : Nat) (zs : List Int), k ≤ bs.length ∧ zs.length = bs.length ∧ i = .int .i64 k ∧ wr.ownsRow w3.heap.size 5 1 (.slice AO bs.length cO) bs.length (B8 zs) ∧ Below w3.heap.size w3 wr ∧ w5.grownBy wr (Value.slice AO bs.length cO).ownBlock) (fun i _ => bs.length - (intOf i).toNat)
      case atStart => exact ⟨0, bs, Nat.zero_le _, rfl, rfl, hown5, hb35, World.grownBy.refl _ _⟩
      case round =>
        clear hown5 hb35
        obtain ⟨k, zs, hk, hzl, rfl, hoz, hbz, hgz⟩ := hrel
        have HZL := Lib.hid hzl
        clear hzl
        by_cases hlt : k < bs.length
        · obtain ⟨g, cg, hform, hgb, hgl⟩ := hoz.form (by omega)
          injection hform with hA _ hc
          subst hA
          subst hc
          have hck := hoz.cellAt k (by omega)
          rw [B8_getElem (by rw [HZL.out]; exact hlt)] at hck
          have hfr := hoz.frozenAt k
          obtain ⟨z, hz⟩ : ∃ z, zs.getD k 0 = z := ⟨_, rfl⟩
          rw [hz] at hck
          clear hz
          have hst := hoz.stored k (.int .u8 (bits BinOp.xor IntKind.u8 z 255))
          rw [B8_set] at hst
          have hb' : Below w3.heap.size w3 (wr.setCell ⟨g, k, none⟩ (.int .u8 (bits BinOp.xor IntKind.u8 z 255))) := hbz.setCell (p := ⟨g, k, none⟩) hgb _
          have hg' := grown_store hgz hst.2 rfl
          have hst1 := hst.1
          have HL2 : Hid ((zs.set k (bits BinOp.xor IntKind.u8 z 255)).length = bs.length) := List.length_set.trans HZL.out
          clear hst hoz hbz hgz
          go_wp2
          go_roundw
          case rel => exact ⟨k + 1, _, by omega, HL2.out, by go_num, hst1, hb', hg'⟩
          case measure => simp [intOf]; omega
        · have hbw6 : Below w.heap.size w wr := hbw3.trans (hbz.mono hs3)
          have hm6 := own_far hm hgz hob
          have hFO6 := hFO.far hgz hob
          have hRX6 : RB wr w3.heap.size AX xb := hRX3.below hbz
          have hRY6 : RB wr w3.heap.size AY xb := hRY.below hbz
          have hs36 := hbz.size
          clear hm hFO hgz hoz hRX3 hRY
          go_wp2_with fail
          refine (rfields_any bs _ _ wr ((HR.out.below hbw6).keep' hbw6.size) hbc hbm (by omega) hB).mono ?_
          rw [HMG.out]
          rintro e w7 ⟨kv, cs7, rfl, hk7, hFC7, hb7⟩
          have hk7' : w7.ownsRow wr.heap.size 61 2 kv ms.length cs7 := hk7
          have hFC7' : FC wr wr.heap.size cs7 ms := hFC7
          clear hk7 hFC7
          obtain ⟨AK, cK, rfl, _⟩ := own_slice hk7'
          have hFS7 := FS.of_rows hk7' (hFC7'.below hb7) hb7.size
          have hm7 := own_below hm6 hb7
          have hFO7 := hFO6.below hb7
          have hFSm := FS.of_rows hm7 hFO7.toFC (Nat.le_refl _)
          have hbw7 : Below w.heap.size w w7 := hbw6.trans (hb7.mono hbw6.size)
          have hRX7 : RB w7 w3.heap.size AX xb := hRX6.below (hb7.mono hs36)
          have hRY7 : RB w7 w3.heap.size AY xb := hRY6.below (hb7.mono hs36)
          have hs37 : w3.heap.size ≤ w7.heap.size := Nat.le_trans hs36 hb7.size
          clear hk7' hFC7' hb7 hm6 hFO6 hm7 hFO7 hRX6 hRY6 hbw6 hbz hs36
          go_wp2_with fail
          refine (find_any fs t AF cF w7 ((HF.out.below hbw7).more hbw7.size) hfl (fun i hi => by have := HFIT.out.2 i hi; omega)).mono ?_
          rintro e w8 ⟨p, rfl, hp, hb8⟩
          obtain ⟨AP, cP, rfl, hRP, _⟩ := RB.of_own hp
          have hbw8 : Below w.heap.size w w8 := hbw7.trans (hb8.mono hbw7.size)
          have hs78 := hb8.size
          go_wp2_with fail
          refine (as_any fs AF cF w8 ((HF.out.below hbw8).more hbw8.size) HFIT.out.1).mono ?_
          rintro e w9 ⟨A9, c9, rfl, hF9, hb9⟩
          have hs89 := hb9.size
          have hbw9 : Below w.heap.size w w9 := hbw8.trans (hb9.mono hbw8.size)
          go_wp2_with fail
          refine (rfind_any fs t A9 c9 w9 hF9 hfl).mono ?_
          rintro e wq ⟨q, rfl, ⟨AQ, cQ, rfl, hRQ, _⟩, rfl⟩
          have hb79 : Below w7.heap.size w7 w9 := hb8.trans (hb9.mono hs78)
          have hRP9 := (hRP.below hb9).keep' hs89
          have hFSm9 := (hFSm.below hb79).more hb79.size
          have hFS9 := (hFS7.below hb79).more hb79.size
          have hRX9 := (hRX7.below (hb79.mono hs37)).keep' (Nat.le_trans hs37 hb79.size)
          have hRY9 := (hRY7.below (hb79.mono hs37)).keep' (Nat.le_trans hs37 hb79.size)
          clear hp hRP hF9 hb8 hb9 hb79 hFSm hFS7 hRX7 hRY7 hbw7 hbw8 hs78 hs89 hs37
          have hT9 := hT.below hbw9 hT.big
          go_wp2_with fail
          refine (alive_any _ hT9).mono ?_
          rintro e wa ⟨rfl, hba⟩
          have hcx := conv_any cX (hRX9.below hba)
          have hcy := conv_any cY (hRY9.below hba)
          have ss : ((strOfNums xb).toList == (strOfNums xb).toList) = true := by simp
          have eE : (E == E) = true := by simp
          have hbwa : Below w.heap.size w wa := hbw9.trans (hba.mono hbw9.size)
          have hsa := hba.size
          have hFSma := (hFSm9.below hba).more hsa
          have hFSa := (hFS9.below hba).more hsa
          have hRPa := (hRP9.below hba).keep' hsa
          have hRQa := (hRQ.below hba).keep' hsa
          clear hRX9 hRY9 hFSm9 hFS9 hRP9 hRQ hba hsa hbw9 hT9
          go_wp2_with fail
          refine (as_any ms AM cM wa hFSma (by omega)).mono ?_
          rintro e wb ⟨Ab, cb, rfl, hFb, hbb⟩
          go_wp2_with fail
          refine (same_true ms Ab AK cb cK wb hFb ((hFSa.below hbb).more hbb.size) (by unfold maxLen; omega)).mono ?_
          rintro e wc ⟨rfl, hbcc⟩
          have hbac : Below wa.heap.size wa wc := hbb.trans (hbcc.mono hbb.size)
          have hcp := conv_any cP (hRPa.below hbac)
          have hcq := conv_any cQ (hRQa.below hbac)
          have ss2 : ((strOfNums (findS t fs).1).toList == (strOfNums (findS t fs).1).toList) = true := by simp
          have eG : (G == G) = true := by simp
          have eB : ((findS t fs).2 == (findS t fs).2) = true := by simp
          have hfin : Below w.heap.size w wc := hbwa.trans (hbac.mono hbwa.size)
          clear hcx hcy hRPa hRQa hbac hFb hFSa hFSma
          obtain ⟨fd, hfd⟩ : ∃ fd, findS t fs = fd := ⟨_, rfl⟩
          rw [hfd] at hcp hcq ss2 eB ⊢
          clear hfd
          go_wp2
          go_ret
          exact ⟨rfl, hfin⟩
end Go.Proofs.YtdhnhpcmfbiieaaDoor
