/-
  Proved here, for every list of bytes that a slice reads as: vint.Fields answers what 'fieldsS' says: the fields in memory of its own, or none and an error.
-/
import Derived.Test.YtdhnhpcmfbiieaaDoorVFields
import Derived.WalkMore
namespace Go.Proofs.YtdhnhpcmfbiieaaDoor
open Go.RowKit

/-- What Fields leaves: rows of its own that hold the fields, and the error. -/
def FieldsPost (R : List Fld × Int) (w : World) (e : Ending) (w' : World) : Prop :=
  ∃ v cs, e = .returned (.tuple #[v, .int .i64 R.2]) ∧ w'.ownsRow w.heap.size 54 2 v R.1.length cs ∧ FO w' w.heap.size cs R.1 ∧ Below w.heap.size w w'

theorem fp_err {bs : List Int} {f p : Nat} {out : List Fld} {e : Int} {w w' : World} (hp : p < bs.length) (hf : bs.length < f + p) (he : stepE bs p out.length = e) (h0 : e ≠ 0) (hR : fgo bs f p out = fieldsS bs) (hb : Below w.heap.size w w') :
    FieldsPost (fieldsS bs) w (.returned (.tuple #[.slice none 0 0, .int .i64 e])) w' := by
  obtain ⟨f, rfl⟩ : ∃ g, f = g + 1 := ⟨f - 1, by omega⟩
  rw [fgo, if_pos hp, he, if_neg h0] at hR
  rw [← hR]
  exact ⟨_, [], rfl, World.ownsRow_nil _ _ _ _, trivial, hb⟩

theorem fld_step {w wr w1 w2 : World} {out : List Fld} {cs : List Value} {lv dv : Value} {tg : Int} {d : List Int} {o : Obj} (hbel : Below w.heap.size w wr) (hFO : FO wr w.heap.size cs out)
    (hown : wr.ownsRow w.heap.size 54 2 lv out.length cs) (hdb : Below wr.drew.heap.size wr.drew w1) (hdv : w1.ownsRow wr.drew.heap.size 5 1 dv d.length (B8 d)) (hgrow : (w1.alloc o).grownBy w2 lv.ownBlock) :
    FO w2 w.heap.size (cs ++ [.int .u8 tg, dv]) (out ++ [(tg, d)]) ∧ Below w.heap.size w w2 := by
  have hd : wr.drew.heap.size = wr.heap.size := rfl
  have e1 : Below wr.heap.size wr w1 := ⟨hdb.os, hdb.tape, hdb.output, hdb.size, hdb.block⟩
  have e2 : Below wr.heap.size wr (w1.alloc o) := e1.alloc e1.size o
  have f1 : FO (w1.alloc o) w.heap.size cs out := hFO.below e2
  have o1 := (own_below hown e2)
  have f2 := FO.snoc (f := (tg, d)) (own_mono (hdv.alloc o) (by have := hbel.size; omega)) f1
  refine ⟨f2.kept hgrow (own_other o1 (by decide)), ?_⟩
  have e3 : Below w.heap.size w (w1.alloc o) := hbel.trans (e2.mono hbel.size)
  exact e3.grown hgrow e3.size (ownBlock_le o1)

theorem fgo_step {bs : List Int} {f p : Nat} {out : List Fld} {R : List Fld × Int} {x : Fld} {q : Nat} (hp : p < bs.length) (hf : bs.length < f + p) (he : stepE bs p out.length = 0) (hR : fgo bs f p out = R) (hx : fldAt bs p = x) (hq : nextF bs p = q) :
    fgo bs (f - 1) q (out ++ [x]) = R := by
  obtain ⟨f, rfl⟩ : ∃ g, f = g + 1 := ⟨f - 1, by omega⟩
  rw [fgo, if_pos hp, if_pos he] at hR
  rw [← hR, ← hx, ← hq]
  rfl

set_option maxHeartbeats 2000000 in
theorem fields_any (bs : List Int) (A : Option Addr) (cap : Nat) (w : World) (hR : RB w w.heap.size A bs) (hcap : bs.length ≤ cap) (hml : cap ≤ maxLen) (hlen : bs.length ≤ 140737488351232) (hB : Bytes bs) (hT : Tab w) :
    Calls Tryd.prog 21 #[.slice A bs.length cap] w (FieldsPost (fieldsS bs) w) := by
  obtain ⟨i0, hi, hz0, hz1, hz2⟩ := info_parts infoFld
  have hm := hml
  unfold maxLen at hm
  have HR := Lib.hid hR
  clear hR
  go_enter Tryd.func21, Tryd.ntmps21
  go_wp2
  go_step3
  go_wp2
  go_step3
  go_wp2
  go_loopw [4, 5, 6] (fun l fault pt wr => ∃ (p f : Nat) (out : List Fld) (cs : List Value), p ≤ bs.length ∧ out.length ≤ 128 ∧ bs.length < f + p ∧ pt = .int .i64 p ∧ fault = .int .i64 0 ∧ wr.ownsRow w.heap.size 54 2 l out.length cs ∧ FO wr w.heap.size cs out ∧ Below w.heap.size w wr ∧ fgo bs f p out = fieldsS bs)
    (fun _ _ pt _ => bs.length - (intOf pt).toNat)
  case atStart => exact ⟨0, bs.length + 1, [], [], by omega, by simp, by omega, rfl, rfl, World.ownsRow_nil _ _ _ _, trivial, Below.refl _ _, rfl⟩
  case round =>
    obtain ⟨p, f, out, cs, hp, hol, hf, rfl, rfl, hown, hFO, hbel, hRR⟩ := hrel
    have HRR := Lib.hid hRR
    clear hRR
    obtain ⟨AL, cL, rfl, _⟩ := own_slice hown
    by_cases hlt : p < bs.length
    · go_wp2_with fail
      refine (get_any bs A cap w.heap.size ((p : Int) + 1) _ (HR.out.below hbel) hcap hml hB (hT.below hbel hT.big)).mono ?_
      rintro e w' ⟨rfl, rfl⟩
      by_cases h1 : out.length = 128
      · have b1 : ((out.length : Int) == 128) = true := beq_iff_eq.2 (by omega)
        have HE := Lib.hid (fp_err (w := w) (w' := wr) hlt hf (e := 5) (by rw [stepE, if_pos h1]) (by omega) HRR.out hbel)
        clear h1
        go_wp2
        rw [Exit.noGoto_ret]
        go_ret2
        exact HE.out
      · have b1 : ((out.length : Int) == 128) = false := beq_eq_false_iff_ne.2 (by omega)
        by_cases h2 : (getS bs ((p : Int) + 1)).2.2 = 0
        · obtain ⟨hN0, hN1, hF0, hF1⟩ := getS_ok1 hB h2
          have b2 : ((getS bs ((p : Int) + 1)).2.2 != 0) = false := by simpa using h2
          by_cases h3 : 16384 < (getS bs ((p : Int) + 1)).1
          · have HE := Lib.hid (fp_err (w := w) (w' := wr) hlt hf (e := 2) (by rw [stepE, if_neg h1, if_pos h2, if_pos h3]) (by omega) HRR.out hbel)
            clear h1 h2
            go_wp2
            rw [Exit.noGoto_ret]
            go_ret2
            exact HE.out
          · by_cases h4 : (bs.length : Int) - (getS bs ((p : Int) + 1)).2.1 < (getS bs ((p : Int) + 1)).1
            · have HE := Lib.hid (fp_err (w := w) (w' := wr) hlt hf (e := 10) (by rw [stepE, if_neg h1, if_pos h2, if_neg h3, if_pos h4]) (by omega) HRR.out hbel)
              clear h1 h2
              go_wp2
              rw [Exit.noGoto_ret]
              go_ret2
              exact HE.out
            · have HE := Lib.hid (show stepE bs p out.length = 0 by rw [stepE, if_neg h1, if_pos h2, if_neg h3, if_neg h4])
              obtain ⟨b, off, hA, hbw, hc⟩ := HR.out (by omega)
              subst hA
              have HF := Lib.hid (show fldAt bs p = (bs.getD p 0, cut bs (getS bs ((p : Int) + 1)).2.1.toNat (getS bs ((p : Int) + 1)).1.toNat) from rfl)
              have HX := Lib.hid (show nextF bs p = (getS bs ((p : Int) + 1)).2.1.toNat + (getS bs ((p : Int) + 1)).1.toNat from rfl)
              clear h1 h2
              obtain ⟨F, hF⟩ : ∃ F : Nat, (getS bs ((p : Int) + 1)).2.1 = (F : Int) := ⟨(getS bs ((p : Int) + 1)).2.1.toNat, by omega⟩
              obtain ⟨N, hN⟩ : ∃ N : Nat, (getS bs ((p : Int) + 1)).1 = (N : Int) := ⟨(getS bs ((p : Int) + 1)).1.toNat, by omega⟩
              rw [hF] at hF0 hF1 h4 HF HX ⊢
              rw [hN] at hN0 hN1 h3 h4 HF HX ⊢
              obtain ⟨E, hE⟩ : ∃ E, (getS bs ((p : Int) + 1)).2.2 = E := ⟨_, rfl⟩
              rw [hE] at b2 ⊢
              rw [Int.toNat_natCast, Int.toNat_natCast] at HF HX
              clear hF hN hE hN0 hN1
              have hcp : wr.cell? ⟨b, off + p, none⟩ = some (.int .u8 (bs.getD p 0)) := (hbel.cell hbw).trans (hc p hlt)
              clear hc
              obtain ⟨tg, htg⟩ : ∃ tg, bs.getD p 0 = tg := ⟨_, rfl⟩
              rw [htg] at hcp HF
              clear htg
              have g1 : decide (16384 < (N : Int)) = false := by simpa using h3
              have g2 : decide ((bs.length : Int) - (F : Int) < (N : Int)) = false := by simpa using h4
              have g3 : (0 : Int) ≤ (p : Int) := by omega
              have g4 : (p : Int) < (bs.length : Int) := by omega
              have g5 : (0 : Int) ≤ (F : Int) := by omega
              have g6 : (F : Int) ≤ (F : Int) + (N : Int) := by omega
              have g7 : (F : Int) + (N : Int) ≤ (cap : Int) := by omega
              have hFN : F + N ≤ bs.length := by omega
              have HCL : Hid ((cut bs F N).length = ((F : Int) + (N : Int)).toNat - F) := (cut_length hFN).trans (by omega)
              have hcl2 : (cut bs F N).length ≤ 140737488351232 := by rw [cut_length hFN]; omega
              have hmx : out.length + 1 ≤ maxLen := by unfold maxLen; omega
              have hby : (out.length + 1) * 32 ≤ 140737488355328 := by omega
              have hbs := hbel.size
              have hbb : b < wr.heap.size := by omega
              clear h3 h4
              by_cases hFc : cap = F
              · subst hFc
                have hrb : RB wr.drew wr.drew.heap.size (some ⟨b, off, none⟩) (cut bs cap N) := by
                  have h0 : cut bs cap N = [] := List.eq_nil_of_length_eq_zero (by rw [cut_length hFN]; omega)
                  rw [h0]
                  exact RB.nothing _ _ _
                have HCL0 : Hid ((cut bs cap N).length = 0) := (cut_length hFN).trans (by omega)
                go_wp2
                go_region_held3 (fun w' => w'.cell? ⟨b, off + p, none⟩ = some (.int .u8 tg))
                  (first | go_keep | exact hcp1 | exact hcp2)
                  (first
                    | (go_at_call 28; refine (clone_n (cut bs cap N) _ HCL0.out _ _ _ hrb hcl2 (fun h => nomatch h)).mono ?_; rintro e w1 ⟨dv, rfl, hdv, hdb⟩; obtain ⟨AD, cD, rfl, _⟩ := own_slice hdv; have hcp1 : w1.cell? ⟨b, off + p, none⟩ = some (.int .u8 tg) := (hdb.cell (p := ⟨b, off + p, none⟩) hbb).trans hcp; have hown1 := own_below hown.drew hdb; have hsz : w.heap.size ≤ w1.heap.size := Nat.le_trans hbs hdb.size; have hbb1 : b < w1.heap.size := Nat.lt_of_lt_of_le hbb hdb.size)
                    | (refine step_append_lies _ (by rfl) _ _ _ (by rfl) w.heap.size 54 i0 _ 2 32 Tryd.underlying36 hi hz0 hz1 hz2 rfl (by omega) (.slice AL out.length cL) out.length cs (by rfl) (hown1.alloc _) ⟨w1.heap.size, 0, none⟩ 1 1 [.int .u8 tg, .slice AD (cut bs cap N).length cD] (by rfl) (by rfl) (World.news_of_block (cs := #[.int .u8 tg, .slice AD (cut bs cap N).length cD]) (t := 54) (fr := (0, 0)) (heap_alloc_new w1 _)) (by simp [Value.oneCell']) (by omega) hmx hby (by simp; omega) (w1.heap.size + 1) (by simp) ?_; intro gg cp w2 hown2 hgrow hat hlt2; have hcp2 := kept_cell (a := ⟨b, off + p, none⟩) hgrow hbb1 (ownBlock_ge hown hbw) hcp1))
                obtain ⟨hFO2, hbel2⟩ := fld_step (tg := tg) hbel hFO hown hdb hdv hgrow
                have hol2 : out.length ≠ 128 := by have := ne_of_beq_false b1; omega
                have HG := Lib.hid (fgo_step hlt hf HE.out HRR.out HF.out HX.out)
                clear hcp2 hcp1 hgrow hown1 hdv hFO hown hdb b1 b2 hcp
                go_wp2
                go_roundw
                case rel => exact ⟨cap + N, f - 1, out ++ [(tg, cut bs cap N)], _, by omega, by simp; omega, by omega, congrArg (Value.int .i64) (by omega), rfl, by simpa using hown2, hFO2, hbel2, HG.out⟩
                case measure => simp [intOf]; omega
              · have hrb : RB wr.drew wr.drew.heap.size (some ⟨b, off + F, none⟩) (cut bs F N) := ((HR.out.below hbel).cut hFN).keep' hbel.size
                have hne : (some (⟨b, off + F, none⟩ : Addr)) = none → cap - F = 0 := fun h => by cases h
                go_wp2
                go_region_held3 (fun w' => w'.cell? ⟨b, off + p, none⟩ = some (.int .u8 tg))
                  (first | go_keep | exact hcp1 | exact hcp2)
                  (first
                    | (go_at_call 28; refine (clone_n (cut bs F N) _ HCL.out _ _ _ hrb hcl2 hne).mono ?_; rintro e w1 ⟨dv, rfl, hdv, hdb⟩; obtain ⟨AD, cD, rfl, _⟩ := own_slice hdv; have hcp1 : w1.cell? ⟨b, off + p, none⟩ = some (.int .u8 tg) := (hdb.cell (p := ⟨b, off + p, none⟩) hbb).trans hcp; have hown1 := own_below hown.drew hdb; have hsz : w.heap.size ≤ w1.heap.size := Nat.le_trans hbs hdb.size; have hbb1 : b < w1.heap.size := Nat.lt_of_lt_of_le hbb hdb.size)
                    | (refine step_append_lies _ (by rfl) _ _ _ (by rfl) w.heap.size 54 i0 _ 2 32 Tryd.underlying36 hi hz0 hz1 hz2 rfl (by omega) (.slice AL out.length cL) out.length cs (by rfl) (hown1.alloc _) ⟨w1.heap.size, 0, none⟩ 1 1 [.int .u8 tg, .slice AD (cut bs F N).length cD] (by rfl) (by rfl) (World.news_of_block (cs := #[.int .u8 tg, .slice AD (cut bs F N).length cD]) (t := 54) (fr := (0, 0)) (heap_alloc_new w1 _)) (by simp [Value.oneCell']) (by omega) hmx hby (by simp; omega) (w1.heap.size + 1) (by simp) ?_; intro gg cp w2 hown2 hgrow hat hlt2; have hcp2 := kept_cell (a := ⟨b, off + p, none⟩) hgrow hbb1 (ownBlock_ge hown hbw) hcp1))
                obtain ⟨hFO2, hbel2⟩ := fld_step (tg := tg) hbel hFO hown hdb hdv hgrow
                have hol2 : out.length ≠ 128 := by have := ne_of_beq_false b1; omega
                have HG := Lib.hid (fgo_step hlt hf HE.out HRR.out HF.out HX.out)
                clear hcp2 hcp1 hgrow hown1 hdv hFO hown hdb b1 b2 hcp
                go_wp2
                go_roundw
                case rel => exact ⟨F + N, f - 1, out ++ [(tg, cut bs F N)], _, by omega, by simp; omega, by omega, congrArg (Value.int .i64) (by omega), rfl, by simpa using hown2, hFO2, hbel2, HG.out⟩
                case measure => simp [intOf]; omega
        · have b2 : ((getS bs ((p : Int) + 1)).2.2 != 0) = true := by simpa using h2
          have HE := Lib.hid (fp_err (w := w) (w' := wr) hlt hf (e := (getS bs ((p : Int) + 1)).2.2) (by rw [stepE, if_neg h1, if_neg h2]) h2 HRR.out hbel)
          clear h1 h2
          go_wp2
          rw [Exit.noGoto_ret]
          go_ret2
          exact HE.out
    · go_wp2
      rw [Exit.noGoto_ret]
      go_ret2
      obtain ⟨f, rfl⟩ : ∃ g, f = g + 1 := ⟨f - 1, by omega⟩
      have hRR := HRR.out
      rw [fgo, if_neg hlt] at hRR
      rw [← hRR]
      exact ⟨_, cs, rfl, hown, hFO, hbel⟩
end Go.Proofs.YtdhnhpcmfbiieaaDoor
