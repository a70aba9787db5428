/-
  Proved here: the document's own PutFields and Fields (package longlineref01) answer what 'putFS' and 'fieldsS' say.
-/
import Derived.Test.YtdhnhpcmfbiieaaDoorVAs
import Derived.Test.YtdhnhpcmfbiieaaDoorVRefPut
import Derived.Test.YtdhnhpcmfbiieaaDoorVFieldsW
namespace Go.Proofs.YtdhnhpcmfbiieaaDoor
open Go.RowKit

theorem putFS_long {fs : List Fld} {k : Nat} (h : fs.length ≤ 128) (hk : k < fs.length) (hl : 16384 < (fAt fs k).2.length) : putFS fs = ([], 2) := by
  rw [putFS, if_neg (by omega), shortB_no hk hl]
  simp

theorem app_len {xs : List Int} {f : Fld} {k : Nat} (h : xs.length ≤ k * 17010) (hd : f.2.length ≤ 16384) : (xs ++ fldB f).length ≤ (k + 1) * 17010 := by
  have := fldB_length f
  rw [List.length_append]
  omega

theorem rputF_full (fs : List Fld) (A : Option Addr) (cap : Nat) (w : World) (h : 128 < fs.length) : Calls Tryd.prog 19 #[.slice A fs.length cap] w (PutFPost (putFS fs) w) := by
  have HP : Hid (PutFPost (putFS fs) w (.returned (.tuple #[.slice none 0 0, .int .i64 5])) w) := by
    rw [putFS, if_pos h]
    exact ⟨_, rfl, World.ownsRow_nil _ _ _ _, Below.refl _ _⟩
  go_enter Tryd.func19, Tryd.ntmps19
  go_wp2
  go_ret2
  exact HP.out

set_option maxHeartbeats 2000000 in
theorem rputF_fits (fs : List Fld) (A : Option Addr) (cap : Nat) (w : World) (hF : FS w w.heap.size A fs) (h : fs.length ≤ 128) : Calls Tryd.prog 19 #[.slice A fs.length cap] w (PutFPost (putFS fs) w) := by
  obtain ⟨i0, hi, hz0, hz1, hz2⟩ := info_parts infoByte
  have d128 : decide ((128 : Int) < (fs.length : Int)) = false := by simp; omega
  have HF := Lib.hid hF
  clear hF
  go_enter Tryd.func19, Tryd.ntmps19
  go_wp2
  go_loopw [4, 5] (fun b i wr => ∃ k : Nat, k ≤ fs.length ∧ i = .int .i64 k ∧ wr.ownsRow w.heap.size 5 1 b (fldsB (fs.take k)).length (B8 (fldsB (fs.take k))) ∧ (fldsB (fs.take k)).length ≤ k * 17010 ∧ Below w.heap.size w wr ∧ ∀ j, j < k → (fAt fs j).2.length ≤ 16384) (fun _ i _ => fs.length - (intOf i).toNat)
  case atStart => exact ⟨0, by omega, rfl, by simpa [fldsB] using World.ownsRow_nil w w.heap.size 5 1, by simp [fldsB], Below.refl _ _, fun j h => absurd h (by omega)⟩
  case round =>
    obtain ⟨k, hk, rfl, hown, hlb, hbel, hj⟩ := hrel
    have HJ := Lib.hid hj
    clear hj
    have hbs := hbel.size
    by_cases hlt : k < fs.length
    · have HX := Lib.hid (fldsB_next hlt)
      obtain ⟨xs, hxs⟩ : ∃ xs, fldsB (fs.take k) = xs := ⟨_, rfl⟩
      rw [hxs] at hown HX hlb
      clear hxs
      obtain ⟨b, off, hA, hb, hc⟩ := HF.out (by omega)
      subst hA
      obtain ⟨ct0, A', c', hcell0, hRB, hcl, hcm, hcn⟩ := hc k hlt
      clear hc
      unfold maxLen at hcm
      have ct : wr.cell? ⟨b, off + k * 2, none⟩ = some (.int .u8 (fAt fs k).1) := (hbel.cell (p := ⟨b, off + k * 2, none⟩) hb).trans ct0
      have hcell : wr.cell? ⟨b, off + k * 2 + 1, none⟩ = some (.slice A' (fAt fs k).2.length c') := (hbel.cell (p := ⟨b, off + k * 2 + 1, none⟩) hb).trans hcell0
      clear ct0 hcell0
      by_cases hbig : 16384 < (fAt fs k).2.length
      · have HP : Hid (PutFPost (putFS fs) w (.returned (.tuple #[.slice none 0 0, .int .i64 2])) wr) := by
          rw [putFS_long h hlt hbig]
          exact ⟨_, rfl, World.ownsRow_nil _ _ _ _, hbel⟩
        obtain ⟨n, hn⟩ : ∃ n, (fAt fs k).2.length = n := ⟨_, rfl⟩
        rw [hn] at hcell hbig
        clear hn
        go_wp2
        go_ret2
        exact HP.out
      · have HFB : Hid (fldB (fAt fs k) = (fAt fs k).1 :: (numB ((fAt fs k).2.length : Int) ++ (fAt fs k).2)) := rfl
        have HDK : Hid ((fAt fs k).2.length ≤ 16384) := Nat.le_of_not_lt hbig
        obtain ⟨t, ht⟩ : ∃ t, (fAt fs k).1 = t := ⟨_, rfl⟩
        obtain ⟨d, hd⟩ : ∃ d, (fAt fs k).2 = d := ⟨_, rfl⟩
        rw [ht, hd] at HFB
        rw [ht] at ct
        rw [hd] at hcell hRB hcl hbig
        clear ht hd
        obtain ⟨AB, cB, rfl, _⟩ := own_slice hown
        go_wp2_with (first | (at_builtin; refine wpList_append_own_at _ rfl (.tmp 22) (.tmp 28) 23 rfl w.heap.size 5 i0 (.int .u8 0) 1 1 Tryd.underlying23 hi hz0 hz1 hz2 rfl (by decide) _ _ _ rfl (hown.alloc _) ⟨wr.heap.size, 0, none⟩ 1 1 [.int .u8 t] rfl rfl ?c1 ?c2 ?c3 ?c4 ?c5 ?_))
        case c1 =>
          intro q u hq
          match q, hq with
          | 0, hq => simp at hq; subst hq; simp [Addr.add]
        case c2 => intro u hu; simp at hu; subst hu; rfl
        case c3 => unfold maxLen; omega
        case c4 => omega
        case c5 => simp; omega
        · intro v1 w1 hown1 hgrow1 _ _
          have hb1 : Below w.heap.size wr w1 := ((Below.refl _ _).alloc hbs _).grown hgrow1 (by simp; omega) (ownBlock_le hown)
          have f1 : w1.cell? ⟨b, off + k * 2 + 1, none⟩ = some (.slice A' d.length c') := (hb1.cell (p := ⟨b, off + k * 2 + 1, none⟩) hb).trans hcell
          clear hgrow1 hown ct hcell
          go_wp2_with fail
          refine (rput_fits (d.length : Int) w1 (by omega) (by omega)).mono ?_
          rintro e w2 ⟨y, rfl, hy, hb2⟩
          have hnl := szN_le (d.length : Int)
          obtain ⟨g, cy, rfl, hgy, hgl⟩ := hy.form (by rw [numB_length]; omega)
          rw [← numB_length] at hnl
          have hown2 := own_below hown1 hb2
          have hs1 := hb1.size
          have hb12 : Below w.heap.size wr w2 := hb1.trans (hb2.mono (by omega))
          have f2 : w2.cell? ⟨b, off + k * 2 + 1, none⟩ = some (.slice A' d.length c') := (hb12.cell (p := ⟨b, off + k * 2 + 1, none⟩) hb).trans (by rw [← f1]; exact (hb1.cell (p := ⟨b, off + k * 2 + 1, none⟩) hb).symm)
          clear hown1 hb1 hb2 f1
          go_wp2_with (first | (at_builtin; refine wpList_append_own _ rfl (.tmp 30) (.tmp 38) 23 rfl w.heap.size 5 i0 (.int .u8 0) 1 1 Tryd.underlying23 hi hz0 hz1 hz2 rfl (by decide) _ _ _ rfl hown2 ⟨g, 0, none⟩ (numB (d.length : Int)).length cy (B8 (numB (d.length : Int))) rfl (by simp) ?e1 (oneCell_B8 _) ?e3 ?e4 ?e5 ?_))
          case e1 => exact hy.cells rfl
          case e3 => unfold maxLen; omega
          case e4 => omega
          case e5 => have := hb12.size; omega
          · intro v3 w3 hown3 hgrow3 _
            have hb13 : Below w.heap.size wr w3 := hb12.grown hgrow3 (by have := hb12.size; omega) (ownBlock_le hown2)
            have f3 : w3.cell? ⟨b, off + k * 2 + 1, none⟩ = some (.slice A' d.length c') := (hb13.cell (p := ⟨b, off + k * 2 + 1, none⟩) hb).trans (by rw [← f2]; exact (hb12.cell (p := ⟨b, off + k * 2 + 1, none⟩) hb).symm)
            clear hown2 hgrow3 f2 hy hb12
            have HLB := Lib.hid (app_len hlb HDK.out)
            rcases A' with _ | ad
            · have hd0 : d.length = 0 := by
                rcases Nat.eq_zero_or_pos d.length with h' | h'
                · exact h'
                · obtain ⟨_, _, h', _⟩ := hRB h'
                  cases h'
              obtain rfl : d = [] := List.eq_nil_of_length_eq_zero hd0
              obtain rfl := hcn rfl
              go_wp2_with (at_builtin; refine wpList_append_own_none rfl _ _ 23 rfl w.heap.size 5 i0 1 Tryd.underlying23 hi _ _ _ rfl hown3 rfl ?_)
              go_wp2
              go_roundw
              case rel =>
                refine ⟨k + 1, by omega, by go_num, by rw [HX.out, HFB.out]; exact own_cast hown3 (by simp; omega) (by simp [B8]), by rw [HX.out]; exact HLB.out, hbel.trans hb13, fun j hj => ?_⟩
                rcases Nat.lt_or_ge j k with h' | h'
                · exact HJ.out j h'
                · obtain rfl : j = k := by omega
                  exact HDK.out
              case measure => simp [intOf]; omega
            · go_wp2_with (first | (at_builtin; refine wpList_append_own _ rfl (.tmp 40) (.tmp 45) 23 rfl w.heap.size 5 i0 (.int .u8 0) 1 1 Tryd.underlying23 hi hz0 hz1 hz2 rfl (by decide) _ _ _ rfl hown3 ad d.length c' (B8 d) rfl (by simp) ?k1 (oneCell_B8 d) ?k3 ?k4 ?k5 ?_))
              case k1 => exact ((hRB.below hbel).below hb13).cells
              case k3 => unfold maxLen; omega
              case k4 => omega
              case k5 => have := hb13.size; omega
              · intro v4 w4 hown4 hgrow4 _
                have hb4 : Below w.heap.size w w4 := (hbel.trans hb13).grown hgrow4 (hbel.trans hb13).size (ownBlock_le hown3)
                clear hown3 hgrow4 f3
                go_wp2
                go_roundw
                case rel =>
                  refine ⟨k + 1, by omega, by go_num, by rw [HX.out, HFB.out]; exact own_cast hown4 (by simp; omega) (by simp [B8]), by rw [HX.out]; exact HLB.out, hb4, fun j hj => ?_⟩
                  rcases Nat.lt_or_ge j k with h' | h'
                  · exact HJ.out j h'
                  · obtain rfl : j = k := by omega
                    exact HDK.out
                case measure => simp [intOf]; omega
    · have HPS := Lib.hid (putFS_ok h (fun i hi => HJ.out i (by omega)))
      obtain rfl : k = fs.length := by omega
      rw [List.take_length] at hown
      go_wp2
      go_ret2
      rw [HPS.out]
      exact ⟨_, rfl, hown, hbel⟩
theorem rputF_any (fs : List Fld) (A : Option Addr) (cap : Nat) (w : World) (hF : FS w w.heap.size A fs) : Calls Tryd.prog 19 #[.slice A fs.length cap] w (PutFPost (putFS fs) w) := by
  by_cases h : 128 < fs.length
  · exact rputF_full fs A cap w h
  · exact rputF_fits fs A cap w hF (by omega)

def RFieldsPost (R : List Fld × Int) (w : World) (e : Ending) (w' : World) : Prop :=
  ∃ v cs, e = .returned (.tuple #[v, .int .i64 R.2]) ∧ w'.ownsRow w.heap.size 61 2 v R.1.length cs ∧ FC w w.heap.size cs R.1 ∧ Below w.heap.size w w'

theorem rfp_err {bs : List Int} {f p : Nat} {out : List Fld} {e : Int} {w w' : World} (hp : p < bs.length) (hf : bs.length < f + p) (he : stepE bs p out.length = e) (h0 : e ≠ 0) (hR : fgo bs f p out = fieldsS bs) (hb : Below w.heap.size w w') :
    RFieldsPost (fieldsS bs) w (.returned (.tuple #[.slice none 0 0, .int .i64 e])) w' := by
  obtain ⟨f, rfl⟩ : ∃ g, f = g + 1 := ⟨f - 1, by omega⟩
  rw [fgo, if_pos hp, he, if_neg h0] at hR
  rw [← hR]
  exact ⟨_, [], rfl, World.ownsRow_nil _ _ _ _, trivial, hb⟩

set_option maxHeartbeats 2000000 in
theorem rfields_any (bs : List Int) (A : Option Addr) (cap : Nat) (w : World) (hR : RB w w.heap.size A bs) (hcap : bs.length ≤ cap) (hml : cap ≤ maxLen) (hlen : bs.length ≤ 140737488351232) (hB : Bytes bs) :
    Calls Tryd.prog 22 #[.slice A bs.length cap] w (RFieldsPost (fieldsS bs) w) := by
  obtain ⟨i0, hi, hz0, hz1, hz2⟩ := info_parts infoRefFld
  have hm := hml
  unfold maxLen at hm
  have HR := Lib.hid hR
  clear hR
  have hlm : bs.length ≤ maxLen := Nat.le_trans hcap hml
  go_enter Tryd.func22, Tryd.ntmps22
  go_wp2
  go_loopw [4, 5] (fun l pt wr => ∃ (p f : Nat) (out : List Fld) (cs : List Value), p ≤ bs.length ∧ out.length ≤ 128 ∧ bs.length < f + p ∧ pt = .int .i64 p ∧ wr.ownsRow w.heap.size 61 2 l out.length cs ∧ FC w w.heap.size cs out ∧ Below w.heap.size w wr ∧ fgo bs f p out = fieldsS bs)
    (fun _ pt _ => bs.length - (intOf pt).toNat)
  case atStart => exact ⟨0, bs.length + 1, [], [], by omega, by simp, by omega, rfl, World.ownsRow_nil _ _ _ _, trivial, Below.refl _ _, rfl⟩
  case round =>
    obtain ⟨p, f, out, cs, hp, hol, hf, rfl, hown, hFC, hbel, hRR⟩ := hrel
    have HRR := Lib.hid hRR
    have HFC := Lib.hid hFC
    clear hRR hFC
    obtain ⟨AL, cL, rfl, _⟩ := own_slice hown
    by_cases hlt : p < bs.length
    · by_cases h1 : out.length = 128
      · have b1 : decide ((128 : Int) ≤ (out.length : Int)) = true := by simp; omega
        have HE := Lib.hid (rfp_err (w := w) (w' := wr) hlt hf (e := 5) (by rw [stepE, if_pos h1]) (by omega) HRR.out hbel)
        go_wp2
        go_ret2
        exact HE.out
      · have b1 : decide ((128 : Int) ≤ (out.length : Int)) = false := by simp; omega
        go_wp2_with fail
        refine (rget_any bs A cap w.heap.size ((p : Int) + 1) _ (HR.out.below hbel) hlm hB).mono ?_
        rintro e w' ⟨rfl, rfl⟩
        by_cases h2 : (getS bs ((p : Int) + 1)).2.2 = 0
        · obtain ⟨hN0, hN1, hF0, hF1⟩ := getS_ok1 hB h2
          have b2 : ((getS bs ((p : Int) + 1)).2.2 != 0) = false := by simpa using h2
          by_cases h3 : 16384 < (getS bs ((p : Int) + 1)).1
          · have HE := Lib.hid (rfp_err (w := w) (w' := wr) hlt hf (e := 2) (by rw [stepE, if_neg h1, if_pos h2, if_pos h3]) (by omega) HRR.out hbel)
            clear h1 h2
            go_wp2
            go_ret2
            exact HE.out
          · by_cases h4 : (bs.length : Int) - (getS bs ((p : Int) + 1)).2.1 < (getS bs ((p : Int) + 1)).1
            · have HE := Lib.hid (rfp_err (w := w) (w' := wr) hlt hf (e := 10) (by rw [stepE, if_neg h1, if_pos h2, if_neg h3, if_pos h4]) (by omega) HRR.out hbel)
              have g2 : decide ((bs.length : Int) < (getS bs ((p : Int) + 1)).2.1 + (getS bs ((p : Int) + 1)).1) = true := by simp; omega
              clear h1 h2
              go_wp2
              go_ret2
              exact HE.out
            · have HE := Lib.hid (show stepE bs p out.length = 0 by rw [stepE, if_neg h1, if_pos h2, if_neg h3, if_neg h4])
              obtain ⟨b, off, hA, hbw, hc⟩ := HR.out (by omega)
              subst hA
              have HF := Lib.hid (show fldAt bs p = (bs.getD p 0, cut bs (getS bs ((p : Int) + 1)).2.1.toNat (getS bs ((p : Int) + 1)).1.toNat) from rfl)
              have HX := Lib.hid (show nextF bs p = (getS bs ((p : Int) + 1)).2.1.toNat + (getS bs ((p : Int) + 1)).1.toNat from rfl)
              clear h2
              obtain ⟨F, hF⟩ : ∃ F : Nat, (getS bs ((p : Int) + 1)).2.1 = (F : Int) := ⟨(getS bs ((p : Int) + 1)).2.1.toNat, by omega⟩
              obtain ⟨N, hN⟩ : ∃ N : Nat, (getS bs ((p : Int) + 1)).1 = (N : Int) := ⟨(getS bs ((p : Int) + 1)).1.toNat, by omega⟩
              rw [hF] at hF0 hF1 h4 HF HX ⊢
              rw [hN] at hN0 hN1 h3 h4 HF HX ⊢
              obtain ⟨E, hE⟩ : ∃ E, (getS bs ((p : Int) + 1)).2.2 = E := ⟨_, rfl⟩
              rw [hE] at b2 ⊢
              rw [Int.toNat_natCast, Int.toNat_natCast] at HF HX
              clear hF hN hE hN0 hN1
              have hcp : wr.cell? ⟨b, off + p, none⟩ = some (.int .u8 (bs.getD p 0)) := (hbel.cell (p := ⟨b, off + p, none⟩) hbw).trans (hc p hlt)
              clear hc
              obtain ⟨tg, htg⟩ : ∃ tg, bs.getD p 0 = tg := ⟨_, rfl⟩
              rw [htg] at hcp HF
              clear htg
              have g1 : decide (16384 < (N : Int)) = false := by simpa using h3
              have g2 : decide ((bs.length : Int) < (F : Int) + (N : Int)) = false := by simp; omega
              have g3 : (0 : Int) ≤ (p : Int) := by omega
              have g4 : (p : Int) < (bs.length : Int) := by omega
              have g5 : (0 : Int) ≤ (F : Int) := by omega
              have g6 : (F : Int) ≤ (F : Int) + (N : Int) := by omega
              have g7 : (F : Int) + (N : Int) ≤ (cap : Int) := by omega
              have hFN : F + N ≤ bs.length := by omega
              have q1 : IntKind.i64.wrap (N : Int) = (N : Int) := IntWalk.i64_in _ (by omega)
              have q2 : IntKind.i64.wrap ((F : Int) + (N : Int)) = (F : Int) + (N : Int) := IntWalk.i64_in _ (by omega)
              have hmx : out.length + 1 ≤ maxLen := by unfold maxLen; omega
              have hby : (out.length + 1) * 32 ≤ 140737488355328 := by omega
              have hbs := hbel.size
              have hbb : b < wr.heap.size := by omega
              clear h3 h4
              by_cases hFc : cap = F
              · subst hFc
                have hN0 : N = 0 := by omega
                have HDV : Hid (DVal w w.heap.size (.slice (some ⟨b, off, none⟩) 0 0) (cut bs cap N)) := ⟨_, 0, by rw [cut_length hFN, hN0], by rw [show cut bs cap N = [] from List.eq_nil_of_length_eq_zero (by rw [cut_length hFN, hN0])]; exact RB.nothing _ _ _, by rw [cut_length hFN, hN0]; omega, by unfold maxLen; omega, fun h => by cases h⟩
                try clear hLN
                try clear hN0
                go_wp2
                go_region_held3 (fun w' => w'.cell? ⟨b, off + p, none⟩ = some (.int .u8 tg)) (first | go_keep | exact hk1)
                  (first
                    | (refine step_append_lies _ (by rfl) _ _ _ (by rfl) w.heap.size 61 i0 _ 2 32 Tryd.underlying40 hi hz0 hz1 hz2 rfl (by omega) (.slice AL out.length cL) out.length cs (by rfl) ((hown.alloc _).drew) ⟨wr.heap.size, 0, none⟩ 1 1 [.int .u8 tg, (.slice (some ⟨b, off, none⟩) 0 0)] (by rfl) (by rfl) (World.news_of_block (cs := #[.int .u8 tg, (.slice (some ⟨b, off, none⟩) 0 0)]) (t := 61) (fr := (0, 0)) (heap_alloc_new wr _)) (by simp [Value.oneCell']) (by omega) hmx hby (by simp; omega) (wr.heap.size + 1) (by simp) ?_; intro gg cp w1 hown1 hgrow0 hat hlt1; have hgrow := grown_undrew hgrow0; have hk1 := kept_cell (w1 := wr) (a := ⟨b, off + p, none⟩) hgrow hbb (ownBlock_ge hown hbw) hcp))
                have hb1 := as_step hbel hown hgrow
                have HFN := Lib.hid (FC.snoc (f := (tg, cut bs cap N)) HDV.out HFC.out)
                have HG := Lib.hid (fgo_step hlt hf HE.out HRR.out HF.out HX.out)
                clear hgrow0 hgrow hk1 hown hcp b1 b2 q1 q2
                go_wp2
                go_roundw
                case rel => exact ⟨cap + N, f - 1, out ++ [(tg, cut bs cap N)], _, by omega, by simp; omega, by omega, congrArg (Value.int .i64) (by omega), by simpa using hown1, HFN.out, hb1, HG.out⟩
                case measure => simp [intOf]; omega
              · have hLN : ((F : Int) + (N : Int)).toNat - F = N := by omega
                have HDV : Hid (DVal w w.heap.size (.slice (some ⟨b, off + F, none⟩) (((F : Int) + (N : Int)).toNat - F) (cap - F)) (cut bs F N)) := ⟨_, cap - F, by rw [cut_length hFN, hLN], HR.out.cut hFN, by rw [cut_length hFN]; omega, by omega, fun h => by cases h⟩
                try clear hLN
                try clear hN0
                go_wp2
                go_region_held3 (fun w' => w'.cell? ⟨b, off + p, none⟩ = some (.int .u8 tg)) (first | go_keep | exact hk1)
                  (first
                    | (refine step_append_lies _ (by rfl) _ _ _ (by rfl) w.heap.size 61 i0 _ 2 32 Tryd.underlying40 hi hz0 hz1 hz2 rfl (by omega) (.slice AL out.length cL) out.length cs (by rfl) ((hown.alloc _).drew) ⟨wr.heap.size, 0, none⟩ 1 1 [.int .u8 tg, (.slice (some ⟨b, off + F, none⟩) (((F : Int) + (N : Int)).toNat - F) (cap - F))] (by rfl) (by rfl) (World.news_of_block (cs := #[.int .u8 tg, (.slice (some ⟨b, off + F, none⟩) (((F : Int) + (N : Int)).toNat - F) (cap - F))]) (t := 61) (fr := (0, 0)) (heap_alloc_new wr _)) (by simp [Value.oneCell']) (by omega) hmx hby (by simp; omega) (wr.heap.size + 1) (by simp) ?_; intro gg cp w1 hown1 hgrow0 hat hlt1; have hgrow := grown_undrew hgrow0; have hk1 := kept_cell (w1 := wr) (a := ⟨b, off + p, none⟩) hgrow hbb (ownBlock_ge hown hbw) hcp))
                have hb1 := as_step hbel hown hgrow
                have HFN := Lib.hid (FC.snoc (f := (tg, cut bs F N)) HDV.out HFC.out)
                have HG := Lib.hid (fgo_step hlt hf HE.out HRR.out HF.out HX.out)
                clear hgrow0 hgrow hk1 hown hcp b1 b2 q1 q2
                go_wp2
                go_roundw
                case rel => exact ⟨F + N, f - 1, out ++ [(tg, cut bs F N)], _, by omega, by simp; omega, by omega, congrArg (Value.int .i64) (by omega), by simpa using hown1, HFN.out, hb1, HG.out⟩
                case measure => simp [intOf]; omega
        · have b2 : ((getS bs ((p : Int) + 1)).2.2 != 0) = true := by simpa using h2
          have HE := Lib.hid (rfp_err (w := w) (w' := wr) hlt hf (e := (getS bs ((p : Int) + 1)).2.2) (by rw [stepE, if_neg h1, if_neg h2]) h2 HRR.out hbel)
          clear h1 h2
          go_wp2
          go_ret2
          exact HE.out
    · go_wp2
      go_ret2
      obtain ⟨f, rfl⟩ : ∃ g, f = g + 1 := ⟨f - 1, by omega⟩
      have hRR := HRR.out
      rw [fgo, if_neg hlt] at hRR
      rw [← hRR]
      exact ⟨_, cs, rfl, hown, HFC.out, hbel⟩
end Go.Proofs.YtdhnhpcmfbiieaaDoor
