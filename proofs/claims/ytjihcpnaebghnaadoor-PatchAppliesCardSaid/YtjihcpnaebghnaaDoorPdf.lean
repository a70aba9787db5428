/-
  Proved here: of the program's patches: cells that are read in the places of others.
-/
import Derived.Test.YtjihcpnaebghnaaDoorPde
set_option linter.unusedSimpArgs false
set_option linter.unusedVariables false
namespace Go.Proofs.YtjihcpnaebghnaaDoor
open Go.RowKit
theorem grown_of_belowX {w w' : World} (hb : Below w.heap.size w w') (r : Option Nat) : w.grownBy w' r := ⟨hb.os, hb.tape, hb.output, hb.size, fun k hk _ => hb.block k hk⟩
theorem grown_refl (w : World) (r : Option Nat) : w.grownBy w r := grown_of_belowX (Below.refl _ _) r
theorem lay_snoc {X B : List Ce} {s : Nat} (c : Ce) (h : s + B.length < X.length) : (lay X s B).set (s + B.length) c = lay X s (B ++ [c]) := by
  unfold lay
  have hd : X.drop (s + B.length) = ceAt X (s + B.length) :: X.drop (s + B.length + 1) := drop_cons h
  rw [hd, List.set_append_right _ _ (by simp; omega)]
  have : s + B.length - (X.take s ++ B).length = 0 := by simp; omega
  rw [this]
  simp [Nat.add_assoc]
theorem lay_at {X B : List Ce} {s k : Nat} (hs : s ≤ X.length) (h : s + B.length ≤ k) (hk : k < X.length) : ceAt (lay X s B) k = ceAt X k := by
  unfold ceAt lay
  simp only [List.getD_eq_getElem?_getD]
  rw [List.getElem?_append_right (by simp; omega), List.getElem?_drop]
  congr 2
  simp
  omega
theorem putF_step (o : Ce) (O : List Ce) (bs : List Int) (p : Int) : putF (o :: O) bs p = if (getC bs p).2.2 = 0 ∧ (getC bs p).1 ≠ o then (putF O bs (getC bs p).2.1).map (fun r => ((getC bs p).1 :: r.1, r.2)) else none := rfl
set_option maxRecDepth 100000 in
set_option maxHeartbeats 16000000 in
theorem p_putcells {w0 w : World} {A : Option Addr} {bs : List Int} {n cap : Nat} (hR : RB w0 w0.heap.size A bs) (hl : bs.length = n) (hn : n ≤ 100000) (hcap : n ≤ cap) (hm : cap ≤ maxLen) (hB : Bytes bs) (hT : Tab w0) (hbw : Below w0.heap.size w0 w)
    {hb hc : Nat} {X : List Ce} (hX : RowAt w hb hc X) (hge : w0.heap.size ≤ hb) (hXl : X.length ≤ 100000) {s m dc : Nat} (hs : s + m ≤ X.length) (p : Int) :
    Calls Tryd.prog 29 #[.slice (some ⟨hb, s * 4, none⟩) m dc, .slice A n cap, .int .i64 p] w fun e w' => ∃ X' : List Ce, X'.length = X.length ∧ RowAt w' hb hc X' ∧ w.grownBy w' (some hb) ∧ ((∃ B q, putF ((X.drop s).take m) bs p = some (B, q) ∧ X' = lay X s B ∧ e = .returned (.tuple #[.int .i64 q, .bool true])) ∨ (putF ((X.drop s).take m) bs p = none ∧ e = .returned (.tuple #[.int .i64 0, .bool false]))) := by
  have HGC := Lib.hid (fun (W : World) (hb : Below w0.heap.size w0 W) (p : Int) => p_getcell ((hR.below hb).keep' hb.size) hl hn hcap hm hB (hT.below hb hT.big) p)
  unfold GetCP at HGC
  have HX := Lib.hid hX
  have HGE := Lib.hid (And.intro hge hbw)
  have HS := Lib.hid (And.intro hs hXl)
  obtain ⟨OL, hOL⟩ : ∃ l, (X.drop s).take m = l := ⟨_, rfl⟩
  have HOL := Lib.hid (show OL.length = m ∧ ∀ i, i < m → ceAt OL i = ceAt X (s + i) from by
    rw [← hOL]
    refine ⟨by rw [List.length_take, List.length_drop]; omega, fun i hi => ?_⟩
    have := seg_get (X := X) (b := s) (k := s + m) (i := i) hs (by omega)
    rwa [show s + m - s = m by omega] at this)
  have hm' : m ≤ 100000 := by omega
  obtain ⟨PF, hPF⟩ : ∃ r, putF OL bs p = r := ⟨_, rfl⟩
  rw [hOL, hPF]
  have HPF := Lib.hid (fun (_ : Unit) => hPF)
  have HM := Lib.hid hm'
  clear hR hl hn hcap hm hB hT hbw hX hge hXl hs hOL hPF hm'
  go_enter Tryd.func29, Tryd.ntmps29
  go_wp2
  go_loopw [2, 15] (fun pv iv wr => ∃ (i : Nat) (q : Int) (B : List Ce), pv = .int .i64 q ∧ iv = .int .i64 i ∧ i ≤ m ∧ Hid (B.length = i) ∧ Hid (RowAt wr hb hc (lay X s B) ∧ w.grownBy wr (some hb)) ∧ Hid (Unit → PF = (putF (OL.drop i) bs q).map (fun r => (B ++ r.1, r.2)))) (fun _ iv _ => m - (intOf iv).toNat)
  case atStart => exact ⟨0, p, [], rfl, rfl, by omega, Lib.hid rfl, Lib.hid ⟨by rw [lay_nil]; exact HX.out, grown_refl _ _⟩, Lib.hid (fun _ => by rw [List.drop_zero, HPF.out ()]; cases PF <;> rfl)⟩
  case round =>
    obtain ⟨i, q, B, rfl, rfl, him, HBL, HR, HQ⟩ := hrel
    clear HX HPF
    have HLY := Lib.hid (show (lay X s B).length = X.length from lay_len (by have := HBL.out; have := HS.out; omega))
    by_cases hi : i < m
    · have e1 : decide ((i : Int) < (m : Int)) = true := by simp; omega
      have e1' : decide (i < m) = true := by simp; omega
      have g1 : (0 : Int) ≤ (i : Int) := by omega
      have g2 : (i : Int) < (m : Int) := by omega
      have wr1 : IntKind.i64.wrap ((i : Int) + 1) = (i : Int) + 1 := IntWalk.i64_in _ (by have := HM.out; omega)
      have hidx : s + i < (lay X s B).length := by rw [HLY.out]; have := HS.out; omega
      have hco : ceAt (lay X s B) (s + i) = ceAt OL i := by rw [lay_at (by have := HS.out; omega) (by have := HBL.out; omega) (by have := HS.out; omega), HOL.out.2 i hi]
      have hdrop := drop_cons (X := OL) (k := i) (by rw [HOL.out.1]; exact hi)
      obtain ⟨⟨p1, f1, g1', b1⟩, hce⟩ : ∃ c, ceAt OL i = c := ⟨_, rfl⟩
      rw [hce] at hco hdrop
      have hcells : ∀ j v, (gC ⟨p1, f1, g1', b1⟩)[j]? = some v → wr.cell? ⟨hb, s * 4 + i * 4 + j, none⟩ = some v := fun j v hv => by
        have hj : j < 4 := (List.getElem?_eq_some_iff.1 hv).1
        have := HR.out.1.cell hidx hj
        rw [show s * 4 + i * 4 + j = (s + i) * 4 + j by omega, this, ← hv, ← hco]
        simp [ceAt, List.getD, hidx]
      obtain ⟨k0, k1, k2, k3⟩ := ce_four hcells
      have hba := (Below.refl wr.heap.size wr).alloc (Nat.le_refl _) (.cells #[.int .i32 p1, .int .u8 f1, .int .u32 g1', .int .u32 b1] 88)
      have HRX := Lib.hid (show RowAt (wr.alloc (.cells #[.int .i32 p1, .int .u8 f1, .int .u32 g1', .int .u32 b1] 88)) hb hc (lay X s B) ∧ w.grownBy (wr.alloc (.cells #[.int .i32 p1, .int .u8 f1, .int .u32 g1', .int .u32 b1] 88)) (some hb) from ⟨HR.out.1.below hba, grown_trans HR.out.2 (grown_of_belowX hba _)⟩)
      have HTX := Lib.hid (heap_alloc_new wr (.cells #[.int .i32 p1, .int .u8 f1, .int .u32 g1', .int .u32 b1] 88))
      obtain ⟨tb, htb⟩ : ∃ t, wr.heap.size = t := ⟨_, rfl⟩
      have HTB := Lib.hid (show hb < tb from by rw [← htb]; exact HR.out.1.lt)
      have HIN := Lib.hid hi
      have HDR := Lib.hid (fun (_ : Unit) => hdrop)
      clear hi him hco hdrop hce hcells hba HR hidx
      go_upto_region 4 with fail
      try simp only [htb]
      simp only [htb] at HTX
      generalize (wr.alloc (.cells #[.int .i32 p1, .int .u8 f1, .int .u32 g1', .int .u32 b1] 88)) = X1 at HRX HTX ⊢
      clear k0 k1 k2 k3 htb
      obtain ⟨⟨⟨p2, f2, g2', b2⟩, q2, z⟩, hC⟩ : ∃ x, getC bs q = x := ⟨_, rfl⟩
      have HGP := Lib.hid (hC ▸ HGC.out X1 (HGE.out.2.grown HRX.out.2 HGE.out.2.size (fun k hk => by injection hk with hk; have := HGE.out.1; omega)) q)
      unfold cV at HGP
      dsimp only at HGP
      have HST := Lib.hid (fun (_ : Unit) => show PF = (if z = 0 ∧ (⟨p2, f2, g2', b2⟩ : Ce) ≠ ⟨p1, f1, g1', b1⟩ then (putF (OL.drop (i + 1)) bs q2).map (fun r => ((B ++ [⟨p2, f2, g2', b2⟩]) ++ r.1, r.2)) else none) from by
        rw [HQ.out (), HDR.out (), putF_step, hC]
        dsimp only
        split
        · rw [Option.map_map]
          congr 1
          funext r
          simp
        · rfl)
      clear hC HQ HDR
      go_wp2_with fail
      refine HGP.out.mono ?_
      rintro e X2 ⟨rfl, bx⟩
      have hba := (Below.refl X2.heap.size X2).alloc (Nat.le_refl _) (.cells #[.int .i32 p2, .int .u8 f2, .int .u32 g2', .int .u32 b2] 88)
      have HRY := Lib.hid (show RowAt (X2.alloc (.cells #[.int .i32 p2, .int .u8 f2, .int .u32 g2', .int .u32 b2] 88)) hb hc (lay X s B) ∧ w.grownBy (X2.alloc (.cells #[.int .i32 p2, .int .u8 f2, .int .u32 g2', .int .u32 b2] 88)) (some hb) from ⟨(HRX.out.1.below bx).below hba, grown_trans (grown_trans HRX.out.2 (grown_of_belowX bx _)) (grown_of_belowX hba _)⟩)
      have HTY := Lib.hid ((hba.block _ (by have := lt_of_block HTX.out; have := bx.size; omega)).trans ((bx.block _ (lt_of_block HTX.out)).trans HTX.out))
      have HNY := Lib.hid (heap_alloc_new X2 (.cells #[.int .i32 p2, .int .u8 f2, .int .u32 g2', .int .u32 b2] 88))
      obtain ⟨nb, hnb⟩ : ∃ t, X2.heap.size = t := ⟨_, rfl⟩
      rw [hnb] at HNY
      have HEC := fun W => eq_ce p2 f2 g2' b2 p1 f1 g1' b1 W
      clear hba bx HGP HRX HTX
      by_cases hz : z = 0
      · subst hz
        go_upto_region 5 with fail
        try simp only [hnb]
        generalize (X2.alloc (.cells #[.int .i32 p2, .int .u8 f2, .int .u32 g2', .int .u32 b2] 88)) = Y at HRY HTY HNY ⊢
        clear hnb
        obtain ⟨k0, k1, k2, k3⟩ := four_at HTY.out
        obtain ⟨y0, y1, y2, y3⟩ := four_at HNY.out
        by_cases he : (⟨p2, f2, g2', b2⟩ : Ce) = ⟨p1, f1, g1', b1⟩
        · simp only [decide_eq_true he] at HEC
          have HNO := Lib.hid (show PF = none from by rw [HST.out (), if_neg (fun h => h.2 he)])
          clear he HST
          go_wp2
          go_ret2
          exact ⟨_, HLY.out, HRY.out.1, HRY.out.2, .inr ⟨HNO.out, rfl⟩⟩
        · simp only [decide_eq_false he] at HEC
          have HYS := Lib.hid (fun (_ : Unit) => show PF = (putF (OL.drop (i + 1)) bs q2).map (fun r => ((B ++ [⟨p2, f2, g2', b2⟩]) ++ r.1, r.2)) from by rw [HST.out (), if_pos ⟨by first | trivial | rfl, he⟩])
          have HK := Lib.hid (show s + i < (lay X s B).length from by rw [HLY.out]; have := HS.out; have := HIN.out; omega)
          have HLL := Lib.hid (show (lay X s B).set (s + i) ⟨p2, f2, g2', b2⟩ = lay X s (B ++ [⟨p2, f2, g2', b2⟩]) from by
            have h0 := HBL.out
            subst h0
            exact lay_snoc _ (by have := HS.out; have := HIN.out; omega))
          have HB2 := Lib.hid (show (B ++ [(⟨p2, f2, g2', b2⟩ : Ce)]).length = i + 1 from by rw [List.length_append, HBL.out]; rfl)
          clear he HST
          go_wp2_with (refine wpList_store4 rfl (.tmp 37) (.tmp 36) rfl HRY.out.1 (k := s + i) HK.out (by simp [Nat.add_mul]; try rfl) (c := ⟨p2, f2, g2', b2⟩) rfl ?_; intro V hV hgV; have HV2 := Lib.hid (And.intro (HLL.out ▸ hV) (grown_trans HRY.out.2 hgV)); clear hV hgV k0 k1 k2 k3 y0 y1 y2 y3)
          go_roundw
          case rel => exact ⟨i + 1, q2, _, rfl, by go_num, by have := HIN.out; omega, HB2, HV2, HYS⟩
          case measure => have := HIN.out; simp [intOf]; omega
      · have zz : (z != 0) = true := by simpa using hz
        have HNO := Lib.hid (show PF = none from by rw [HST.out (), if_neg (fun h => hz h.1)])
        clear hz HST
        go_upto_region 5 with fail
        try simp only [hnb]
        generalize (X2.alloc (.cells #[.int .i32 p2, .int .u8 f2, .int .u32 g2', .int .u32 b2] 88)) = Y at HRY HTY HNY ⊢
        clear hnb
        go_wp2
        go_ret2
        exact ⟨_, HLY.out, HRY.out.1, HRY.out.2, .inr ⟨HNO.out, rfl⟩⟩
    · have e1 : decide ((i : Int) < (m : Int)) = false := by simp; omega
      have e1' : decide (i < m) = false := by simp; omega
      have HYS := Lib.hid (show PF = some (B, q) from by
        rw [HQ.out (), List.drop_eq_nil_of_le (by rw [HOL.out.1]; omega)]
        simp [putF])
      clear hi him
      go_wp2
      go_ret2
      exact ⟨_, HLY.out, HR.out.1, HR.out.2, .inl ⟨B, q, HYS.out, rfl, rfl⟩⟩
end Go.Proofs.YtjihcpnaebghnaaDoor
