/-
  Proved here: JoinBounds walked: it returns true, whatever the parts, and nothing that was there is changed.
-/
import Derived.Test.YtikijkhblfgbpaaJx
import Derived.BigQuiet
namespace Go.Proofs.Ytikijkhblfgbpaa
open Go.RowKit Go.Maps Go.Sort

theorem PS.keepB {w w' : World} {B : Nat} {A : Option Addr} {ps : List Prt} (h : PS w B A ps) (hb : Below B w w') : PS w' B A ps := fun hp => by
  obtain ⟨b, off, e1, h2, h3⟩ := h hp
  refine ⟨b, off, e1, h2, fun i hi => ?_⟩
  obtain ⟨c0, c1, c2, A', c', c3, hr, hrest⟩ := h3 i hi
  exact ⟨(hb.cell (p := ⟨b, off + i * 4, none⟩) h2).trans c0, (hb.cell (p := ⟨b, off + i * 4 + 1, none⟩) h2).trans c1, (hb.cell (p := ⟨b, off + i * 4 + 2, none⟩) h2).trans c2, A', c', (hb.cell (p := ⟨b, off + i * 4 + 3, none⟩) h2).trans c3, hr.below hb, hrest⟩
theorem PS.more {w : World} {B B' : Nat} {A : Option Addr} {ps : List Prt} (h : PS w B A ps) (hB : B ≤ B') : PS w B' A ps := fun hp => by
  obtain ⟨b, off, e1, h2, h3⟩ := h hp
  refine ⟨b, off, e1, by omega, fun i hi => ?_⟩
  obtain ⟨c0, c1, c2, A', c', c3, hr, hrest⟩ := h3 i hi
  exact ⟨c0, c1, c2, A', c', c3, hr.keep' hB, hrest⟩

theorem floor_same {w : World} {base t : Nat} {T : TV} (h : TabAt w base t T) : Calls Try.prog 14 #[.pointer (some ⟨t, 0, none⟩)] w fun e w' => e = .returned (.int .u64 T.fl) ∧ w' = w := (floor_any h).mono (by rintro e w' ⟨rfl, h2⟩; exact ⟨rfl, h2.symm⟩)
/-- What JoinBounds holds from round to round. -/
structure BK (w : World) (t : Nat) (T : TV) (W : World) : Prop where
  tab : TabAt W w.heap.size t T
  good : GoodT T
  old : Old T
  below : Below w.heap.size w W
theorem BK.drews {w : World} {t : Nat} {T : TV} {W : World} (h : BK w t T W) (m : Nat) : BK w t T (W.drewN m) := ⟨h.tab.drews m, h.good, h.old, belowN h.below m⟩
/-- Waits, as far as JoinBounds looks: how many, and the first. -/
theorem waits_head {w : World} {base t : Nat} {T : TV} (h : TabAt w base t T) (hI : Old T) : Calls Try.prog 12 #[.pointer (some ⟨t, 0, none⟩)] w fun e w' => ∃ A m c, e = .returned (.slice A m c) ∧ m ≤ 4 ∧ (0 < m → ∃ g x, A = some ⟨g, 0, none⟩ ∧ w'.cell? ⟨g, 0, none⟩ = some (.int .u64 x) ∧ T.fl ≤ x) ∧ Below w.heap.size w w' :=
  (waits_any h).mono (by
    rintro e w' ⟨v, rfl, hrow, _, hb⟩
    obtain ⟨A, c, rfl, _, _, _⟩ := own_slice hrow
    refine ⟨A, _, c, rfl, by simp [ids, h.few], fun hm => ?_, hb⟩
    obtain ⟨g, c', hv, _, _⟩ := hrow.form hm
    injection hv with hA _ hc
    subst hA
    have h0 := hrow.cellAt 0 (by omega)
    cases hf : T.fs with
    | nil => simp [ids, hf] at hm
    | cons a r =>
      refine ⟨g, a.id, rfl, ?_, hI a (by rw [hf]; simp)⟩
      rw [h0]
      simp [ids, hf, eU])

set_option maxRecDepth 100000 in
set_option maxHeartbeats 4000000 in
theorem bounds_any (ps : List Prt) (A : Option Addr) (n c : Nat) (w : World) (hs : SlP w A n c ps) :
    Calls Try.prog 5 #[.slice A n c] w fun e w' => e = .returned (.bool true) ∧ Below w.heap.size w w' := by
  obtain ⟨hlen, hP, hO, hB, hle, hmx, hnil⟩ := hs
  have hmx' : n ≤ 9223372036854775807 := by unfold maxLen at hmx; omega
  have HP := Lib.hid hP
  have HO := Lib.hid hO
  have HL := Lib.hid hlen
  clear hP hO hB hle hmx hnil hlen
  go_enter Try.func5, Try.ntmps5
  go_wp2_with fail
  refine (new_any w).mono ?_
  rintro e w1 ⟨t, rfl, hT, hb1⟩
  have H0 := Lib.hid (show BK w t ⟨1, []⟩ w1 from ⟨hT, fun y hy => absurd hy (by simp), fun y hy => absurd hy (by simp), hb1⟩)
  clear hT hb1
  go_wp2_with (go_at_call 14; refine (floor_any H0.out.tab).mono ?_; rintro e w' ⟨rfl, rfl⟩)
  go_loopw [4, 5, 6] (fun la fl i wr => ∃ (k : Nat) (L F : Int), k ≤ n ∧ k ≤ 200 ∧ i = .int .i64 k ∧ la = .int .u64 L ∧ fl = .int .u64 F ∧ L < F ∧ Hid (∃ T, F = T.fl ∧ BK w t T wr)) (fun _ _ i _ => 200 - (intOf i).toNat)
  case atStart => exact ⟨0, 0, 1, by omega, by omega, rfl, rfl, rfl, by omega, ⟨_, rfl, H0.out⟩⟩
  case round =>
    obtain ⟨k, L, F, hk, hk2, rfl, rfl, rfl, hLF, HT⟩ := hrel
    clear H0
    by_cases hlt : k < n ∧ k < 200
    · obtain ⟨hlt, h200⟩ := hlt
      obtain ⟨T, hF, hK⟩ := HT.out
      have HF := Lib.hid hF
      have HK := Lib.hid hK
      clear HT hF hK
      obtain ⟨b, off, rfl, hb, hc⟩ := HP.out (by rw [HL.out]; omega)
      obtain ⟨p0, p1, p2, A', c', p3, hR, _, _, hA⟩ := hc k (by rw [HL.out]; omega)
      have hOk : POk1 (pAt ps k) := HO.out k (by rw [HL.out]; omega)
      obtain ⟨p, hp⟩ : ∃ p, p = pAt ps k := ⟨_, rfl⟩
      rw [← hp] at p0 p1 p2 p3 hR hOk
      have e0 := (HK.out.below.cell (p := ⟨b, off + k * 4, none⟩) hb).trans p0
      have e1 := (HK.out.below.cell (p := ⟨b, off + k * 4 + 1, none⟩) hb).trans p1
      have e2 := (HK.out.below.cell (p := ⟨b, off + k * 4 + 2, none⟩) hb).trans p2
      have e3 := (HK.out.below.cell (p := ⟨b, off + k * 4 + 3, none⟩) hb).trans p3
      obtain ⟨m, hm⟩ : ∃ m, m = p.d.length := ⟨_, rfl⟩
      rw [← hm] at e3
      have hd : decide ((k : Int) < 200) = true := by simp; omega
      have HR := Lib.hid ((hR.below HK.out.below).keep' HK.out.below.size)
      have HM := Lib.hid hm
      have HOk := Lib.hid hOk
      have HA := Lib.hid hA
      have HB := Lib.hid hb
      have HC0 := Lib.hid p0
      have hb' : b < wr.heap.size := Nat.lt_of_lt_of_le hb HK.out.below.size
      have h4 : ((4 : Nat) : Int) = 4 := rfl
      clear hc hp hm hR hA hOk p0 p1 p2 p3 h4
      by_cases h600 : 600 < m
      · go_wp2_with fail
        refine (alive_any _).mono ?_
        rintro e w2 ⟨rfl, h2⟩
        have H2 := Lib.hid h2
        clear h2
        go_wp2
        go_ret
        exact ⟨rfl, HK.out.below.trans (H2.out.mono HK.out.below.size)⟩
      · have HPU := Lib.hid (put_any HK.out.tab HK.out.good p HOk.out A' m c' HM.out.symm (by omega) HA.out HR.out HK.out.below.size)
        go_wp2_with fail
        refine HPU.out.mono ?_
        rintro e w2 ⟨T', v, is, E, d, rfl, hS, hT2, hG2, hb2, hv⟩
        obtain ⟨hfl, hI2, his⟩ := hS.bounds HK.out.old
        have HK2 := Lib.hid (show BK w t T' w2 from ⟨hT2, hG2, hI2, HK.out.below.trans hb2⟩)
        obtain ⟨Av, cv, rfl, _, _, _⟩ := own_slice hv
        have HW := Lib.hid (waits_head HK2.out.tab HK2.out.old)
        rw [← HF.out] at hfl his
        clear hS hT2 hG2 hb2 hv hI2 HPU e0 e1 e2 e3
        go_wp2_with fail
        refine HW.out.mono ?_
        rintro e w3 ⟨A3, m3, c3, rfl, hm3, hx3, hb3⟩
        have HK3 := Lib.hid (show BK w t T' w3 from ⟨HK2.out.tab.keep hb3, HK2.out.good, HK2.out.old, HK2.out.below.trans (hb3.mono HK2.out.below.size)⟩)
        have HFl := Lib.hid (fun n => floor_same (HK3.out.tab.drews n))
        have e0 : w3.cell? ⟨b, off + k * 4, none⟩ = some (.int .u64 p.id) := (HK3.out.below.cell (p := ⟨b, off + k * 4, none⟩) HB.out).trans HC0.out
        have hm4 : decide ((4 : Int) < (m3 : Int)) = false := by simp; omega
        obtain ⟨f', hf'⟩ : ∃ f', T'.fl = f' := ⟨_, rfl⟩
        have HF' := Lib.hid hf'
        rw [hf'] at hfl his HFl hx3
        clear hf' hb3
        have hff : decide (f' < F) = false := by simp; omega
        have HIS := Lib.hid his
        have HX3 := Lib.hid hx3
        have g3 : (0 : Int) ≤ (k : Int) := by omega
        have g4 : (k : Int) < (n : Int) := by omega
        clear his hx3
        go_wp2
        cases is
        · rcases Nat.eq_zero_or_pos m3 with hz | hz
          · subst hz
            go_quiet ((go_at_call 14; refine Calls.quiet_of_same (HFl.out _)))
            have HFy := Lib.hid (fun W (h : BK w t T' W) => floor_any h.tab)
            rw [HF'.out] at HFy
            have HK4 := Lib.hid (show BK w t T' (w3.drewN nq) from HK3.out.drews nq)
            have e0' : (w3.drewN nq).cell? ⟨b, off + k * 4, none⟩ = some (.int .u64 p.id) := e0
            go_wp2_with (go_at_call 14; refine (HFy.out _ HK4.out).mono ?_; rintro e w' ⟨rfl, rfl⟩)
            go_roundw
            case rel => exact ⟨k + 1, L, f', by omega, by omega, by go_num, rfl, rfl, by omega, ⟨T', HF'.out.symm, HK4.out⟩⟩
            case measure => simp [intOf]; omega
          · obtain ⟨g, x, rfl, hx, hxf⟩ := HX3.out hz
            have hm0 : decide ((0 : Int) < (m3 : Int)) = true := by simp; omega
            have hxx : decide (x < f') = false := by simp; omega
            go_quiet ((go_at_call 14; refine Calls.quiet_of_same (HFl.out _)))
            have HFy := Lib.hid (fun W (h : BK w t T' W) => floor_any h.tab)
            rw [HF'.out] at HFy
            have HK4 := Lib.hid (show BK w t T' (w3.drewN nq) from HK3.out.drews nq)
            have e0' : (w3.drewN nq).cell? ⟨b, off + k * 4, none⟩ = some (.int .u64 p.id) := e0
            go_wp2_with (go_at_call 14; refine (HFy.out _ HK4.out).mono ?_; rintro e w' ⟨rfl, rfl⟩)
            go_roundw
            case rel => exact ⟨k + 1, L, f', by omega, by omega, by go_num, rfl, rfl, by omega, ⟨T', HF'.out.symm, HK4.out⟩⟩
            case measure => simp [intOf]; omega
        · rcases Nat.eq_zero_or_pos m3 with hz | hz
          · subst hz
            obtain ⟨rfl, hpl, hfe⟩ := HIS.out rfl
            have hle : decide (p.id ≤ L) = false := by simp; omega
            have HFE := Lib.hid hfe
            clear hfe
            go_quiet ((go_at_call 14; refine Calls.quiet_of_same (HFl.out _)))
            have HFy := Lib.hid (fun W (h : BK w t T' W) => floor_any h.tab)
            rw [HF'.out] at HFy
            have HK4 := Lib.hid (show BK w t T' (w3.drewN nq) from HK3.out.drews nq)
            have e0' : (w3.drewN nq).cell? ⟨b, off + k * 4, none⟩ = some (.int .u64 p.id) := e0
            go_wp2_with (go_at_call 14; refine (HFy.out _ HK4.out).mono ?_; rintro e w' ⟨rfl, rfl⟩)
            go_roundw
            case rel => exact ⟨k + 1, p.id, f', by omega, by omega, by go_num, rfl, rfl, by have := HFE.out; omega, ⟨T', HF'.out.symm, HK4.out⟩⟩
            case measure => simp [intOf]; omega
          · obtain ⟨g, x, rfl, hx, hxf⟩ := HX3.out hz
            have hm0 : decide ((0 : Int) < (m3 : Int)) = true := by simp; omega
            have hxx : decide (x < f') = false := by simp; omega
            obtain ⟨rfl, hpl, hfe⟩ := HIS.out rfl
            have hle : decide (p.id ≤ L) = false := by simp; omega
            have HFE := Lib.hid hfe
            clear hfe
            go_quiet ((go_at_call 14; refine Calls.quiet_of_same (HFl.out _)))
            have HFy := Lib.hid (fun W (h : BK w t T' W) => floor_any h.tab)
            rw [HF'.out] at HFy
            have HK4 := Lib.hid (show BK w t T' (w3.drewN nq) from HK3.out.drews nq)
            have e0' : (w3.drewN nq).cell? ⟨b, off + k * 4, none⟩ = some (.int .u64 p.id) := e0
            go_wp2_with (go_at_call 14; refine (HFy.out _ HK4.out).mono ?_; rintro e w' ⟨rfl, rfl⟩)
            go_roundw
            case rel => exact ⟨k + 1, p.id, f', by omega, by omega, by go_num, rfl, rfl, by have := HFE.out; omega, ⟨T', HF'.out.symm, HK4.out⟩⟩
            case measure => simp [intOf]; omega
    · by_cases hl : k < n
      · have h200 : 200 ≤ k := by omega
        have HBW := Lib.hid (show Below w.heap.size w wr by obtain ⟨T, _, hK⟩ := HT.out; exact hK.below)
        clear hlt HT
        go_wp2_with fail
        refine (alive_any _).mono ?_
        rintro e w2 ⟨rfl, h2⟩
        have H2 := Lib.hid h2
        clear h2
        go_wp2
        go_ret
        exact ⟨rfl, HBW.out.trans (H2.out.mono HBW.out.size)⟩
      · have hge : n ≤ k := by omega
        have HBW := Lib.hid (show Below w.heap.size w wr by obtain ⟨T, _, hK⟩ := HT.out; exact hK.below)
        clear hlt HT
        go_wp2_with fail
        refine (alive_any _).mono ?_
        rintro e w2 ⟨rfl, h2⟩
        have H2 := Lib.hid h2
        clear h2
        go_wp2
        go_ret
        exact ⟨rfl, HBW.out.trans (H2.out.mono HBW.out.size)⟩
end Go.Proofs.Ytikijkhblfgbpaa
