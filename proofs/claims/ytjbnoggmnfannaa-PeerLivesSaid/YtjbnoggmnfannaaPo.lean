/-
  Proved here: PeerOnce walked: it returns true, whatever the nonces, and nothing that was there is changed.
-/
import Derived.Test.YtjbnoggmnfannaaPw
import Derived.Test.YtjbnoggmnfannaaRn
namespace Go.Proofs.Ytjbnoggmnfannaa
open Go.RowKit
theorem hear_po (w : World) (g : Nat) (p p' : PV) (L : List (Nat × Int)) (hL : Hd L p) (hl : L.length ≤ 1000) (n : Nat) (f : Int) (b : Bool) (E : Int) (hr : hearS p n f = (p', b, E)) (W : World) (h : Pw w g p W) (hn : n < 18446744073709551616) :
    Calls Try.prog 8 #[.pointer (some ⟨g, 0, none⟩), .int .u64 n, .int .u32 f] W fun e w' => e = .returned (.tuple #[.bool b, .int .i64 E]) ∧ Hid (Pw w g p' w') ∧ Hid (Only g W w') := by
  have := hear_any g p n f W h.pr (by have := hL.max; omega) hL.small hn hL.m0 (by have := hL.m1; omega)
  rw [hr] at this
  exact this.mono fun _ _ ⟨h1, h2, h3⟩ => ⟨h1, Lib.hid (h.only h2 h3), Lib.hid h3⟩
theorem Only.grown {g : Nat} {w w' : World} (h : Only g w w') : w.grownBy w' (some g) := ⟨h.os, h.tape, h.output, h.size, fun k hk hne => h.block k hk (fun e => hne (by rw [e]))⟩
/-- The nonces, as the law keeps them. -/
def nonces (L : List (Nat × Int)) : List Int := L.map fun x => (x.1 : Int)
theorem nonces_len (L : List (Nat × Int)) : (nonces L).length = L.length := by simp [nonces]
theorem nonces_not {L : List (Nat × Int)} {n : Nat} (h : n ∉ L.map Prod.fst) (j : Nat) (hj : j < L.length) : ((nonces L).getD j 0 == (n : Int)) = false := by
  have e : (nonces L).getD j 0 = ((L[j]).1 : Int) := by simp [nonces, List.getD, hj]
  rw [e]
  simp only [beq_eq_false_iff_ne, ne_eq]
  intro h2
  refine h (List.mem_map.2 ⟨L[j], List.getElem_mem hj, by omega⟩)
/-- What PeerOnce holds from round to round. -/
structure OnceAt (w : World) (L : List (Nat × Int)) (v : Value) (p : PV) (W : World) : Prop where
  hd : Hd L p
  pw : Pw w w.heap.size p W
  own : W.ownsRow (w.heap.size + 1) 23 1 v L.length (NV .u64 (nonces L))
theorem OnceAt.drew {w : World} {L : List (Nat × Int)} {v : Value} {p : PV} {W : World} (h : OnceAt w L v p W) : OnceAt w L v p W.drew := ⟨h.hd, h.pw.drew, h.own⟩

theorem Hd.heard_mem {L : List (Nat × Int)} {p : PV} (h : Hd L p) {n : Nat} (hn : n ∈ L.map Prod.fst) : heardS p.N p.H n = true := by
  obtain ⟨x, hx, rfl⟩ := List.mem_map.1 hn
  have h1 := h.top x hx
  have h2 := h.pos x hx
  exact (h.heard x.1).2 ⟨by omega, h1, .inr (.inr hn)⟩
/-- One nonce more is kept. -/
theorem once_app {w : World} {p : PV} {W : World} {v : Value} {n : Nat} {xs : List Int} (hP : Pw w w.heap.size p W) (hO : W.ownsRow (w.heap.size + 1) 23 1 v n (NV .u64 xs)) (hn : n ≤ 1000) (m : Int) :
    ∃ v' w', (Builtin.append_ #[27, 27] 27 #[v, .slice (some ⟨W.heap.size, 0, none⟩) 1 1]).run Try.prog (W.alloc (.cells #[.int .u64 m] 23)) = .ok v' w' ∧ Pw w w.heap.size p w' ∧ w'.ownsRow (w.heap.size + 1) 23 1 v' (n + 1) (NV .u64 (xs ++ [m])) := by
  have hlt : w.heap.size < W.heap.size := Pr.lt hP.pr
  have hP1 : Pw w w.heap.size p (W.alloc (.cells #[.int .u64 m] 23)) := hP.to ((Below.refl _ _).alloc (Nat.le_refl _) _)
  have hO1 := own_below hO ((Below.refl _ _).alloc (Nat.le_refl _) (.cells #[.int .u64 m] 23))
  obtain ⟨v', w', h1, h2, h3⟩ := app_u64 (W := W.alloc (.cells #[.int .u64 m] 23)) (ys := [m]) (m := 1) rfl 1 (RI.one .u64 W m _) (fun e => by cases e) hO1 (by omega) (by simp; omega)
  refine ⟨v', w', h1, ⟨?_, hP1.below.grown h3 hP1.below.size (fun g hg => by have := ownBlock_le hO g hg; omega), hP.own⟩, h2⟩
  have := h3.block w.heap.size (by simp; omega) (ownBlock_ge hO (by omega))
  exact this.trans hP1.pr

set_option maxRecDepth 100000 in
set_option maxHeartbeats 4000000 in
theorem once_any (zs : List (Nat × Int)) (A : Option Addr) (n cap : Nat) (w : World) (hs : SlW w A n cap zs) :
    Calls Try.prog 4 #[.slice A n cap] w fun e w' => e = .returned (.bool true) ∧ Below w.heap.size w w' := by
  obtain ⟨hlen, hr, hok, hle, hmx⟩ := hs
  have hmx' : n ≤ 9223372036854775807 := by unfold maxLen at hmx; omega
  have HR := Lib.hid hr
  have HOk := Lib.hid hok
  clear hr hok hle hmx hlen
  go_enter Try.func4, Try.ntmps4
  go_wp2_with fail
  refine (new_pw w).mono ?_
  rintro e w1 ⟨rfl, h1⟩
  have H0 := Lib.hid (show ∃ p, OnceAt w [] (.slice none 0 0) p w1 from ⟨_, Hd.new, h1.out, World.ownsRow_nil _ _ _ _⟩)
  clear h1
  go_wp2
  go_loopw [4, 5] (fun fi i wr => ∃ (k : Nat) (L : List (Nat × Int)) (v : Value), k ≤ n ∧ k ≤ 150 ∧ L.length ≤ k ∧ i = .int .i64 k ∧ v = fi ∧ Hid (∃ p, OnceAt w L v p wr)) (fun _ i _ => 150 - (intOf i).toNat)
  case atStart => exact ⟨0, [], _, by omega, by omega, by simp, rfl, rfl, H0⟩
  case round =>
    obtain ⟨k, L, v, hk, hk2, hLk, rfl, rfl, HK⟩ := hrel
    clear H0
    by_cases hlt : k < n ∧ k < 150
    · obtain ⟨hlt, h150⟩ := hlt
      obtain ⟨p, hK⟩ := HK.out
      have HP := Lib.hid hK
      clear HK hK
      obtain ⟨bl, off, rfl, hb, hc⟩ := HR.out (by omega)
      obtain ⟨c0, c1⟩ := hc k hlt
      have hn := HOk.out k hlt
      obtain ⟨z, hz⟩ : ∃ z, wAt zs k = z := ⟨_, rfl⟩
      rw [hz] at c0 c1 hn
      obtain ⟨m, f⟩ := z
      dsimp only at c0 c1 hn
      have e0 := (HP.out.pw.below.cell (p := ⟨bl, off + k * 2, none⟩) hb).trans c0
      have e1 := (HP.out.pw.below.cell (p := ⟨bl, off + k * 2 + 1, none⟩) hb).trans c1
      have hd : decide ((k : Int) < 150) = true := by simp; omega
      have HC := Lib.hid (fun (W : World) (hb9 : Below w.heap.size w W) => And.intro ((hb9.cell (p := ⟨bl, off + k * 2, none⟩) hb).trans c0) ((hb9.cell (p := ⟨bl, off + k * 2 + 1, none⟩) hb).trans c1))
      have g3 : (0 : Int) ≤ (k : Int) := by omega
      have g4 : (k : Int) < (n : Int) := by omega
      obtain ⟨⟨p', b, E⟩, hre⟩ : ∃ r, hearS p m f = r := ⟨_, rfl⟩
      have hh := HP.out.hd.hear m f
      rw [hre] at hh
      dsimp only at hh
      have HH := Lib.hid hh
      have HRE := Lib.hid hre
      have HN := Lib.hid hn
      clear hh hre hn hc c0 c1 hz hb
      go_wp2
      go_region_held3 (fun W => W.cell? ⟨bl, off + k * 2, none⟩ = some (.int .u64 m) ∧ W.cell? ⟨bl, off + k * 2 + 1, none⟩ = some (.int .u32 f))
        (first | exact HC.out _ (Pw.below (Hid.out (by assumption))) | exact HC.out _ HP.out.pw.drew.below | exact HC.out _ HP.out.pw.below)
        (first | (go_at_call 8; refine (hear_po w _ p p' L HP.out.hd (by omega) m f b E HRE.out _ HP.out.pw.drew HN.out).mono ?_; rintro e w2 ⟨rfl, h2, o2⟩))
      rcases HH.out with ⟨hne, hpp, hbb, _⟩ | ⟨h0, hr, hnot, hd', hno, _⟩
      · subst hpp
        have HK2 := Lib.hid (show ∃ p, OnceAt w L v p w2 from ⟨_, HP.out.hd, h2.out, own_far HP.out.drew.own o2.out.grown (fun g' hg' => by injection hg' with hg'; omega)⟩)
        have hE : (E != 0) = true := by simpa using hne
        clear hbb hne e0 e1 h2 o2 HP HH HRE
        go_wp2
        go_roundw
        case rel => exact ⟨k + 1, L, v, by omega, by omega, by omega, by go_num, rfl, HK2⟩
        case measure => simp [intOf]; omega
      · have hO2 := own_far HP.out.drew.own o2.out.grown (fun g' hg' => by injection hg' with hg'; omega)
        obtain ⟨Av, cv, rfl, hv1, hv2, hv3⟩ := own_slice hO2
        have HB0 := Lib.hid (show Pw w w.heap.size p' w2 ∧ w2.ownsRow (w.heap.size + 1) 23 1 (.slice Av L.length cv) L.length (NV .u64 (nonces L)) from ⟨h2.out, hO2⟩)
        have HD' := Lib.hid hd'
        have HNO := Lib.hid hnot
        have HH3 := Lib.hid hv3
        subst h0
        clear hno hd' hnot hO2 h2 o2 HP HH HRE e0 e1 hv1 hv2 hv3
        go_wp2
        go_loopw [8] (fun jv wx => ∃ j : Nat, j ≤ L.length ∧ jv = .int .i64 j ∧ Hid (Pw w w.heap.size p' wx ∧ wx.ownsRow (w.heap.size + 1) 23 1 (.slice Av L.length cv) L.length (NV .u64 (nonces L)))) (fun jv _ => L.length - (intOf jv).toNat)
        case atStart => exact ⟨0, by omega, rfl, HB0⟩
        case round =>
          obtain ⟨j, hj, rfl, HB⟩ := hrel
          clear HB0
          by_cases hjl : j < L.length
          · obtain ⟨gv, rfl, hgv, hgv2, hcs⟩ := own_cells HB.out.2 (nonces_len L) (by omega)
            have e2 := hcs j hjl
            have hne := nonces_not HNO.out j hjl
            obtain ⟨y, hy⟩ : ∃ y, (nonces L).getD j 0 = y := ⟨_, rfl⟩
            rw [hy] at e2 hne
            clear hcs hy
            obtain ⟨e0, e1⟩ := HC.out _ HB.out.1.below
            have g5 : (0 : Int) ≤ (j : Int) := by omega
            have g6 : (j : Int) < (L.length : Int) := by omega
            go_wp2
            go_region
            all_goals go_wp2
            all_goals go_roundw
            case rel => exact ⟨j + 1, by omega, by go_num, Lib.hid ⟨HB.out.1.drew, HB.out.2⟩⟩
            case measure => simp [intOf]; omega
          · have hjL : j = L.length := by omega
            have HLk := Lib.hid hLk
            obtain ⟨v', w3, hrun, hP3, hO3⟩ := once_app HB.out.1 HB.out.2 (by omega) m
            have HRUN := Lib.hid hrun
            have HP3 := Lib.hid hP3
            have HO3 := Lib.hid hO3
            obtain ⟨e0, e1⟩ := HC.out _ HB.out.1.below
            obtain ⟨e2, e3⟩ := HC.out _ HP3.out.below
            clear hrun hP3 hO3 hLk e1 e3
            go_wp2_with (first | (at_builtin; refine wpList_app rfl (.tmp 53) (.tmp 59) _ rfl _ _ rfl rfl HRUN.out ?_) | (go_at_call 13; refine (heard_pw w _ p' _ HD'.out m true _ HP3.out HN.out (HD'.out.heard_mem (by simp))).mono ?_; rintro e w' ⟨rfl, rfl⟩))
            go_roundw
            case rel => exact ⟨k + 1, L ++ [(m, f)], v', by omega, by omega, by have := HLk.out; simp; omega, by go_num, rfl, Lib.hid ⟨p', HD'.out, HP3.out, own_cast HO3.out (by simp) (by simp [nonces])⟩⟩
            case measure => simp [intOf]; omega
    · have HBW := Lib.hid (show Below w.heap.size w wr by obtain ⟨p, hK⟩ := HK.out; exact hK.pw.below)
      clear HK
      by_cases hl : k < n
      · have h150 : 150 ≤ k := by omega
        clear hlt
        go_wp2_with fail
        refine (alive_any _).mono ?_
        rintro e w2 ⟨rfl, h2⟩
        have H2 := Lib.hid h2
        clear h2
        go_wp2
        go_ret
        exact ⟨rfl, HBW.out.trans (H2.out.mono HBW.out.size)⟩
      · have hge : n ≤ k := by omega
        clear hlt
        go_wp2_with fail
        refine (alive_any _).mono ?_
        rintro e w2 ⟨rfl, h2⟩
        have H2 := Lib.hid h2
        clear h2
        go_wp2
        go_ret
        exact ⟨rfl, HBW.out.trans (H2.out.mono HBW.out.size)⟩
end Go.Proofs.Ytjbnoggmnfannaa
