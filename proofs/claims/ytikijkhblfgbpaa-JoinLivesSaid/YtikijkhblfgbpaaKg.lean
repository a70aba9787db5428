/-
  Proved here: Waits of the document's own Table.
-/
import Derived.Test.YtikijkhblfgbpaaKf
namespace Go.Proofs.Ytikijkhblfgbpaa
open Go.RowKit Go.Maps Go.Sort

theorem insW_at (x : Int) : ∀ (l : List Int) (a : Nat), a ≤ l.length → (∀ j, j < a → l.getD j 0 < x) → (a < l.length → ¬ l.getD a 0 < x) → insW x l = if a < l.length ∧ l.getD a 0 = x then l else l.take a ++ x :: l.drop a
  | [], a, ha, _, _ => by
    have : a = 0 := by simpa using ha
    subst this
    simp [insW]
  | y :: r, 0, _, _, h2 => by
    have h3 : ¬ y < x := by simpa using h2 (by simp)
    unfold insW
    rw [if_neg h3]
    by_cases e : y = x
    · rw [if_pos e, if_pos ⟨by simp, by simpa using e⟩]
    · rw [if_neg e, if_neg (fun h => e (by simpa using h.2))]; simp
  | y :: r, a + 1, ha, h1, h2 => by
    have h3 : y < x := by simpa using h1 0 (by omega)
    have ih := insW_at x r a (by simpa using ha) (fun j hj => by simpa using h1 (j + 1) (by omega)) (fun h => by simpa using h2 (by simpa using h))
    unfold insW
    rw [if_pos h3, ih]
    by_cases e : a < r.length ∧ r.getD a 0 = x
    · rw [if_pos e, if_pos ⟨by simpa using e.1, by simpa using e.2⟩]
    · rw [if_neg e, if_neg (fun h => e ⟨by simpa using h.1, by simpa using h.2⟩)]; simp

/-- A slice of numbers reads as these. -/
def RU (w : World) (A : Option Addr) (ys : List Int) : Prop := 0 < ys.length → ∃ b off, A = some ⟨b, off, none⟩ ∧ b < w.heap.size ∧ ∀ i, i < ys.length → w.cell? ⟨b, off + i, none⟩ = some (.int .u64 (ys.getD i 0))
theorem RU.below {w w' : World} {A : Option Addr} {ys : List Int} (h : RU w A ys) (hb : Below w.heap.size w w') : RU w' A ys := fun hl => by
  obtain ⟨b, off, e, hlt, hc⟩ := h hl
  exact ⟨b, off, e, Nat.lt_of_lt_of_le hlt hb.size, fun i hi => (hb.cell (p := ⟨b, off + i, none⟩) hlt).trans (hc i hi)⟩
theorem RU.nothing (w : World) (A : Option Addr) : RU w A [] := fun h => absurd h (by simp)
def UW (l : List Int) : List Value := l.map eU
theorem infoU64 : (Try.prog.info? 27).map (fun i => (i.zero, i.size, i.bytes)) = some (some (.int .u64 0), 1, 8) := by kernel_rfl
theorem RU.cells {w : World} {ad : Addr} {ys : List Int} (h : RU w (some ad) ys) : ∀ j u, (UW ys)[j]? = some u → w.cell? (ad.add j) = some u := by
  intro j u hj
  obtain ⟨hjl, rfl⟩ := List.getElem?_eq_some_iff.1 hj
  have hj' : j < ys.length := by simpa [UW] using hjl
  obtain ⟨b, off, e, _, hc⟩ := h (by omega)
  injection e with e
  subst e
  rw [Go.WideShapes.add_plain, hc j hj']
  simp [UW, eU, List.getD, hj']
theorem app_u64 {W : World} {base : Nat} {v : Value} {n : Nat} {xs : List Int} {A : Option Addr} {ys : List Int} {m : Nat} (hm : ys.length = m) (c : Nat) (hR : RU W A ys) (hA : A = none → c = 0) (hown : W.ownsRow base 27 1 v n (UW xs)) (hn : n + m ≤ 100000) (hb : base ≤ W.heap.size) :
    ∃ v' w', (Builtin.append_ #[38, 38] 38 #[v, .slice A m c]).run Try.prog W = .ok v' w' ∧ w'.ownsRow base 27 1 v' (n + m) (UW (xs ++ ys)) ∧ W.grownBy w' v.ownBlock := by
  subst hm
  obtain ⟨i0, hi, hz0, hz1, hz2⟩ := info_parts infoU64
  rcases A with _ | ad
  · have h0 : ys.length = 0 := by
      rcases Nat.eq_zero_or_pos ys.length with h | h
      · exact h
      · obtain ⟨_, _, h, _⟩ := hR h
        cases h
    obtain rfl : ys = [] := List.eq_nil_of_length_eq_zero h0
    obtain rfl := hA rfl
    exact ⟨_, W, run_append_owned_none (P := Try.prog) (w := W) base 38 38 27 i0 1 Try.underlying38 hi _ n _ hown, by simpa using hown, World.grownBy.refl _ _⟩
  · obtain ⟨v', w', hr, ho, hg, _⟩ := run_append_own_at (P := Try.prog) W base 38 38 27 i0 _ 1 8 Try.underlying38 hi hz0 hz1 hz2 rfl (by decide) v n (UW xs) hown ad ys.length c (UW ys) (by simp [UW]) hR.cells
      (fun u hu => by obtain ⟨x, _, rfl⟩ := List.mem_map.1 hu; rfl) (by unfold maxLen; omega) (by omega) hb
    exact ⟨v', w', hr, own_cast ho rfl (by simp [UW]), hg⟩

/-- What Waits holds from round to round. -/
structure WaitAt (w : World) (out : Value) (ws : List Int) (W : World) : Prop where
  own : W.ownsRow w.heap.size 27 1 out ws.length (UW ws)
  below : Below w.heap.size w W
theorem WaitAt.drews {w : World} {out : Value} {ws : List Int} {W : World} (h : WaitAt w out ws W) (n : Nat) : WaitAt w out ws (W.drewN n) := ⟨h.own, belowN h.below n⟩
theorem UW_getElem {l : List Int} {i : Nat} (hi : i < l.length) : (UW l)[i]? = some (.int .u64 (l.getD i 0)) := by simp [UW, eU, List.getD, hi]
theorem WaitAt.cell {w : World} {A : Option Addr} {m c : Nat} {ws : List Int} {W : World} (h : WaitAt w (.slice A m c) ws W) (hm : ws.length = m) (hp : 0 < m) : ∃ g, A = some ⟨g, 0, none⟩ ∧ g < W.heap.size ∧ ∀ i, i < m → W.cell? ⟨g, i, none⟩ = some (.int .u64 (ws.getD i 0)) := by
  have ho := own_cast h.own hm rfl
  obtain ⟨g, c', hv, _, hlt⟩ := ho.form hp
  injection hv with hA _ _
  subst hA
  exact ⟨g, rfl, hlt, fun i hi => by rw [ho.cellAt i (by omega)]; exact UW_getElem (by omega)⟩
theorem WaitAt.app {w : World} {out : Value} {ws : List Int} {W : World} (h : WaitAt w out ws W) {A : Option Addr} {ys : List Int} {m : Nat} (hm : ys.length = m) (c : Nat) (hR : RU W A ys) (hA : A = none → c = 0) (hn : ws.length + m ≤ 100000) :
    ∃ v' w', (Builtin.append_ #[38, 38] 38 #[out, .slice A m c]).run Try.prog W = .ok v' w' ∧ WaitAt w v' (ws ++ ys) w' ∧ W.grownBy w' out.ownBlock := by
  obtain ⟨v', w', h1, h2, h3⟩ := app_u64 hm c hR hA h.own hn h.below.size
  exact ⟨v', w', h1, ⟨by rw [List.length_append, hm]; exact h2, h.below.grown h3 h.below.size (ownBlock_le h.own)⟩, h3⟩
theorem WaitAt.alloc {w : World} {out : Value} {ws : List Int} {W : World} (h : WaitAt w out ws W) (o : Obj) : WaitAt w out ws (W.alloc o) := ⟨own_below h.own ((Below.refl _ _).alloc (Nat.le_refl _) _), h.below.alloc h.below.size _⟩
/-- What lies ahead, a number, what lies behind: in a row of its own. -/
theorem insert_run {w : World} {A1 A2 : Option Addr} {ys1 ys2 : List Int} {m1 m2 c1 c2 : Nat} (y : Int) (R1 : RU w A1 ys1) (R2 : RU w A2 ys2) (h1 : ys1.length = m1) (h2 : ys2.length = m2) (n1 : A1 = none → c1 = 0) (n2 : A2 = none → c2 = 0) (hl : m1 + m2 ≤ 1000) :
    ∃ v1 w1 v2 w2 v3 w3, (Builtin.append_ #[38, 38] 38 #[.slice none 0 0, .slice A1 m1 c1]).run Try.prog w = .ok v1 w1 ∧
      (Builtin.append_ #[38, 38] 38 #[v1, .slice (some ⟨w1.heap.size, 0, none⟩) 1 1]).run Try.prog (w1.alloc (.cells #[.int .u64 y] 27)) = .ok v2 w2 ∧
      (Builtin.append_ #[38, 38] 38 #[v2, .slice A2 m2 c2]).run Try.prog w2 = .ok v3 w3 ∧ WaitAt w v3 (ys1 ++ y :: ys2) w3 ∧ Below w.heap.size w w1 ∧ Below w.heap.size w w2 := by
  have H0 : WaitAt w (.slice none 0 0) [] w := ⟨World.ownsRow_nil _ _ _ _, Below.refl _ _⟩
  obtain ⟨v1, w1, r1, H1, _⟩ := H0.app h1 c1 R1 n1 (by simp; omega)
  have H1' := H1.alloc (.cells #[.int .u64 y] 27)
  have RB : RU (w1.alloc (.cells #[.int .u64 y] 27)) (some ⟨w1.heap.size, 0, none⟩) [y] := fun _ => ⟨_, _, rfl, by simp, fun i hi => by
    obtain rfl : i = 0 := by simpa using hi
    simp⟩
  obtain ⟨v2, w2, r2, H2, _⟩ := H1'.app (m := 1) rfl 1 RB (fun e => by cases e) (by simp; omega)
  obtain ⟨v3, w3, r3, H3, _⟩ := H2.app h2 c2 (R2.below H2.below) n2 (by simp; omega)
  exact ⟨v1, w1, v2, w2, v3, w3, r1, r2, r3, by simpa using H3, H1.below, H2.below⟩
theorem WaitAt.over {w W W' : World} {u v : Value} {us ws : List Int} (h : WaitAt w u us W) (h' : WaitAt W v ws W') : WaitAt w v ws W' := ⟨own_mono h'.own h.below.size, h.below.trans (h'.below.mono h.below.size)⟩
theorem insW_len (x : Int) : ∀ l : List Int, (insW x l).length ≤ l.length + 1
  | [] => by simp [insW]
  | y :: r => by
    have := insW_len x r
    unfold insW
    split
    · simp; exact this
    · split <;> simp
theorem waitsN_len (L : List Prt) : ∀ k, (waitsN L k).length ≤ k
  | 0 => by simp [waitsN]
  | k + 1 => by
    have h1 := waitsN_len L k
    have h2 := insW_len (pAt L k).id (waitsN L k)
    unfold waitsN
    omega

set_option maxRecDepth 100000 in
set_option maxHeartbeats 1000000 in
theorem rwaits_any {w : World} {base x : Nat} {fl : Int} {L : List Prt} (h : RT w base x fl L) :
    Calls Try.prog 13 #[.pointer (some ⟨x, 0, none⟩)] w fun e w' => ∃ v, e = .returned v ∧ WaitAt w v (waitsD L) w' := by
  obtain ⟨hxl, _, hf0, hf1, A, c, hcx, hl⟩ := h.cells
  have hfew := h.few
  have HE : Hid (waitsN L L.length = waitsD L) := Lib.hid rfl
  obtain ⟨n, hn⟩ : ∃ n, L.length = n := ⟨_, rfl⟩
  rw [hn] at hcx hl hfew HE
  have HN := Lib.hid hn
  have HL := Lib.hid hl
  have H0 := Lib.hid (show WaitAt w (.slice none 0 0) (waitsN L 0) w from ⟨World.ownsRow_nil _ _ _ _, Below.refl _ _⟩)
  clear h hn hl hf0 hf1
  go_enter Try.func13, Try.ntmps13
  go_wp2
  go_loopw [3, 4] (fun out iv wr => ∃ i : Nat, i ≤ n ∧ iv = .int .i64 i ∧ WaitAt w out (waitsN L i) wr) (fun _ iv _ => n - (intOf iv).toNat)
  case atStart => exact ⟨0, by omega, rfl, H0.out⟩
  case round =>
    clear H0
    obtain ⟨i, hi, rfl, hQ⟩ := hrel
    have HQ := Lib.hid hQ
    clear hQ
    have ex := (HQ.out.below.cell (p := ⟨x, 1, none⟩) hxl).trans hcx
    have hxw : x < wr.heap.size := Nat.lt_of_lt_of_le hxl HQ.out.below.size
    by_cases hin : i < n
    · obtain ⟨g, A', c', rfl, hg, e0, _⟩ := HL.out.at_ hin
      have HG := Lib.hid hg
      have HX := Lib.hid hxl
      have HC := Lib.hid hcx
      have HEN : Hid (waitsN L (i + 1) = insW (pAt L i).id (waitsN L i)) := Lib.hid rfl
      have hws := waitsN_len L i
      obtain ⟨y, hy⟩ : ∃ y, (pAt L i).id = y := ⟨_, rfl⟩
      rw [hy] at e0 HEN
      obtain ⟨ws, hwse⟩ : ∃ ws, waitsN L i = ws := ⟨_, rfl⟩
      rw [hwse] at HQ HEN hws
      clear hy hwse
      obtain ⟨m, hm⟩ : ∃ m, ws.length = m := ⟨_, rfl⟩
      have hown := HQ.out.own
      rw [hm] at hown
      obtain ⟨Ao, co, rfl, hmc, hcm, hAo⟩ := own_slice hown
      rw [hm] at hws
      have HM := Lib.hid hm
      have HE0 := Lib.hid e0
      have hi' : (i : Int) < (n : Int) := by omega
      clear hown hm hcx e0 hg
      go_wp2
      obtain ⟨wo, rfl⟩ : ∃ wo : World, wo = wr := ⟨_, rfl⟩
      go_loopw [5] (fun av wr2 => ∃ a : Nat, a ≤ m ∧ av = .int .i64 a ∧ (∀ j, j < a → ws.getD j 0 < y) ∧ WaitAt w (.slice Ao m co) ws wr2) (fun av _ => m - (intOf av).toNat)
      case atStart => exact ⟨0, by omega, rfl, fun j hj => absurd hj (by omega), HQ.out⟩
      case round =>
        clear ex hxw HQ
        obtain ⟨a, ha, rfl, hall, hQ⟩ := hrel
        have HQ := Lib.hid hQ
        have HALL := Lib.hid hall
        clear hQ hall
        have ex := (HQ.out.below.cell (p := ⟨x, 1, none⟩) HX.out).trans HC.out
        have e0 := (HQ.out.below.cell (p := ⟨g, i * 4, none⟩) HG.out).trans HE0.out
        have hxw : x < wr.heap.size := Nat.lt_of_lt_of_le HX.out HQ.out.below.size
        have hgw : g < wr.heap.size := Nat.lt_of_lt_of_le HG.out HQ.out.below.size
        have ha0 : (0 : Int) ≤ (a : Int) := by omega
        have hi0 : (0 : Int) ≤ (i : Int) := by omega
        by_cases ham : a < m
        · have ham' : decide ((a : Int) < (m : Int)) = true := by simp; omega
          have ham2 : (a : Int) < (m : Int) := by omega
          obtain ⟨go, rfl, hgo, hoc⟩ := HQ.out.cell HM.out (by omega)
          have eo := hoc a ham
          clear hoc
          obtain ⟨z, hz⟩ : ∃ z, ws.getD a 0 = z := ⟨_, rfl⟩
          rw [hz] at eo
          have HZ := Lib.hid hz
          clear hz
          by_cases hzy : z < y
          · have HZY := Lib.hid hzy
            have b1 : decide (z < y) = true := by simpa using hzy
            clear hzy
            go_wp2
            go_quiet (fail)
            go_wp2
            go_roundw
            case rel => exact ⟨a + 1, by omega, by go_num, fun j hj => by
              rcases Nat.lt_or_ge j a with h' | h'
              · exact HALL.out j h'
              · obtain rfl : j = a := by omega
                rw [HZ.out]; exact HZY.out, HQ.out.drews nq⟩
            case measure => simp [intOf]; omega
          · have HZY := Lib.hid hzy
            have b1 : decide (z < y) = false := by simpa using hzy
            clear hzy
            go_wp2
            go_quiet (fail)
            go_wp2
            obtain ⟨n1, rfl⟩ : ∃ n1, n1 = nq := ⟨_, rfl⟩
            by_cases hzq : z = y
            · have HZQ := Lib.hid hzq
              have b2 : (z == y) = true := by simpa using hzq
              clear hzq
              go_quiet (fail)
              go_wp2
              go_roundw
              case rel => exact ⟨i + 1, by omega, by go_num, by
                rw [HEN.out, insW_at y ws a (by rw [HM.out]; exact ha) HALL.out (fun _ => by rw [HZ.out]; exact fun h => (by have := HZY.out; omega)), if_pos ⟨by rw [HM.out]; exact ham, by rw [HZ.out]; exact HZQ.out⟩]
                exact HQ.out.drews _⟩
              case measure => simp [intOf]; omega
            · have HZQ := Lib.hid hzq
              have b2 : (z == y) = false := by simpa using hzq
              clear hzq
              go_quiet (fail)
              have hac : (a : Int) ≤ (co : Int) := by omega
              have ham3 : (a : Int) ≤ (m : Int) := by omega
              have hmc' : (m : Int) ≤ (co : Int) := by omega
              have HINS := Lib.hid (insW_at y ws a (by rw [HM.out]; exact ha) HALL.out (fun _ => by rw [HZ.out]; exact fun h => (by have := HZY.out; omega)))
              rw [if_neg (fun h => HZQ.out (by rw [← HZ.out]; exact h.2))] at HINS
              obtain ⟨g2, hAe, hg2, hoc⟩ := HQ.out.cell HM.out (by omega)
              obtain rfl : go = g2 := by injection hAe with hAe; injection hAe with hAe
              have R1 : RU (wr.drewN (n1 + nq)) (some ⟨go, 0, none⟩) (ws.take a) := fun hl => ⟨go, 0, rfl, hg2, fun j hj => by
                rw [List.length_take] at hj
                rw [Nat.zero_add, show (ws.take a).getD j 0 = ws.getD j 0 from getD_take (by omega)]
                exact hoc j (by omega)⟩
              have R2 : RU (wr.drewN (n1 + nq)) (some ⟨go, a, none⟩) (ws.drop a) := fun hl => ⟨go, a, rfl, hg2, fun j hj => by
                rw [List.length_drop, HM.out] at hj
                rw [show (ws.drop a).getD j 0 = ws.getD (a + j) 0 by simp [List.getD]]
                exact hoc (a + j) (by omega)⟩
              obtain ⟨v1, w1, v2, w2, v3, w3, r1, r2, r3, H3, hb1, hb2⟩ := insert_run (m1 := a) (m2 := m - a) (c1 := co) (c2 := co - a) y R1 R2 (by rw [List.length_take, HM.out]; omega) (by rw [List.length_drop, HM.out]) (fun e => by cases e) (fun e => by cases e) (by omega)
              clear R1 R2 hoc hAe
              have HR1 := Lib.hid r1
              have HR2 := Lib.hid r2
              have HR3 := Lib.hid r3
              have ex1 : w1.cell? ⟨x, 1, none⟩ = _ := (hb1.cell (p := ⟨x, 1, none⟩) hxw).trans ex
              have e01 : w1.cell? ⟨g, i * 4, none⟩ = _ := (hb1.cell (p := ⟨g, i * 4, none⟩) hgw).trans e0
              have hxw1 : x < w1.heap.size := Nat.lt_of_lt_of_le hxw hb1.size
              have hgw1 : g < w1.heap.size := Nat.lt_of_lt_of_le hgw hb1.size
              have HW3 := Lib.hid ((HQ.out.drews (n1 + nq)).over H3)
              obtain ⟨A8, m8, c8, rfl⟩ : ∃ A m c, v3 = .slice A m c := by
                obtain ⟨A, c, e, _⟩ := own_slice H3.own
                exact ⟨A, _, c, e⟩
              clear r1 r2 r3 H3 hb1 hb2
              go_wp2_with (first
                | (at_builtin; refine wpList_app rfl (.tmp 56) (.tmp 59) _ rfl _ _ rfl rfl HR1.out ?_)
                | (at_builtin; refine wpList_app rfl (.tmp 61) (.tmp 70) _ rfl _ _ rfl rfl HR2.out ?_)
                | (at_builtin; refine wpList_app rfl (.tmp 72) (.tmp 75) _ rfl _ _ rfl rfl HR3.out ?_))
              go_roundw
              case rel => exact ⟨i + 1, by omega, by go_num, by rw [HEN.out, HINS.out]; exact HW3.out⟩
              case measure => simp [intOf]; omega
        · have HINS := Lib.hid (insW_at y ws a (by rw [HM.out]; exact ha) HALL.out (fun h => absurd h (by rw [HM.out]; omega)))
          rw [if_neg (fun h => absurd h.1 (by rw [HM.out]; omega))] at HINS
          rcases Ao with _ | ad
          · obtain rfl : co = 0 := hAo rfl
            obtain rfl : m = 0 := by omega
            obtain rfl : a = 0 := by omega
            rw [List.take_of_length_le (by rw [HM.out]; exact Nat.le_refl _), List.drop_of_length_le (by rw [HM.out]; exact Nat.le_refl _)] at HINS
            have ham' : decide ((0 : Int) < (0 : Int)) = false := by simp
            go_wp2
            go_quiet (fail)
            go_wp2
            obtain ⟨n1, rfl⟩ : ∃ n1, n1 = nq := ⟨_, rfl⟩
            go_quiet (fail)
            have R1 : RU (wr.drewN (n1 + nq)) none ws := fun hl => absurd hl (by rw [HM.out]; omega)
            have R2 : RU (wr.drewN (n1 + nq)) none ([] : List Int) := RU.nothing _ _
            obtain ⟨v1, w1, v2, w2, v3, w3, r1, r2, r3, H3, hb1, hb2⟩ := insert_run (m1 := 0) (m2 := 0) (c1 := 0) (c2 := 0) y R1 R2 HM.out rfl (fun _ => rfl) (fun _ => rfl) (by omega)
            clear R1 R2
            have HR1 := Lib.hid r1
            have HR2 := Lib.hid r2
            have HR3 := Lib.hid r3
            have ex1 : w1.cell? ⟨x, 1, none⟩ = _ := (hb1.cell (p := ⟨x, 1, none⟩) hxw).trans ex
            have e01 : w1.cell? ⟨g, i * 4, none⟩ = _ := (hb1.cell (p := ⟨g, i * 4, none⟩) hgw).trans e0
            have hxw1 : x < w1.heap.size := Nat.lt_of_lt_of_le hxw hb1.size
            have hgw1 : g < w1.heap.size := Nat.lt_of_lt_of_le hgw hb1.size
            have HW3 := Lib.hid ((HQ.out.drews (n1 + nq)).over H3)
            obtain ⟨A8, m8, c8, rfl⟩ : ∃ A m c, v3 = .slice A m c := by
              obtain ⟨A, c, e, _⟩ := own_slice H3.own
              exact ⟨A, _, c, e⟩
            clear r1 r2 r3 H3 hb1 hb2
            go_wp2_with (first
              | (at_builtin; refine wpList_app rfl (.tmp 56) (.tmp 59) _ rfl _ _ rfl rfl HR1.out ?_)
              | (at_builtin; refine wpList_app rfl (.tmp 61) (.tmp 70) _ rfl _ _ rfl rfl HR2.out ?_)
              | (at_builtin; refine wpList_app rfl (.tmp 72) (.tmp 75) _ rfl _ _ rfl rfl HR3.out ?_))
            go_roundw
            case rel => exact ⟨i + 1, by omega, by go_num, by rw [HEN.out, HINS.out]; exact HW3.out⟩
            case measure => simp [intOf]; omega
          · obtain ⟨go, rfl⟩ : ∃ go, ad = ⟨go, 0, none⟩ := by
              rcases HQ.out.own.2 with ⟨e, _⟩ | ⟨gg, cap, cur, e, _⟩
              · cases e
              · injection e with e
                injection e with e
                exact ⟨gg, e⟩
            have ham' : decide ((a : Int) < (m : Int)) = false := by simp; omega
            go_wp2
            go_quiet (fail)
            go_wp2
            obtain ⟨n1, rfl⟩ : ∃ n1, n1 = nq := ⟨_, rfl⟩
            go_quiet (fail)
            have hac : (a : Int) ≤ (co : Int) := by omega
            have ham3 : (a : Int) ≤ (m : Int) := by omega
            have hmc' : (m : Int) ≤ (co : Int) := by omega
            have R1 : RU (wr.drewN (n1 + nq)) (some ⟨go, 0, none⟩) (ws.take a) := fun hl => by
              rw [List.length_take, HM.out] at hl
              obtain ⟨g2, hAe, hg2, hoc⟩ := HQ.out.cell HM.out (by omega)
              exact ⟨g2, 0, hAe, hg2, fun j hj => by
                rw [List.length_take, HM.out] at hj
                rw [Nat.zero_add, show (ws.take a).getD j 0 = ws.getD j 0 from getD_take (by omega)]
                exact hoc j (by omega)⟩
            have R2 : RU (wr.drewN (n1 + nq)) (if co = a then some ⟨go, 0, none⟩ else some ⟨go, a, none⟩) (ws.drop a) := fun hl => absurd hl (by rw [List.length_drop, HM.out]; omega)
            obtain ⟨v1, w1, v2, w2, v3, w3, r1, r2, r3, H3, hb1, hb2⟩ := insert_run (m1 := a) (m2 := m - a) (c1 := co) (c2 := co - a) y R1 R2 (by rw [List.length_take, HM.out]; omega) (by rw [List.length_drop, HM.out]) (fun e => by cases e) (fun e => by split at e <;> cases e) (by omega)
            clear R1 R2
            have HR1 := Lib.hid r1
            have HR2 := Lib.hid r2
            have HR3 := Lib.hid r3
            have ex1 : w1.cell? ⟨x, 1, none⟩ = _ := (hb1.cell (p := ⟨x, 1, none⟩) hxw).trans ex
            have e01 : w1.cell? ⟨g, i * 4, none⟩ = _ := (hb1.cell (p := ⟨g, i * 4, none⟩) hgw).trans e0
            have hxw1 : x < w1.heap.size := Nat.lt_of_lt_of_le hxw hb1.size
            have hgw1 : g < w1.heap.size := Nat.lt_of_lt_of_le hgw hb1.size
            have HW3 := Lib.hid ((HQ.out.drews (n1 + nq)).over H3)
            obtain ⟨A8, m8, c8, rfl⟩ : ∃ A m c, v3 = .slice A m c := by
              obtain ⟨A, c, e, _⟩ := own_slice H3.own
              exact ⟨A, _, c, e⟩
            clear r1 r2 r3 H3 hb1 hb2
            go_wp2_with (first
              | (at_builtin; refine wpList_app rfl (.tmp 56) (.tmp 59) _ rfl _ _ rfl rfl HR1.out ?_)
              | (at_builtin; refine wpList_app rfl (.tmp 61) (.tmp 70) _ rfl _ _ rfl rfl HR2.out ?_)
              | (at_builtin; refine wpList_app rfl (.tmp 72) (.tmp 75) _ rfl _ _ rfl rfl HR3.out ?_))
            go_roundw
            case rel => exact ⟨i + 1, by omega, by go_num, by rw [HEN.out, HINS.out]; exact HW3.out⟩
            case measure => simp [intOf]; omega
    · obtain rfl : i = n := by omega
      go_wp2
      go_ret
      exact ⟨_, rfl, by rw [← HE.out]; exact HQ.out⟩
end Go.Proofs.Ytikijkhblfgbpaa
