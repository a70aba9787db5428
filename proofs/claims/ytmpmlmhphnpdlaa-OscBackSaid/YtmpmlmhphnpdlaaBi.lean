/-
  Proved here: the program's Write of base: bytes as letters.
-/
import Derived.Test.YtmpmlmhphnpdlaaBh
import Derived.Deep.RegionHeld
import Derived.Deep.DeepCutAuto
import Derived.Maps.AppendAt
import Derived.Laws.AppendOwnNone
set_option linter.unusedSimpArgs false
set_option linter.unusedVariables false
namespace Go.Proofs.Ytmpmlmhphnpdlaa
open Go.RowKit
theorem app_u8L {W : World} {base : Nat} {v : Value} {n : Nat} {xs : List Int} {A : Option Addr} {ys : List Int} {m : Nat} (hm : ys.length = m) (c : Nat) (hR : RI .u8 W A ys) (hA : A = none → c = 0) (hown : W.ownsRow base 5 1 v n (NV .u8 xs)) (hn : n + m ≤ 10000000) (hb : base ≤ W.heap.size) :
    ∃ v' w', (Builtin.append_ #[85, 85] 85 #[v, .slice A m c]).run Try.prog W = .ok v' w' ∧ w'.ownsRow base 5 1 v' (n + m) (NV .u8 (xs ++ ys)) ∧ W.grownBy w' v.ownBlock := by
  subst hm
  obtain ⟨i0, hi, hz0, hz1, hz2⟩ := info_parts info_u8
  rcases A with _ | ad
  · have h0 : ys.length = 0 := by
      rcases Nat.eq_zero_or_pos ys.length with h | h
      · exact h
      · obtain ⟨_, _, h, _⟩ := hR h
        cases h
    obtain rfl : ys = [] := List.eq_nil_of_length_eq_zero h0
    obtain rfl := hA rfl
    exact ⟨_, W, run_append_owned_none (P := Try.prog) (w := W) base 85 85 5 i0 1 Try.underlying85 hi _ n _ hown, by simpa using hown, World.grownBy.refl _ _⟩
  · obtain ⟨v', w', hr, ho, hg, _⟩ := run_append_own_at (P := Try.prog) W base 85 85 5 i0 _ 1 1 Try.underlying85 hi hz0 hz1 hz2 rfl (by decide) v n (NV .u8 xs) hown ad ys.length c (NV .u8 ys) (by simp [NV]) hR.cells
      (fun u hu => by obtain ⟨x, _, rfl⟩ := List.mem_map.1 hu; rfl) (by unfold maxLen; omega) (by omega) hb
    exact ⟨v', w', hr, own_cast ho rfl (by simp [NV]), hg⟩

theorem Own8.appL {w : World} {v : Value} {xs : List Int} {W : World} (h : Own8 w v xs W) (ys : List Int) (m : Nat) (hm : ys.length = m) (hn : xs.length + m ≤ 10000000) :
    ∃ A n c w', (Builtin.append_ #[85, 85] 85 #[v, .slice (some ⟨W.heap.size, 0, none⟩) m m]).run Try.prog (W.alloc (.cells (NV .u8 ys).toArray 5)) = .ok (.slice A n c) w' ∧ Own8 w (.slice A n c) (xs ++ ys) w' := by
  have h1 := h.to ((Below.refl _ _).alloc (Nat.le_refl _) (.cells (NV .u8 ys).toArray 5))
  obtain ⟨v', w', r, o, g⟩ := app_u8L (ys := ys) hm m (RI.lit W ys 5) (fun e => by cases e) h1.own hn h1.below.size
  obtain ⟨A, c, rfl, _⟩ := own_slice o
  exact ⟨A, _, c, w', r, own_cast o (by simp [hm]) rfl, h1.below.grown g h1.below.size (ownBlock_le h.own)⟩
def sliceLen : Value → Nat
  | .slice _ l _ => l
  | _ => 0
theorem RI.drop {k : IntKind} {w : World} {b off : Nat} {L : List Int} (h : RI k w (some ⟨b, off, none⟩) L) (n : Nat) : RI k w (some ⟨b, off + n, none⟩) (L.drop n) := fun hp => by
  rw [List.length_drop] at hp
  obtain ⟨b', off', e, hb, hc⟩ := h (by omega)
  injection e with e
  injection e with e1 e2 _
  subst e1 e2
  refine ⟨b, off + n, rfl, hb, fun i hi => ?_⟩
  rw [List.length_drop] at hi
  have := hc (n + i) (by omega)
  rw [Nat.add_assoc, this]
  simp [List.getD]
theorem alpha_ix (y : Nat) (h : y < (⟨#[65, 66, 67, 68, 69, 70, 71, 72, 73, 74, 75, 76, 77, 78, 79, 80, 81, 82, 83, 84, 85, 86, 87, 88, 89, 90, 97, 98, 99, 100, 101, 102, 103, 104, 105, 106, 107, 108, 109, 110, 111, 112, 113, 114, 115, 116, 117, 118, 119, 120, 121, 122, 48, 49, 50, 51, 52, 53, 54, 55, 56, 57, 43, 47]⟩ : ByteArray).size) : ((((⟨#[65, 66, 67, 68, 69, 70, 71, 72, 73, 74, 75, 76, 77, 78, 79, 80, 81, 82, 83, 84, 85, 86, 87, 88, 89, 90, 97, 98, 99, 100, 101, 102, 103, 104, 105, 106, 107, 108, 109, 110, 111, 112, 113, 114, 115, 116, 117, 118, 119, 120, 121, 122, 48, 49, 50, 51, 52, 53, 54, 55, 56, 57, 43, 47]⟩ : ByteArray)[y]'h).toNat : Nat) : Int) = lett y := alpha_at ⟨y, h⟩
theorem write3 {bs : List Int} {a : Nat} (ha : a % 3 = 0) (hl : a + 3 ≤ bs.length) : writeS (bs.take (a + 3)) = writeS (bs.take a) ++ [lett ((bs.drop a).getD 0 0 / 4), lett ((bs.drop a).getD 0 0 % 4 * 16 + (bs.drop a).getD 1 0 / 16), lett ((bs.drop a).getD 1 0 % 16 * 4 + (bs.drop a).getD 2 0 / 64), lett ((bs.drop a).getD 2 0 % 64)] := by
  have e : bs.take (a + 3) = bs.take a ++ (bs.drop a).take 3 := List.take_add
  have e3 : (bs.drop a).take 3 = [(bs.drop a).getD 0 0, (bs.drop a).getD 1 0, (bs.drop a).getD 2 0] := by
    have h : 3 ≤ (bs.drop a).length := by rw [List.length_drop]; omega
    generalize bs.drop a = d at h
    match d, h with
    | x :: y :: z :: r, _ => rfl
  rw [e, write_app _ _ (by simp; omega), e3]
  rfl
theorem write_end {bs : List Int} {a : Nat} (ha : a % 3 = 0) : writeS bs = writeS (bs.take a) ++ writeS (bs.drop a) := by
  by_cases h : a ≤ bs.length
  · rw [← write_app _ _ (by simp; omega), List.take_append_drop]
  · rw [List.take_of_length_le (by omega), List.drop_of_length_le (by omega)]; simp [writeS]
theorem two_of {l : List Int} (h : l.length = 2) : ∃ p q, l = [p, q] := by
  match l, h with
  | [p, q], _ => exact ⟨p, q, rfl⟩
structure Wr (w : World) (bs : List Int) (v : Value) (a : Nat) (A : Option Addr) (W : World) : Prop where
  own : Own8 w v (writeS (bs.take a)) W
  rest : RI .u8 w A (bs.drop a)
set_option maxRecDepth 100000 in
set_option maxHeartbeats 2000000 in
theorem write_any {w : World} {A : Option Addr} {n c : Nat} {bs : List Int} (hR : RI .u8 w A bs) (hl : bs.length = n) (hn : n ≤ 1100000) (hb : IsBytes bs) (hnc : n ≤ c) (hcm : c ≤ 9223372036854775807) :
    Calls Try.prog 66 #[.slice A n c] w fun e w' => e = .returned (.string (strOfNums (writeS bs))) ∧ Below w.heap.size w w' := by
  have HR := Lib.hid hR
  have HL := Lib.hid hl
  have HB := Lib.hid hb
  obtain ⟨k4, hk4⟩ : ∃ k4, (n + 2) / 3 * 4 = k4 := ⟨_, rfl⟩
  have hk : ((n : Int) + 2) / 3 * 4 = (k4 : Int) := by omega
  have hk2 : k4 ≤ 2000000 := by omega
  obtain ⟨W1, hmk, hO1⟩ : ∃ W1, (Instr.makeSlice 85 (.int .i64 0) (.int .i64 k4)).run Try.prog w = .ok (.slice (some ⟨w.heap.size, 0, none⟩) 0 k4) W1 ∧ Own8 w (.slice (some ⟨w.heap.size, 0, none⟩) 0 k4) [] W1 := by
    obtain ⟨i0, hi, hz0, hz1, hz2⟩ := info_parts info_u8
    refine ⟨_, run_make (P := Try.prog) w 85 5 i0 _ Try.underlying85 hi hz0 .i64 .i64 0 k4 (by omega) (by omega) (by rw [hz2]; omega) (by omega), ⟨?_, (Below.refl _ _).alloc (Nat.le_refl _) _⟩⟩
    exact World.ownsRow_made w _ k4 (Nat.le_refl _) (by unfold maxLen; omega) (by rw [size_madeCells, hz1]; simp)
  have HW1 := Lib.hid (show Wr w bs (.slice (some ⟨w.heap.size, 0, none⟩) 0 k4) 0 A W1 from ⟨hO1, hR⟩)
  clear hO1 hR hl hb hk4
  go_enter Try.func66, Try.ntmps66
  go_wp2
  go_loopw [0, 3] (fun bv tv wr => ∃ (A' : Option Addr) (a l c' : Nat) (v : Value), bv = .slice A' l c' ∧ tv = v ∧ a + l = n ∧ a % 3 = 0 ∧ l ≤ c' ∧ c' ≤ 9223372036854775807 ∧ Hid (Wr w bs v a A' wr)) (fun bv _ _ => sliceLen bv)
  case atStart => exact ⟨A, 0, n, c, _, rfl, rfl, by omega, rfl, hnc, hcm, HW1⟩
  case round =>
    obtain ⟨A', a, l, c', v, rfl, rfl, hal, ha3, hlc, hcm', HW⟩ := hrel
    clear HW1 hmk hk hk2 hnc hcm
    by_cases h3 : 3 ≤ l
    · have d1 : decide ((3 : Int) ≤ (l : Int)) = true := by simp; omega
      have d2 : decide (3 ≤ l) = true := by simp; omega
      have hdl : (bs.drop a).length = l := by rw [List.length_drop, HL.out]; omega
      obtain ⟨bl, off, rfl, hbl, hc⟩ := HW.out.rest (by rw [hdl]; omega)
      have c0 := hc 0 (by rw [hdl]; omega)
      have c1 := hc 1 (by rw [hdl]; omega)
      have c2 := hc 2 (by rw [hdl]; omega)
      have hw3 := write3 (bs := bs) ha3 (by rw [HL.out]; omega)
      have hrg : ∀ j, j < 3 → 0 ≤ (bs.drop a).getD j 0 ∧ (bs.drop a).getD j 0 < 256 := fun j hj => by
        have h := HB.out ((bs.drop a).getD j 0) (by rw [List.getD_eq_getElem?_getD, List.getElem?_eq_getElem (by rw [hdl]; omega)]; exact List.mem_of_mem_drop (List.getElem_mem _))
        exact h
      obtain ⟨p, hp⟩ : ∃ p, (bs.drop a).getD 0 0 = p := ⟨_, rfl⟩
      obtain ⟨q, hq⟩ : ∃ q, (bs.drop a).getD 1 0 = q := ⟨_, rfl⟩
      obtain ⟨r, hr⟩ : ∃ r, (bs.drop a).getD 2 0 = r := ⟨_, rfl⟩
      obtain ⟨p0, p1⟩ := hrg 0 (by omega)
      obtain ⟨q0, q1⟩ := hrg 1 (by omega)
      obtain ⟨r0, r1⟩ := hrg 2 (by omega)
      rw [hp] at c0 p0 p1 hw3
      rw [hq] at c1 q0 q1 hw3
      rw [hr] at c2 r0 r1 hw3
      rw [Nat.add_zero] at c0
      have HC0 := Lib.hid c0
      have HC1 := Lib.hid c1
      have HC2 := Lib.hid c2
      have hwl := write_len (bs.take a)
      have hwl2 : (bs.take a).length ≤ n := by rw [List.length_take, HL.out]; omega
      obtain ⟨y1, hy1⟩ : ∃ y : Nat, p / 4 = y := ⟨(p / 4).toNat, by omega⟩
      obtain ⟨y2, hy2⟩ : ∃ y : Nat, p % 4 * 16 + q / 16 = y := ⟨(p % 4 * 16 + q / 16).toNat, by omega⟩
      obtain ⟨y3, hy3⟩ : ∃ y : Nat, q % 16 * 4 + r / 64 = y := ⟨(q % 16 * 4 + r / 64).toNat, by omega⟩
      obtain ⟨y4, hy4⟩ : ∃ y : Nat, r % 64 = y := ⟨(r % 64).toNat, by omega⟩
      have l1 : y1 < 64 := by omega
      have l2 : y2 < 64 := by omega
      have l3 : y3 < 64 := by omega
      have l4 : y4 < 64 := by omega
      have b1 : (y1 : Int) < 64 := by omega
      have b2 : (y2 : Int) < 64 := by omega
      have b3 : (y3 : Int) < 64 := by omega
      have b4 : (y4 : Int) < 64 := by omega
      have ya1 : 0 ≤ p % 4 := by omega
      have ya2 : p % 4 < 4 := by omega
      have m1 : bits .and .u8 p 3 = p % 4 := bits_mask .u8 8 (by decide) wraps_u8 2 (by decide) p p0 p1
      have m2 : bits .and .u8 q 15 = q % 16 := bits_mask .u8 8 (by decide) wraps_u8 4 (by decide) q q0 q1
      have m3 : bits .and .u8 r 63 = (y4 : Int) := (bits_mask .u8 8 (by decide) wraps_u8 6 (by decide) r r0 r1).trans hy4
      have v1 : IntKind.u8.wrap (p % 4 * 16) = p % 4 * 16 := wraps_u8 _ (by omega) (by omega)
      have v2 : IntKind.u8.wrap (q % 16 * 4) = q % 16 * 4 := wraps_u8 _ (by omega) (by omega)
      have o1 : bits .or .u8 (p % 4 * 16) (q / 16) = (y2 : Int) := (bits_join .u8 8 (by decide) wraps_u8 4 _ _ (by omega) (by omega) (by omega) (by omega) (by omega) (by omega)).trans hy2
      have o2 : bits .or .u8 (q % 16 * 4) (r / 64) = (y3 : Int) := (bits_join .u8 8 (by decide) wraps_u8 2 _ _ (by omega) (by omega) (by omega) (by omega) (by omega) (by omega)).trans hy3
      rw [hy1, hy2, hy3, hy4] at hw3
      obtain ⟨A4, n4, c4, w4, hrun, hO4⟩ := (HW.out.own.to (Below.refl _ _).drew).appL [lett y1, lett y2, lett y3, lett y4] 4 rfl (by omega)
      rw [← hw3] at hO4
      have HRUN := Lib.hid hrun
      have HO4 := Lib.hid hO4
      have HRS := Lib.hid HW.out.rest
      have HBW := Lib.hid HW.out.own.below
      have ax := alpha_ix
      clear hy2 hy3 hy4 ya1 ya2
      have g3 : 0 < l := by omega
      have g4 : (1 : Int) < (l : Int) := by omega
      have g5 : (2 : Int) < (l : Int) := by omega
      clear hc c0 c1 c2 hp hq hr hw3 hrg hwl hwl2 hrun hO4 hdl
      clear HW
      go_upto_region 3 with fail
      refine wp_region_held_drew (S := fun W => Below w.heap.size w W) (by kernel_rfl) HBW.out.drew (fun hHeld => ?_)
      refine wpAnyH_take (i := 0) (v := ?_) (by simp; rfl) (by kernel_rfl) (by kernel_rfl) (by kernel_rfl) (by exact fun _ _ _ h => h) (Or.inl ⟨by rfl, fun wx hSx => ?_⟩) hHeld ?_
      rotate_left
      · clear hSx; go_simp; (try with_reducible rfl)
      simp only [Act.put, List.setIfInBounds_toArray, List.set_cons_zero, List.set_cons_succ]
      refine wpAnyH_take (i := 1) (v := ?_) (by simp; rfl) (by kernel_rfl) (by kernel_rfl) (by kernel_rfl) (by exact fun _ _ _ h => h) (Or.inl ⟨by rfl, fun wx hSx => ?_⟩) hHeld ?_
      rotate_left
      · clear hSx; go_simp; (try with_reducible rfl)
      simp only [Act.put, List.setIfInBounds_toArray, List.set_cons_zero, List.set_cons_succ]
      refine wpAnyH_take (i := 2) (v := ?_) (by simp; rfl) (by kernel_rfl) (by kernel_rfl) (by kernel_rfl) (by exact fun _ _ _ h => h) (Or.inl ⟨by rfl, fun wx hSx => ?_⟩) hHeld ?_
      rotate_left
      · clear hSx; go_simp; (try with_reducible rfl)
      simp only [Act.put, List.setIfInBounds_toArray, List.set_cons_zero, List.set_cons_succ]
      refine wpAnyH_take (i := 3) (v := ?_) (by simp; rfl) (by kernel_rfl) (by kernel_rfl) (by kernel_rfl) (by exact fun _ _ _ h => h) (Or.inl ⟨by rfl, fun wx hSx => ?_⟩) hHeld ?_
      rotate_left
      · have hc := (hSx.cell (p := ⟨bl, off, none⟩) hbl).trans HC0.out; clear hSx; go_simp; (try with_reducible rfl)
      simp only [Act.put, List.setIfInBounds_toArray, List.set_cons_zero, List.set_cons_succ]
      refine wpAnyH_take (i := 4) (v := ?_) (by simp; rfl) (by kernel_rfl) (by kernel_rfl) (by kernel_rfl) (by exact fun _ _ _ h => h) (Or.inl ⟨by rfl, fun wx hSx => ?_⟩) hHeld ?_
      rotate_left
      · clear hSx; go_simp; (try with_reducible rfl)
      simp only [Act.put, List.setIfInBounds_toArray, List.set_cons_zero, List.set_cons_succ]
      refine wpAnyH_take (i := 5) (v := ?_) (by simp; rfl) (by kernel_rfl) (by kernel_rfl) (by kernel_rfl) (by exact fun _ _ _ h => h) (Or.inl ⟨by rfl, fun wx hSx => ?_⟩) hHeld ?_
      rotate_left
      · clear hSx; go_simp; (try with_reducible rfl)
      simp only [Act.put, List.setIfInBounds_toArray, List.set_cons_zero, List.set_cons_succ]
      refine wpAnyH_take (i := 6) (v := ?_) (by simp; rfl) (by kernel_rfl) (by kernel_rfl) (by kernel_rfl) (by exact fun _ _ _ h => h) (Or.inl ⟨by rfl, fun wx hSx => ?_⟩) hHeld ?_
      rotate_left
      · clear hSx; go_simp; (try with_reducible rfl)
      simp only [Act.put, List.setIfInBounds_toArray, List.set_cons_zero, List.set_cons_succ]
      refine wpAnyH_take (i := 7) (v := ?_) (by simp; rfl) (by kernel_rfl) (by kernel_rfl) (by kernel_rfl) (by exact fun _ _ _ h => h) (Or.inl ⟨by rfl, fun wx hSx => ?_⟩) hHeld ?_
      rotate_left
      · clear hSx; go_simp; (try with_reducible rfl)
      simp only [Act.put, List.setIfInBounds_toArray, List.set_cons_zero, List.set_cons_succ]
      refine wpAnyH_take (i := 8) (v := ?_) (by simp; rfl) (by kernel_rfl) (by kernel_rfl) (by kernel_rfl) (by exact fun _ _ _ h => h) (Or.inl ⟨by rfl, fun wx hSx => ?_⟩) hHeld ?_
      rotate_left
      · have hc := (hSx.cell (p := ⟨bl, off, none⟩) hbl).trans HC0.out; clear hSx; go_simp; (try with_reducible rfl)
      simp only [Act.put, List.setIfInBounds_toArray, List.set_cons_zero, List.set_cons_succ]
      refine wpAnyH_take (i := 9) (v := ?_) (by simp; rfl) (by kernel_rfl) (by kernel_rfl) (by kernel_rfl) (by exact fun _ _ _ h => h) (Or.inl ⟨by rfl, fun wx hSx => ?_⟩) hHeld ?_
      rotate_left
      · clear hSx; go_simp; (try with_reducible rfl)
      simp only [Act.put, List.setIfInBounds_toArray, List.set_cons_zero, List.set_cons_succ]
      refine wpAnyH_take (i := 10) (v := ?_) (by simp; rfl) (by kernel_rfl) (by kernel_rfl) (by kernel_rfl) (by exact fun _ _ _ h => h) (Or.inl ⟨by rfl, fun wx hSx => ?_⟩) hHeld ?_
      rotate_left
      · clear hSx; go_simp; (try with_reducible rfl)
      simp only [Act.put, List.setIfInBounds_toArray, List.set_cons_zero, List.set_cons_succ]
      refine wpAnyH_take (i := 11) (v := ?_) (by simp; rfl) (by kernel_rfl) (by kernel_rfl) (by kernel_rfl) (by exact fun _ _ _ h => h) (Or.inl ⟨by rfl, fun wx hSx => ?_⟩) hHeld ?_
      rotate_left
      · clear hSx; go_simp; (try with_reducible rfl)
      simp only [Act.put, List.setIfInBounds_toArray, List.set_cons_zero, List.set_cons_succ]
      refine wpAnyH_take (i := 12) (v := ?_) (by simp; rfl) (by kernel_rfl) (by kernel_rfl) (by kernel_rfl) (by exact fun _ _ _ h => h) (Or.inl ⟨by rfl, fun wx hSx => ?_⟩) hHeld ?_
      rotate_left
      · clear hSx; go_simp; (try with_reducible rfl)
      simp only [Act.put, List.setIfInBounds_toArray, List.set_cons_zero, List.set_cons_succ]
      refine wpAnyH_take (i := 13) (v := ?_) (by simp; rfl) (by kernel_rfl) (by kernel_rfl) (by kernel_rfl) (by exact fun _ _ _ h => h) (Or.inl ⟨by rfl, fun wx hSx => ?_⟩) hHeld ?_
      rotate_left
      · have hc := (hSx.cell (p := ⟨bl, off + 1, none⟩) hbl).trans HC1.out; clear hSx; go_simp; (try with_reducible rfl)
      simp only [Act.put, List.setIfInBounds_toArray, List.set_cons_zero, List.set_cons_succ]
      refine wpAnyH_take (i := 14) (v := ?_) (by simp; rfl) (by kernel_rfl) (by kernel_rfl) (by kernel_rfl) (by exact fun _ _ _ h => h) (Or.inl ⟨by rfl, fun wx hSx => ?_⟩) hHeld ?_
      rotate_left
      · clear hSx; go_simp; (try with_reducible rfl)
      simp only [Act.put, List.setIfInBounds_toArray, List.set_cons_zero, List.set_cons_succ]
      refine wpAnyH_take (i := 15) (v := ?_) (by simp; rfl) (by kernel_rfl) (by kernel_rfl) (by kernel_rfl) (by exact fun _ _ _ h => h) (Or.inl ⟨by rfl, fun wx hSx => ?_⟩) hHeld ?_
      rotate_left
      · clear hSx; go_simp; (try with_reducible rfl)
      simp only [Act.put, List.setIfInBounds_toArray, List.set_cons_zero, List.set_cons_succ]
      refine wpAnyH_take (i := 16) (v := ?_) (by simp; rfl) (by kernel_rfl) (by kernel_rfl) (by kernel_rfl) (by exact fun _ _ _ h => h) (Or.inl ⟨by rfl, fun wx hSx => ?_⟩) hHeld ?_
      rotate_left
      · clear hSx; go_simp; (try with_reducible rfl)
      simp only [Act.put, List.setIfInBounds_toArray, List.set_cons_zero, List.set_cons_succ]
      refine wpAnyH_take (i := 17) (v := ?_) (by simp; rfl) (by kernel_rfl) (by kernel_rfl) (by kernel_rfl) (by exact fun _ _ _ h => h) (Or.inl ⟨by rfl, fun wx hSx => ?_⟩) hHeld ?_
      rotate_left
      · clear hSx; go_simp; (try with_reducible rfl)
      simp only [Act.put, List.setIfInBounds_toArray, List.set_cons_zero, List.set_cons_succ]
      refine wpAnyH_take (i := 18) (v := ?_) (by simp; rfl) (by kernel_rfl) (by kernel_rfl) (by kernel_rfl) (by exact fun _ _ _ h => h) (Or.inl ⟨by rfl, fun wx hSx => ?_⟩) hHeld ?_
      rotate_left
      · clear hSx; go_simp; (try with_reducible rfl)
      simp only [Act.put, List.setIfInBounds_toArray, List.set_cons_zero, List.set_cons_succ]
      refine wpAnyH_take (i := 19) (v := ?_) (by simp; rfl) (by kernel_rfl) (by kernel_rfl) (by kernel_rfl) (by exact fun _ _ _ h => h) (Or.inl ⟨by rfl, fun wx hSx => ?_⟩) hHeld ?_
      rotate_left
      · have hc := (hSx.cell (p := ⟨bl, off + 1, none⟩) hbl).trans HC1.out; clear hSx; go_simp; (try with_reducible rfl)
      simp only [Act.put, List.setIfInBounds_toArray, List.set_cons_zero, List.set_cons_succ]
      refine wpAnyH_take (i := 20) (v := ?_) (by simp; rfl) (by kernel_rfl) (by kernel_rfl) (by kernel_rfl) (by exact fun _ _ _ h => h) (Or.inl ⟨by rfl, fun wx hSx => ?_⟩) hHeld ?_
      rotate_left
      · clear hSx; go_simp; (try with_reducible rfl)
      simp only [Act.put, List.setIfInBounds_toArray, List.set_cons_zero, List.set_cons_succ]
      refine wpAnyH_take (i := 21) (v := ?_) (by simp; rfl) (by kernel_rfl) (by kernel_rfl) (by kernel_rfl) (by exact fun _ _ _ h => h) (Or.inl ⟨by rfl, fun wx hSx => ?_⟩) hHeld ?_
      rotate_left
      · clear hSx; go_simp; (try with_reducible rfl)
      simp only [Act.put, List.setIfInBounds_toArray, List.set_cons_zero, List.set_cons_succ]
      refine wpAnyH_take (i := 22) (v := ?_) (by simp; rfl) (by kernel_rfl) (by kernel_rfl) (by kernel_rfl) (by exact fun _ _ _ h => h) (Or.inl ⟨by rfl, fun wx hSx => ?_⟩) hHeld ?_
      rotate_left
      · clear hSx; go_simp; (try with_reducible rfl)
      simp only [Act.put, List.setIfInBounds_toArray, List.set_cons_zero, List.set_cons_succ]
      refine wpAnyH_take (i := 23) (v := ?_) (by simp; rfl) (by kernel_rfl) (by kernel_rfl) (by kernel_rfl) (by exact fun _ _ _ h => h) (Or.inl ⟨by rfl, fun wx hSx => ?_⟩) hHeld ?_
      rotate_left
      · clear hSx; go_simp; (try with_reducible rfl)
      simp only [Act.put, List.setIfInBounds_toArray, List.set_cons_zero, List.set_cons_succ]
      refine wpAnyH_take (i := 24) (v := ?_) (by simp; rfl) (by kernel_rfl) (by kernel_rfl) (by kernel_rfl) (by exact fun _ _ _ h => h) (Or.inl ⟨by rfl, fun wx hSx => ?_⟩) hHeld ?_
      rotate_left
      · have hc := (hSx.cell (p := ⟨bl, off + 2, none⟩) hbl).trans HC2.out; clear hSx; go_simp; (try with_reducible rfl)
      simp only [Act.put, List.setIfInBounds_toArray, List.set_cons_zero, List.set_cons_succ]
      refine wpAnyH_take (i := 25) (v := ?_) (by simp; rfl) (by kernel_rfl) (by kernel_rfl) (by kernel_rfl) (by exact fun _ _ _ h => h) (Or.inl ⟨by rfl, fun wx hSx => ?_⟩) hHeld ?_
      rotate_left
      · clear hSx; go_simp; (try with_reducible rfl)
      simp only [Act.put, List.setIfInBounds_toArray, List.set_cons_zero, List.set_cons_succ]
      refine wpAnyH_take (i := 26) (v := ?_) (by simp; rfl) (by kernel_rfl) (by kernel_rfl) (by kernel_rfl) (by exact fun _ _ _ h => h) (Or.inl ⟨by rfl, fun wx hSx => ?_⟩) hHeld ?_
      rotate_left
      · clear hSx; go_simp; (try with_reducible rfl)
      simp only [Act.put, List.setIfInBounds_toArray, List.set_cons_zero, List.set_cons_succ]
      refine wpAnyH_take (i := 27) (v := ?_) (by simp; rfl) (by kernel_rfl) (by kernel_rfl) (by kernel_rfl) (by exact fun _ _ _ h => h) (Or.inl ⟨by rfl, fun wx hSx => ?_⟩) hHeld ?_
      rotate_left
      · clear hSx; go_simp; (try with_reducible rfl)
      simp only [Act.put, List.setIfInBounds_toArray, List.set_cons_zero, List.set_cons_succ]
      refine wpAnyH_take (i := 28) (v := ?_) (by simp; rfl) (by kernel_rfl) (by kernel_rfl) (by kernel_rfl) (by exact fun _ _ _ h => h) (Or.inl ⟨by rfl, fun wx hSx => ?_⟩) hHeld ?_
      rotate_left
      · clear hSx; go_simp; (try with_reducible rfl)
      simp only [Act.put, List.setIfInBounds_toArray, List.set_cons_zero, List.set_cons_succ]
      refine wpAnyH_take (i := 29) (v := ?_) (by simp; rfl) (by kernel_rfl) (by kernel_rfl) (by kernel_rfl) (by exact fun _ _ _ h => h) (Or.inl ⟨by rfl, fun wx hSx => ?_⟩) hHeld ?_
      rotate_left
      · clear hSx; go_simp; (try with_reducible rfl)
      simp only [Act.put, List.setIfInBounds_toArray, List.set_cons_zero, List.set_cons_succ]
      refine wpAnyH_take (i := 30) (v := ?_) (by simp; rfl) (by kernel_rfl) (by kernel_rfl) (by kernel_rfl) (by exact fun _ _ _ h => h) (Or.inl ⟨by rfl, fun wx hSx => ?_⟩) hHeld ?_
      rotate_left
      · have hc := (hSx.cell (p := ⟨bl, off + 2, none⟩) hbl).trans HC2.out; clear hSx; go_simp; (try with_reducible rfl)
      simp only [Act.put, List.setIfInBounds_toArray, List.set_cons_zero, List.set_cons_succ]
      refine wpAnyH_take (i := 31) (v := ?_) (by simp; rfl) (by kernel_rfl) (by kernel_rfl) (by kernel_rfl) (by exact fun _ _ _ h => h) (Or.inl ⟨by rfl, fun wx hSx => ?_⟩) hHeld ?_
      rotate_left
      · clear hSx; go_simp; (try with_reducible rfl)
      simp only [Act.put, List.setIfInBounds_toArray, List.set_cons_zero, List.set_cons_succ]
      refine wpAnyH_take (i := 32) (v := ?_) (by simp; rfl) (by kernel_rfl) (by kernel_rfl) (by kernel_rfl) (by exact fun _ _ _ h => h) (Or.inl ⟨by rfl, fun wx hSx => ?_⟩) hHeld ?_
      rotate_left
      · clear hSx; go_simp; (try with_reducible rfl)
      simp only [Act.put, List.setIfInBounds_toArray, List.set_cons_zero, List.set_cons_succ]
      refine wpAnyH_ready (rs := [33]) (by kernel_rfl) (by simp) ?_
      refine AllReadyH.cons (by simp; rfl) (fun K0 hK0 => ?_) AllReadyH.nil
      go_simp
      refine hK0.out _ _ (hHeld.alloc hHeld.size _) (fun hHeld => ?_)
      clear hK0 K0
      refine wpAnyH_ready (rs := [34]) (by kernel_rfl) (by simp) ?_
      refine AllReadyH.cons (by simp; rfl) (fun K0 hK0 => ?_) AllReadyH.nil
      refine step_app rfl (.tmp 13) (.tmp 46) _ rfl _ _ rfl rfl HRUN.out ?_
      simp only [Act.put, List.setIfInBounds_toArray, List.set_cons_zero, List.set_cons_succ]
      refine hK0.out _ _ HO4.out.below (fun hHeld => ?_)
      clear hK0 K0
      refine wpAnyH_take (i := 35) (v := ?_) (by simp; rfl) (by kernel_rfl) (by kernel_rfl) (by kernel_rfl) (by exact fun _ _ _ h => h) (Or.inl ⟨by rfl, fun wx hSx => ?_⟩) hHeld ?_
      rotate_left
      · clear hSx; go_simp; (try with_reducible rfl)
      simp only [Act.put, List.setIfInBounds_toArray, List.set_cons_zero, List.set_cons_succ]
      refine wpAnyH_done (by kernel_rfl) ?_ _
      clear HC0 HC1 HC2 hHeld HRUN HBW ax p0 p1 q0 q1 r0 r1 hy1 m1 m2 m3 v1 v2 o1 o2
      by_cases h3c : 3 = c'
      · subst h3c
        obtain rfl : l = 3 := by omega
        have HX : Hid (Wr w bs (.slice A4 n4 c4) (a + 3) (some ⟨bl, off, none⟩) w4) := Lib.hid ⟨HO4.out, by have e : bs.drop (a + 3) = [] := List.drop_eq_nil_of_le (by rw [HL.out]; omega); rw [e]; exact RI.nothing _ _ _⟩
        clear HRS HO4
        go_wp2
        go_roundw
        case rel => exact ⟨_, a + 3, 0, 0, _, rfl, rfl, by omega, by omega, by omega, by omega, HX⟩
        case measure => simp [sliceLen]
      · have HX : Hid (Wr w bs (.slice A4 n4 c4) (a + 3) (some ⟨bl, off + 3, none⟩) w4) := Lib.hid ⟨HO4.out, by rw [← List.drop_drop]; exact HRS.out.drop 3⟩
        clear HRS HO4
        have h3d : (c' == 3) = false := by simp; omega
        have h3e : (3 == c') = false := by simp; omega
        have h3f : 3 < c' := by omega
        go_wp2
        go_roundw
        case rel => exact ⟨_, a + 3, l - 3, _, _, rfl, rfl, by omega, by omega, by omega, by omega, HX⟩
        case measure => simp [sliceLen]; omega
    · have d1 : decide ((3 : Int) ≤ (l : Int)) = false := by simp; omega
      have d2 : decide (3 ≤ l) = false := by simp; omega
      have hdl : (bs.drop a).length = l := by rw [List.length_drop, HL.out]; omega
      have hwe := write_end (bs := bs) ha3
      have hwl := write_len (bs.take a)
      have hwl2 : (bs.take a).length ≤ n := by rw [List.length_take, HL.out]; omega
      have HBW := Lib.hid HW.out.own.below
      have hl3 : l = 0 ∨ l = 1 ∨ l = 2 := by omega
      rcases hl3 with rfl | rfl | rfl
      · have e : bs.drop a = [] := List.eq_nil_of_length_eq_zero hdl
        rw [e, show writeS [] = [] from rfl, List.append_nil] at hwe
        obtain ⟨A8, c8, rfl, _⟩ := own_slice HW.out.own.own
        have hcv := conv_nums HW.out.own.ri.2.symm c8 HW.out.own.ri.1
        rw [show strOfNums (writeS (bs.take a)) = strOfNums (writeS bs) by rw [hwe]] at hcv
        clear HW hwe hwl hwl2 e hdl h3
        go_wp2
        go_ret
        exact ⟨rfl, HBW.out⟩
      · obtain ⟨p, hp⟩ : ∃ p, bs.drop a = [p] := List.length_eq_one_iff.1 hdl
        obtain ⟨bl, off, rfl, hbl, hc⟩ := HW.out.rest (by rw [hdl]; omega)
        have c0 := hc 0 (by rw [hdl]; omega)
        rw [hp, Nat.add_zero] at c0
        have c0 : w.cell? ⟨bl, off, none⟩ = some (.int .u8 p) := c0
        have hpr := HB.out p (List.mem_of_mem_drop (by rw [hp]; simp))
        obtain ⟨p0, p1⟩ := hpr
        rw [hp, show writeS [p] = [lett (p / 4), lett (p % 4 * 16), 61, 61] from rfl] at hwe
        have HC0 := Lib.hid c0
        obtain ⟨y1, hy1⟩ : ∃ y : Nat, p / 4 = y := ⟨(p / 4).toNat, by omega⟩
        obtain ⟨y2, hy2⟩ : ∃ y : Nat, p % 4 * 16 = y := ⟨(p % 4 * 16).toNat, by omega⟩
        have l1 : y1 < 64 := by omega
        have l2 : y2 < 64 := by omega
        have b1 : (y1 : Int) < 64 := by omega
        have b2 : (y2 : Int) < 64 := by omega
        have m1 : bits .and .u8 p 3 = p % 4 := bits_mask .u8 8 (by decide) wraps_u8 2 (by decide) p p0 p1
        have v1 : IntKind.u8.wrap (p % 4 * 16) = (y2 : Int) := (wraps_u8 _ (by omega) (by omega)).trans hy2
        rw [hy1, hy2] at hwe
        obtain ⟨A4, n4, c4, w4, hrun, hO4⟩ := (HW.out.own.to (Below.refl _ _).drew).appL [lett y1, lett y2, 61, 61] 4 rfl (by omega)
        rw [← hwe] at hO4
        have HRUN := Lib.hid hrun
        have hcv := conv_nums hO4.ri.2.symm c4 hO4.ri.1
        have HO4 := Lib.hid hO4
        have ax := alpha_ix
        clear HW hc c0 hp hwe hwl hwl2 hrun hO4 hdl h3 hy2
        go_upto_region 7 with fail
        refine wp_region_held_drew (S := fun W => Below w.heap.size w W) (by kernel_rfl) HBW.out.drew (fun hHeld => ?_)
        refine wpAnyH_take (i := 0) (v := ?_) (by simp; rfl) (by kernel_rfl) (by kernel_rfl) (by kernel_rfl) (by exact fun _ _ _ h => h) (Or.inl ⟨by rfl, fun wx hSx => ?_⟩) hHeld ?_
        rotate_left
        · clear hSx; go_simp; (try with_reducible rfl)
        simp only [Act.put, List.setIfInBounds_toArray, List.set_cons_zero, List.set_cons_succ]
        refine wpAnyH_take (i := 1) (v := ?_) (by simp; rfl) (by kernel_rfl) (by kernel_rfl) (by kernel_rfl) (by exact fun _ _ _ h => h) (Or.inl ⟨by rfl, fun wx hSx => ?_⟩) hHeld ?_
        rotate_left
        · clear hSx; go_simp; (try with_reducible rfl)
        simp only [Act.put, List.setIfInBounds_toArray, List.set_cons_zero, List.set_cons_succ]
        refine wpAnyH_take (i := 2) (v := ?_) (by simp; rfl) (by kernel_rfl) (by kernel_rfl) (by kernel_rfl) (by exact fun _ _ _ h => h) (Or.inl ⟨by rfl, fun wx hSx => ?_⟩) hHeld ?_
        rotate_left
        · clear hSx; go_simp; (try with_reducible rfl)
        simp only [Act.put, List.setIfInBounds_toArray, List.set_cons_zero, List.set_cons_succ]
        refine wpAnyH_take (i := 3) (v := ?_) (by simp; rfl) (by kernel_rfl) (by kernel_rfl) (by kernel_rfl) (by exact fun _ _ _ h => h) (Or.inl ⟨by rfl, fun wx hSx => ?_⟩) hHeld ?_
        rotate_left
        · have hc := (hSx.cell (p := ⟨bl, off, none⟩) hbl).trans HC0.out; clear hSx; go_simp; (try with_reducible rfl)
        simp only [Act.put, List.setIfInBounds_toArray, List.set_cons_zero, List.set_cons_succ]
        refine wpAnyH_take (i := 4) (v := ?_) (by simp; rfl) (by kernel_rfl) (by kernel_rfl) (by kernel_rfl) (by exact fun _ _ _ h => h) (Or.inl ⟨by rfl, fun wx hSx => ?_⟩) hHeld ?_
        rotate_left
        · clear hSx; go_simp; (try with_reducible rfl)
        simp only [Act.put, List.setIfInBounds_toArray, List.set_cons_zero, List.set_cons_succ]
        refine wpAnyH_take (i := 5) (v := ?_) (by simp; rfl) (by kernel_rfl) (by kernel_rfl) (by kernel_rfl) (by exact fun _ _ _ h => h) (Or.inl ⟨by rfl, fun wx hSx => ?_⟩) hHeld ?_
        rotate_left
        · clear hSx; go_simp; (try with_reducible rfl)
        simp only [Act.put, List.setIfInBounds_toArray, List.set_cons_zero, List.set_cons_succ]
        refine wpAnyH_take (i := 6) (v := ?_) (by simp; rfl) (by kernel_rfl) (by kernel_rfl) (by kernel_rfl) (by exact fun _ _ _ h => h) (Or.inl ⟨by rfl, fun wx hSx => ?_⟩) hHeld ?_
        rotate_left
        · clear hSx; go_simp; (try with_reducible rfl)
        simp only [Act.put, List.setIfInBounds_toArray, List.set_cons_zero, List.set_cons_succ]
        refine wpAnyH_take (i := 7) (v := ?_) (by simp; rfl) (by kernel_rfl) (by kernel_rfl) (by kernel_rfl) (by exact fun _ _ _ h => h) (Or.inl ⟨by rfl, fun wx hSx => ?_⟩) hHeld ?_
        rotate_left
        · clear hSx; go_simp; (try with_reducible rfl)
        simp only [Act.put, List.setIfInBounds_toArray, List.set_cons_zero, List.set_cons_succ]
        refine wpAnyH_take (i := 8) (v := ?_) (by simp; rfl) (by kernel_rfl) (by kernel_rfl) (by kernel_rfl) (by exact fun _ _ _ h => h) (Or.inl ⟨by rfl, fun wx hSx => ?_⟩) hHeld ?_
        rotate_left
        · have hc := (hSx.cell (p := ⟨bl, off, none⟩) hbl).trans HC0.out; clear hSx; go_simp; (try with_reducible rfl)
        simp only [Act.put, List.setIfInBounds_toArray, List.set_cons_zero, List.set_cons_succ]
        refine wpAnyH_take (i := 9) (v := ?_) (by simp; rfl) (by kernel_rfl) (by kernel_rfl) (by kernel_rfl) (by exact fun _ _ _ h => h) (Or.inl ⟨by rfl, fun wx hSx => ?_⟩) hHeld ?_
        rotate_left
        · clear hSx; go_simp; (try with_reducible rfl)
        simp only [Act.put, List.setIfInBounds_toArray, List.set_cons_zero, List.set_cons_succ]
        refine wpAnyH_take (i := 10) (v := ?_) (by simp; rfl) (by kernel_rfl) (by kernel_rfl) (by kernel_rfl) (by exact fun _ _ _ h => h) (Or.inl ⟨by rfl, fun wx hSx => ?_⟩) hHeld ?_
        rotate_left
        · clear hSx; go_simp; (try with_reducible rfl)
        simp only [Act.put, List.setIfInBounds_toArray, List.set_cons_zero, List.set_cons_succ]
        refine wpAnyH_take (i := 11) (v := ?_) (by simp; rfl) (by kernel_rfl) (by kernel_rfl) (by kernel_rfl) (by exact fun _ _ _ h => h) (Or.inl ⟨by rfl, fun wx hSx => ?_⟩) hHeld ?_
        rotate_left
        · clear hSx; go_simp; (try with_reducible rfl)
        simp only [Act.put, List.setIfInBounds_toArray, List.set_cons_zero, List.set_cons_succ]
        refine wpAnyH_ready (rs := [12]) (by kernel_rfl) (by simp) ?_
        refine AllReadyH.cons (by simp; rfl) (fun K0 hK0 => ?_) AllReadyH.nil
        go_simp
        refine hK0.out _ _ (hHeld.alloc hHeld.size _) (fun hHeld => ?_)
        clear hK0 K0
        refine wpAnyH_ready (rs := [13]) (by kernel_rfl) (by simp) ?_
        refine AllReadyH.cons (by simp; rfl) (fun K0 hK0 => ?_) AllReadyH.nil
        refine step_app rfl (.tmp 54) (.tmp 66) _ rfl _ _ rfl rfl HRUN.out ?_
        simp only [Act.put, List.setIfInBounds_toArray, List.set_cons_zero, List.set_cons_succ]
        refine hK0.out _ _ HO4.out.below (fun hHeld => ?_)
        clear hK0 K0
        refine wpAnyH_take (i := 14) (v := ?_) (by simp; rfl) (by kernel_rfl) (by kernel_rfl) (by kernel_rfl) (by exact fun _ _ _ h => h) (Or.inl ⟨by rfl, fun wx hSx => ?_⟩) hHeld ?_
        rotate_left
        · clear hSx; go_simp; (try with_reducible rfl)
        simp only [Act.put, List.setIfInBounds_toArray, List.set_cons_zero, List.set_cons_succ]
        refine wpAnyH_done (by kernel_rfl) ?_ _
        clear HC0 hHeld HRUN HBW ax p0 p1 hy1 m1 v1
        go_wp2
        go_ret
        exact ⟨rfl, HO4.out.below⟩
      · obtain ⟨p, q, hp⟩ : ∃ p q, bs.drop a = [p, q] := two_of hdl
        obtain ⟨bl, off, rfl, hbl, hc⟩ := HW.out.rest (by rw [hdl]; omega)
        have c0 := hc 0 (by rw [hdl]; omega)
        have c1 := hc 1 (by rw [hdl]; omega)
        rw [hp, Nat.add_zero] at c0
        rw [hp] at c1
        have c0 : w.cell? ⟨bl, off, none⟩ = some (.int .u8 p) := c0
        have c1 : w.cell? ⟨bl, off + 1, none⟩ = some (.int .u8 q) := c1
        obtain ⟨p0, p1⟩ := HB.out p (List.mem_of_mem_drop (by rw [hp]; simp))
        obtain ⟨q0, q1⟩ := HB.out q (List.mem_of_mem_drop (by rw [hp]; simp))
        rw [hp, show writeS [p, q] = [lett (p / 4), lett (p % 4 * 16 + q / 16), lett (q % 16 * 4), 61] from rfl] at hwe
        have HC0 := Lib.hid c0
        have HC1 := Lib.hid c1
        obtain ⟨y1, hy1⟩ : ∃ y : Nat, p / 4 = y := ⟨(p / 4).toNat, by omega⟩
        obtain ⟨y2, hy2⟩ : ∃ y : Nat, p % 4 * 16 + q / 16 = y := ⟨(p % 4 * 16 + q / 16).toNat, by omega⟩
        obtain ⟨y3, hy3⟩ : ∃ y : Nat, q % 16 * 4 = y := ⟨(q % 16 * 4).toNat, by omega⟩
        have l1 : y1 < 64 := by omega
        have l2 : y2 < 64 := by omega
        have l3 : y3 < 64 := by omega
        have b1 : (y1 : Int) < 64 := by omega
        have b2 : (y2 : Int) < 64 := by omega
        have b3 : (y3 : Int) < 64 := by omega
        have m1 : bits .and .u8 p 3 = p % 4 := bits_mask .u8 8 (by decide) wraps_u8 2 (by decide) p p0 p1
        have m2 : bits .and .u8 q 15 = q % 16 := bits_mask .u8 8 (by decide) wraps_u8 4 (by decide) q q0 q1
        have v1 : IntKind.u8.wrap (p % 4 * 16) = p % 4 * 16 := wraps_u8 _ (by omega) (by omega)
        have v2 : IntKind.u8.wrap (q % 16 * 4) = (y3 : Int) := (wraps_u8 _ (by omega) (by omega)).trans hy3
        have o1 : bits .or .u8 (p % 4 * 16) (q / 16) = (y2 : Int) := (bits_join .u8 8 (by decide) wraps_u8 4 _ _ (by omega) (by omega) (by omega) (by omega) (by omega) (by omega)).trans hy2
        rw [hy1, hy2, hy3] at hwe
        obtain ⟨A4, n4, c4, w4, hrun, hO4⟩ := (HW.out.own.to (Below.refl _ _).drew).appL [lett y1, lett y2, lett y3, 61] 4 rfl (by omega)
        rw [← hwe] at hO4
        have HRUN := Lib.hid hrun
        have hcv := conv_nums hO4.ri.2.symm c4 hO4.ri.1
        have HO4 := Lib.hid hO4
        have ax := alpha_ix
        have g4 : (1 : Int) < ((2 : Nat) : Int) := by omega
        clear HW hc c0 c1 hp hwe hwl hwl2 hrun hO4 hdl h3 hy2 hy3
        go_upto_region 9 with fail
        refine wp_region_held_drew (S := fun W => Below w.heap.size w W) (by kernel_rfl) HBW.out.drew (fun hHeld => ?_)
        refine wpAnyH_take (i := 0) (v := ?_) (by simp; rfl) (by kernel_rfl) (by kernel_rfl) (by kernel_rfl) (by exact fun _ _ _ h => h) (Or.inl ⟨by rfl, fun wx hSx => ?_⟩) hHeld ?_
        rotate_left
        · clear hSx; go_simp; (try with_reducible rfl)
        simp only [Act.put, List.setIfInBounds_toArray, List.set_cons_zero, List.set_cons_succ]
        refine wpAnyH_take (i := 1) (v := ?_) (by simp; rfl) (by kernel_rfl) (by kernel_rfl) (by kernel_rfl) (by exact fun _ _ _ h => h) (Or.inl ⟨by rfl, fun wx hSx => ?_⟩) hHeld ?_
        rotate_left
        · clear hSx; go_simp; (try with_reducible rfl)
        simp only [Act.put, List.setIfInBounds_toArray, List.set_cons_zero, List.set_cons_succ]
        refine wpAnyH_take (i := 2) (v := ?_) (by simp; rfl) (by kernel_rfl) (by kernel_rfl) (by kernel_rfl) (by exact fun _ _ _ h => h) (Or.inl ⟨by rfl, fun wx hSx => ?_⟩) hHeld ?_
        rotate_left
        · clear hSx; go_simp; (try with_reducible rfl)
        simp only [Act.put, List.setIfInBounds_toArray, List.set_cons_zero, List.set_cons_succ]
        refine wpAnyH_take (i := 3) (v := ?_) (by simp; rfl) (by kernel_rfl) (by kernel_rfl) (by kernel_rfl) (by exact fun _ _ _ h => h) (Or.inl ⟨by rfl, fun wx hSx => ?_⟩) hHeld ?_
        rotate_left
        · have hc := (hSx.cell (p := ⟨bl, off, none⟩) hbl).trans HC0.out; clear hSx; go_simp; (try with_reducible rfl)
        simp only [Act.put, List.setIfInBounds_toArray, List.set_cons_zero, List.set_cons_succ]
        refine wpAnyH_take (i := 4) (v := ?_) (by simp; rfl) (by kernel_rfl) (by kernel_rfl) (by kernel_rfl) (by exact fun _ _ _ h => h) (Or.inl ⟨by rfl, fun wx hSx => ?_⟩) hHeld ?_
        rotate_left
        · clear hSx; go_simp; (try with_reducible rfl)
        simp only [Act.put, List.setIfInBounds_toArray, List.set_cons_zero, List.set_cons_succ]
        refine wpAnyH_take (i := 5) (v := ?_) (by simp; rfl) (by kernel_rfl) (by kernel_rfl) (by kernel_rfl) (by exact fun _ _ _ h => h) (Or.inl ⟨by rfl, fun wx hSx => ?_⟩) hHeld ?_
        rotate_left
        · clear hSx; go_simp; (try with_reducible rfl)
        simp only [Act.put, List.setIfInBounds_toArray, List.set_cons_zero, List.set_cons_succ]
        refine wpAnyH_take (i := 6) (v := ?_) (by simp; rfl) (by kernel_rfl) (by kernel_rfl) (by kernel_rfl) (by exact fun _ _ _ h => h) (Or.inl ⟨by rfl, fun wx hSx => ?_⟩) hHeld ?_
        rotate_left
        · clear hSx; go_simp; (try with_reducible rfl)
        simp only [Act.put, List.setIfInBounds_toArray, List.set_cons_zero, List.set_cons_succ]
        refine wpAnyH_take (i := 7) (v := ?_) (by simp; rfl) (by kernel_rfl) (by kernel_rfl) (by kernel_rfl) (by exact fun _ _ _ h => h) (Or.inl ⟨by rfl, fun wx hSx => ?_⟩) hHeld ?_
        rotate_left
        · clear hSx; go_simp; (try with_reducible rfl)
        simp only [Act.put, List.setIfInBounds_toArray, List.set_cons_zero, List.set_cons_succ]
        refine wpAnyH_take (i := 8) (v := ?_) (by simp; rfl) (by kernel_rfl) (by kernel_rfl) (by kernel_rfl) (by exact fun _ _ _ h => h) (Or.inl ⟨by rfl, fun wx hSx => ?_⟩) hHeld ?_
        rotate_left
        · have hc := (hSx.cell (p := ⟨bl, off, none⟩) hbl).trans HC0.out; clear hSx; go_simp; (try with_reducible rfl)
        simp only [Act.put, List.setIfInBounds_toArray, List.set_cons_zero, List.set_cons_succ]
        refine wpAnyH_take (i := 9) (v := ?_) (by simp; rfl) (by kernel_rfl) (by kernel_rfl) (by kernel_rfl) (by exact fun _ _ _ h => h) (Or.inl ⟨by rfl, fun wx hSx => ?_⟩) hHeld ?_
        rotate_left
        · clear hSx; go_simp; (try with_reducible rfl)
        simp only [Act.put, List.setIfInBounds_toArray, List.set_cons_zero, List.set_cons_succ]
        refine wpAnyH_take (i := 10) (v := ?_) (by simp; rfl) (by kernel_rfl) (by kernel_rfl) (by kernel_rfl) (by exact fun _ _ _ h => h) (Or.inl ⟨by rfl, fun wx hSx => ?_⟩) hHeld ?_
        rotate_left
        · clear hSx; go_simp; (try with_reducible rfl)
        simp only [Act.put, List.setIfInBounds_toArray, List.set_cons_zero, List.set_cons_succ]
        refine wpAnyH_take (i := 11) (v := ?_) (by simp; rfl) (by kernel_rfl) (by kernel_rfl) (by kernel_rfl) (by exact fun _ _ _ h => h) (Or.inl ⟨by rfl, fun wx hSx => ?_⟩) hHeld ?_
        rotate_left
        · clear hSx; go_simp; (try with_reducible rfl)
        simp only [Act.put, List.setIfInBounds_toArray, List.set_cons_zero, List.set_cons_succ]
        refine wpAnyH_take (i := 12) (v := ?_) (by simp; rfl) (by kernel_rfl) (by kernel_rfl) (by kernel_rfl) (by exact fun _ _ _ h => h) (Or.inl ⟨by rfl, fun wx hSx => ?_⟩) hHeld ?_
        rotate_left
        · clear hSx; go_simp; (try with_reducible rfl)
        simp only [Act.put, List.setIfInBounds_toArray, List.set_cons_zero, List.set_cons_succ]
        refine wpAnyH_take (i := 13) (v := ?_) (by simp; rfl) (by kernel_rfl) (by kernel_rfl) (by kernel_rfl) (by exact fun _ _ _ h => h) (Or.inl ⟨by rfl, fun wx hSx => ?_⟩) hHeld ?_
        rotate_left
        · have hc := (hSx.cell (p := ⟨bl, off + 1, none⟩) hbl).trans HC1.out; clear hSx; go_simp; (try with_reducible rfl)
        simp only [Act.put, List.setIfInBounds_toArray, List.set_cons_zero, List.set_cons_succ]
        refine wpAnyH_take (i := 14) (v := ?_) (by simp; rfl) (by kernel_rfl) (by kernel_rfl) (by kernel_rfl) (by exact fun _ _ _ h => h) (Or.inl ⟨by rfl, fun wx hSx => ?_⟩) hHeld ?_
        rotate_left
        · clear hSx; go_simp; (try with_reducible rfl)
        simp only [Act.put, List.setIfInBounds_toArray, List.set_cons_zero, List.set_cons_succ]
        refine wpAnyH_take (i := 15) (v := ?_) (by simp; rfl) (by kernel_rfl) (by kernel_rfl) (by kernel_rfl) (by exact fun _ _ _ h => h) (Or.inl ⟨by rfl, fun wx hSx => ?_⟩) hHeld ?_
        rotate_left
        · clear hSx; go_simp; (try with_reducible rfl)
        simp only [Act.put, List.setIfInBounds_toArray, List.set_cons_zero, List.set_cons_succ]
        refine wpAnyH_take (i := 16) (v := ?_) (by simp; rfl) (by kernel_rfl) (by kernel_rfl) (by kernel_rfl) (by exact fun _ _ _ h => h) (Or.inl ⟨by rfl, fun wx hSx => ?_⟩) hHeld ?_
        rotate_left
        · clear hSx; go_simp; (try with_reducible rfl)
        simp only [Act.put, List.setIfInBounds_toArray, List.set_cons_zero, List.set_cons_succ]
        refine wpAnyH_take (i := 17) (v := ?_) (by simp; rfl) (by kernel_rfl) (by kernel_rfl) (by kernel_rfl) (by exact fun _ _ _ h => h) (Or.inl ⟨by rfl, fun wx hSx => ?_⟩) hHeld ?_
        rotate_left
        · clear hSx; go_simp; (try with_reducible rfl)
        simp only [Act.put, List.setIfInBounds_toArray, List.set_cons_zero, List.set_cons_succ]
        refine wpAnyH_take (i := 18) (v := ?_) (by simp; rfl) (by kernel_rfl) (by kernel_rfl) (by kernel_rfl) (by exact fun _ _ _ h => h) (Or.inl ⟨by rfl, fun wx hSx => ?_⟩) hHeld ?_
        rotate_left
        · clear hSx; go_simp; (try with_reducible rfl)
        simp only [Act.put, List.setIfInBounds_toArray, List.set_cons_zero, List.set_cons_succ]
        refine wpAnyH_take (i := 19) (v := ?_) (by simp; rfl) (by kernel_rfl) (by kernel_rfl) (by kernel_rfl) (by exact fun _ _ _ h => h) (Or.inl ⟨by rfl, fun wx hSx => ?_⟩) hHeld ?_
        rotate_left
        · have hc := (hSx.cell (p := ⟨bl, off + 1, none⟩) hbl).trans HC1.out; clear hSx; go_simp; (try with_reducible rfl)
        simp only [Act.put, List.setIfInBounds_toArray, List.set_cons_zero, List.set_cons_succ]
        refine wpAnyH_take (i := 20) (v := ?_) (by simp; rfl) (by kernel_rfl) (by kernel_rfl) (by kernel_rfl) (by exact fun _ _ _ h => h) (Or.inl ⟨by rfl, fun wx hSx => ?_⟩) hHeld ?_
        rotate_left
        · clear hSx; go_simp; (try with_reducible rfl)
        simp only [Act.put, List.setIfInBounds_toArray, List.set_cons_zero, List.set_cons_succ]
        refine wpAnyH_take (i := 21) (v := ?_) (by simp; rfl) (by kernel_rfl) (by kernel_rfl) (by kernel_rfl) (by exact fun _ _ _ h => h) (Or.inl ⟨by rfl, fun wx hSx => ?_⟩) hHeld ?_
        rotate_left
        · clear hSx; go_simp; (try with_reducible rfl)
        simp only [Act.put, List.setIfInBounds_toArray, List.set_cons_zero, List.set_cons_succ]
        refine wpAnyH_take (i := 22) (v := ?_) (by simp; rfl) (by kernel_rfl) (by kernel_rfl) (by kernel_rfl) (by exact fun _ _ _ h => h) (Or.inl ⟨by rfl, fun wx hSx => ?_⟩) hHeld ?_
        rotate_left
        · clear hSx; go_simp; (try with_reducible rfl)
        simp only [Act.put, List.setIfInBounds_toArray, List.set_cons_zero, List.set_cons_succ]
        refine wpAnyH_ready (rs := [23]) (by kernel_rfl) (by simp) ?_
        refine AllReadyH.cons (by simp; rfl) (fun K0 hK0 => ?_) AllReadyH.nil
        go_simp
        refine hK0.out _ _ (hHeld.alloc hHeld.size _) (fun hHeld => ?_)
        clear hK0 K0
        refine wpAnyH_ready (rs := [24]) (by kernel_rfl) (by simp) ?_
        refine AllReadyH.cons (by simp; rfl) (fun K0 hK0 => ?_) AllReadyH.nil
        refine step_app rfl (.tmp 70) (.tmp 93) _ rfl _ _ rfl rfl HRUN.out ?_
        simp only [Act.put, List.setIfInBounds_toArray, List.set_cons_zero, List.set_cons_succ]
        refine hK0.out _ _ HO4.out.below (fun hHeld => ?_)
        clear hK0 K0
        refine wpAnyH_take (i := 25) (v := ?_) (by simp; rfl) (by kernel_rfl) (by kernel_rfl) (by kernel_rfl) (by exact fun _ _ _ h => h) (Or.inl ⟨by rfl, fun wx hSx => ?_⟩) hHeld ?_
        rotate_left
        · clear hSx; go_simp; (try with_reducible rfl)
        simp only [Act.put, List.setIfInBounds_toArray, List.set_cons_zero, List.set_cons_succ]
        refine wpAnyH_done (by kernel_rfl) ?_ _
        clear HC0 HC1 hHeld HRUN HBW ax p0 p1 q0 q1 hy1 m1 m2 v1 v2 o1
        go_wp2
        go_ret
        exact ⟨rfl, HO4.out.below⟩
end Go.Proofs.Ytmpmlmhphnpdlaa
