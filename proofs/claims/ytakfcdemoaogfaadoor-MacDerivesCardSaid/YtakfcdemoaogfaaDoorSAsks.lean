/-
  Proved here, where the table of constants is as the program lays it: ShaAsks returns true at every slice of slices that reads as rows of bytes, and nothing that was there is changed.
-/
import Derived.Test.YtakfcdemoaogfaaDoorSAlive
import Derived.Deep.RegionHeld
namespace Go.Proofs.YtakfcdemoaogfaaDoor
open Go.RowKit
theorem exec_load_row {P : Program} {o : Oper} {a : Act} {w : World} (ty : TypeId) (x : Operand) (ho : o.op = .load ty x)
    (g : Nat) (hx : a.eval x = .pointer (some ⟨g, 0, none⟩)) (t : TypeId) (cs : Array Value) (fr : Nat × Nat) (d : TypeDesc) (hg : w.heap[g]? = some (.cells cs t fr))
    (hu : P.underlying ty = some d) (hd : (match d with | .struct _ | .array _ _ => true | _ => false) = true) (hi : (P.info? ty).map (·.size) = some cs.size) :
    (execOp a.eval o).run P w = .ok (.value (.agg cs)) w := by
  unfold execOp
  simp only [ho, hx, Instr.loadAt, Instr.sureAddr, Sem.run_bind, Sem.run_pure, Result.andThen_ok, run_loadVar_row w g t ty cs fr d hg hu hd hi]
theorem RS.take {w : World} {A : Option Addr} {ps : List (List Nat)} (h : RS w A ps) (k : Nat) : RS w A (ps.take k) := fun hl => by
  simp at hl
  obtain ⟨b, off, e, hlt, hc⟩ := h (by omega)
  refine ⟨b, off, e, hlt, fun i hi => ?_⟩
  have hi' : i < k ∧ i < ps.length := by simp at hi; omega
  have he : (ps.take k).getD i [] = ps.getD i [] := by simp [List.getD_eq_getElem?_getD, hi'.1]
  rw [he]
  exact hc i hi'.2
def ZL : Array Value := #[.int .u8 0, .int .u8 0, .int .u8 0, .int .u8 0, .int .u8 0, .int .u8 0, .int .u8 0, .int .u8 0, .int .u8 0, .int .u8 0, .int .u8 0, .int .u8 0, .int .u8 0, .int .u8 0, .int .u8 0, .int .u8 0, .int .u8 0, .int .u8 0, .int .u8 0, .int .u8 0, .int .u8 0, .int .u8 0, .int .u8 0, .int .u8 0, .int .u8 0, .int .u8 0, .int .u8 0, .int .u8 0, .int .u8 0, .int .u8 0, .int .u8 0, .int .u8 0]
theorem IsSha.drew {w : World} {g : Nat} {bs : List Nat} (h : IsSha w g bs) : IsSha w.drew g bs := by
  obtain ⟨s, rest, n, hH, hO⟩ := h
  exact ⟨s, rest, n, ⟨hH.len, hH.blk⟩, hO⟩
/-- What there is when the answers are compared. -/
structure QK (w : World) (ps : List (List Nat)) (k : Nat) (r X : List Nat) (ga gb : Nat) (U : World) : Prop where
  sha : IsSha U w.heap.size r
  below : Below w.heap.size w U
  first : U.heap[ga]? = some (.cells (V8 X).toArray 29 (0, 0))
  second : U.heap[gb]? = some (.cells (V8 X).toArray 29 (0, 0))
  size : gb + 1 ≤ U.heap.size
theorem of_any_n (ps : List (List Nat)) (n : Nat) (hl : ps.length = n) (A : Option Addr) (cap : Nat) (w : World) (hR : RS w A ps) (hcap : n ≤ cap) (hm : cap ≤ maxLen) (hT : Tab w) (hn : ps.flatten.length < 1152921504606846000) :
    Calls Tryd.prog 14 #[.slice A n cap] w fun e w' => e = .returned (.agg (V8 (sumS ps.flatten)).toArray) ∧ Below w.heap.size w w' := by
  subst hl
  exact of_any ps A cap w hR hcap hm hT hn
theorem sha_to {w w' : World} {g : Nat} {bs : List Nat} (h : IsSha w g bs) (hb : Below w.heap.size w w') (hg : g < w.heap.size) : IsSha w' g bs := by
  obtain ⟨s, rest, n, hH, hO⟩ := h
  exact ⟨s, rest, n, ⟨hH.len, (hb.block g hg).trans hH.blk⟩, hO⟩
/-- Behind k of them. -/
structure AK (w : World) (ps : List (List Nat)) (k : Nat) (wr : World) : Prop where
  sha : IsSha wr w.heap.size (ps.take k).flatten
  below : Below w.heap.size w wr
  size : w.heap.size + 1 ≤ wr.heap.size
  small : (ps.take k).flatten.length ≤ 500 * k
abbrev Ok (w : World) (e : Ending) (w' : World) : Prop := e = .returned (.bool true) ∧ Below w.heap.size w w'

theorem asks_long (A : Option Addr) (len cap : Nat) (w : World) (hT : Tab w) (h : 20 < len) : Calls Tryd.prog 5 #[.slice A len cap] w (Ok w) := by
  have hd : decide (20 < len) = true := by simpa using h
  go_enter Tryd.func5, Tryd.ntmps5
  go_wp2_with fail
  refine (alive_any _ hT).mono ?_
  rintro e w1 ⟨rfl, hb⟩
  go_wp2
  go_ret
  exact ⟨rfl, hb⟩

set_option maxRecDepth 100000 in
set_option maxHeartbeats 1500000 in
theorem asks_short (ps : List (List Nat)) (A : Option Addr) (cap : Nat) (w : World) (hT : Tab w) (hR : RS w A ps) (hcap : ps.length ≤ cap) (hm : cap ≤ maxLen) (h : ps.length ≤ 20) : Calls Tryd.prog 5 #[.slice A ps.length cap] w (Ok w) := by
  have hm' := hm
  unfold maxLen at hm'
  have HR := Lib.hid hR
  have HT := Lib.hid hT
  have HM := Lib.hid hm
  have hbig := hT.big
  have HBIG := Lib.hid hbig
  clear hR hT hm hbig
  go_enter Tryd.func5, Tryd.ntmps5
  go_wp2_with fail
  refine (new_any _).mono ?_
  rintro e w1 ⟨rfl, hs1, hz1, hb1⟩
  have H0 := Lib.hid (show AK w ps 0 w1 from ⟨by simpa using hs1, hb1, by omega, by simp⟩)
  clear hs1 hz1 hb1
  go_wp2
  go_loopw [4, 5] (fun n i wr => ∃ k : Nat, k ≤ ps.length ∧ i = .int .i64 k ∧ n = .int .i64 ((ps.take k).flatten.length : Int) ∧ Hid (AK w ps k wr)) (fun _ i _ => ps.length - (intOf i).toNat)
  case atStart => exact ⟨0, by omega, rfl, rfl, H0⟩
  case round =>
    obtain ⟨k, hk, rfl, rfl, HK⟩ := hrel
    by_cases hlt : k < ps.length
    · obtain ⟨b, off, rfl, hbl, hc⟩ := HR.out (by omega)
      obtain ⟨A', c', hc1, hr1, hl1, hm1⟩ := hc k hlt
      clear hc
      have hcw : wr.cell? ⟨b, off + k, none⟩ = some (.slice A' (ps.getD k []).length c') := (HK.out.below.cell (p := ⟨b, off + k, none⟩) hbl).trans hc1
      obtain ⟨p, hp⟩ : ∃ p, ps.getD k [] = p := ⟨_, rfl⟩
      rw [hp] at hcw hr1 hl1 hc1
      have HP := Lib.hid (show (ps.take (k + 1)).flatten = (ps.take k).flatten ++ p by rw [← hp]; exact len_flat ps k hlt)
      have HC1 := Lib.hid hc1
      have HR1 := Lib.hid hr1
      have HL1 := Lib.hid (And.intro hl1 hm1)
      clear hc1 hr1 hl1 hm1 hp
      by_cases hbig : 500 < p.length
      · have hd : decide (500 < p.length) = true := by simpa using hbig
        go_wp2_with fail
        refine (alive_any _ (HT.out.to HK.out.below)).mono ?_
        rintro e w2 ⟨rfl, hb2⟩
        go_wp2
        go_ret
        exact ⟨rfl, HK.out.below.trans (hb2.mono HK.out.below.size)⟩
      · have hd : decide (500 < p.length) = false := by simpa using hbig
        obtain ⟨q, hq⟩ : ∃ q, (ps.take k).flatten = q := ⟨_, rfl⟩
        have hql : q.length ≤ 500 * k := by rw [← hq]; exact HK.out.small
        rw [hq]
        have HQ := Lib.hid hq
        have hSq : IsSha wr w.heap.size q := by rw [← hq]; exact HK.out.sha
        clear hq
        have HX := Lib.hid (add_any q p w.heap.size A' c' wr hSq (HR1.out.rd HK.out.below (by omega)) HL1.out.1 HL1.out.2 (HT.out.to HK.out.below) HBIG.out (by omega))
        clear hSq
        go_wp2_with fail
        refine HX.out.mono ?_
        rintro e w2 ⟨rfl, hS2, hO2⟩
        have hz := HK.out.size
        have B2 : Below w.heap.size w w2 := hO2.below HK.out.below (by omega) (by omega)
        have hcw2 : w2.cell? ⟨b, off + k, none⟩ = some (.slice A' p.length c') := (B2.cell (p := ⟨b, off + k, none⟩) hbl).trans HC1.out
        have hz2 : w.heap.size + 1 ≤ w2.heap.size := Nat.le_trans hz hO2.size
        have HS2 := Lib.hid hS2
        have HB2 := Lib.hid B2
        obtain ⟨r, hr⟩ : ∃ r, q ++ p = r := ⟨_, rfl⟩
        rw [hr] at HS2
        have hrl : q.length + p.length = r.length := by rw [← hr]; simp
        have hrb : r.length ≤ 500 * k + 500 := by omega
        have HRR := Lib.hid (And.intro hr hrl)
        have hrli : (q.length : Int) + (p.length : Int) = (r.length : Int) := by omega
        clear hS2 hO2 B2 HX hcw HK hz hr hrl
        go_wp2_with fail
        refine (sum_any r w.heap.size w2 HS2.out (HT.out.to HB2.out) (by omega)).mono ?_
        rintro e w3 ⟨rfl, hb3⟩
        clear hrli
        obtain ⟨X, hX⟩ : ∃ X, sumS r = X := ⟨_, rfl⟩
        rw [hX]
        have hXl : X.length = 32 := by rw [← hX]; exact length_sumS r
        have HXX := Lib.hid (And.intro hX hXl)
        have HS := Lib.hid (show (Tryd.prog.info? 29).map (·.size) = some (V8 X).toArray.size by rw [List.size_toArray, length_V8, hXl]; exact info29)
        have HE := Lib.hid (show (V8 Z32).toArray.size = (V8 X).toArray.size by simp [hXl, Z32])
        have HA := Lib.hid (show (V8 X).toArray.all (·.oneCell') = true by simpa using one_V8 X)
        clear hX hXl hcw2
        have HS3 := Lib.hid (show IsSha w3 w.heap.size r from sha_to HS2.out hb3 (by omega))
        have HB3 := Lib.hid (show Below w.heap.size w w3 from HB2.out.trans (hb3.mono (by omega)))
        have hz3 : w.heap.size + 1 ≤ w3.heap.size := Nat.le_trans hz2 hb3.size
        clear hb3 HS2 HB2 hz2
        go_wp2_with (refine wpList_store_row rfl 29 _ _ rfl w3.heap.size (V8 X).toArray rfl rfl 29 (V8 Z32).toArray (heap_alloc_new _ _) HS.out HE.out HA.out ?_)
        have hbU : ∀ (o : Obj) (cs : Array Value), Below w3.heap.size w3 ((w3.alloc o).setRow w3.heap.size cs) := fun o cs => below_setRow ((Below.refl _ _).alloc (Nat.le_refl _) _) (Nat.le_refl _) _
        refine (add_any r [] w.heap.size none 0 _ (sha_to HS3.out (hbU _ _) (by omega)) (fun hp => by simp at hp) (Nat.le_refl _) (by unfold maxLen; omega) (HT.out.to (HB3.out.trans ((hbU _ _).mono (by omega)))) HBIG.out (by simp; omega)).mono ?_
        rintro e w4 ⟨rfl, hS4, hO4⟩
        rw [List.append_nil] at hS4
        have HG4 := Lib.hid (show w4.heap[w3.heap.size]? = some (.cells (V8 X).toArray 29 (0, 0)) from (hO4.block _ (by simp) (by omega)).trans (setRow_heap _ _ _ _ _ _ (heap_alloc_new _ (.cells (V8 Z32).toArray 29))))
        have HB4 := Lib.hid (show Below w.heap.size w w4 from hO4.below (HB3.out.trans ((hbU _ _).mono (by omega))) (Nat.le_refl _) (by simp; omega))
        have hz4 : w3.heap.size + 1 ≤ w4.heap.size := by have := hO4.size; simp at this; omega
        have HS4 := Lib.hid hS4
        clear hS4 hO4 hbU HS3 HB3
        obtain ⟨ga, hga⟩ : ∃ ga, w3.heap.size = ga := ⟨_, rfl⟩
        rw [hga] at hz3 hz4 HG4 ⊢
        clear hga
        go_wp2_with fail
        refine (sum_any r w.heap.size w4 HS4.out (HT.out.to HB4.out) (by omega)).mono ?_
        rintro e w5 ⟨rfl, hb5⟩
        rw [HXX.out.1]
        have HS5 := Lib.hid (show IsSha w5 w.heap.size r from sha_to HS4.out hb5 (by omega))
        have HB5 := Lib.hid (show Below w.heap.size w w5 from HB4.out.trans (hb5.mono (by omega)))
        have HG5 := Lib.hid (show w5.heap[ga]? = some (.cells (V8 X).toArray 29 (0, 0)) from (hb5.block _ (by omega)).trans HG4.out)
        have hz5 : ga + 1 ≤ w5.heap.size := Nat.le_trans hz4 hb5.size
        clear hb5 HS4 HB4 HG4 hz4
        go_wp2_with (refine wpList_store_row rfl 29 _ _ rfl w5.heap.size (V8 X).toArray rfl rfl 29 (V8 Z32).toArray (heap_alloc_new _ _) HS.out HE.out HA.out ?_)
        have hbU : ∀ (o : Obj) (cs : Array Value), Below w5.heap.size w5 ((w5.alloc o).setRow w5.heap.size cs) := fun o cs => below_setRow ((Below.refl _ _).alloc (Nat.le_refl _) _) (Nat.le_refl _) _
        obtain ⟨U, hU, HR6⟩ : ∃ U : World, U = (w5.alloc (.cells ZL 29)).setRow w5.heap.size (V8 X).toArray ∧ Hid (QK w ps k r X ga w5.heap.size U) := ⟨_, rfl, Lib.hid ⟨sha_to HS5.out (hbU _ _) (by omega), HB5.out.trans ((hbU _ _).mono (by omega)), ((hbU _ _).block _ (by omega)).trans HG5.out, setRow_heap _ _ _ _ _ _ (heap_alloc_new _ _), by simp⟩⟩
        unfold ZL at hU
        rw [← hU]
        clear hU hbU HS5 HB5 HG5
        obtain ⟨gb, hgb⟩ : ∃ gb, w5.heap.size = gb := ⟨_, rfl⟩
        rw [hgb] at HR6 hz5 ⊢
        clear hgb
        have heq := eqSum X X HXX.out.2 HXX.out.2
        rw [show (X == X) = true by simp] at heq
        have hk0 : 0 ≤ (k : Int) + 1 := by omega
        have hkc : (k : Int) + 1 ≤ (cap : Int) := by omega
        have s1 : IntKind.i64.wrap ((k : Int) + 1) = (k : Int) + 1 := IntWalk.i64_in _ (by omega)
        have hHeld0 : U.drew.heap[ga]? = some (.cells (V8 X).toArray 29 (0, 0)) ∧ U.drew.heap[gb]? = some (.cells (V8 X).toArray 29 (0, 0)) := ⟨HR6.out.first, HR6.out.second⟩
        refine wp_region_held_drew (S := fun w' => w'.heap[ga]? = some (.cells (V8 X).toArray 29 (0, 0)) ∧ w'.heap[gb]? = some (.cells (V8 X).toArray 29 (0, 0))) (by kernel_rfl) hHeld0 (fun hHeld => ?_)
        clear hHeld0
        refine wpAnyH_take (i := 0) (v := ?_) (by simp; rfl) (by kernel_rfl) (by kernel_rfl) (by kernel_rfl) (by exact fun _ _ _ h => h) (Or.inl ⟨by rfl, fun wx hSx => ?_⟩) hHeld ?_
        rotate_left
        · clear hSx; go_simp; (try with_reducible rfl)
        simp only [Act.put, List.setIfInBounds_toArray, List.set_cons_zero, List.set_cons_succ]
        refine wpAnyH_take (i := 1) (v := ?_) (by simp; rfl) (by kernel_rfl) (by kernel_rfl) (by kernel_rfl) (by exact fun _ _ _ h => h) (Or.inl ⟨by rfl, fun wx hSx => ?_⟩) hHeld ?_
        rotate_left
        · clear hSx; go_simp; (try with_reducible rfl)
        simp only [Act.put, List.setIfInBounds_toArray, List.set_cons_zero, List.set_cons_succ]
        refine wpAnyH_take (i := 2) (v := ?_) (by simp; rfl) (by kernel_rfl) (by kernel_rfl) (by kernel_rfl) (by exact fun _ _ _ h => h) (Or.inl ⟨by rfl, fun wx hSx => ?_⟩) hHeld ?_
        rotate_left
        · clear hSx; go_simp; (try with_reducible rfl)
        simp only [Act.put, List.setIfInBounds_toArray, List.set_cons_zero, List.set_cons_succ]
        refine wpAnyH_take (i := 3) (v := ?_) (by simp; rfl) (by kernel_rfl) (by kernel_rfl) (by kernel_rfl) (by exact fun _ _ _ h => h) (Or.inl ⟨by rfl, fun wx hSx => ?_⟩) hHeld ?_
        rotate_left
        · clear hSx; go_simp; (try with_reducible rfl)
        simp only [Act.put, List.setIfInBounds_toArray, List.set_cons_zero, List.set_cons_succ]
        refine wpAnyH_take (i := 4) (v := ?_) (by simp; rfl) (by kernel_rfl) (by kernel_rfl) (by kernel_rfl) (by exact fun _ _ _ h => h) (Or.inl ⟨by rfl, fun wx hSx => ?_⟩) hHeld ?_
        rotate_left
        · clear hSx; go_simp; (try with_reducible rfl)
        simp only [Act.put, List.setIfInBounds_toArray, List.set_cons_zero, List.set_cons_succ]
        refine wpAnyH_take (i := 5) (v := ?_) (by simp; rfl) (by kernel_rfl) (by kernel_rfl) (by kernel_rfl) (by exact fun _ _ _ h => h) (Or.inl ⟨by rfl, fun wx hSx => ?_⟩) hHeld ?_
        rotate_left
        · clear hSx; go_simp; (try with_reducible rfl)
        simp only [Act.put, List.setIfInBounds_toArray, List.set_cons_zero, List.set_cons_succ]
        refine wpAnyH_take (i := 6) (v := ?_) (by simp; rfl) (by kernel_rfl) (by kernel_rfl) (by kernel_rfl) (by exact fun _ _ _ h => h) (Or.inl ⟨by rfl, fun wx hSx => ?_⟩) hHeld ?_
        rotate_left
        · clear hSx; go_simp; (try with_reducible rfl)
        simp only [Act.put, List.setIfInBounds_toArray, List.set_cons_zero, List.set_cons_succ]
        refine wpAnyH_take (i := 7) (v := ?_) (by simp; rfl) (by kernel_rfl) (by kernel_rfl) (by kernel_rfl) (by exact fun _ _ _ h => h) (Or.inl ⟨by rfl, fun wx hSx => ?_⟩) hHeld ?_
        rotate_left
        · clear hSx; go_simp; (try with_reducible rfl)
        simp only [Act.put, List.setIfInBounds_toArray, List.set_cons_zero, List.set_cons_succ]
        refine wpAnyH_take (i := 8) (v := ?_) (by simp; rfl) (by kernel_rfl) (by kernel_rfl) (by kernel_rfl) (by exact fun _ _ _ h => h) (Or.inl ⟨by rfl, fun wx hSx => ?_⟩) hHeld ?_
        rotate_left
        · clear hSx; go_simp; (try with_reducible rfl)
        simp only [Act.put, List.setIfInBounds_toArray, List.set_cons_zero, List.set_cons_succ]
        refine wpAnyH_take (i := 9) (v := ?_) (by simp; rfl) (by kernel_rfl) (by kernel_rfl) (by kernel_rfl) (by exact fun _ _ _ h => h) (Or.inl ⟨by rfl, fun wx hSx => ?_⟩) hHeld ?_
        rotate_left
        · clear hSx; go_simp; (try with_reducible rfl)
        simp only [Act.put, List.setIfInBounds_toArray, List.set_cons_zero, List.set_cons_succ]
        refine wpAnyH_take (i := 10) (v := ?_) (by simp; rfl) (by kernel_rfl) (by kernel_rfl) (by kernel_rfl) (by exact fun _ _ _ h => h) (Or.inl ⟨by rfl, fun wx hSx => ?_⟩) hHeld ?_
        rotate_left
        · clear hSx; go_simp; (try with_reducible rfl)
        simp only [Act.put, List.setIfInBounds_toArray, List.set_cons_zero, List.set_cons_succ]
        refine wpAnyH_take (i := 11) (v := ?_) (by simp; rfl) (by kernel_rfl) (by kernel_rfl) (by kernel_rfl) (by exact fun _ _ _ h => h) (Or.inl ⟨by rfl, fun wx hSx => ?_⟩) hHeld ?_
        rotate_left
        · refine exec_load_row 29 (.tmp 6) ?_ ga ?_ 29 (V8 X).toArray (0, 0) _ hSx.1 Tryd.underlying29 rfl HS.out <;> rfl
        simp only [Act.put, List.setIfInBounds_toArray, List.set_cons_zero, List.set_cons_succ]
        refine wpAnyH_take (i := 12) (v := ?_) (by simp; rfl) (by kernel_rfl) (by kernel_rfl) (by kernel_rfl) (by exact fun _ _ _ h => h) (Or.inl ⟨by rfl, fun wx hSx => ?_⟩) hHeld ?_
        rotate_left
        · refine exec_load_row 29 (.tmp 9) ?_ gb ?_ 29 (V8 X).toArray (0, 0) _ hSx.2 Tryd.underlying29 rfl HS.out <;> rfl
        simp only [Act.put, List.setIfInBounds_toArray, List.set_cons_zero, List.set_cons_succ]
        refine wpAnyH_take (i := 13) (v := ?_) (by simp; rfl) (by kernel_rfl) (by kernel_rfl) (by kernel_rfl) (by exact fun _ _ _ h => h) (Or.inl ⟨by rfl, fun wx hSx => ?_⟩) hHeld ?_
        rotate_left
        · clear hSx; go_simp; (try with_reducible rfl)
        simp only [Act.put, List.setIfInBounds_toArray, List.set_cons_zero, List.set_cons_succ]
        refine wpAnyH_take (i := 14) (v := ?_) (by simp; rfl) (by kernel_rfl) (by kernel_rfl) (by kernel_rfl) (by exact fun _ _ _ h => h) (Or.inl ⟨by rfl, fun wx hSx => ?_⟩) hHeld ?_
        rotate_left
        · clear hSx; go_simp; (try with_reducible rfl)
        simp only [Act.put, List.setIfInBounds_toArray, List.set_cons_zero, List.set_cons_succ]
        refine wpAnyH_take (i := 15) (v := ?_) (by simp; rfl) (by kernel_rfl) (by kernel_rfl) (by kernel_rfl) (by exact fun _ _ _ h => h) (Or.inl ⟨by rfl, fun wx hSx => ?_⟩) hHeld ?_
        rotate_left
        · clear hSx; go_simp; (try with_reducible rfl)
        simp only [Act.put, List.setIfInBounds_toArray, List.set_cons_zero, List.set_cons_succ]
        refine wpAnyH_take (i := 16) (v := ?_) (by simp; rfl) (by kernel_rfl) (by kernel_rfl) (by kernel_rfl) (by exact fun _ _ _ h => h) (Or.inl ⟨by rfl, fun wx hSx => ?_⟩) hHeld ?_
        rotate_left
        · clear hSx; go_simp; (try with_reducible rfl)
        simp only [Act.put, List.setIfInBounds_toArray, List.set_cons_zero, List.set_cons_succ]
        refine wpAnyH_take (i := 18) (v := ?_) (by simp; rfl) (by kernel_rfl) (by kernel_rfl) (by kernel_rfl) (by exact fun _ _ _ h => h) (Or.inl ⟨by rfl, fun wx hSx => ?_⟩) hHeld ?_
        rotate_left
        · clear hSx; go_simp; (try with_reducible rfl)
        simp only [Act.put, List.setIfInBounds_toArray, List.set_cons_zero, List.set_cons_succ]
        refine wpAnyH_ready (rs := [17]) (by kernel_rfl) (by simp) ?_
        refine AllReadyH.cons (by simp; rfl) (fun K hK => ?_) AllReadyH.nil
        go_simp
        refine (len_any r w.heap.size U.drew HR6.out.sha.drew (by omega)).mono ?_
        rintro e w7 ⟨rfl, hw7⟩
        subst hw7
        refine hK.out _ _ hHeld (fun _ => ?_)
        clear hK K
        refine wpAnyH_take (i := 19) (v := ?_) (by simp; rfl) (by kernel_rfl) (by kernel_rfl) (by kernel_rfl) (by exact fun _ _ _ h => h) (Or.inl ⟨by rfl, fun wx hSx => ?_⟩) hHeld ?_
        rotate_left
        · clear hSx; go_simp; (try with_reducible rfl)
        simp only [Act.put, List.setIfInBounds_toArray, List.set_cons_zero, List.set_cons_succ]
        refine wpAnyH_take (i := 20) (v := ?_) (by simp; rfl) (by kernel_rfl) (by kernel_rfl) (by kernel_rfl) (by exact fun _ _ _ h => h) (Or.inl ⟨by rfl, fun wx hSx => ?_⟩) hHeld ?_
        rotate_left
        · clear hSx; go_simp; (try with_reducible rfl)
        simp only [Act.put, List.setIfInBounds_toArray, List.set_cons_zero, List.set_cons_succ]
        refine wpAnyH_take (i := 21) (v := ?_) (by simp; rfl) (by kernel_rfl) (by kernel_rfl) (by kernel_rfl) (by exact fun _ _ _ h => h) (Or.inl ⟨by rfl, fun wx hSx => ?_⟩) hHeld ?_
        rotate_left
        · clear hSx; go_simp; (try with_reducible rfl)
        simp only [Act.put, List.setIfInBounds_toArray, List.set_cons_zero, List.set_cons_succ]
        refine wpAnyH_take (i := 22) (v := ?_) (by simp; rfl) (by kernel_rfl) (by kernel_rfl) (by kernel_rfl) (by exact fun _ _ _ h => h) (Or.inl ⟨by rfl, fun wx hSx => ?_⟩) hHeld ?_
        rotate_left
        · refine exec_load_row 29 (.tmp 6) ?_ ga ?_ 29 (V8 X).toArray (0, 0) _ hSx.1 Tryd.underlying29 rfl HS.out <;> rfl
        simp only [Act.put, List.setIfInBounds_toArray, List.set_cons_zero, List.set_cons_succ]
        refine wpAnyH_take (i := 23) (v := ?_) (by simp; rfl) (by kernel_rfl) (by kernel_rfl) (by kernel_rfl) (by exact fun _ _ _ h => h) (Or.inl ⟨by rfl, fun wx hSx => ?_⟩) hHeld ?_
        rotate_left
        · clear hSx; go_simp; (try with_reducible rfl)
        simp only [Act.put, List.setIfInBounds_toArray, List.set_cons_zero, List.set_cons_succ]
        refine wpAnyH_take (i := 24) (v := ?_) (by simp; rfl) (by kernel_rfl) (by kernel_rfl) (by kernel_rfl) (by exact fun _ _ _ h => h) (Or.inl ⟨by rfl, fun wx hSx => ?_⟩) hHeld ?_
        rotate_left
        · clear hSx; go_simp; (try with_reducible rfl)
        simp only [Act.put, List.setIfInBounds_toArray, List.set_cons_zero, List.set_cons_succ]
        refine wpAnyH_take (i := 25) (v := ?_) (by simp; rfl) (by kernel_rfl) (by kernel_rfl) (by kernel_rfl) (by exact fun _ _ _ h => h) (Or.inl ⟨by rfl, fun wx hSx => ?_⟩) hHeld ?_
        rotate_left
        · clear hSx; go_simp; (try with_reducible rfl)
        simp only [Act.put, List.setIfInBounds_toArray, List.set_cons_zero, List.set_cons_succ]
        refine wpAnyH_take (i := 26) (v := ?_) (by simp; rfl) (by kernel_rfl) (by kernel_rfl) (by kernel_rfl) (by exact fun _ _ _ h => h) (Or.inl ⟨by rfl, fun wx hSx => ?_⟩) hHeld ?_
        rotate_left
        · clear hSx; go_simp; (try with_reducible rfl)
        simp only [Act.put, List.setIfInBounds_toArray, List.set_cons_zero, List.set_cons_succ]
        refine wpAnyH_ready (rs := [27]) (by kernel_rfl) (by simp) ?_
        refine AllReadyH.cons (by simp; rfl) (fun K hK => ?_) AllReadyH.nil
        go_simp
        have hfl : (ps.take (k + 1)).flatten = r := by rw [HP.out, HQ.out]; exact HRR.out.1
        refine (of_any_n (ps.take (k + 1)) (k + 1) (by simp; omega) (some ⟨b, off, none⟩) cap U.drew (((HR.out.take (k + 1)).to HR6.out.below.drew)) (by omega) HM.out (HT.out.to HR6.out.below.drew) (by rw [hfl]; omega)).mono ?_
        rintro e w8 ⟨rfl, hb8⟩
        rw [hfl, HXX.out.1]
        refine hK.out _ _ ⟨(hb8.block _ (by have := HR6.out.size; show ga < U.heap.size; omega)).trans HR6.out.first, (hb8.block _ (by have := HR6.out.size; show gb < U.heap.size; omega)).trans HR6.out.second⟩ (fun hHeld => ?_)
        clear hK K
        have HK2 := Lib.hid (show AK w ps (k + 1) w8 from ⟨by rw [hfl]; exact sha_to (w := U.drew) HR6.out.sha.drew hb8 (by have := HR6.out.size; show w.heap.size < U.heap.size; omega), HR6.out.below.drew.trans (hb8.mono (by have := HR6.out.size; show w.heap.size ≤ U.heap.size; omega)), by have := hb8.size; have := HR6.out.size; have : U.drew.heap.size = U.heap.size := rfl; omega, by rw [hfl]; omega⟩)
        have HFL := Lib.hid hfl
        clear hb8 hfl
        refine wpAnyH_take (i := 28) (v := ?_) (by simp; rfl) (by kernel_rfl) (by kernel_rfl) (by kernel_rfl) (by exact fun _ _ _ h => h) (Or.inl ⟨by rfl, fun wx hSx => ?_⟩) hHeld ?_
        rotate_left
        · clear hSx; go_simp; (try with_reducible rfl)
        simp only [Act.put, List.setIfInBounds_toArray, List.set_cons_zero, List.set_cons_succ]
        refine wpAnyH_take (i := 29) (v := ?_) (by simp; rfl) (by kernel_rfl) (by kernel_rfl) (by kernel_rfl) (by exact fun _ _ _ h => h) (Or.inl ⟨by rfl, fun wx hSx => ?_⟩) hHeld ?_
        rotate_left
        · clear hSx; go_simp; (try with_reducible rfl)
        simp only [Act.put, List.setIfInBounds_toArray, List.set_cons_zero, List.set_cons_succ]
        refine wpAnyH_done (by kernel_rfl) ?_ _
        go_wp2
        go_roundw
        case rel => exact ⟨k + 1, by omega, by go_num, by rw [HFL.out], HK2⟩
        case measure => simp [intOf]; omega
    · obtain rfl : k = ps.length := by omega
      go_wp2_with fail
      refine (alive_any _ (HT.out.to HK.out.below)).mono ?_
      rintro e w2 ⟨rfl, hb2⟩
      go_wp2
      go_ret
      exact ⟨rfl, HK.out.below.trans (hb2.mono HK.out.below.size)⟩
end Go.Proofs.YtakfcdemoaogfaaDoor
