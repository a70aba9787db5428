/-
  Proved here: RttLives walked: it returns true, whatever the numbers, and nothing that was there is changed.
-/
import Derived.Test.YtfchhadoiknleaaRtR
import Derived.Test.YtfchhadoiknleaaPlC
namespace Go.Proofs.Ytfchhadoiknleaa
open Go.RowKit
/-- The document's meter in block h. -/
def Xr (w : World) (h : Nat) (K : Bool) (a s b : Int) : Prop := w.heap[h]? = some (.cells #[.int .i64 a, .int .i64 s, .int .i64 b, .bool K] 26 (0, 0))
theorem Xr.c0 {w : World} {g : Nat} {K : Bool} {a s b : Int} (h : Xr w g K a s b) : w.cell? ⟨g, 0, none⟩ = some (.int .i64 a) := by unfold Xr at h; simp [World.cell?, h]
theorem Xr.c1 {w : World} {g : Nat} {K : Bool} {a s b : Int} (h : Xr w g K a s b) : w.cell? ⟨g, 1, none⟩ = some (.int .i64 s) := by unfold Xr at h; simp [World.cell?, h]
theorem Xr.c2 {w : World} {g : Nat} {K : Bool} {a s b : Int} (h : Xr w g K a s b) : w.cell? ⟨g, 2, none⟩ = some (.int .i64 b) := by unfold Xr at h; simp [World.cell?, h]
theorem Xr.c3 {w : World} {g : Nat} {K : Bool} {a s b : Int} (h : Xr w g K a s b) : w.cell? ⟨g, 3, none⟩ = some (.bool K) := by unfold Xr at h; simp [World.cell?, h]
theorem Xr.free {w : World} {g : Nat} {K : Bool} {a s b : Int} (h : Xr w g K a s b) (i : Nat) : w.frozen? ⟨g, i, none⟩ = false := frozen_of_row w g i _ _ h
theorem Xr.lt {w : World} {g : Nat} {K : Bool} {a s b : Int} (h : Xr w g K a s b) : g < w.heap.size := lt_of_block h
theorem Xr.s0 {w : World} {g : Nat} {K : Bool} {a s b : Int} (h : Xr w g K a s b) (x : Int) : Xr (w.setCell ⟨g, 0, none⟩ (.int .i64 x)) g K x s b := by
  unfold Xr at h ⊢; rw [heap_setCell_same w g 0 _ _ _ h]; rfl
theorem Xr.s1 {w : World} {g : Nat} {K : Bool} {a s b : Int} (h : Xr w g K a s b) (x : Int) : Xr (w.setCell ⟨g, 1, none⟩ (.int .i64 x)) g K a x b := by
  unfold Xr at h ⊢; rw [heap_setCell_same w g 1 _ _ _ h]; rfl
theorem Xr.s2 {w : World} {g : Nat} {K : Bool} {a s b : Int} (h : Xr w g K a s b) (x : Int) : Xr (w.setCell ⟨g, 2, none⟩ (.int .i64 x)) g K a s x := by
  unfold Xr at h ⊢; rw [heap_setCell_same w g 2 _ _ _ h]; rfl
theorem Xr.s3 {w : World} {g : Nat} {K : Bool} {a s b : Int} (h : Xr w g K a s b) (x : Bool) : Xr (w.setCell ⟨g, 3, none⟩ (.bool x)) g x a s b := by
  unfold Xr at h ⊢; rw [heap_setCell_same w g 3 _ _ _ h]; rfl
/-- Both meters: the program's in the first block of this call's own, the document's in the second. -/
structure Lv (w : World) (K : Bool) (a s b : Int) (K' : Bool) (a' s' b' : Int) (W : World) : Prop where
  m : Mw w w.heap.size K a s b W
  x : Xr W (w.heap.size + 1) K' a' s' b'
/-- What the walk reads of them. -/
def Sees (w : World) (K : Bool) (a s b : Int) (W : World) : Prop :=
  (W.cell? ⟨w.heap.size + 1, 0, none⟩ = some (.int .i64 a) ∧ W.cell? ⟨w.heap.size + 1, 1, none⟩ = some (.int .i64 s) ∧ W.cell? ⟨w.heap.size + 1, 2, none⟩ = some (.int .i64 b) ∧ W.cell? ⟨w.heap.size + 1, 3, none⟩ = some (.bool K)) ∧
  W.frozen? ⟨w.heap.size + 1, 0, none⟩ = false ∧ W.frozen? ⟨w.heap.size + 1, 1, none⟩ = false ∧ W.frozen? ⟨w.heap.size + 1, 2, none⟩ = false ∧ W.frozen? ⟨w.heap.size + 1, 3, none⟩ = false
theorem Lv.sees {w : World} {K : Bool} {a s b : Int} {K' : Bool} {a' s' b' : Int} {W : World} (h : Lv w K a s b K' a' s' b' W) : Sees w K' a' s' b' W :=
  ⟨⟨h.x.c0, h.x.c1, h.x.c2, h.x.c3⟩, h.x.free 0, h.x.free 1, h.x.free 2, h.x.free 3⟩
theorem Lv.only {w : World} {K : Bool} {a s b : Int} {K' : Bool} {a' s' b' : Int} {W W' : World} {K2 : Bool} {a2 s2 b2 : Int} (h : Lv w K a s b K' a' s' b' W) (hF : Fit K2 a2 s2 b2) (hm : Mt W' w.heap.size K2 a2 s2 b2) (ho : Only w.heap.size W W') : Lv w K2 a2 s2 b2 K' a' s' b' W' :=
  ⟨h.m.only hF hm ho, (ho.block _ h.x.lt (by omega)).trans h.x⟩
theorem Lv.to {w : World} {K : Bool} {a s b : Int} {K' : Bool} {a' s' b' : Int} {W W' : World} (h : Lv w K a s b K' a' s' b' W) (hb : Below W.heap.size W W') : Lv w K a s b K' a' s' b' W' :=
  ⟨⟨h.m.mt.below hb, h.m.fit, h.m.below.trans (hb.mono h.m.size), h.m.own⟩, (hb.block _ h.x.lt).trans h.x⟩
theorem Lv.drewN {w : World} {K : Bool} {a s b : Int} {K' : Bool} {a' s' b' : Int} {W : World} (h : Lv w K a s b K' a' s' b' W) (n : Nat) : Lv w K a s b K' a' s' b' (W.drewN n) := ⟨h.m.drewN n, h.x⟩
theorem Lv.drew {w : World} {K : Bool} {a s b : Int} {K' : Bool} {a' s' b' : Int} {W : World} (h : Lv w K a s b K' a' s' b' W) : Lv w K a s b K' a' s' b' W.drew := h.drewN 1
theorem Lv.put {w : World} {K : Bool} {a s b : Int} {K' : Bool} {a' s' b' : Int} {W : World} (h : Lv w K a s b K' a' s' b' W) (a2 s2 b2 : Int) (K2 : Bool) :
    Lv w K a s b K2 a2 s2 b2 ((((W.setCell ⟨w.heap.size + 1, 0, none⟩ (.int .i64 a2)).setCell ⟨w.heap.size + 1, 1, none⟩ (.int .i64 s2)).setCell ⟨w.heap.size + 1, 2, none⟩ (.int .i64 b2)).setCell ⟨w.heap.size + 1, 3, none⟩ (.bool K2)) := by
  refine ⟨⟨?_, h.m.fit, (((h.m.below.setCell (by simp) _).setCell (by simp) _).setCell (by simp) _).setCell (by simp) _, h.m.own⟩, (((h.x.s0 a2).s1 s2).s2 b2).s3 K2⟩
  have e : ∀ (V : World) (i : Nat) (v : Value), (V.setCell ⟨w.heap.size + 1, i, none⟩ v).heap[w.heap.size]? = V.heap[w.heap.size]? := fun V i v => heap_setCell_other V ⟨w.heap.size + 1, i, none⟩ _ v (by simp)
  have := h.m.mt
  unfold Mt at this ⊢
  rw [e, e, e, e]
  exact this
theorem measure_lv (w : World) (K : Bool) (a s b n a' s' : Int) (K2 : Bool) (a2 s2 b2 : Int) (W : World) (h : Lv w K a s b K2 a2 s2 b2 W) (n0 : 0 ≤ n) (n1 : n ≤ 65536) (ha : mA K a n = a') (hs : mS K a s n = s') :
    Calls Try.prog 9 #[.pointer (some ⟨w.heap.size, 0, none⟩), .int .i64 n] W fun e w' => e = .returned (.int .i64 0) ∧ Hid (Lv w true a' s' 0 K2 a2 s2 b2 w') := by
  subst ha hs
  exact (measure_any _ K a s b n W h.m.mt h.m.fit n0 n1).mono fun _ _ ⟨h1, h2, h3⟩ => ⟨h1, Lib.hid (h.only (h.m.fit.measure n0 n1) h2 h3)⟩
theorem back_lv (w : World) (K : Bool) (a s b c : Int) (K2 : Bool) (a2 s2 b2 : Int) (W : World) (h : Lv w K a s b K2 a2 s2 b2 W) (hc : min (b + 1) 6 = c) :
    Calls Try.prog 8 #[.pointer (some ⟨w.heap.size, 0, none⟩)] W fun e w' => e = .returned (.int .i64 0) ∧ Hid (Lv w K a s c K2 a2 s2 b2 w') := by
  subst hc
  exact (back_any _ K a s b _ W h.m.mt h.m.fit.b0 h.m.fit.b1 rfl).mono fun _ _ ⟨h1, h2, h3⟩ => ⟨h1, Lib.hid (h.only h.m.fit.back h2 h3)⟩
theorem wait_lv (w : World) (K : Bool) (a s b v : Int) (K2 : Bool) (a2 s2 b2 : Int) (W : World) (h : Lv w K a s b K2 a2 s2 b2 W) (hv : waitS K a s b = v) :
    Calls Try.prog 11 #[.pointer (some ⟨w.heap.size, 0, none⟩)] W fun e w' => e = .returned (.int .i64 v) ∧ Hid (Lv w K a s b K2 a2 s2 b2 w') := by
  subst hv
  refine (wait_any _ K a s b W h.m.mt h.m.fit).mono fun _ _ ⟨h1, n, h2⟩ => ⟨h1, Lib.hid ?_⟩
  subst h2
  exact h.drewN n
theorem rback_lv (w : World) (K : Bool) (a s b c : Int) (K2 : Bool) (a2 s2 b2 : Int) (W : World) (h : Lv w K a s b K2 a2 s2 b2 W) (b0 : 0 ≤ b2) (b1 : b2 ≤ 6) (hc : min (b2 + 1) 6 = c) :
    Calls Try.prog 7 #[XV a2 s2 b2 K2] W fun e w' => e = .returned (XV a2 s2 c K2) ∧ Hid (Lv w K a s b K2 a2 s2 b2 w') :=
  (rback_any a2 s2 b2 c K2 W b0 b1 hc).mono fun _ _ ⟨h1, h2⟩ => ⟨h1, Lib.hid (h.to h2)⟩
theorem rmeasure_lv (w : World) (K : Bool) (a s b n a' s' : Int) (W : World) (h : Lv w K a s b K a s b W) (n0 : 0 ≤ n) (n1 : n ≤ 65536) (ha : mA K a n = a') (hs : mS K a s n = s') :
    Calls Try.prog 10 #[XV a s b K, .int .i64 n] W fun e w' => e = .returned (XV a' s' 0 true) ∧ Hid (Lv w K a s b K a s b w') :=
  (rmeasure_any K a s b n a' s' W h.m.fit n0 n1 ha hs).mono fun _ _ ⟨h1, h2⟩ => ⟨h1, Lib.hid (h.to h2)⟩
theorem rwait_lv (w : World) (K : Bool) (a s c b : Int) (W : World) (h : Lv w K a s b K a s b W) (hc : waitS K a s b = c) :
    Calls Try.prog 12 #[XV a s b K] W fun e w' => e = .returned (.int .i64 c) ∧ Hid (Lv w K a s b K a s b w') := by
  obtain ⟨B, rfl⟩ : ∃ B : Nat, b = B := ⟨b.toNat, by have := h.m.fit.b0; omega⟩
  exact (rwait_any K a s c B W h.m.fit hc).mono fun _ _ ⟨h1, h2⟩ => ⟨h1, Lib.hid (h.to h2)⟩
theorem mean_lv (w : World) (K : Bool) (a s b v : Int) (K2 : Bool) (a2 s2 b2 : Int) (W : World) (h : Lv w K a s b K2 a2 s2 b2 W) (hv : a / 8 = v) :
    Calls Try.prog 13 #[.pointer (some ⟨w.heap.size, 0, none⟩)] W fun e w' => e = .returned (.int .i64 v) ∧ W = w' := mean_mw w _ K a s b v W h.m hv
theorem bad_lv (w : World) (K : Bool) (a s b n : Int) (K2 : Bool) (a2 s2 b2 : Int) (W : World) (h : Lv w K a s b K2 a2 s2 b2 W) (hn : n < 0 ∨ 65536 < n) :
    Calls Try.prog 9 #[.pointer (some ⟨w.heap.size, 0, none⟩), .int .i64 n] W fun e w' => e = .returned (.int .i64 1) ∧ W = w' := bad_mw w _ K a s b n W h.m hn
theorem backs_lv (w : World) (K : Bool) (a s b : Int) (K2 : Bool) (a2 s2 b2 : Int) (W : World) (h : Lv w K a s b K2 a2 s2 b2 W) :
    Calls Try.prog 14 #[.pointer (some ⟨w.heap.size, 0, none⟩)] W fun e w' => e = .returned (.int .i64 b) ∧ W = w' := backs_mw w _ K a s b W h.m
theorem cell_cells {W : World} {g i : Nat} {cs : Array Value} {t : TypeId} {fr : Nat × Nat} {v : Value} (h : W.heap[g]? = some (.cells cs t fr)) (hi : cs[i]? = some v) : W.cell? ⟨g, i, none⟩ = some v := by simp [World.cell?, h, hi]
def LL (w : World) (W : World) : Prop := ∃ K a s b, Lv w K a s b K a s b W
theorem LL.below {w W : World} (h : LL w W) : Below w.heap.size w W := by obtain ⟨K, a, s, b, h⟩ := h; exact h.m.below
abbrev SX (w : World) (K : Bool) (a s b : Int) (W : World) : Prop :=
  W.cell? ⟨w.heap.size + 1, 0, none⟩ = some (.int .i64 a) ∧ W.cell? ⟨w.heap.size + 1, 1, none⟩ = some (.int .i64 s) ∧ W.cell? ⟨w.heap.size + 1, 2, none⟩ = some (.int .i64 b) ∧ W.cell? ⟨w.heap.size + 1, 3, none⟩ = some (.bool K) ∧ Hid (Lv w K a s b K a s b W)
theorem SX.of {w : World} {K : Bool} {a s b : Int} {W : World} (h : Hid (Lv w K a s b K a s b W)) : SX w K a s b W := ⟨h.out.x.c0, h.out.x.c1, h.out.x.c2, h.out.x.c3, h⟩
theorem SX.last {w : World} {K : Bool} {a s b : Int} {W : World} (h : SX w K a s b W) : Lv w K a s b K a s b W := h.2.2.2.2.out
abbrev SY (w : World) (p : Addr) (z : Int) (K : Bool) (a s b : Int) (W : World) : Prop :=
  W.cell? p = some (.int .i64 z) ∧ W.frozen? ⟨w.heap.size + 1, 0, none⟩ = false ∧ W.frozen? ⟨w.heap.size + 1, 1, none⟩ = false ∧ W.frozen? ⟨w.heap.size + 1, 2, none⟩ = false ∧ W.frozen? ⟨w.heap.size + 1, 3, none⟩ = false ∧ SX w K a s b W
theorem SY.of {w : World} {p : Addr} {z : Int} {K : Bool} {a s b : Int} {W : World} (hp : p.block < w.heap.size) (hc : Hid (w.cell? p = some (.int .i64 z))) (h : Hid (Lv w K a s b K a s b W)) : SY w p z K a s b W :=
  ⟨(h.out.m.below.cell hp).trans hc.out, h.out.x.free 0, h.out.x.free 1, h.out.x.free 2, h.out.x.free 3, SX.of h⟩
theorem SY.last {w : World} {p : Addr} {z : Int} {K : Bool} {a s b : Int} {W : World} (h : SY w p z K a s b W) : Lv w K a s b K a s b W := h.2.2.2.2.2.2.2.2.2.out
set_option maxRecDepth 100000 in
set_option maxHeartbeats 4000000 in
theorem lives_any (zs : List Int) (A : Option Addr) (n cap : Nat) (w : World) (hs : SlI .i64 w A n cap zs) :
    Calls Try.prog 3 #[.slice A n cap] w fun e w' => e = .returned (.bool true) ∧ Below w.heap.size w w' := by
  obtain ⟨hlen, hr, hwf, hle, hmx⟩ := hs
  subst hlen
  have hmx' : zs.length ≤ 9223372036854775807 := by unfold maxLen at hmx; omega
  have HR := Lib.hid hr
  have HW := Lib.hid hwf
  clear hr hwf hmx hle
  go_enter Try.func3, Try.ntmps3
  go_wp2_with fail
  refine (new_any w).mono ?_
  rintro e w1 ⟨rfl, rfl⟩
  have H0 := Lib.hid (show LL w ((w.alloc (.cells #[.bool true, .bool false, .int .i64 0, .int .i64 0, .int .i64 0] 35)).alloc (.cells #[.int .i64 0, .int .i64 0, .int .i64 0, .bool false] 26)) from
    ⟨_, _, _, _, ⟨⟨(old_block _ _ _ (by simp)).trans (new_block _ _ _ rfl), (Mw.new w).fit, (Mw.new w).below.alloc (by simp) _, Nat.le_refl _⟩, new_block _ _ _ (by simp)⟩⟩)
  go_wp2
  go_loopw [5] (fun i wr => ∃ k : Nat, k ≤ zs.length ∧ k ≤ 200 ∧ i = .int .i64 k ∧ Hid (LL w wr)) (fun i _ => 200 - (intOf i).toNat)
  case atStart => exact ⟨0, by omega, by omega, rfl, H0⟩
  case round =>
    obtain ⟨k, hk, hk2, rfl, HK⟩ := hrel
    clear H0
    by_cases hlt : k < zs.length ∧ k < 200
    · obtain ⟨hlt, h200⟩ := hlt
      obtain ⟨bl, off, rfl, hb, hc⟩ := HR.out (by omega)
      have hz := bounds_i64 (HW.out k hlt)
      have hcell0 := hc k hlt
      have hcell : wr.cell? ⟨bl, off + k, none⟩ = some (.int .i64 (zs.getD k 0)) := (HK.out.below.cell (p := ⟨bl, off + k, none⟩) hb).trans hcell0
      clear hc
      obtain ⟨z, hzz⟩ : ∃ z, zs.getD k 0 = z := ⟨_, rfl⟩
      rw [hzz] at hz hcell hcell0
      have HC0 := Lib.hid hcell0
      clear hzz hcell0
      obtain ⟨z0, z1⟩ := hz
      obtain ⟨K, a, s, b, hM⟩ := HK.out
      have HM := Lib.hid hM
      have hd : decide ((k : Int) < 200) = true := by simp; omega
      by_cases hneg : z = -1
      · subst hneg
        clear z0 z1
        have hx := hM.x
        have x0 := hx.c0
        have x1 := hx.c1
        have x2 := hx.c2
        have x3 := hx.c3
        clear hx hM HK
        obtain ⟨c, hc⟩ : ∃ c, min (b + 1) 6 = c := ⟨_, rfl⟩
        have HC := Lib.hid hc
        clear hc
        go_wp2_with fail
        refine (rback_lv w K a s b c K a s b _ HM.out HM.out.m.fit.b0 HM.out.m.fit.b1 HC.out).mono ?_
        rintro e w2 ⟨rfl, h2⟩
        have f0 := h2.out.x.free 0
        have f1 := h2.out.x.free 1
        have f2 := h2.out.x.free 2
        have f3 := h2.out.x.free 3
        have y0 := h2.out.x.c0
        have y1 := h2.out.x.c1
        have y2 := h2.out.x.c2
        have y3 := h2.out.x.c3
        clear x0 x1 x2 x3 hcell
        go_wp2_with fail
        refine (back_lv w K a s b c K a s c _ (h2.out.put a s c K) HC.out).mono ?_
        rintro e w3 ⟨rfl, HX⟩
        clear f0 f1 f2 f3 y0 y1 y2 y3 h2 HM HC HC0
        obtain ⟨v, hv⟩ : ∃ v, waitS K a s c = v := ⟨_, rfl⟩
        obtain ⟨q, hq⟩ : ∃ q, a / 8 = q := ⟨_, rfl⟩
        have hq' : (a).tdiv 8 = q := by rw [← hq]; exact Int.tdiv_eq_ediv_of_nonneg HX.out.m.fit.a0
        have hw : IntKind.i64.wrap q = q := IntWalk.i64_in _ (by have := HX.out.m.fit.a0; have := HX.out.m.fit.a1; omega)
        have HV := Lib.hid hv
        have HQ := Lib.hid hq
        clear hv hq
        have nv : (v != v) = false := by simp
        have nq : (q != q) = false := by simp
        have nb : (c != c) = false := by simp
        go_wp2
        go_region_held3 (fun W' => W'.cell? ⟨w.heap.size + 1, 0, none⟩ = some (.int .i64 (a)) ∧ W'.cell? ⟨w.heap.size + 1, 1, none⟩ = some (.int .i64 (s)) ∧ W'.cell? ⟨w.heap.size + 1, 2, none⟩ = some (.int .i64 (c)) ∧ W'.cell? ⟨w.heap.size + 1, 3, none⟩ = some (.bool K) ∧ Hid (Lv w K (a) (s) (c) K (a) (s) (c) W'))
          (first | exact SX.of (by assumption) | assumption | exact SX.of (Lib.hid (Lv.drew (Hid.out (by assumption)))))
          (first | (go_at_call 11; refine (wait_lv w K (a) (s) (c) v _ _ _ _ _ (SX.last (by assumption)) HV.out).mono ?_; rintro e w5 ⟨rfl, h5⟩) | (go_at_call 12; refine (rwait_lv w K (a) (s) v (c) _ (SX.last (by assumption)) HV.out).mono ?_; rintro e w5 ⟨rfl, h5⟩) | (go_at_call 13; refine (mean_lv w K (a) (s) (c) q _ _ _ _ _ (SX.last (by assumption)) HQ.out).mono ?_; rintro e w5 ⟨rfl, rfl⟩) | (go_at_call 14; refine (backs_lv w K (a) (s) (c) _ _ _ _ _ (SX.last (by assumption))).mono ?_; rintro e w5 ⟨rfl, rfl⟩))
        go_wp2
        go_roundw
        case rel => exact ⟨k + 1, by omega, by omega, by go_num, Lib.hid ⟨K, a, s, c, SX.last (by assumption)⟩⟩
        case measure => simp [intOf]; omega
      · have hne : (z == -1) = false := by simpa using hneg
        clear hneg
        by_cases hbad : z < 0 ∨ 65536 < z
        · by_cases hz0 : z < 0
          · have HX := HM
            have HBAD := Lib.hid hbad
            clear hM HK hbad HC0
            go_wp2_with fail
            refine (bad_lv w K a s b z K a s b _ HX.out HBAD.out).mono ?_
            rintro e w' ⟨rfl, rfl⟩
            clear HM HBAD hcell
            obtain ⟨v, hv⟩ : ∃ v, waitS K a s b = v := ⟨_, rfl⟩
            obtain ⟨q, hq⟩ : ∃ q, a / 8 = q := ⟨_, rfl⟩
            have hq' : (a).tdiv 8 = q := by rw [← hq]; exact Int.tdiv_eq_ediv_of_nonneg HX.out.m.fit.a0
            have hw : IntKind.i64.wrap q = q := IntWalk.i64_in _ (by have := HX.out.m.fit.a0; have := HX.out.m.fit.a1; omega)
            have HV := Lib.hid hv
            have HQ := Lib.hid hq
            clear hv hq
            have nv : (v != v) = false := by simp
            have nq : (q != q) = false := by simp
            have nb : (b != b) = false := by simp
            go_wp2
            go_region_held3 (fun W' => W'.cell? ⟨w.heap.size + 1, 0, none⟩ = some (.int .i64 (a)) ∧ W'.cell? ⟨w.heap.size + 1, 1, none⟩ = some (.int .i64 (s)) ∧ W'.cell? ⟨w.heap.size + 1, 2, none⟩ = some (.int .i64 (b)) ∧ W'.cell? ⟨w.heap.size + 1, 3, none⟩ = some (.bool K) ∧ Hid (Lv w K (a) (s) (b) K (a) (s) (b) W'))
              (first | exact SX.of (by assumption) | assumption | exact SX.of (Lib.hid (Lv.drew (Hid.out (by assumption)))))
              (first | (go_at_call 11; refine (wait_lv w K (a) (s) (b) v _ _ _ _ _ (SX.last (by assumption)) HV.out).mono ?_; rintro e w5 ⟨rfl, h5⟩) | (go_at_call 12; refine (rwait_lv w K (a) (s) v (b) _ (SX.last (by assumption)) HV.out).mono ?_; rintro e w5 ⟨rfl, h5⟩) | (go_at_call 13; refine (mean_lv w K (a) (s) (b) q _ _ _ _ _ (SX.last (by assumption)) HQ.out).mono ?_; rintro e w5 ⟨rfl, rfl⟩) | (go_at_call 14; refine (backs_lv w K (a) (s) (b) _ _ _ _ _ (SX.last (by assumption))).mono ?_; rintro e w5 ⟨rfl, rfl⟩))
            go_wp2
            go_roundw
            case rel => exact ⟨k + 1, by omega, by omega, by go_num, Lib.hid ⟨K, a, s, b, SX.last (by assumption)⟩⟩
            case measure => simp [intOf]; omega
          · have hz1 : 65536 < z := by omega
            have hdz : decide (z < 0) = false := by simpa using hz0
            have HX := HM
            have HBAD := Lib.hid hbad
            clear hM HK hbad HC0 hz0
            go_wp2_with fail
            refine (bad_lv w K a s b z K a s b _ HX.out HBAD.out).mono ?_
            rintro e w' ⟨rfl, rfl⟩
            clear HM HBAD hcell
            obtain ⟨v, hv⟩ : ∃ v, waitS K a s b = v := ⟨_, rfl⟩
            obtain ⟨q, hq⟩ : ∃ q, a / 8 = q := ⟨_, rfl⟩
            have hq' : (a).tdiv 8 = q := by rw [← hq]; exact Int.tdiv_eq_ediv_of_nonneg HX.out.m.fit.a0
            have hw : IntKind.i64.wrap q = q := IntWalk.i64_in _ (by have := HX.out.m.fit.a0; have := HX.out.m.fit.a1; omega)
            have HV := Lib.hid hv
            have HQ := Lib.hid hq
            clear hv hq
            have nv : (v != v) = false := by simp
            have nq : (q != q) = false := by simp
            have nb : (b != b) = false := by simp
            go_wp2
            go_region_held3 (fun W' => W'.cell? ⟨w.heap.size + 1, 0, none⟩ = some (.int .i64 (a)) ∧ W'.cell? ⟨w.heap.size + 1, 1, none⟩ = some (.int .i64 (s)) ∧ W'.cell? ⟨w.heap.size + 1, 2, none⟩ = some (.int .i64 (b)) ∧ W'.cell? ⟨w.heap.size + 1, 3, none⟩ = some (.bool K) ∧ Hid (Lv w K (a) (s) (b) K (a) (s) (b) W'))
              (first | exact SX.of (by assumption) | assumption | exact SX.of (Lib.hid (Lv.drew (Hid.out (by assumption)))))
              (first | (go_at_call 11; refine (wait_lv w K (a) (s) (b) v _ _ _ _ _ (SX.last (by assumption)) HV.out).mono ?_; rintro e w5 ⟨rfl, h5⟩) | (go_at_call 12; refine (rwait_lv w K (a) (s) v (b) _ (SX.last (by assumption)) HV.out).mono ?_; rintro e w5 ⟨rfl, h5⟩) | (go_at_call 13; refine (mean_lv w K (a) (s) (b) q _ _ _ _ _ (SX.last (by assumption)) HQ.out).mono ?_; rintro e w5 ⟨rfl, rfl⟩) | (go_at_call 14; refine (backs_lv w K (a) (s) (b) _ _ _ _ _ (SX.last (by assumption))).mono ?_; rintro e w5 ⟨rfl, rfl⟩))
            go_wp2
            go_roundw
            case rel => exact ⟨k + 1, by omega, by omega, by go_num, Lib.hid ⟨K, a, s, b, SX.last (by assumption)⟩⟩
            case measure => simp [intOf]; omega
        · have n0 : 0 ≤ z := by omega
          have n1 : z ≤ 65536 := by omega
          clear hbad z0 z1 hM
          obtain ⟨a', ha⟩ : ∃ a', mA K a z = a' := ⟨_, rfl⟩
          obtain ⟨s', hs⟩ : ∃ s', mS K a s z = s' := ⟨_, rfl⟩
          have HA := Lib.hid ha
          have HS := Lib.hid hs
          clear ha hs HK
          have hkz : (0 : Int) ≤ (k : Int) := by omega
          have hkl : (k : Int) < (zs.length : Int) := by omega
          go_wp2
          have HCW := Lib.hid (fun (W : World) (hb9 : Below w.heap.size w W) => (hb9.cell (p := ⟨bl, off + k, none⟩) hb).trans HC0.out)
          refine wp_region_held_drew (S := fun W => W.cell? ⟨bl, off + k, none⟩ = some (.int .i64 z)) (by kernel_rfl) (HCW.out _ HM.out.m.below.drew) (fun hHeld => ?_)
          refine wpAnyH_take (i := 1) (v := ?_) (by simp; rfl) (by kernel_rfl) (by kernel_rfl) (by kernel_rfl) (by exact fun _ _ _ h => h) (Or.inl ⟨by rfl, fun wx hSx => ?_⟩) hHeld ?_
          rotate_left
          · clear hSx; go_simp; (try with_reducible rfl)
          simp only [Act.put, List.setIfInBounds_toArray, List.set_cons_zero, List.set_cons_succ]
          refine wpAnyH_take (i := 2) (v := ?_) (by simp; rfl) (by kernel_rfl) (by kernel_rfl) (by kernel_rfl) (by exact fun _ _ _ h => h) (Or.inl ⟨by rfl, fun wx hSx => ?_⟩) hHeld ?_
          rotate_left
          · clear hSx; go_simp; (try with_reducible rfl)
          simp only [Act.put, List.setIfInBounds_toArray, List.set_cons_zero, List.set_cons_succ]
          refine wpAnyH_take (i := 3) (v := ?_) (by simp; rfl) (by kernel_rfl) (by kernel_rfl) (by kernel_rfl) (by exact fun _ _ _ h => h) (Or.inl ⟨by rfl, fun wx hSx => ?_⟩) hHeld ?_
          rotate_left
          · clear hSx; go_simp; (try with_reducible rfl)
          simp only [Act.put, List.setIfInBounds_toArray, List.set_cons_zero, List.set_cons_succ]
          refine wpAnyH_take (i := 4) (v := ?_) (by simp; rfl) (by kernel_rfl) (by kernel_rfl) (by kernel_rfl) (by exact fun _ _ _ h => h) (Or.inl ⟨by rfl, fun wx hSx => ?_⟩) hHeld ?_
          rotate_left
          · go_simp; (try with_reducible rfl)
          simp only [Act.put, List.setIfInBounds_toArray, List.set_cons_zero, List.set_cons_succ]
          clear hcell
          have x0 := HM.out.x.c0
          have x1 := HM.out.x.c1
          have x2 := HM.out.x.c2
          have x3 := HM.out.x.c3
          refine wpAnyH_ready (rs := [0]) (by kernel_rfl) (by simp) ?_
          refine AllReadyH.cons (by simp; rfl) (fun K0 hK0 => ?_) AllReadyH.nil
          go_simp
          refine hK0.out _ _ (HCW.out _ HM.out.m.below.drew) (fun hHeld => ?_)
          clear hK0 K0 x0 x1 x2 x3
          refine wpAnyH_ready (rs := [5]) (by kernel_rfl) (by simp) ?_
          refine AllReadyH.cons (by simp; rfl) (fun K0 hK0 => ?_) AllReadyH.nil
          go_simp
          refine (rmeasure_lv w K a s b z a' s' _ HM.out.drew n0 n1 HA.out HS.out).mono ?_
          rintro e w5 ⟨rfl, h5⟩
          refine hK0.out _ _ (HCW.out _ h5.out.m.below) (fun hHeld => ?_)
          clear hK0 K0
          have f0 := h5.out.x.free 0
          have y0 := h5.out.x.c0
          have f1 := h5.out.x.free 1
          have y1 := h5.out.x.c1
          have f2 := h5.out.x.free 2
          have y2 := h5.out.x.c2
          have f3 := h5.out.x.free 3
          have y3 := h5.out.x.c3
          refine wpAnyH_ready (rs := [6]) (by kernel_rfl) (by simp) ?_
          refine AllReadyH.cons (by simp; rfl) (fun K0 hK0 => ?_) AllReadyH.nil
          go_simp
          refine hK0.out _ _ (HCW.out _ (h5.out.put a' s' 0 true).m.below) (fun hHeld => ?_)
          clear hK0 K0 f0 f1 f2 f3 y0 y1 y2 y3
          refine wpAnyH_done (by kernel_rfl) ?_ _
          have HP := Lib.hid (h5.out.put a' s' 0 true)
          have hcellP := HCW.out _ HP.out.m.below
          go_wp2_with fail
          refine (measure_lv w K a s b z a' s' true a' s' 0 _ HP.out n0 n1 HA.out HS.out).mono ?_
          rintro e w6 ⟨rfl, HX⟩
          clear hcellP HP h5 HM HA HS HC0 HCW
          obtain ⟨v, hv⟩ : ∃ v, waitS true a' s' 0 = v := ⟨_, rfl⟩
          obtain ⟨q, hq⟩ : ∃ q, a' / 8 = q := ⟨_, rfl⟩
          have hq' : (a').tdiv 8 = q := by rw [← hq]; exact Int.tdiv_eq_ediv_of_nonneg HX.out.m.fit.a0
          have hw : IntKind.i64.wrap q = q := IntWalk.i64_in _ (by have := HX.out.m.fit.a0; have := HX.out.m.fit.a1; omega)
          have HV := Lib.hid hv
          have HQ := Lib.hid hq
          clear hv hq
          have nv : (v != v) = false := by simp
          have nq : (q != q) = false := by simp
          have nb : (0 != 0) = false := by simp
          go_wp2
          go_region_held3 (fun W' => W'.cell? ⟨w.heap.size + 1, 0, none⟩ = some (.int .i64 (a')) ∧ W'.cell? ⟨w.heap.size + 1, 1, none⟩ = some (.int .i64 (s')) ∧ W'.cell? ⟨w.heap.size + 1, 2, none⟩ = some (.int .i64 (0)) ∧ W'.cell? ⟨w.heap.size + 1, 3, none⟩ = some (.bool true) ∧ Hid (Lv w true (a') (s') (0) true (a') (s') (0) W'))
            (first | exact SX.of (by assumption) | assumption | exact SX.of (Lib.hid (Lv.drew (Hid.out (by assumption)))))
            (first | (go_at_call 11; refine (wait_lv w true (a') (s') (0) v _ _ _ _ _ (SX.last (by assumption)) HV.out).mono ?_; rintro e w5 ⟨rfl, h5⟩) | (go_at_call 12; refine (rwait_lv w true (a') (s') v (0) _ (SX.last (by assumption)) HV.out).mono ?_; rintro e w5 ⟨rfl, h5⟩) | (go_at_call 13; refine (mean_lv w true (a') (s') (0) q _ _ _ _ _ (SX.last (by assumption)) HQ.out).mono ?_; rintro e w5 ⟨rfl, rfl⟩) | (go_at_call 14; refine (backs_lv w true (a') (s') (0) _ _ _ _ _ (SX.last (by assumption))).mono ?_; rintro e w5 ⟨rfl, rfl⟩))
          go_wp2
          go_roundw
          case rel => exact ⟨k + 1, by omega, by omega, by go_num, Lib.hid ⟨true, a', s', 0, SX.last (by assumption)⟩⟩
          case measure => simp [intOf]; omega
    · by_cases hl : k < zs.length
      · have h200 : 200 ≤ k := by omega
        clear hlt
        have HB := Lib.hid HK.out.below
        clear HK
        go_wp2_with fail
        refine (alive_any _).mono ?_
        rintro e w2 ⟨rfl, h2⟩
        have hz0 : w2.cell? ⟨wr.heap.size, 0, none⟩ = some (.bool false) := (h2.cell (p := ⟨wr.heap.size, 0, none⟩) (by simp)).trans (cell_cells (heap_alloc_new _ _) rfl)
        have HZ := Lib.hid hz0
        have HB2 := Lib.hid (show Below w.heap.size w w2 from (HB.out.alloc HB.out.size _).trans (h2.mono (by have := HB.out.size; simp; omega)))
        clear h2 hz0 HB
        go_wp2_with fail
        refine (measure_nil 1 _).mono ?_
        rintro e w' ⟨rfl, rfl⟩
        go_wp2_with fail
        refine (measure_zero _ 1 _ HZ.out).mono ?_
        rintro e w' ⟨rfl, rfl⟩
        go_wp2_with fail
        refine (back_nil _).mono ?_
        rintro e w' ⟨rfl, rfl⟩
        go_wp2_with fail
        refine (back_zero _ _ HZ.out).mono ?_
        rintro e w' ⟨rfl, rfl⟩
        go_wp2_with fail
        refine (wait_nil _).mono ?_
        rintro e w' ⟨rfl, rfl⟩
        go_wp2_with fail
        refine (wait_zero _ _ HZ.out).mono ?_
        rintro e w' ⟨rfl, rfl⟩
        go_wp2_with fail
        refine (mean_nil _).mono ?_
        rintro e w' ⟨rfl, rfl⟩
        go_wp2_with fail
        refine (backs_nil _).mono ?_
        rintro e w' ⟨rfl, rfl⟩
        go_wp2
        go_ret
        exact ⟨rfl, HB2.out⟩
      · have hge : zs.length ≤ k := by omega
        clear hlt
        have HB := Lib.hid HK.out.below
        clear HK
        go_wp2_with fail
        refine (alive_any _).mono ?_
        rintro e w2 ⟨rfl, h2⟩
        have hz0 : w2.cell? ⟨wr.heap.size, 0, none⟩ = some (.bool false) := (h2.cell (p := ⟨wr.heap.size, 0, none⟩) (by simp)).trans (cell_cells (heap_alloc_new _ _) rfl)
        have HZ := Lib.hid hz0
        have HB2 := Lib.hid (show Below w.heap.size w w2 from (HB.out.alloc HB.out.size _).trans (h2.mono (by have := HB.out.size; simp; omega)))
        clear h2 hz0 HB
        go_wp2_with fail
        refine (measure_nil 1 _).mono ?_
        rintro e w' ⟨rfl, rfl⟩
        go_wp2_with fail
        refine (measure_zero _ 1 _ HZ.out).mono ?_
        rintro e w' ⟨rfl, rfl⟩
        go_wp2_with fail
        refine (back_nil _).mono ?_
        rintro e w' ⟨rfl, rfl⟩
        go_wp2_with fail
        refine (back_zero _ _ HZ.out).mono ?_
        rintro e w' ⟨rfl, rfl⟩
        go_wp2_with fail
        refine (wait_nil _).mono ?_
        rintro e w' ⟨rfl, rfl⟩
        go_wp2_with fail
        refine (wait_zero _ _ HZ.out).mono ?_
        rintro e w' ⟨rfl, rfl⟩
        go_wp2_with fail
        refine (mean_nil _).mono ?_
        rintro e w' ⟨rfl, rfl⟩
        go_wp2_with fail
        refine (backs_nil _).mono ?_
        rintro e w' ⟨rfl, rfl⟩
        go_wp2
        go_ret
        exact ⟨rfl, HB2.out⟩
end Go.Proofs.Ytfchhadoiknleaa
