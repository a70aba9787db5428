/-
  Proved here: StyleTells.
-/
import Derived.Test.YtohhmpkmcodoeaaDoorZj
import Derived.Deep.RegionHeld
import Derived.Deep.RegionWith
import Derived.Deep.RegionHeld3
set_option linter.unusedSimpArgs false
set_option linter.unusedVariables false
namespace Go.Proofs.YtohhmpkmcodoeaaDoor
open Go.RowKit
/-- A stronger condition on the worlds of a region serves for a weaker one. -/
theorem heldMono {P : Program} {md : Region.Mode} {ops : Array Oper} {Q : Exit → Act → World → Prop} {S S' : World → Prop} (h : ∀ w, S' w → S w) :
    ∀ (fuel : Nat) (listed : Array Bool) (a : Act) (w : World), wpAnyH P md ops Q S' fuel listed a w → wpAnyH P md ops Q S fuel listed a w
  | 0, _, _, _, x => x
  | fuel + 1, _, _, _, x => ⟨x.1, fun i hi => wpOp_mono (fun a' w' h' => ⟨h _ h'.1, heldMono h fuel _ a' w' h'.2⟩) (x.2 i hi)⟩
/-- Two styles in memory, and what was there is as it was. -/
structure TwoB (w : World) (a b : Array Value) (W : World) : Prop where
  r0 : W.heap[w.heap.size]? = some (.cells a 24 (0, 0))
  r1 : W.heap[w.heap.size + 1]? = some (.cells b 24 (0, 0))
  below : Below w.heap.size w W
theorem TwoB.go {w : World} {a b : Array Value} {W W' : World} (h : TwoB w a b W) (hb : Below W.heap.size W W') : TwoB w a b W' :=
  ⟨(hb.block _ (lt_of_block h.r0)).trans h.r0, (hb.block _ (lt_of_block h.r1)).trans h.r1, h.below.trans (hb.mono h.below.size)⟩
theorem twoB_new (w : World) (a b : Array Value) : TwoB w a b ((w.alloc (.cells a 24)).alloc (.cells b 24)) :=
  ⟨(heap_alloc_old _ _ (by simp)).trans (heap_alloc_new _ _), heap_alloc2_new _ _ _, ((Below.refl _ _).alloc (Nat.le_refl _) _).alloc (by simp) _⟩
theorem OwnI.slice {w : World} {v : Value} {xs : List Int} {W : World} (h : OwnI w v xs W) : ∃ A c, v = .slice A xs.length c ∧ xs.length ≤ c ∧ c ≤ maxLen ∧ (A = none → c = 0) ∧ RI .i64 W A xs := by
  obtain ⟨A, c, rfl, hz, hR⟩ := h.ri
  obtain ⟨A', c', e, h1, h2, _⟩ := own_slice h.own
  injection e with e1 e2 e3
  subst e1 e3
  exact ⟨A, c, rfl, h1, h2, hz, hR⟩

/-- Append to an empty row of one's own. -/
theorem OwnI.apps0 {w : World} {v u : Value} {ys : List Int} {W W2 : World} (h : OwnI w v [] W) (hu : ∃ A c, u = .slice A ys.length c ∧ (A = none → c = 0) ∧ RI .i64 W2 A ys) (hb : Below W.heap.size W W2) (hn : ys.length ≤ 100000) :
    ∃ A c w', (Builtin.append_ #[25, 25] 25 #[v, u]).run Tryd.prog W2 = .ok (.slice A ys.length c) w' ∧ OwnI w (.slice A ys.length c) ys w' := by
  obtain ⟨A, c, w', hr, ho⟩ := h.apps hu hb (by rw [List.length_nil, Nat.zero_add]; exact hn)
  rw [List.nil_append, show ([] : List Int).length + ys.length = ys.length by simp] at ho
  rw [show ([] : List Int).length + ys.length = ys.length by simp] at hr
  exact ⟨A, c, w', hr, ho⟩
theorem OwnI.apps1 {w : World} {v u : Value} {xs : List Int} {x : Int} {W W2 : World} (h : OwnI w v xs W) (hu : ∃ A c, u = .slice A 1 c ∧ (A = none → c = 0) ∧ RI .i64 W2 A [x]) (hb : Below W.heap.size W W2) (hn : xs.length < 100000) :
    ∃ A c w', (Builtin.append_ #[25, 25] 25 #[v, u]).run Tryd.prog W2 = .ok (.slice A (xs.length + 1) c) w' ∧ OwnI w (.slice A (xs.length + 1) c) (xs ++ [x]) w' :=
  h.apps (ys := [x]) hu hb (by show xs.length + 1 ≤ 100000; omega)
theorem OwnI.lt {w : World} {n c : Nat} {xs : List Int} {W : World} (h : OwnI w (.slice (some ⟨w.heap.size, 0, none⟩) n c) xs W) : w.heap.size < W.heap.size := by
  rcases h.own.2 with ⟨e, _⟩ | ⟨g, cap, cur, e, _, h4, _⟩
  · cases e
  · injection e with e1
    injection e1 with e1
    injection e1 with e1
    subst e1
    exact lt_of_block h4
/-- Append to a row of one's own, beside another one that stands behind it. -/
theorem app_beside {w : World} {n c z : Nat} {W : World} (h : OwnI w (.slice (some ⟨w.heap.size, 0, none⟩) n c) [] W) (hz : W.heap[z]? = some (.cells #[.int .i64 0] 3 (0, 0))) (hlt : w.heap.size < z) {u : Value} {ys : List Int}
    (hu : ∃ A c, u = .slice A ys.length c ∧ (A = none → c = 0) ∧ RI .i64 W A ys) (hn : ys.length ≤ 100000) :
    ∃ A c' w', (Builtin.append_ #[25, 25] 25 #[.slice (some ⟨w.heap.size, 0, none⟩) n c, u]).run Tryd.prog W = .ok (.slice A ys.length c') w' ∧ OwnI w (.slice A ys.length c') ys w' ∧ RI .i64 w' (some ⟨z, 0, none⟩) [0] := by
  obtain ⟨A0, c0, rfl, hA, hR⟩ := hu
  obtain ⟨v', w', r, o, g⟩ := app_i64 (ys := ys) rfl c0 hR hA h.own (by simpa using hn) h.below.size
  rw [show ([] : List Int).length + ys.length = ys.length by simp, List.nil_append] at o
  obtain ⟨A, c', rfl, _⟩ := own_slice o
  have hk : w'.heap[z]? = some (.cells #[.int .i64 0] 3 (0, 0)) := (g.block z (lt_of_block hz) (by simp [Value.ownBlock]; omega)).trans hz
  refine ⟨A, c', w', r, ⟨o, h.below.grown g h.below.size (ownBlock_le h.own)⟩, fun _ => ⟨z, 0, rfl, lt_of_block hk, fun i hi => ?_⟩⟩
  obtain rfl : i = 0 := by simpa using hi
  unfold World.cell?
  simp only [hk]
  rfl
theorem RI.take {k : IntKind} {w : World} {A : Option Addr} {l : List Int} (m : Nat) (h : RI k w A l) : RI k w A (l.take m) := by
  intro h0
  rw [List.length_take] at h0
  obtain ⟨b, off, rfl, hb, hc⟩ := h (by omega)
  refine ⟨b, off, rfl, hb, fun i hi => ?_⟩
  rw [List.length_take] at hi
  rw [hc i (by omega)]
  simp [List.getD, List.getElem?_take, show i < m by omega]
theorem RI.tail1 {k : IntKind} {w : World} {b off : Nat} {l : List Int} (h : RI k w (some ⟨b, off, none⟩) l) : RI k w (some ⟨b, off + 1, none⟩) (l.drop 1) := by
  intro h0
  rw [List.length_drop] at h0
  obtain ⟨b', off', e, hb, hc⟩ := h (by omega)
  injection e with e
  injection e with e1 e2
  subst e1 e2
  refine ⟨b, off + 1, rfl, hb, fun i hi => ?_⟩
  rw [List.length_drop] at hi
  rw [Nat.add_assoc, hc (1 + i) (by omega), drop_getD]
theorem good_take1 {s : Sty} {l : List Int} (hs : Good s) (h : Simple l) (hl : 1 ≤ l.length) : Good (changeS s (l.take 1)) := by
  match l, hl with
  | x :: r, _ =>
    show Good (changeS s [x])
    have := h x (List.mem_cons_self ..)
    rw [change_one s x (by omega)]
    exact hs.one x
theorem params_len (s : Sty) : (paramsS s).length ≤ 1000 := by
  unfold paramsS
  split
  · have := flagNs_len s.fs 9
    have := tellS_len 38 s.fg
    have := tellS_len 48 s.bg
    simp; omega
  · simp
set_option maxRecDepth 100000 in
set_option maxHeartbeats 16000000 in
theorem tells_any (s t : Sty) (W : World) (h : Both W) (hs : Good s) (ht : Good t) {A : Option Addr} {n cp : Nat} {l : List Int} (hR : RI .i64 W A l) (hl : l.length = n) (hcp : n ≤ cp) (hcm : cp ≤ maxLen) (hnil : A = none → cp = 0) :
    Calls Tryd.prog 5 #[pV s, pV t, .slice A n cp] W fun e w' => e = .returned (.bool true) ∧ Below W.heap.size W w' := by
  have HAL := Lib.hid (fun (U : World) (hU : Below W.heap.size W U) => alive_any U (h.below hU (Nat.le_refl _)))
  have HCH := Lib.hid (fun (y : Sty) (hy : Good y) (U : World) (hU : Below W.heap.size W U) (A : Option Addr) (m c : Nat) (ys : List Int) (hR : RI .i64 U A ys) (hl : ys.length = m) (hm : m ≤ 1000) (h1 : m ≤ c) (h2 : c ≤ maxLen) => p_change y (w := U) (A := A) (n := m) (cp := c) hy (h.below hU (Nat.le_refl _)).ft hR hl (by omega) h1 h2)
  have HRT := Lib.hid (fun (U : World) => p_right t U ht)
  have HPA := Lib.hid (fun (U : World) (hU : Below W.heap.size W U) => p_params t U ht (h.below hU (Nat.le_refl _)).ft)
  have HGS := Lib.hid hs
  have HGT := Lib.hid ht
  obtain ⟨fs, fg, bg⟩ := s
  obtain ⟨ft, gf, gb⟩ := t
  obtain ⟨a, ha⟩ : ∃ a, flagsF fs = a := ⟨_, rfl⟩
  obtain ⟨b, hb⟩ : ∃ a, flagsF ft = a := ⟨_, rfl⟩
  have HPS : Hid (Unit → pV ⟨fs, fg, bg⟩ = .agg #[.int .u8 a, .int .u32 fg, .int .u32 bg]) := Lib.hid (fun _ => by rw [← ha])
  have HPT : Hid (Unit → pV ⟨ft, gf, gb⟩ = .agg #[.int .u8 b, .int .u32 gf, .int .u32 gb]) := Lib.hid (fun _ => by rw [← hb])
  have HT0 := Lib.hid (twoB_new W #[.int .u8 a, .int .u32 fg, .int .u32 bg] #[.int .u8 b, .int .u32 gf, .int .u32 gb])
  rw [HPS.out (), HPT.out ()]
  rw [HPT.out ()] at HRT HPA
  unfold maxLen at hcm
  have HRL := Lib.hid hR
  have HLL := Lib.hid (fun (_ : Unit) => hl)
  have HNI := Lib.hid hnil
  clear ha hb hs ht h hR hl hnil
  by_cases hn : 100 < n
  · have d1 : decide (100 < (n : Int)) = true := by simp; omega
    go_enter Tryd.func5, Tryd.ntmps5
    go_wp2_with fail
    refine (HAL.out _ HT0.out.below).mono ?_
    rintro e w1 ⟨rfl, hb1⟩
    have HB := Lib.hid (HT0.out.below.trans (hb1.mono HT0.out.below.size))
    clear hb1
    go_wp2
    go_ret
    exact ⟨rfl, HB.out⟩
  have d1 : decide (100 < (n : Int)) = false := by simp; omega
  go_enter Tryd.func5, Tryd.ntmps5
  go_wp2
  obtain ⟨U, hU⟩ : ∃ U, ((W.alloc (.cells #[.int .u8 a, .int .u32 fg, .int .u32 bg] 24)).alloc (.cells #[.int .u8 b, .int .u32 gf, .int .u32 gb] 24)) = U := ⟨_, rfl⟩
  rw [hU] at HT0 ⊢
  clear hU
  obtain ⟨p0, p1, p2⟩ := pcell HT0.out.r0
  obtain ⟨q0, q1, q2⟩ := pcell HT0.out.r1
  have zb : (b != b) = false := by simp
  have zg : (gf != gf) = false := by simp
  have zh : (gb != gb) = false := by simp
  obtain ⟨rt, hrt⟩ : ∃ rt, rightS ⟨ft, gf, gb⟩ = rt := ⟨_, rfl⟩
  rw [hrt] at HRT
  have HTW := Lib.hid (fun V (hV : Below U.heap.size U V) => HT0.out.go hV)
  cases rt
  · clear HPA
    have HDB := Lib.hid (Below.refl U.heap.size U).drew
    refine wp_region_held_drew (S := fun W => Below U.drew.heap.size U.drew W) (by kernel_rfl) (Below.refl _ _) (fun hHeld => ?_)
    clear p0 p1 p2 q0 q1 q2
    refine wpAnyH_take (i := 0) (v := ?_) (by simp; rfl) (by kernel_rfl) (by kernel_rfl) (by kernel_rfl) (by exact fun _ _ _ h => h) (Or.inl ⟨by rfl, fun wx hSx => ?_⟩) hHeld ?_
    rotate_left
    · have hz := HTW.out wx (HDB.out.trans (hSx.mono HDB.out.size)); obtain ⟨p0, p1, p2⟩ := pcell hz.r0; obtain ⟨q0, q1, q2⟩ := pcell hz.r1; clear hSx hz; go_simp; (try with_reducible rfl)
    simp only [Act.put, List.setIfInBounds_toArray, List.set_cons_zero, List.set_cons_succ]
    refine wpAnyH_ready (rs := [1]) (by kernel_rfl) (by simp) ?_
    refine AllReadyH.cons (by simp; rfl) (fun K0 hK0 => ?_) AllReadyH.nil
    go_simp
    refine (HRT.out _).mono ?_
    rintro e v1 ⟨rfl, hx⟩
    have hbv1 : Below U.drew.heap.size U.drew v1 := hx
    have HDB2 := Lib.hid (HDB.out.trans (hbv1.mono HDB.out.size))
    clear HDB
    have HDB := HDB2
    clear HDB2
    clear hx
    refine hK0.out _ _ hbv1 (fun _ => ?_)
    clear hK0 K0 hHeld
    refine heldMono (S' := fun W => Below v1.heap.size v1 W) (fun _ h => hbv1.trans (h.mono hbv1.size)) _ _ _ _ ?_
    have hHeld := Below.refl v1.heap.size v1
    have HBv1 := Lib.hid hbv1
    clear hbv1
    refine wpAnyH_take (i := 2) (v := ?_) (by simp; rfl) (by kernel_rfl) (by kernel_rfl) (by kernel_rfl) (by exact fun _ _ _ h => h) (Or.inl ⟨by rfl, fun wx hSx => ?_⟩) hHeld ?_
    rotate_left
    · clear hSx; go_simp; (try with_reducible rfl)
    simp only [Act.put, List.setIfInBounds_toArray, List.set_cons_zero, List.set_cons_succ]
    refine wpAnyH_take (i := 3) (v := undef) (by simp; rfl) (by kernel_rfl) (by kernel_rfl) (by kernel_rfl) (by exact fun _ _ _ h => h) (Or.inr ⟨by rfl, rfl⟩) hHeld ?_
    simp only [Act.put, List.setIfInBounds_toArray, List.set_cons_zero, List.set_cons_succ]
    refine wpAnyH_take (i := 4) (v := undef) (by simp; rfl) (by kernel_rfl) (by kernel_rfl) (by kernel_rfl) (by exact fun _ _ _ h => h) (Or.inr ⟨by rfl, rfl⟩) hHeld ?_
    simp only [Act.put, List.setIfInBounds_toArray, List.set_cons_zero, List.set_cons_succ]
    refine wpAnyH_take (i := 5) (v := undef) (by simp; rfl) (by kernel_rfl) (by kernel_rfl) (by kernel_rfl) (by exact fun _ _ _ h => h) (Or.inr ⟨by rfl, rfl⟩) hHeld ?_
    simp only [Act.put, List.setIfInBounds_toArray, List.set_cons_zero, List.set_cons_succ]
    refine wpAnyH_take (i := 6) (v := undef) (by simp; rfl) (by kernel_rfl) (by kernel_rfl) (by kernel_rfl) (by exact fun _ _ _ h => h) (Or.inr ⟨by rfl, rfl⟩) hHeld ?_
    simp only [Act.put, List.setIfInBounds_toArray, List.set_cons_zero, List.set_cons_succ]
    refine wpAnyH_take (i := 7) (v := undef) (by simp; rfl) (by kernel_rfl) (by kernel_rfl) (by kernel_rfl) (by exact fun _ _ _ h => h) (Or.inr ⟨by rfl, rfl⟩) hHeld ?_
    simp only [Act.put, List.setIfInBounds_toArray, List.set_cons_zero, List.set_cons_succ]
    refine wpAnyH_take (i := 8) (v := undef) (by simp; rfl) (by kernel_rfl) (by kernel_rfl) (by kernel_rfl) (by exact fun _ _ _ h => h) (Or.inr ⟨by rfl, rfl⟩) hHeld ?_
    simp only [Act.put, List.setIfInBounds_toArray, List.set_cons_zero, List.set_cons_succ]
    refine wpAnyH_take (i := 9) (v := ?_) (by simp; rfl) (by kernel_rfl) (by kernel_rfl) (by kernel_rfl) (by exact fun _ _ _ h => h) (Or.inl ⟨by rfl, fun wx hSx => ?_⟩) hHeld ?_
    rotate_left
    · clear hSx; go_simp; (try with_reducible rfl)
    simp only [Act.put, List.setIfInBounds_toArray, List.set_cons_zero, List.set_cons_succ]
    refine wpAnyH_done (by kernel_rfl) ?_ _
    clear hHeld
    have HT1 := Lib.hid (HTW.out _ HDB.out)
    clear HDB HTW HT0 HRT
    obtain ⟨V, hV⟩ : ∃ V, v1 = V := ⟨_, rfl⟩
    rw [hV] at HT1 ⊢
    clear hV
    go_wp2
    go_loop [7] (fun iv => ∃ i : Nat, iv = .int .i64 i ∧ i ≤ n ∧ Hid (∀ j, j < i → l.getD j 0 ≠ 38 ∧ l.getD j 0 ≠ 48)) (fun iv => n - (intOf iv).toNat)
    case atStart => exact ⟨0, rfl, by omega, Lib.hid (fun j hj => by omega)⟩
    case round =>
      obtain ⟨i, rfl, hi, HI⟩ := hrel
      by_cases hin : i < n
      · have d2 : decide ((i : Int) < (n : Int)) = true := by simp; omega
        have d3 : decide (i < n) = true := by simp; omega
        have g3 : (0 : Int) ≤ (i : Int) := by omega
        have g4 : (i : Int) < (n : Int) := by omega
        obtain ⟨bl, off, rfl, hbl, hc⟩ := HRL.out (by rw [HLL.out ()]; omega)
        have e0 := (HT1.out.below.cell (p := ⟨bl, off + i, none⟩) hbl).trans (hc i (by rw [HLL.out ()]; exact hin))
        obtain ⟨x, hx⟩ : ∃ x, l.getD i 0 = x := ⟨_, rfl⟩
        rw [hx] at e0
        have HX := Lib.hid (fun (_ : Unit) => hx)
        clear hc hbl hx
        by_cases h38 : x = 38
        · subst h38
          go_wp2_with fail
          refine (HAL.out _ HT1.out.below).mono ?_
          rintro e w1 ⟨rfl, hb1⟩
          have HB := Lib.hid (HT1.out.below.trans (hb1.mono HT1.out.below.size))
          clear hb1
          go_wp2
          go_ret
          exact ⟨rfl, HB.out⟩
        have z38 : (x == 38) = false := by simpa using h38
        by_cases h48 : x = 48
        · subst h48
          go_wp2_with fail
          refine (HAL.out _ HT1.out.below).mono ?_
          rintro e w1 ⟨rfl, hb1⟩
          have HB := Lib.hid (HT1.out.below.trans (hb1.mono HT1.out.below.size))
          clear hb1
          go_wp2
          go_ret
          exact ⟨rfl, HB.out⟩
        have z48 : (x == 48) = false := by simpa using h48
        have HI2 : Hid (∀ j, j < i + 1 → l.getD j 0 ≠ 38 ∧ l.getD j 0 ≠ 48) := Lib.hid (fun j hj => by
          by_cases hji : j < i
          · exact HI.out j hji
          · obtain rfl : j = i := by omega
            rw [HX.out ()]
            exact ⟨h38, h48⟩)
        clear h38 h48 HX
        go_wp2
        go_round
        case rel => exact ⟨i + 1, by go_num, by omega, HI2⟩
        case measure => simp [intOf]; omega
      · obtain rfl : i = n := by omega
        have d2 : decide ((i : Int) < (i : Int)) = false := by simp
        have d3 : decide (i < i) = false := by simp
        have hsim : Simple l := fun x hx => by
          obtain ⟨j, hj, rfl⟩ := List.getElem_of_mem hx
          have := HI.out j (by rw [← HLL.out ()]; exact hj)
          simpa [List.getD, hj] using this
        have HSI := Lib.hid hsim
        have HCS := Lib.hid (fun (U : World) (hU : Below W.heap.size W U) (A : Option Addr) (m c : Nat) (ys : List Int) (hR : RI .i64 U A ys) (hl : ys.length = m) (hm : m ≤ 1000) (h1 : m ≤ c) (h2 : c ≤ maxLen) => HPS.out () ▸ HCH.out ⟨fs, fg, bg⟩ HGS.out U hU A m c ys hR hl hm h1 h2)
        have HCZ : Hid (Unit → pV (changeS ⟨fs, fg, bg⟩ (l ++ [0])) = .agg #[.int .u8 0, .int .u32 0, .int .u32 0]) := Lib.hid (fun _ => by rw [change_zero _ hsim]; exact pV_zero)
        have HTW := Lib.hid (fun X (hX : Below V.heap.size V X) => HT1.out.go hX)
        have HUL := Lib.hid (fun X (hX : Below V.heap.size V X) => (show ∃ A' c', (Value.slice A i cp) = .slice A' l.length c' ∧ (A' = none → c' = 0) ∧ RI .i64 X A' l from ⟨A, cp, by rw [HLL.out ()], HNI.out, RI.below (RI.below HRL.out HT1.out.below) hX⟩))
        have hll : l.length ≤ 100 := by rw [HLL.out ()]; omega
        have hi100 : i ≤ 100 := by omega
        clear hsim HI hi hin hn
        go_wp2
        have HDB := Lib.hid (Below.refl V.heap.size V).drew
        refine wp_region_held_drew (S := fun W => Below V.drew.heap.size V.drew W) (by kernel_rfl) (Below.refl _ _) (fun hHeld => ?_)
        generalize V.drew = D at HDB hHeld ⊢
        refine wpAnyH_take (i := 0) (v := ?_) (by simp; rfl) (by kernel_rfl) (by kernel_rfl) (by kernel_rfl) (by exact fun _ _ _ h => h) (Or.inl ⟨by rfl, fun wx hSx => ?_⟩) hHeld ?_
        rotate_left
        · have hz := HTW.out wx (HDB.out.trans (hSx.mono HDB.out.size)); obtain ⟨p0, p1, p2⟩ := pcell hz.r0; clear hSx hz; go_simp; (try with_reducible rfl)
        simp only [Act.put, List.setIfInBounds_toArray, List.set_cons_zero, List.set_cons_succ]
        refine wpAnyH_take (i := 2) (v := ?_) (by simp; rfl) (by kernel_rfl) (by kernel_rfl) (by kernel_rfl) (by exact fun _ _ _ h => h) (Or.inl ⟨by rfl, fun wx hSx => ?_⟩) hHeld ?_
        rotate_left
        · clear hSx; go_simp; (try with_reducible rfl)
        simp only [Act.put, List.setIfInBounds_toArray, List.set_cons_zero, List.set_cons_succ]
        refine wpAnyH_take (i := 7) (v := ?_) (by simp; rfl) (by kernel_rfl) (by kernel_rfl) (by kernel_rfl) (by exact fun _ _ _ h => h) (Or.inl ⟨by rfl, fun wx hSx => ?_⟩) hHeld ?_
        rotate_left
        · clear hSx; go_simp; (try with_reducible rfl)
        simp only [Act.put, List.setIfInBounds_toArray, List.set_cons_zero, List.set_cons_succ]
        refine wpAnyH_ready (rs := [1, 4]) (by kernel_rfl) (by simp) ?_
        refine AllReadyH.cons (by simp; rfl) (fun K0 hK0 => ?_) (AllReadyH.cons (by simp; rfl) (fun K0 hK0 => ?_) AllReadyH.nil)
        · go_simp
          have ho : OwnI D (.slice (some ⟨D.heap.size, 0, none⟩) 0 0) [] (D.alloc (.cells #[] 3)) := OwnI.lit D [] 0 rfl (by omega)
          generalize D.alloc (.cells #[] 3) = x0a at ho ⊢
          have HE := Lib.hid ho
          clear ho
          refine hK0.out _ _ (HE.out.below) (fun hHeld => ?_)
          clear hK0 K0
          refine wpAnyH_ready (rs := [3, 4]) (by kernel_rfl) (by simp) ?_
          refine AllReadyH.cons (by simp; rfl) (fun K0 hK0 => ?_) (AllReadyH.cons (by simp; rfl) (fun K0 hK0 => ?_) AllReadyH.nil)
          · obtain ⟨A6, c6, x1p, hrun, ho⟩ := HE.out.apps0 (ys := l) (u := .slice A i cp) (HUL.out _ (HDB.out.trans ((HE.out.below).mono HDB.out.size))) (Below.refl _ _) (by omega)
            have HRUN := Lib.hid hrun
            clear HE
            have HE := Lib.hid ho
            clear hrun ho
            refine step_app rfl (.tmp 42) (.tmp 43) _ rfl _ _ rfl rfl HRUN.out ?_
            simp only [Act.put, List.setIfInBounds_toArray, List.set_cons_zero, List.set_cons_succ]
            clear HRUN
            refine hK0.out _ _ (HE.out.below) (fun hHeld => ?_)
            clear hK0 K0
            refine wpAnyH_ready (rs := [4]) (by kernel_rfl) (by simp) ?_
            refine AllReadyH.cons (by simp; rfl) (fun K0 hK0 => ?_) AllReadyH.nil
            go_simp
            obtain ⟨A7, c7, w7, hrun, ho⟩ := HE.out.app (by omega) 0
            have HRUN := Lib.hid hrun
            have HO := Lib.hid ho
            clear hrun ho
            refine hK0.out _ _ ((HE.out.to ((Below.refl _ _).alloc (Nat.le_refl _) _)).below) (fun hHeld => ?_)
            clear hK0 K0
            refine wpAnyH_ready (rs := [5]) (by kernel_rfl) (by simp) ?_
            refine AllReadyH.cons (by simp; rfl) (fun K0 hK0 => ?_) AllReadyH.nil
            refine step_app rfl (.tmp 44) (.tmp 45) _ rfl _ _ rfl rfl HRUN.out ?_
            simp only [Act.put, List.setIfInBounds_toArray, List.set_cons_zero, List.set_cons_succ]
            clear HRUN HE
            refine hK0.out _ _ (HO.out.below) (fun hHeld => ?_)
            clear hK0 K0
            refine wpAnyH_ready (rs := [6]) (by kernel_rfl) (by simp) ?_
            refine AllReadyH.cons (by simp; rfl) (fun K0 hK0 => ?_) AllReadyH.nil
            go_simp
            obtain ⟨A8, c8, he8, ho1, ho2, _, hor⟩ := HO.out.slice
            injection he8 with e1 e2 e3
            subst e1 e3
            refine (HCS.out _ (HT1.out.below.trans ((HDB.out.trans (HO.out.below.mono HDB.out.size)).mono HT1.out.below.size)) _ _ _ _ hor (by simp) (by omega) (by have := ho1; simp at this; omega) ho2).mono ?_
            rintro e v6 ⟨rfl, hx⟩
            have HDV := Lib.hid (HO.out.below.trans (hx.mono HO.out.below.size))
            rw [HCZ.out ()]
            clear hx ho1 ho2 hor e2
            refine hK0.out _ _ (HDV.out) (fun hHeld => ?_)
            clear hK0 K0
            refine wpAnyH_take (i := 8) (v := ?_) (by simp; rfl) (by kernel_rfl) (by kernel_rfl) (by kernel_rfl) (by exact fun _ _ _ h => h) (Or.inl ⟨by rfl, fun wx hSx => ?_⟩) hHeld ?_
            rotate_left
            · clear hSx; go_simp; (try with_reducible rfl)
            simp only [Act.put, List.setIfInBounds_toArray, List.set_cons_zero, List.set_cons_succ]
            refine wpAnyH_done (by kernel_rfl) ?_ _
            have HT2 := Lib.hid (HTW.out _ (HDB.out.trans (HDV.out.mono HDB.out.size)))
            clear hHeld HDV HDB HTW HO HCZ HUL
            by_cases h2 : i < 2
            · have d4 : decide ((i : Int) < 2) = true := by simp; omega
              clear h2
              go_wp2_with fail
              refine (HAL.out _ HT2.out.below).mono ?_
              rintro e w1 ⟨rfl, hb1⟩
              have HB := Lib.hid (HT2.out.below.trans (hb1.mono HT2.out.below.size))
              clear hb1
              go_wp2
              go_ret
              exact ⟨rfl, HB.out⟩
            have d4 : decide ((i : Int) < 2) = false := by simp; omega
            obtain ⟨bl, off, rfl, hbl, hc⟩ := HRL.out (by rw [HLL.out ()]; omega)
            have hrv : ∀ X, Below v6.heap.size v6 X → RI .i64 X (some ⟨bl, off, none⟩) l := fun X hX => RI.below (RI.below HRL.out HT2.out.below) hX
            have HRA1 := Lib.hid hrv
            have HRT1 := Lib.hid (fun X hX => RI.take 1 (hrv X hX))
            have HRD1 := Lib.hid (fun X hX => RI.tail1 (hrv X hX))
            have HLT : Hid ((l.take 1).length = 1) := Lib.hid (by rw [List.length_take, HLL.out ()]; omega)
            have HLD : Hid ((l.drop 1).length = i - 1) := Lib.hid (by rw [List.length_drop, HLL.out ()])
            have HCP1 : Hid (1 ≤ cp ∧ cp ≤ maxLen) := Lib.hid (by unfold maxLen; omega)
            have HCP2 : Hid (i - 1 ≤ cp - 1 ∧ cp - 1 ≤ maxLen) := Lib.hid (by unfold maxLen; omega)
            have HCP3 : Hid (i ≤ cp ∧ cp ≤ maxLen) := Lib.hid (by unfold maxLen; omega)
            have hg1 : Good (changeS ⟨fs, fg, bg⟩ (l.take 1)) := good_take1 HGS.out HSI.out (by rw [HLL.out ()]; omega)
            have hct := change_two ⟨fs, fg, bg⟩ HSI.out (by rw [HLL.out ()]; omega)
            obtain ⟨Y1, hy1⟩ : ∃ Y, changeS ⟨fs, fg, bg⟩ (l.take 1) = Y := ⟨_, rfl⟩
            rw [hy1] at hg1 hct
            have HCY' := fun (U : World) (hU : Below W.heap.size W U) (A : Option Addr) (m c : Nat) (ys : List Int) (hR : RI .i64 U A ys) (hl : ys.length = m) (hm : m ≤ 1000) (h1 : m ≤ c) (h2 : c ≤ maxLen) => HCH.out Y1 hg1 U hU A m c ys hR hl hm h1 h2
            obtain ⟨p, q, r, hp⟩ : ∃ p q r, pV Y1 = .agg #[.int .u8 p, .int .u32 q, .int .u32 r] := ⟨_, _, _, rfl⟩
            obtain ⟨p', q', r', hp'⟩ : ∃ p q r, pV (changeS ⟨fs, fg, bg⟩ l) = .agg #[.int .u8 p, .int .u32 q, .int .u32 r] := ⟨_, _, _, rfl⟩
            have HY1 : Hid (Unit → pV (changeS ⟨fs, fg, bg⟩ (l.take 1)) = .agg #[.int .u8 p, .int .u32 q, .int .u32 r]) := Lib.hid (fun _ => by rw [hy1, hp])
            have HY2 : Hid (Unit → pV (changeS Y1 (l.drop 1)) = .agg #[.int .u8 p', .int .u32 q', .int .u32 r']) := Lib.hid (fun _ => by rw [hct, hp'])
            have HY3 : Hid (Unit → pV (changeS ⟨fs, fg, bg⟩ l) = .agg #[.int .u8 p', .int .u32 q', .int .u32 r']) := Lib.hid (fun _ => hp')
            have HCY := Lib.hid (fun U hU A m c ys hR hl hm h1 h2 => hp ▸ HCY' U hU A m c ys hR hl hm h1 h2)
            have s1 : (1 : Int) ≤ (cp : Int) := by omega
            have s2 : (1 : Int) ≤ (i : Int) := by omega
            have s3 : ¬ cp = 1 := by omega
            have HTW := Lib.hid (fun X (hX : Below v6.heap.size v6 X) => HT2.out.go hX)
            clear hrv hg1 hct hy1 HCY' hp hp' hc hbl h2 HCH HT1
            go_wp2
            have HDB := Lib.hid (Below.refl v6.heap.size v6).drew
            refine wp_region_held_drew (S := fun W => Below v6.drew.heap.size v6.drew W) (by kernel_rfl) (Below.refl _ _) (fun hHeld => ?_)
            refine wpAnyH_ready (rs := [0]) (by kernel_rfl) (by simp) ?_
            refine AllReadyH.cons (by simp; rfl) (fun K0 hK0 => ?_) AllReadyH.nil
            go_simp
            refine (HAL.out _ (HT2.out.below.trans (HDB.out.mono HT2.out.below.size))).mono ?_
            rintro e v1 ⟨rfl, hx⟩
            have hbv1 : Below v6.drew.heap.size v6.drew v1 := hx
            have HDB2 := Lib.hid (HDB.out.trans (hbv1.mono HDB.out.size))
            clear HDB
            have HDB := HDB2
            clear HDB2
            clear hx
            refine hK0.out _ _ hbv1 (fun _ => ?_)
            clear hK0 K0 hHeld
            refine heldMono (S' := fun W => Below v1.heap.size v1 W) (fun _ h => hbv1.trans (h.mono hbv1.size)) _ _ _ _ ?_
            have hHeld := Below.refl v1.heap.size v1
            have HBv1 := Lib.hid hbv1
            clear hbv1
            refine wpAnyH_take (i := 1) (v := ?_) (by simp; rfl) (by kernel_rfl) (by kernel_rfl) (by kernel_rfl) (by exact fun _ _ _ h => h) (Or.inl ⟨by rfl, fun wx hSx => ?_⟩) hHeld ?_
            rotate_left
            · clear hSx; go_simp; (try with_reducible rfl)
            simp only [Act.put, List.setIfInBounds_toArray, List.set_cons_zero, List.set_cons_succ]
            refine wpAnyH_take (i := 2) (v := ?_) (by simp; rfl) (by kernel_rfl) (by kernel_rfl) (by kernel_rfl) (by exact fun _ _ _ h => h) (Or.inl ⟨by rfl, fun wx hSx => ?_⟩) hHeld ?_
            rotate_left
            · have hz := HTW.out wx (HDB.out.trans (hSx.mono HDB.out.size)); obtain ⟨p0, p1, p2⟩ := pcell hz.r0; clear hSx hz; go_simp; (try with_reducible rfl)
            simp only [Act.put, List.setIfInBounds_toArray, List.set_cons_zero, List.set_cons_succ]
            refine wpAnyH_take (i := 3) (v := ?_) (by simp; rfl) (by kernel_rfl) (by kernel_rfl) (by kernel_rfl) (by exact fun _ _ _ h => h) (Or.inl ⟨by rfl, fun wx hSx => ?_⟩) hHeld ?_
            rotate_left
            · clear hSx; go_simp; (try with_reducible rfl)
            simp only [Act.put, List.setIfInBounds_toArray, List.set_cons_zero, List.set_cons_succ]
            refine wpAnyH_take (i := 4) (v := ?_) (by simp; rfl) (by kernel_rfl) (by kernel_rfl) (by kernel_rfl) (by exact fun _ _ _ h => h) (Or.inl ⟨by rfl, fun wx hSx => ?_⟩) hHeld ?_
            rotate_left
            · clear hSx; go_simp; (try with_reducible rfl)
            simp only [Act.put, List.setIfInBounds_toArray, List.set_cons_zero, List.set_cons_succ]
            refine wpAnyH_take (i := 6) (v := ?_) (by simp; rfl) (by kernel_rfl) (by kernel_rfl) (by kernel_rfl) (by exact fun _ _ _ h => h) (Or.inl ⟨by rfl, fun wx hSx => ?_⟩) hHeld ?_
            rotate_left
            · clear hSx; go_simp; (try with_reducible rfl)
            simp only [Act.put, List.setIfInBounds_toArray, List.set_cons_zero, List.set_cons_succ]
            refine wpAnyH_take (i := 7) (v := ?_) (by simp; rfl) (by kernel_rfl) (by kernel_rfl) (by kernel_rfl) (by exact fun _ _ _ h => h) (Or.inl ⟨by rfl, fun wx hSx => ?_⟩) hHeld ?_
            rotate_left
            · clear hSx; go_simp; (try with_reducible rfl)
            simp only [Act.put, List.setIfInBounds_toArray, List.set_cons_zero, List.set_cons_succ]
            refine wpAnyH_take (i := 9) (v := ?_) (by simp; rfl) (by kernel_rfl) (by kernel_rfl) (by kernel_rfl) (by exact fun _ _ _ h => h) (Or.inl ⟨by rfl, fun wx hSx => ?_⟩) hHeld ?_
            rotate_left
            · have hz := HTW.out wx (HDB.out.trans (hSx.mono HDB.out.size)); obtain ⟨p0, p1, p2⟩ := pcell hz.r0; clear hSx hz; go_simp; (try with_reducible rfl)
            simp only [Act.put, List.setIfInBounds_toArray, List.set_cons_zero, List.set_cons_succ]
            refine wpAnyH_take (i := 10) (v := ?_) (by simp; rfl) (by kernel_rfl) (by kernel_rfl) (by kernel_rfl) (by exact fun _ _ _ h => h) (Or.inl ⟨by rfl, fun wx hSx => ?_⟩) hHeld ?_
            rotate_left
            · clear hSx; go_simp; (try with_reducible rfl)
            simp only [Act.put, List.setIfInBounds_toArray, List.set_cons_zero, List.set_cons_succ]
            refine wpAnyH_ready (rs := [5]) (by kernel_rfl) (by simp) ?_
            refine AllReadyH.cons (by simp; rfl) (fun K0 hK0 => ?_) AllReadyH.nil
            go_simp
            refine (HCS.out _ (HT2.out.below.trans (HDB.out.mono HT2.out.below.size)) _ _ _ _ (HRT1.out _ HDB.out) HLT.out (by omega) HCP1.out.1 HCP1.out.2).mono ?_
            rintro e v20 ⟨rfl, hx⟩
            have hbv20 : Below v1.heap.size v1 v20 := hx
            have HDB2 := Lib.hid (HDB.out.trans (hbv20.mono HDB.out.size))
            clear HDB
            have HDB := HDB2
            clear HDB2
            clear hx
            rw [HY1.out ()]
            refine hK0.out _ _ hbv20 (fun _ => ?_)
            clear hK0 K0 hHeld
            refine heldMono (S' := fun W => Below v20.heap.size v20 W) (fun _ h => hbv20.trans (h.mono hbv20.size)) _ _ _ _ ?_
            have hHeld := Below.refl v20.heap.size v20
            have HBv20 := Lib.hid hbv20
            clear hbv20
            refine wpAnyH_ready (rs := [8]) (by kernel_rfl) (by simp) ?_
            refine AllReadyH.cons (by simp; rfl) (fun K0 hK0 => ?_) AllReadyH.nil
            go_simp
            refine (HCY.out _ (HT2.out.below.trans (HDB.out.mono HT2.out.below.size)) _ _ _ _ (HRD1.out _ HDB.out) HLD.out (by omega) HCP2.out.1 HCP2.out.2).mono ?_
            rintro e v35 ⟨rfl, hx⟩
            have hbv35 : Below v20.heap.size v20 v35 := hx
            have HDB2 := Lib.hid (HDB.out.trans (hbv35.mono HDB.out.size))
            clear HDB
            have HDB := HDB2
            clear HDB2
            clear hx
            rw [HY2.out ()]
            refine hK0.out _ _ hbv35 (fun _ => ?_)
            clear hK0 K0 hHeld
            refine heldMono (S' := fun W => Below v35.heap.size v35 W) (fun _ h => hbv35.trans (h.mono hbv35.size)) _ _ _ _ ?_
            have hHeld := Below.refl v35.heap.size v35
            have HBv35 := Lib.hid hbv35
            clear hbv35
            refine wpAnyH_ready (rs := [11]) (by kernel_rfl) (by simp) ?_
            refine AllReadyH.cons (by simp; rfl) (fun K0 hK0 => ?_) AllReadyH.nil
            go_simp
            refine (HCS.out _ (HT2.out.below.trans (HDB.out.mono HT2.out.below.size)) _ _ _ _ (HRA1.out _ HDB.out) (HLL.out ()) (by omega) HCP3.out.1 HCP3.out.2).mono ?_
            rintro e v48 ⟨rfl, hx⟩
            have hbv48 : Below v35.heap.size v35 v48 := hx
            have HDB2 := Lib.hid (HDB.out.trans (hbv48.mono HDB.out.size))
            clear HDB
            have HDB := HDB2
            clear HDB2
            clear hx
            rw [HY3.out ()]
            refine hK0.out _ _ hbv48 (fun _ => ?_)
            clear hK0 K0 hHeld
            refine heldMono (S' := fun W => Below v48.heap.size v48 W) (fun _ h => hbv48.trans (h.mono hbv48.size)) _ _ _ _ ?_
            have hHeld := Below.refl v48.heap.size v48
            have HBv48 := Lib.hid hbv48
            clear hbv48
            refine wpAnyH_take (i := 12) (v := ?_) (by simp; rfl) (by kernel_rfl) (by kernel_rfl) (by kernel_rfl) (by exact fun _ _ _ h => h) (Or.inl ⟨by rfl, fun wx hSx => ?_⟩) hHeld ?_
            rotate_left
            · clear hSx; go_simp; (try with_reducible rfl)
            simp only [Act.put, List.setIfInBounds_toArray, List.set_cons_zero, List.set_cons_succ]
            refine wpAnyH_take (i := 13) (v := ?_) (by simp; rfl) (by kernel_rfl) (by kernel_rfl) (by kernel_rfl) (by exact fun _ _ _ h => h) (Or.inl ⟨by rfl, fun wx hSx => ?_⟩) hHeld ?_
            rotate_left
            · clear hSx; go_simp; (try with_reducible rfl)
            simp only [Act.put, List.setIfInBounds_toArray, List.set_cons_zero, List.set_cons_succ]
            refine wpAnyH_take (i := 14) (v := ?_) (by simp; rfl) (by kernel_rfl) (by kernel_rfl) (by kernel_rfl) (by exact fun _ _ _ h => h) (Or.inl ⟨by rfl, fun wx hSx => ?_⟩) hHeld ?_
            rotate_left
            · clear hSx; go_simp; (try with_reducible rfl)
            simp only [Act.put, List.setIfInBounds_toArray, List.set_cons_zero, List.set_cons_succ]
            refine wpAnyH_done (by kernel_rfl) ?_ _
            have HBF := Lib.hid (HT2.out.below.trans (HDB.out.mono HT2.out.below.size))
            clear hHeld HDB HTW
            go_wp2
            go_ret
            exact ⟨rfl, HBF.out⟩
          · go_simp
            have hz : RI .i64 (x0a.alloc (.cells #[.int .i64 0] 3)) (some ⟨x0a.heap.size, 0, none⟩) [0] := RI.one .i64 x0a 0 3
            have hbX : Below x0a.heap.size x0a (x0a.alloc (.cells #[.int .i64 0] 3)) := (Below.refl _ _).alloc (Nat.le_refl _) _
            have hzr := heap_alloc_new x0a (.cells #[.int .i64 0] 3)
            generalize x0a.alloc (.cells #[.int .i64 0] 3) = x1z at hz hbX hzr ⊢
            have HZ := Lib.hid hz
            have HE2 := Lib.hid (HE.out.to hbX)
            have HNE : Hid (D.heap.size < x0a.heap.size) := Lib.hid (HE.out.lt)
            have HZR := Lib.hid hzr
            clear HE hz hbX hzr
            have HE := HE2
            clear HE2
            refine hK0.out _ _ (HE.out.below) (fun hHeld => ?_)
            clear hK0 K0
            refine wpAnyH_ready (rs := [3]) (by kernel_rfl) (by simp) ?_
            refine AllReadyH.cons (by simp; rfl) (fun K0 hK0 => ?_) AllReadyH.nil
            obtain ⟨A6, c6, x2p, hrun, ho, hrz⟩ := app_beside HE.out HZR.out HNE.out (HUL.out _ (HDB.out.trans (HE.out.below.mono HDB.out.size))) (by omega)
            have HZ2 := Lib.hid hrz
            clear HZ hrz HZR HNE
            have HZ := HZ2
            clear HZ2
            have HRUN := Lib.hid hrun
            clear HE
            have HE := Lib.hid ho
            clear hrun ho
            refine step_app rfl (.tmp 42) (.tmp 43) _ rfl _ _ rfl rfl HRUN.out ?_
            simp only [Act.put, List.setIfInBounds_toArray, List.set_cons_zero, List.set_cons_succ]
            clear HRUN
            refine hK0.out _ _ (HE.out.below) (fun hHeld => ?_)
            clear hK0 K0
            refine wpAnyH_ready (rs := [5]) (by kernel_rfl) (by simp) ?_
            refine AllReadyH.cons (by simp; rfl) (fun K0 hK0 => ?_) AllReadyH.nil
            obtain ⟨A7, c7, x9, hrun, ho⟩ := HE.out.apps1 (x := 0) (W2 := x2p) ⟨_, 1, rfl, (fun h => by cases h), HZ.out⟩ (Below.refl _ _) (by omega)
            have HRUN := Lib.hid hrun
            have HO := Lib.hid ho
            clear hrun ho HE
            refine step_app rfl (.tmp 44) (.tmp 45) _ rfl _ _ rfl rfl HRUN.out ?_
            simp only [Act.put, List.setIfInBounds_toArray, List.set_cons_zero, List.set_cons_succ]
            clear HRUN
            refine hK0.out _ _ (HO.out.below) (fun hHeld => ?_)
            clear hK0 K0
            refine wpAnyH_ready (rs := [6]) (by kernel_rfl) (by simp) ?_
            refine AllReadyH.cons (by simp; rfl) (fun K0 hK0 => ?_) AllReadyH.nil
            go_simp
            obtain ⟨A8, c8, he8, ho1, ho2, _, hor⟩ := HO.out.slice
            injection he8 with e1 e2 e3
            subst e1 e3
            refine (HCS.out _ (HT1.out.below.trans ((HDB.out.trans (HO.out.below.mono HDB.out.size)).mono HT1.out.below.size)) _ _ _ _ hor (by simp) (by omega) (by have := ho1; simp at this; omega) ho2).mono ?_
            rintro e v6 ⟨rfl, hx⟩
            have HDV := Lib.hid (HO.out.below.trans (hx.mono HO.out.below.size))
            rw [HCZ.out ()]
            clear hx ho1 ho2 hor e2
            refine hK0.out _ _ (HDV.out) (fun hHeld => ?_)
            clear hK0 K0
            refine wpAnyH_take (i := 8) (v := ?_) (by simp; rfl) (by kernel_rfl) (by kernel_rfl) (by kernel_rfl) (by exact fun _ _ _ h => h) (Or.inl ⟨by rfl, fun wx hSx => ?_⟩) hHeld ?_
            rotate_left
            · clear hSx; go_simp; (try with_reducible rfl)
            simp only [Act.put, List.setIfInBounds_toArray, List.set_cons_zero, List.set_cons_succ]
            refine wpAnyH_done (by kernel_rfl) ?_ _
            have HT2 := Lib.hid (HTW.out _ (HDB.out.trans (HDV.out.mono HDB.out.size)))
            clear hHeld HDV HDB HTW HO HCZ HUL
            by_cases h2 : i < 2
            · have d4 : decide ((i : Int) < 2) = true := by simp; omega
              clear h2
              go_wp2_with fail
              refine (HAL.out _ HT2.out.below).mono ?_
              rintro e w1 ⟨rfl, hb1⟩
              have HB := Lib.hid (HT2.out.below.trans (hb1.mono HT2.out.below.size))
              clear hb1
              go_wp2
              go_ret
              exact ⟨rfl, HB.out⟩
            have d4 : decide ((i : Int) < 2) = false := by simp; omega
            obtain ⟨bl, off, rfl, hbl, hc⟩ := HRL.out (by rw [HLL.out ()]; omega)
            have hrv : ∀ X, Below v6.heap.size v6 X → RI .i64 X (some ⟨bl, off, none⟩) l := fun X hX => RI.below (RI.below HRL.out HT2.out.below) hX
            have HRA1 := Lib.hid hrv
            have HRT1 := Lib.hid (fun X hX => RI.take 1 (hrv X hX))
            have HRD1 := Lib.hid (fun X hX => RI.tail1 (hrv X hX))
            have HLT : Hid ((l.take 1).length = 1) := Lib.hid (by rw [List.length_take, HLL.out ()]; omega)
            have HLD : Hid ((l.drop 1).length = i - 1) := Lib.hid (by rw [List.length_drop, HLL.out ()])
            have HCP1 : Hid (1 ≤ cp ∧ cp ≤ maxLen) := Lib.hid (by unfold maxLen; omega)
            have HCP2 : Hid (i - 1 ≤ cp - 1 ∧ cp - 1 ≤ maxLen) := Lib.hid (by unfold maxLen; omega)
            have HCP3 : Hid (i ≤ cp ∧ cp ≤ maxLen) := Lib.hid (by unfold maxLen; omega)
            have hg1 : Good (changeS ⟨fs, fg, bg⟩ (l.take 1)) := good_take1 HGS.out HSI.out (by rw [HLL.out ()]; omega)
            have hct := change_two ⟨fs, fg, bg⟩ HSI.out (by rw [HLL.out ()]; omega)
            obtain ⟨Y1, hy1⟩ : ∃ Y, changeS ⟨fs, fg, bg⟩ (l.take 1) = Y := ⟨_, rfl⟩
            rw [hy1] at hg1 hct
            have HCY' := fun (U : World) (hU : Below W.heap.size W U) (A : Option Addr) (m c : Nat) (ys : List Int) (hR : RI .i64 U A ys) (hl : ys.length = m) (hm : m ≤ 1000) (h1 : m ≤ c) (h2 : c ≤ maxLen) => HCH.out Y1 hg1 U hU A m c ys hR hl hm h1 h2
            obtain ⟨p, q, r, hp⟩ : ∃ p q r, pV Y1 = .agg #[.int .u8 p, .int .u32 q, .int .u32 r] := ⟨_, _, _, rfl⟩
            obtain ⟨p', q', r', hp'⟩ : ∃ p q r, pV (changeS ⟨fs, fg, bg⟩ l) = .agg #[.int .u8 p, .int .u32 q, .int .u32 r] := ⟨_, _, _, rfl⟩
            have HY1 : Hid (Unit → pV (changeS ⟨fs, fg, bg⟩ (l.take 1)) = .agg #[.int .u8 p, .int .u32 q, .int .u32 r]) := Lib.hid (fun _ => by rw [hy1, hp])
            have HY2 : Hid (Unit → pV (changeS Y1 (l.drop 1)) = .agg #[.int .u8 p', .int .u32 q', .int .u32 r']) := Lib.hid (fun _ => by rw [hct, hp'])
            have HY3 : Hid (Unit → pV (changeS ⟨fs, fg, bg⟩ l) = .agg #[.int .u8 p', .int .u32 q', .int .u32 r']) := Lib.hid (fun _ => hp')
            have HCY := Lib.hid (fun U hU A m c ys hR hl hm h1 h2 => hp ▸ HCY' U hU A m c ys hR hl hm h1 h2)
            have s1 : (1 : Int) ≤ (cp : Int) := by omega
            have s2 : (1 : Int) ≤ (i : Int) := by omega
            have s3 : ¬ cp = 1 := by omega
            have HTW := Lib.hid (fun X (hX : Below v6.heap.size v6 X) => HT2.out.go hX)
            clear hrv hg1 hct hy1 HCY' hp hp' hc hbl h2 HCH HT1
            go_wp2
            have HDB := Lib.hid (Below.refl v6.heap.size v6).drew
            refine wp_region_held_drew (S := fun W => Below v6.drew.heap.size v6.drew W) (by kernel_rfl) (Below.refl _ _) (fun hHeld => ?_)
            refine wpAnyH_ready (rs := [0]) (by kernel_rfl) (by simp) ?_
            refine AllReadyH.cons (by simp; rfl) (fun K0 hK0 => ?_) AllReadyH.nil
            go_simp
            refine (HAL.out _ (HT2.out.below.trans (HDB.out.mono HT2.out.below.size))).mono ?_
            rintro e v1 ⟨rfl, hx⟩
            have hbv1 : Below v6.drew.heap.size v6.drew v1 := hx
            have HDB2 := Lib.hid (HDB.out.trans (hbv1.mono HDB.out.size))
            clear HDB
            have HDB := HDB2
            clear HDB2
            clear hx
            refine hK0.out _ _ hbv1 (fun _ => ?_)
            clear hK0 K0 hHeld
            refine heldMono (S' := fun W => Below v1.heap.size v1 W) (fun _ h => hbv1.trans (h.mono hbv1.size)) _ _ _ _ ?_
            have hHeld := Below.refl v1.heap.size v1
            have HBv1 := Lib.hid hbv1
            clear hbv1
            refine wpAnyH_take (i := 1) (v := ?_) (by simp; rfl) (by kernel_rfl) (by kernel_rfl) (by kernel_rfl) (by exact fun _ _ _ h => h) (Or.inl ⟨by rfl, fun wx hSx => ?_⟩) hHeld ?_
            rotate_left
            · clear hSx; go_simp; (try with_reducible rfl)
            simp only [Act.put, List.setIfInBounds_toArray, List.set_cons_zero, List.set_cons_succ]
            refine wpAnyH_take (i := 2) (v := ?_) (by simp; rfl) (by kernel_rfl) (by kernel_rfl) (by kernel_rfl) (by exact fun _ _ _ h => h) (Or.inl ⟨by rfl, fun wx hSx => ?_⟩) hHeld ?_
            rotate_left
            · have hz := HTW.out wx (HDB.out.trans (hSx.mono HDB.out.size)); obtain ⟨p0, p1, p2⟩ := pcell hz.r0; clear hSx hz; go_simp; (try with_reducible rfl)
            simp only [Act.put, List.setIfInBounds_toArray, List.set_cons_zero, List.set_cons_succ]
            refine wpAnyH_take (i := 3) (v := ?_) (by simp; rfl) (by kernel_rfl) (by kernel_rfl) (by kernel_rfl) (by exact fun _ _ _ h => h) (Or.inl ⟨by rfl, fun wx hSx => ?_⟩) hHeld ?_
            rotate_left
            · clear hSx; go_simp; (try with_reducible rfl)
            simp only [Act.put, List.setIfInBounds_toArray, List.set_cons_zero, List.set_cons_succ]
            refine wpAnyH_take (i := 4) (v := ?_) (by simp; rfl) (by kernel_rfl) (by kernel_rfl) (by kernel_rfl) (by exact fun _ _ _ h => h) (Or.inl ⟨by rfl, fun wx hSx => ?_⟩) hHeld ?_
            rotate_left
            · clear hSx; go_simp; (try with_reducible rfl)
            simp only [Act.put, List.setIfInBounds_toArray, List.set_cons_zero, List.set_cons_succ]
            refine wpAnyH_take (i := 6) (v := ?_) (by simp; rfl) (by kernel_rfl) (by kernel_rfl) (by kernel_rfl) (by exact fun _ _ _ h => h) (Or.inl ⟨by rfl, fun wx hSx => ?_⟩) hHeld ?_
            rotate_left
            · clear hSx; go_simp; (try with_reducible rfl)
            simp only [Act.put, List.setIfInBounds_toArray, List.set_cons_zero, List.set_cons_succ]
            refine wpAnyH_take (i := 7) (v := ?_) (by simp; rfl) (by kernel_rfl) (by kernel_rfl) (by kernel_rfl) (by exact fun _ _ _ h => h) (Or.inl ⟨by rfl, fun wx hSx => ?_⟩) hHeld ?_
            rotate_left
            · clear hSx; go_simp; (try with_reducible rfl)
            simp only [Act.put, List.setIfInBounds_toArray, List.set_cons_zero, List.set_cons_succ]
            refine wpAnyH_take (i := 9) (v := ?_) (by simp; rfl) (by kernel_rfl) (by kernel_rfl) (by kernel_rfl) (by exact fun _ _ _ h => h) (Or.inl ⟨by rfl, fun wx hSx => ?_⟩) hHeld ?_
            rotate_left
            · have hz := HTW.out wx (HDB.out.trans (hSx.mono HDB.out.size)); obtain ⟨p0, p1, p2⟩ := pcell hz.r0; clear hSx hz; go_simp; (try with_reducible rfl)
            simp only [Act.put, List.setIfInBounds_toArray, List.set_cons_zero, List.set_cons_succ]
            refine wpAnyH_take (i := 10) (v := ?_) (by simp; rfl) (by kernel_rfl) (by kernel_rfl) (by kernel_rfl) (by exact fun _ _ _ h => h) (Or.inl ⟨by rfl, fun wx hSx => ?_⟩) hHeld ?_
            rotate_left
            · clear hSx; go_simp; (try with_reducible rfl)
            simp only [Act.put, List.setIfInBounds_toArray, List.set_cons_zero, List.set_cons_succ]
            refine wpAnyH_ready (rs := [5]) (by kernel_rfl) (by simp) ?_
            refine AllReadyH.cons (by simp; rfl) (fun K0 hK0 => ?_) AllReadyH.nil
            go_simp
            refine (HCS.out _ (HT2.out.below.trans (HDB.out.mono HT2.out.below.size)) _ _ _ _ (HRT1.out _ HDB.out) HLT.out (by omega) HCP1.out.1 HCP1.out.2).mono ?_
            rintro e v20 ⟨rfl, hx⟩
            have hbv20 : Below v1.heap.size v1 v20 := hx
            have HDB2 := Lib.hid (HDB.out.trans (hbv20.mono HDB.out.size))
            clear HDB
            have HDB := HDB2
            clear HDB2
            clear hx
            rw [HY1.out ()]
            refine hK0.out _ _ hbv20 (fun _ => ?_)
            clear hK0 K0 hHeld
            refine heldMono (S' := fun W => Below v20.heap.size v20 W) (fun _ h => hbv20.trans (h.mono hbv20.size)) _ _ _ _ ?_
            have hHeld := Below.refl v20.heap.size v20
            have HBv20 := Lib.hid hbv20
            clear hbv20
            refine wpAnyH_ready (rs := [8]) (by kernel_rfl) (by simp) ?_
            refine AllReadyH.cons (by simp; rfl) (fun K0 hK0 => ?_) AllReadyH.nil
            go_simp
            refine (HCY.out _ (HT2.out.below.trans (HDB.out.mono HT2.out.below.size)) _ _ _ _ (HRD1.out _ HDB.out) HLD.out (by omega) HCP2.out.1 HCP2.out.2).mono ?_
            rintro e v35 ⟨rfl, hx⟩
            have hbv35 : Below v20.heap.size v20 v35 := hx
            have HDB2 := Lib.hid (HDB.out.trans (hbv35.mono HDB.out.size))
            clear HDB
            have HDB := HDB2
            clear HDB2
            clear hx
            rw [HY2.out ()]
            refine hK0.out _ _ hbv35 (fun _ => ?_)
            clear hK0 K0 hHeld
            refine heldMono (S' := fun W => Below v35.heap.size v35 W) (fun _ h => hbv35.trans (h.mono hbv35.size)) _ _ _ _ ?_
            have hHeld := Below.refl v35.heap.size v35
            have HBv35 := Lib.hid hbv35
            clear hbv35
            refine wpAnyH_ready (rs := [11]) (by kernel_rfl) (by simp) ?_
            refine AllReadyH.cons (by simp; rfl) (fun K0 hK0 => ?_) AllReadyH.nil
            go_simp
            refine (HCS.out _ (HT2.out.below.trans (HDB.out.mono HT2.out.below.size)) _ _ _ _ (HRA1.out _ HDB.out) (HLL.out ()) (by omega) HCP3.out.1 HCP3.out.2).mono ?_
            rintro e v48 ⟨rfl, hx⟩
            have hbv48 : Below v35.heap.size v35 v48 := hx
            have HDB2 := Lib.hid (HDB.out.trans (hbv48.mono HDB.out.size))
            clear HDB
            have HDB := HDB2
            clear HDB2
            clear hx
            rw [HY3.out ()]
            refine hK0.out _ _ hbv48 (fun _ => ?_)
            clear hK0 K0 hHeld
            refine heldMono (S' := fun W => Below v48.heap.size v48 W) (fun _ h => hbv48.trans (h.mono hbv48.size)) _ _ _ _ ?_
            have hHeld := Below.refl v48.heap.size v48
            have HBv48 := Lib.hid hbv48
            clear hbv48
            refine wpAnyH_take (i := 12) (v := ?_) (by simp; rfl) (by kernel_rfl) (by kernel_rfl) (by kernel_rfl) (by exact fun _ _ _ h => h) (Or.inl ⟨by rfl, fun wx hSx => ?_⟩) hHeld ?_
            rotate_left
            · clear hSx; go_simp; (try with_reducible rfl)
            simp only [Act.put, List.setIfInBounds_toArray, List.set_cons_zero, List.set_cons_succ]
            refine wpAnyH_take (i := 13) (v := ?_) (by simp; rfl) (by kernel_rfl) (by kernel_rfl) (by kernel_rfl) (by exact fun _ _ _ h => h) (Or.inl ⟨by rfl, fun wx hSx => ?_⟩) hHeld ?_
            rotate_left
            · clear hSx; go_simp; (try with_reducible rfl)
            simp only [Act.put, List.setIfInBounds_toArray, List.set_cons_zero, List.set_cons_succ]
            refine wpAnyH_take (i := 14) (v := ?_) (by simp; rfl) (by kernel_rfl) (by kernel_rfl) (by kernel_rfl) (by exact fun _ _ _ h => h) (Or.inl ⟨by rfl, fun wx hSx => ?_⟩) hHeld ?_
            rotate_left
            · clear hSx; go_simp; (try with_reducible rfl)
            simp only [Act.put, List.setIfInBounds_toArray, List.set_cons_zero, List.set_cons_succ]
            refine wpAnyH_done (by kernel_rfl) ?_ _
            have HBF := Lib.hid (HT2.out.below.trans (HDB.out.mono HT2.out.below.size))
            clear hHeld HDB HTW
            go_wp2
            go_ret
            exact ⟨rfl, HBF.out⟩
        · go_simp
          have hz : RI .i64 (D.alloc (.cells #[.int .i64 0] 3)) (some ⟨D.heap.size, 0, none⟩) [0] := RI.one .i64 D 0 3
          have hbX : Below D.heap.size D (D.alloc (.cells #[.int .i64 0] 3)) := (Below.refl _ _).alloc (Nat.le_refl _) _
          generalize D.alloc (.cells #[.int .i64 0] 3) = x0z at hz hbX ⊢
          have HZ := Lib.hid hz
          have HDX := Lib.hid hbX
          clear hz hbX
          refine hK0.out _ _ (HDX.out) (fun hHeld => ?_)
          clear hK0 K0
          refine wpAnyH_ready (rs := [1]) (by kernel_rfl) (by simp) ?_
          refine AllReadyH.cons (by simp; rfl) (fun K0 hK0 => ?_) AllReadyH.nil
          go_simp
          have ho : OwnI x0z (.slice (some ⟨x0z.heap.size, 0, none⟩) 0 0) [] (x0z.alloc (.cells #[] 3)) := OwnI.lit x0z [] 0 rfl (by omega)
          generalize x0z.alloc (.cells #[] 3) = x1a at ho ⊢
          have HZX := Lib.hid (RI.below HZ.out ho.below)
          have HE := Lib.hid ho
          clear ho
          refine hK0.out _ _ (HDX.out.trans (HE.out.below.mono HDX.out.size)) (fun hHeld => ?_)
          clear hK0 K0
          refine wpAnyH_ready (rs := [3]) (by kernel_rfl) (by simp) ?_
          refine AllReadyH.cons (by simp; rfl) (fun K0 hK0 => ?_) AllReadyH.nil
          obtain ⟨A6, c6, x2p, hrun, ho⟩ := HE.out.apps0 (ys := l) (u := .slice A i cp) (HUL.out _ (HDB.out.trans (((HDX.out.trans (HE.out.below.mono HDX.out.size))).mono HDB.out.size))) (Below.refl _ _) (by omega)
          have HZ2 := Lib.hid (RI.below HZ.out ho.below)
          clear HZX
          have HRUN := Lib.hid hrun
          clear HE
          have HE := Lib.hid ho
          clear hrun ho
          refine step_app rfl (.tmp 42) (.tmp 43) _ rfl _ _ rfl rfl HRUN.out ?_
          simp only [Act.put, List.setIfInBounds_toArray, List.set_cons_zero, List.set_cons_succ]
          clear HRUN
          refine hK0.out _ _ (HDX.out.trans (HE.out.below.mono HDX.out.size)) (fun hHeld => ?_)
          clear hK0 K0
          refine wpAnyH_ready (rs := [5]) (by kernel_rfl) (by simp) ?_
          refine AllReadyH.cons (by simp; rfl) (fun K0 hK0 => ?_) AllReadyH.nil
          obtain ⟨A7, c7, x9, hrun, ho⟩ := HE.out.apps1 (x := 0) (W2 := x2p) ⟨_, 1, rfl, (fun h => by cases h), HZ2.out⟩ (Below.refl _ _) (by omega)
          have HRUN := Lib.hid hrun
          have HO := Lib.hid (ho.from HDX.out)
          clear hrun ho HE
          refine step_app rfl (.tmp 44) (.tmp 45) _ rfl _ _ rfl rfl HRUN.out ?_
          simp only [Act.put, List.setIfInBounds_toArray, List.set_cons_zero, List.set_cons_succ]
          clear HRUN
          refine hK0.out _ _ (HO.out.below) (fun hHeld => ?_)
          clear hK0 K0
          refine wpAnyH_ready (rs := [6]) (by kernel_rfl) (by simp) ?_
          refine AllReadyH.cons (by simp; rfl) (fun K0 hK0 => ?_) AllReadyH.nil
          go_simp
          obtain ⟨A8, c8, he8, ho1, ho2, _, hor⟩ := HO.out.slice
          injection he8 with e1 e2 e3
          subst e1 e3
          refine (HCS.out _ (HT1.out.below.trans ((HDB.out.trans (HO.out.below.mono HDB.out.size)).mono HT1.out.below.size)) _ _ _ _ hor (by simp) (by omega) (by have := ho1; simp at this; omega) ho2).mono ?_
          rintro e v6 ⟨rfl, hx⟩
          have HDV := Lib.hid (HO.out.below.trans (hx.mono HO.out.below.size))
          rw [HCZ.out ()]
          clear hx ho1 ho2 hor e2
          refine hK0.out _ _ (HDV.out) (fun hHeld => ?_)
          clear hK0 K0
          refine wpAnyH_take (i := 8) (v := ?_) (by simp; rfl) (by kernel_rfl) (by kernel_rfl) (by kernel_rfl) (by exact fun _ _ _ h => h) (Or.inl ⟨by rfl, fun wx hSx => ?_⟩) hHeld ?_
          rotate_left
          · clear hSx; go_simp; (try with_reducible rfl)
          simp only [Act.put, List.setIfInBounds_toArray, List.set_cons_zero, List.set_cons_succ]
          refine wpAnyH_done (by kernel_rfl) ?_ _
          have HT2 := Lib.hid (HTW.out _ (HDB.out.trans (HDV.out.mono HDB.out.size)))
          clear hHeld HDV HDB HTW HO HCZ HUL
          by_cases h2 : i < 2
          · have d4 : decide ((i : Int) < 2) = true := by simp; omega
            clear h2
            go_wp2_with fail
            refine (HAL.out _ HT2.out.below).mono ?_
            rintro e w1 ⟨rfl, hb1⟩
            have HB := Lib.hid (HT2.out.below.trans (hb1.mono HT2.out.below.size))
            clear hb1
            go_wp2
            go_ret
            exact ⟨rfl, HB.out⟩
          have d4 : decide ((i : Int) < 2) = false := by simp; omega
          obtain ⟨bl, off, rfl, hbl, hc⟩ := HRL.out (by rw [HLL.out ()]; omega)
          have hrv : ∀ X, Below v6.heap.size v6 X → RI .i64 X (some ⟨bl, off, none⟩) l := fun X hX => RI.below (RI.below HRL.out HT2.out.below) hX
          have HRA1 := Lib.hid hrv
          have HRT1 := Lib.hid (fun X hX => RI.take 1 (hrv X hX))
          have HRD1 := Lib.hid (fun X hX => RI.tail1 (hrv X hX))
          have HLT : Hid ((l.take 1).length = 1) := Lib.hid (by rw [List.length_take, HLL.out ()]; omega)
          have HLD : Hid ((l.drop 1).length = i - 1) := Lib.hid (by rw [List.length_drop, HLL.out ()])
          have HCP1 : Hid (1 ≤ cp ∧ cp ≤ maxLen) := Lib.hid (by unfold maxLen; omega)
          have HCP2 : Hid (i - 1 ≤ cp - 1 ∧ cp - 1 ≤ maxLen) := Lib.hid (by unfold maxLen; omega)
          have HCP3 : Hid (i ≤ cp ∧ cp ≤ maxLen) := Lib.hid (by unfold maxLen; omega)
          have hg1 : Good (changeS ⟨fs, fg, bg⟩ (l.take 1)) := good_take1 HGS.out HSI.out (by rw [HLL.out ()]; omega)
          have hct := change_two ⟨fs, fg, bg⟩ HSI.out (by rw [HLL.out ()]; omega)
          obtain ⟨Y1, hy1⟩ : ∃ Y, changeS ⟨fs, fg, bg⟩ (l.take 1) = Y := ⟨_, rfl⟩
          rw [hy1] at hg1 hct
          have HCY' := fun (U : World) (hU : Below W.heap.size W U) (A : Option Addr) (m c : Nat) (ys : List Int) (hR : RI .i64 U A ys) (hl : ys.length = m) (hm : m ≤ 1000) (h1 : m ≤ c) (h2 : c ≤ maxLen) => HCH.out Y1 hg1 U hU A m c ys hR hl hm h1 h2
          obtain ⟨p, q, r, hp⟩ : ∃ p q r, pV Y1 = .agg #[.int .u8 p, .int .u32 q, .int .u32 r] := ⟨_, _, _, rfl⟩
          obtain ⟨p', q', r', hp'⟩ : ∃ p q r, pV (changeS ⟨fs, fg, bg⟩ l) = .agg #[.int .u8 p, .int .u32 q, .int .u32 r] := ⟨_, _, _, rfl⟩
          have HY1 : Hid (Unit → pV (changeS ⟨fs, fg, bg⟩ (l.take 1)) = .agg #[.int .u8 p, .int .u32 q, .int .u32 r]) := Lib.hid (fun _ => by rw [hy1, hp])
          have HY2 : Hid (Unit → pV (changeS Y1 (l.drop 1)) = .agg #[.int .u8 p', .int .u32 q', .int .u32 r']) := Lib.hid (fun _ => by rw [hct, hp'])
          have HY3 : Hid (Unit → pV (changeS ⟨fs, fg, bg⟩ l) = .agg #[.int .u8 p', .int .u32 q', .int .u32 r']) := Lib.hid (fun _ => hp')
          have HCY := Lib.hid (fun U hU A m c ys hR hl hm h1 h2 => hp ▸ HCY' U hU A m c ys hR hl hm h1 h2)
          have s1 : (1 : Int) ≤ (cp : Int) := by omega
          have s2 : (1 : Int) ≤ (i : Int) := by omega
          have s3 : ¬ cp = 1 := by omega
          have HTW := Lib.hid (fun X (hX : Below v6.heap.size v6 X) => HT2.out.go hX)
          clear hrv hg1 hct hy1 HCY' hp hp' hc hbl h2 HCH HT1
          go_wp2
          have HDB := Lib.hid (Below.refl v6.heap.size v6).drew
          refine wp_region_held_drew (S := fun W => Below v6.drew.heap.size v6.drew W) (by kernel_rfl) (Below.refl _ _) (fun hHeld => ?_)
          refine wpAnyH_ready (rs := [0]) (by kernel_rfl) (by simp) ?_
          refine AllReadyH.cons (by simp; rfl) (fun K0 hK0 => ?_) AllReadyH.nil
          go_simp
          refine (HAL.out _ (HT2.out.below.trans (HDB.out.mono HT2.out.below.size))).mono ?_
          rintro e v1 ⟨rfl, hx⟩
          have hbv1 : Below v6.drew.heap.size v6.drew v1 := hx
          have HDB2 := Lib.hid (HDB.out.trans (hbv1.mono HDB.out.size))
          clear HDB
          have HDB := HDB2
          clear HDB2
          clear hx
          refine hK0.out _ _ hbv1 (fun _ => ?_)
          clear hK0 K0 hHeld
          refine heldMono (S' := fun W => Below v1.heap.size v1 W) (fun _ h => hbv1.trans (h.mono hbv1.size)) _ _ _ _ ?_
          have hHeld := Below.refl v1.heap.size v1
          have HBv1 := Lib.hid hbv1
          clear hbv1
          refine wpAnyH_take (i := 1) (v := ?_) (by simp; rfl) (by kernel_rfl) (by kernel_rfl) (by kernel_rfl) (by exact fun _ _ _ h => h) (Or.inl ⟨by rfl, fun wx hSx => ?_⟩) hHeld ?_
          rotate_left
          · clear hSx; go_simp; (try with_reducible rfl)
          simp only [Act.put, List.setIfInBounds_toArray, List.set_cons_zero, List.set_cons_succ]
          refine wpAnyH_take (i := 2) (v := ?_) (by simp; rfl) (by kernel_rfl) (by kernel_rfl) (by kernel_rfl) (by exact fun _ _ _ h => h) (Or.inl ⟨by rfl, fun wx hSx => ?_⟩) hHeld ?_
          rotate_left
          · have hz := HTW.out wx (HDB.out.trans (hSx.mono HDB.out.size)); obtain ⟨p0, p1, p2⟩ := pcell hz.r0; clear hSx hz; go_simp; (try with_reducible rfl)
          simp only [Act.put, List.setIfInBounds_toArray, List.set_cons_zero, List.set_cons_succ]
          refine wpAnyH_take (i := 3) (v := ?_) (by simp; rfl) (by kernel_rfl) (by kernel_rfl) (by kernel_rfl) (by exact fun _ _ _ h => h) (Or.inl ⟨by rfl, fun wx hSx => ?_⟩) hHeld ?_
          rotate_left
          · clear hSx; go_simp; (try with_reducible rfl)
          simp only [Act.put, List.setIfInBounds_toArray, List.set_cons_zero, List.set_cons_succ]
          refine wpAnyH_take (i := 4) (v := ?_) (by simp; rfl) (by kernel_rfl) (by kernel_rfl) (by kernel_rfl) (by exact fun _ _ _ h => h) (Or.inl ⟨by rfl, fun wx hSx => ?_⟩) hHeld ?_
          rotate_left
          · clear hSx; go_simp; (try with_reducible rfl)
          simp only [Act.put, List.setIfInBounds_toArray, List.set_cons_zero, List.set_cons_succ]
          refine wpAnyH_take (i := 6) (v := ?_) (by simp; rfl) (by kernel_rfl) (by kernel_rfl) (by kernel_rfl) (by exact fun _ _ _ h => h) (Or.inl ⟨by rfl, fun wx hSx => ?_⟩) hHeld ?_
          rotate_left
          · clear hSx; go_simp; (try with_reducible rfl)
          simp only [Act.put, List.setIfInBounds_toArray, List.set_cons_zero, List.set_cons_succ]
          refine wpAnyH_take (i := 7) (v := ?_) (by simp; rfl) (by kernel_rfl) (by kernel_rfl) (by kernel_rfl) (by exact fun _ _ _ h => h) (Or.inl ⟨by rfl, fun wx hSx => ?_⟩) hHeld ?_
          rotate_left
          · clear hSx; go_simp; (try with_reducible rfl)
          simp only [Act.put, List.setIfInBounds_toArray, List.set_cons_zero, List.set_cons_succ]
          refine wpAnyH_take (i := 9) (v := ?_) (by simp; rfl) (by kernel_rfl) (by kernel_rfl) (by kernel_rfl) (by exact fun _ _ _ h => h) (Or.inl ⟨by rfl, fun wx hSx => ?_⟩) hHeld ?_
          rotate_left
          · have hz := HTW.out wx (HDB.out.trans (hSx.mono HDB.out.size)); obtain ⟨p0, p1, p2⟩ := pcell hz.r0; clear hSx hz; go_simp; (try with_reducible rfl)
          simp only [Act.put, List.setIfInBounds_toArray, List.set_cons_zero, List.set_cons_succ]
          refine wpAnyH_take (i := 10) (v := ?_) (by simp; rfl) (by kernel_rfl) (by kernel_rfl) (by kernel_rfl) (by exact fun _ _ _ h => h) (Or.inl ⟨by rfl, fun wx hSx => ?_⟩) hHeld ?_
          rotate_left
          · clear hSx; go_simp; (try with_reducible rfl)
          simp only [Act.put, List.setIfInBounds_toArray, List.set_cons_zero, List.set_cons_succ]
          refine wpAnyH_ready (rs := [5]) (by kernel_rfl) (by simp) ?_
          refine AllReadyH.cons (by simp; rfl) (fun K0 hK0 => ?_) AllReadyH.nil
          go_simp
          refine (HCS.out _ (HT2.out.below.trans (HDB.out.mono HT2.out.below.size)) _ _ _ _ (HRT1.out _ HDB.out) HLT.out (by omega) HCP1.out.1 HCP1.out.2).mono ?_
          rintro e v20 ⟨rfl, hx⟩
          have hbv20 : Below v1.heap.size v1 v20 := hx
          have HDB2 := Lib.hid (HDB.out.trans (hbv20.mono HDB.out.size))
          clear HDB
          have HDB := HDB2
          clear HDB2
          clear hx
          rw [HY1.out ()]
          refine hK0.out _ _ hbv20 (fun _ => ?_)
          clear hK0 K0 hHeld
          refine heldMono (S' := fun W => Below v20.heap.size v20 W) (fun _ h => hbv20.trans (h.mono hbv20.size)) _ _ _ _ ?_
          have hHeld := Below.refl v20.heap.size v20
          have HBv20 := Lib.hid hbv20
          clear hbv20
          refine wpAnyH_ready (rs := [8]) (by kernel_rfl) (by simp) ?_
          refine AllReadyH.cons (by simp; rfl) (fun K0 hK0 => ?_) AllReadyH.nil
          go_simp
          refine (HCY.out _ (HT2.out.below.trans (HDB.out.mono HT2.out.below.size)) _ _ _ _ (HRD1.out _ HDB.out) HLD.out (by omega) HCP2.out.1 HCP2.out.2).mono ?_
          rintro e v35 ⟨rfl, hx⟩
          have hbv35 : Below v20.heap.size v20 v35 := hx
          have HDB2 := Lib.hid (HDB.out.trans (hbv35.mono HDB.out.size))
          clear HDB
          have HDB := HDB2
          clear HDB2
          clear hx
          rw [HY2.out ()]
          refine hK0.out _ _ hbv35 (fun _ => ?_)
          clear hK0 K0 hHeld
          refine heldMono (S' := fun W => Below v35.heap.size v35 W) (fun _ h => hbv35.trans (h.mono hbv35.size)) _ _ _ _ ?_
          have hHeld := Below.refl v35.heap.size v35
          have HBv35 := Lib.hid hbv35
          clear hbv35
          refine wpAnyH_ready (rs := [11]) (by kernel_rfl) (by simp) ?_
          refine AllReadyH.cons (by simp; rfl) (fun K0 hK0 => ?_) AllReadyH.nil
          go_simp
          refine (HCS.out _ (HT2.out.below.trans (HDB.out.mono HT2.out.below.size)) _ _ _ _ (HRA1.out _ HDB.out) (HLL.out ()) (by omega) HCP3.out.1 HCP3.out.2).mono ?_
          rintro e v48 ⟨rfl, hx⟩
          have hbv48 : Below v35.heap.size v35 v48 := hx
          have HDB2 := Lib.hid (HDB.out.trans (hbv48.mono HDB.out.size))
          clear HDB
          have HDB := HDB2
          clear HDB2
          clear hx
          rw [HY3.out ()]
          refine hK0.out _ _ hbv48 (fun _ => ?_)
          clear hK0 K0 hHeld
          refine heldMono (S' := fun W => Below v48.heap.size v48 W) (fun _ h => hbv48.trans (h.mono hbv48.size)) _ _ _ _ ?_
          have hHeld := Below.refl v48.heap.size v48
          have HBv48 := Lib.hid hbv48
          clear hbv48
          refine wpAnyH_take (i := 12) (v := ?_) (by simp; rfl) (by kernel_rfl) (by kernel_rfl) (by kernel_rfl) (by exact fun _ _ _ h => h) (Or.inl ⟨by rfl, fun wx hSx => ?_⟩) hHeld ?_
          rotate_left
          · clear hSx; go_simp; (try with_reducible rfl)
          simp only [Act.put, List.setIfInBounds_toArray, List.set_cons_zero, List.set_cons_succ]
          refine wpAnyH_take (i := 13) (v := ?_) (by simp; rfl) (by kernel_rfl) (by kernel_rfl) (by kernel_rfl) (by exact fun _ _ _ h => h) (Or.inl ⟨by rfl, fun wx hSx => ?_⟩) hHeld ?_
          rotate_left
          · clear hSx; go_simp; (try with_reducible rfl)
          simp only [Act.put, List.setIfInBounds_toArray, List.set_cons_zero, List.set_cons_succ]
          refine wpAnyH_take (i := 14) (v := ?_) (by simp; rfl) (by kernel_rfl) (by kernel_rfl) (by kernel_rfl) (by exact fun _ _ _ h => h) (Or.inl ⟨by rfl, fun wx hSx => ?_⟩) hHeld ?_
          rotate_left
          · clear hSx; go_simp; (try with_reducible rfl)
          simp only [Act.put, List.setIfInBounds_toArray, List.set_cons_zero, List.set_cons_succ]
          refine wpAnyH_done (by kernel_rfl) ?_ _
          have HBF := Lib.hid (HT2.out.below.trans (HDB.out.mono HT2.out.below.size))
          clear hHeld HDB HTW
          go_wp2
          go_ret
          exact ⟨rfl, HBF.out⟩
  · have HPL : Hid ((paramsS ⟨ft, gf, gb⟩).length ≤ 1000) := Lib.hid (params_len _)
    have HCS := Lib.hid (fun (U : World) (hU : Below W.heap.size W U) (A : Option Addr) (m c : Nat) (ys : List Int) (hR : RI .i64 U A ys) (hl : ys.length = m) (hm : m ≤ 1000) (h1 : m ≤ c) (h2 : c ≤ maxLen) => HPS.out () ▸ HCH.out ⟨fs, fg, bg⟩ HGS.out U hU A m c ys hR hl hm h1 h2)
    have HCP : Hid (Unit → pV (changeS ⟨fs, fg, bg⟩ (paramsS ⟨ft, gf, gb⟩)) = .agg #[.int .u8 b, .int .u32 gf, .int .u32 gb]) := Lib.hid (fun _ => by rw [change_params _ _ HGT.out.len hrt]; exact HPT.out ())
    have HDB := Lib.hid (Below.refl U.heap.size U).drew
    refine wp_region_held_drew (S := fun W => Below U.drew.heap.size U.drew W) (by kernel_rfl) (Below.refl _ _) (fun hHeld => ?_)
    clear p0 p1 p2 q0 q1 q2
    refine wpAnyH_take (i := 0) (v := ?_) (by simp; rfl) (by kernel_rfl) (by kernel_rfl) (by kernel_rfl) (by exact fun _ _ _ h => h) (Or.inl ⟨by rfl, fun wx hSx => ?_⟩) hHeld ?_
    rotate_left
    · have hz := HTW.out wx (HDB.out.trans (hSx.mono HDB.out.size)); obtain ⟨p0, p1, p2⟩ := pcell hz.r0; obtain ⟨q0, q1, q2⟩ := pcell hz.r1; clear hSx hz; go_simp; (try with_reducible rfl)
    simp only [Act.put, List.setIfInBounds_toArray, List.set_cons_zero, List.set_cons_succ]
    refine wpAnyH_ready (rs := [1]) (by kernel_rfl) (by simp) ?_
    refine AllReadyH.cons (by simp; rfl) (fun K0 hK0 => ?_) AllReadyH.nil
    go_simp
    refine (HRT.out _).mono ?_
    rintro e v1 ⟨rfl, hx⟩
    have hbv1 : Below U.drew.heap.size U.drew v1 := hx
    have HDB2 := Lib.hid (HDB.out.trans (hbv1.mono HDB.out.size))
    clear HDB
    have HDB := HDB2
    clear HDB2
    clear hx
    refine hK0.out _ _ hbv1 (fun _ => ?_)
    clear hK0 K0 hHeld
    refine heldMono (S' := fun W => Below v1.heap.size v1 W) (fun _ h => hbv1.trans (h.mono hbv1.size)) _ _ _ _ ?_
    have hHeld := Below.refl v1.heap.size v1
    have HBv1 := Lib.hid hbv1
    clear hbv1
    refine wpAnyH_take (i := 2) (v := ?_) (by simp; rfl) (by kernel_rfl) (by kernel_rfl) (by kernel_rfl) (by exact fun _ _ _ h => h) (Or.inl ⟨by rfl, fun wx hSx => ?_⟩) hHeld ?_
    rotate_left
    · clear hSx; go_simp; (try with_reducible rfl)
    simp only [Act.put, List.setIfInBounds_toArray, List.set_cons_zero, List.set_cons_succ]
    refine wpAnyH_take (i := 3) (v := ?_) (by simp; rfl) (by kernel_rfl) (by kernel_rfl) (by kernel_rfl) (by exact fun _ _ _ h => h) (Or.inl ⟨by rfl, fun wx hSx => ?_⟩) hHeld ?_
    rotate_left
    · have hz := HTW.out wx (HDB.out.trans (hSx.mono HDB.out.size)); obtain ⟨p0, p1, p2⟩ := pcell hz.r0; obtain ⟨q0, q1, q2⟩ := pcell hz.r1; clear hSx hz; go_simp; (try with_reducible rfl)
    simp only [Act.put, List.setIfInBounds_toArray, List.set_cons_zero, List.set_cons_succ]
    refine wpAnyH_take (i := 4) (v := ?_) (by simp; rfl) (by kernel_rfl) (by kernel_rfl) (by kernel_rfl) (by exact fun _ _ _ h => h) (Or.inl ⟨by rfl, fun wx hSx => ?_⟩) hHeld ?_
    rotate_left
    · have hz := HTW.out wx (HDB.out.trans (hSx.mono HDB.out.size)); obtain ⟨p0, p1, p2⟩ := pcell hz.r0; obtain ⟨q0, q1, q2⟩ := pcell hz.r1; clear hSx hz; go_simp; (try with_reducible rfl)
    simp only [Act.put, List.setIfInBounds_toArray, List.set_cons_zero, List.set_cons_succ]
    refine wpAnyH_take (i := 7) (v := ?_) (by simp; rfl) (by kernel_rfl) (by kernel_rfl) (by kernel_rfl) (by exact fun _ _ _ h => h) (Or.inl ⟨by rfl, fun wx hSx => ?_⟩) hHeld ?_
    rotate_left
    · have hz := HTW.out wx (HDB.out.trans (hSx.mono HDB.out.size)); obtain ⟨p0, p1, p2⟩ := pcell hz.r0; obtain ⟨q0, q1, q2⟩ := pcell hz.r1; clear hSx hz; go_simp; (try with_reducible rfl)
    simp only [Act.put, List.setIfInBounds_toArray, List.set_cons_zero, List.set_cons_succ]
    refine wpAnyH_ready (rs := [5]) (by kernel_rfl) (by simp) ?_
    refine AllReadyH.cons (by simp; rfl) (fun K0 hK0 => ?_) AllReadyH.nil
    go_simp
    refine (HPA.out _ (HT0.out.below.trans (HDB.out.mono HT0.out.below.size))).mono ?_
    rintro e v21 ⟨vp, rfl, op⟩
    have hbv21 : Below v1.heap.size v1 v21 := op.below
    have HDB2 := Lib.hid (HDB.out.trans (hbv21.mono HDB.out.size))
    clear HDB
    have HDB := HDB2
    clear HDB2
    obtain ⟨Ap, cp2, rfl, ho1, ho2, _, hor⟩ := op.slice
    have HO5 := Lib.hid (And.intro ho1 (And.intro ho2 hor))
    clear op ho1 ho2 hor
    refine hK0.out _ _ hbv21 (fun _ => ?_)
    clear hK0 K0 hHeld
    refine heldMono (S' := fun W => Below v21.heap.size v21 W) (fun _ h => hbv21.trans (h.mono hbv21.size)) _ _ _ _ ?_
    have hHeld := Below.refl v21.heap.size v21
    have HBv21 := Lib.hid hbv21
    clear hbv21
    refine wpAnyH_ready (rs := [6]) (by kernel_rfl) (by simp) ?_
    refine AllReadyH.cons (by simp; rfl) (fun K0 hK0 => ?_) AllReadyH.nil
    go_simp
    refine (HCS.out _ (HT0.out.below.trans (HDB.out.mono HT0.out.below.size)) _ _ _ _ HO5.out.2.2 rfl HPL.out HO5.out.1 HO5.out.2.1).mono ?_
    rintro e v35 ⟨rfl, hx⟩
    have hbv35 : Below v21.heap.size v21 v35 := hx
    have HDB2 := Lib.hid (HDB.out.trans (hbv35.mono HDB.out.size))
    clear HDB
    have HDB := HDB2
    clear HDB2
    clear hx
    simp only [HCP.out ()] at *
    refine hK0.out _ _ hbv35 (fun _ => ?_)
    clear hK0 K0 hHeld
    refine heldMono (S' := fun W => Below v35.heap.size v35 W) (fun _ h => hbv35.trans (h.mono hbv35.size)) _ _ _ _ ?_
    have hHeld := Below.refl v35.heap.size v35
    have HBv35 := Lib.hid hbv35
    clear hbv35
    refine wpAnyH_take (i := 8) (v := ?_) (by simp; rfl) (by kernel_rfl) (by kernel_rfl) (by kernel_rfl) (by exact fun _ _ _ h => h) (Or.inl ⟨by rfl, fun wx hSx => ?_⟩) hHeld ?_
    rotate_left
    · clear hSx; go_simp; (try with_reducible rfl)
    simp only [Act.put, List.setIfInBounds_toArray, List.set_cons_zero, List.set_cons_succ]
    refine wpAnyH_take (i := 9) (v := ?_) (by simp; rfl) (by kernel_rfl) (by kernel_rfl) (by kernel_rfl) (by exact fun _ _ _ h => h) (Or.inl ⟨by rfl, fun wx hSx => ?_⟩) hHeld ?_
    rotate_left
    · clear hSx; go_simp; (try with_reducible rfl)
    simp only [Act.put, List.setIfInBounds_toArray, List.set_cons_zero, List.set_cons_succ]
    refine wpAnyH_done (by kernel_rfl) ?_ _
    clear hHeld
    have HT1 := Lib.hid (HTW.out _ HDB.out)
    clear HDB HTW HT0 HRT
    obtain ⟨V, hV⟩ : ∃ V, v35 = V := ⟨_, rfl⟩
    rw [hV] at HT1 ⊢
    clear hV
    go_wp2
    go_loop [7] (fun iv => ∃ i : Nat, iv = .int .i64 i ∧ i ≤ n ∧ Hid (∀ j, j < i → l.getD j 0 ≠ 38 ∧ l.getD j 0 ≠ 48)) (fun iv => n - (intOf iv).toNat)
    case atStart => exact ⟨0, rfl, by omega, Lib.hid (fun j hj => by omega)⟩
    case round =>
      obtain ⟨i, rfl, hi, HI⟩ := hrel
      by_cases hin : i < n
      · have d2 : decide ((i : Int) < (n : Int)) = true := by simp; omega
        have d3 : decide (i < n) = true := by simp; omega
        have g3 : (0 : Int) ≤ (i : Int) := by omega
        have g4 : (i : Int) < (n : Int) := by omega
        obtain ⟨bl, off, rfl, hbl, hc⟩ := HRL.out (by rw [HLL.out ()]; omega)
        have e0 := (HT1.out.below.cell (p := ⟨bl, off + i, none⟩) hbl).trans (hc i (by rw [HLL.out ()]; exact hin))
        obtain ⟨x, hx⟩ : ∃ x, l.getD i 0 = x := ⟨_, rfl⟩
        rw [hx] at e0
        have HX := Lib.hid (fun (_ : Unit) => hx)
        clear hc hbl hx
        by_cases h38 : x = 38
        · subst h38
          go_wp2_with fail
          refine (HAL.out _ HT1.out.below).mono ?_
          rintro e w1 ⟨rfl, hb1⟩
          have HB := Lib.hid (HT1.out.below.trans (hb1.mono HT1.out.below.size))
          clear hb1
          go_wp2
          go_ret
          exact ⟨rfl, HB.out⟩
        have z38 : (x == 38) = false := by simpa using h38
        by_cases h48 : x = 48
        · subst h48
          go_wp2_with fail
          refine (HAL.out _ HT1.out.below).mono ?_
          rintro e w1 ⟨rfl, hb1⟩
          have HB := Lib.hid (HT1.out.below.trans (hb1.mono HT1.out.below.size))
          clear hb1
          go_wp2
          go_ret
          exact ⟨rfl, HB.out⟩
        have z48 : (x == 48) = false := by simpa using h48
        have HI2 : Hid (∀ j, j < i + 1 → l.getD j 0 ≠ 38 ∧ l.getD j 0 ≠ 48) := Lib.hid (fun j hj => by
          by_cases hji : j < i
          · exact HI.out j hji
          · obtain rfl : j = i := by omega
            rw [HX.out ()]
            exact ⟨h38, h48⟩)
        clear h38 h48 HX
        go_wp2
        go_round
        case rel => exact ⟨i + 1, by go_num, by omega, HI2⟩
        case measure => simp [intOf]; omega
      · obtain rfl : i = n := by omega
        have d2 : decide ((i : Int) < (i : Int)) = false := by simp
        have d3 : decide (i < i) = false := by simp
        have hsim : Simple l := fun x hx => by
          obtain ⟨j, hj, rfl⟩ := List.getElem_of_mem hx
          have := HI.out j (by rw [← HLL.out ()]; exact hj)
          simpa [List.getD, hj] using this
        have HSI := Lib.hid hsim
        have HCS := Lib.hid (fun (U : World) (hU : Below W.heap.size W U) (A : Option Addr) (m c : Nat) (ys : List Int) (hR : RI .i64 U A ys) (hl : ys.length = m) (hm : m ≤ 1000) (h1 : m ≤ c) (h2 : c ≤ maxLen) => HPS.out () ▸ HCH.out ⟨fs, fg, bg⟩ HGS.out U hU A m c ys hR hl hm h1 h2)
        have HCZ : Hid (Unit → pV (changeS ⟨fs, fg, bg⟩ (l ++ [0])) = .agg #[.int .u8 0, .int .u32 0, .int .u32 0]) := Lib.hid (fun _ => by rw [change_zero _ hsim]; exact pV_zero)
        have HTW := Lib.hid (fun X (hX : Below V.heap.size V X) => HT1.out.go hX)
        have HUL := Lib.hid (fun X (hX : Below V.heap.size V X) => (show ∃ A' c', (Value.slice A i cp) = .slice A' l.length c' ∧ (A' = none → c' = 0) ∧ RI .i64 X A' l from ⟨A, cp, by rw [HLL.out ()], HNI.out, RI.below (RI.below HRL.out HT1.out.below) hX⟩))
        have hll : l.length ≤ 100 := by rw [HLL.out ()]; omega
        have hi100 : i ≤ 100 := by omega
        clear hsim HI hi hin hn
        go_wp2
        have HDB := Lib.hid (Below.refl V.heap.size V).drew
        refine wp_region_held_drew (S := fun W => Below V.drew.heap.size V.drew W) (by kernel_rfl) (Below.refl _ _) (fun hHeld => ?_)
        generalize V.drew = D at HDB hHeld ⊢
        refine wpAnyH_take (i := 0) (v := ?_) (by simp; rfl) (by kernel_rfl) (by kernel_rfl) (by kernel_rfl) (by exact fun _ _ _ h => h) (Or.inl ⟨by rfl, fun wx hSx => ?_⟩) hHeld ?_
        rotate_left
        · have hz := HTW.out wx (HDB.out.trans (hSx.mono HDB.out.size)); obtain ⟨p0, p1, p2⟩ := pcell hz.r0; clear hSx hz; go_simp; (try with_reducible rfl)
        simp only [Act.put, List.setIfInBounds_toArray, List.set_cons_zero, List.set_cons_succ]
        refine wpAnyH_take (i := 2) (v := ?_) (by simp; rfl) (by kernel_rfl) (by kernel_rfl) (by kernel_rfl) (by exact fun _ _ _ h => h) (Or.inl ⟨by rfl, fun wx hSx => ?_⟩) hHeld ?_
        rotate_left
        · clear hSx; go_simp; (try with_reducible rfl)
        simp only [Act.put, List.setIfInBounds_toArray, List.set_cons_zero, List.set_cons_succ]
        refine wpAnyH_take (i := 7) (v := ?_) (by simp; rfl) (by kernel_rfl) (by kernel_rfl) (by kernel_rfl) (by exact fun _ _ _ h => h) (Or.inl ⟨by rfl, fun wx hSx => ?_⟩) hHeld ?_
        rotate_left
        · clear hSx; go_simp; (try with_reducible rfl)
        simp only [Act.put, List.setIfInBounds_toArray, List.set_cons_zero, List.set_cons_succ]
        refine wpAnyH_ready (rs := [1, 4]) (by kernel_rfl) (by simp) ?_
        refine AllReadyH.cons (by simp; rfl) (fun K0 hK0 => ?_) (AllReadyH.cons (by simp; rfl) (fun K0 hK0 => ?_) AllReadyH.nil)
        · go_simp
          have ho : OwnI D (.slice (some ⟨D.heap.size, 0, none⟩) 0 0) [] (D.alloc (.cells #[] 3)) := OwnI.lit D [] 0 rfl (by omega)
          generalize D.alloc (.cells #[] 3) = x0a at ho ⊢
          have HE := Lib.hid ho
          clear ho
          refine hK0.out _ _ (HE.out.below) (fun hHeld => ?_)
          clear hK0 K0
          refine wpAnyH_ready (rs := [3, 4]) (by kernel_rfl) (by simp) ?_
          refine AllReadyH.cons (by simp; rfl) (fun K0 hK0 => ?_) (AllReadyH.cons (by simp; rfl) (fun K0 hK0 => ?_) AllReadyH.nil)
          · obtain ⟨A6, c6, x1p, hrun, ho⟩ := HE.out.apps0 (ys := l) (u := .slice A i cp) (HUL.out _ (HDB.out.trans ((HE.out.below).mono HDB.out.size))) (Below.refl _ _) (by omega)
            have HRUN := Lib.hid hrun
            clear HE
            have HE := Lib.hid ho
            clear hrun ho
            refine step_app rfl (.tmp 42) (.tmp 43) _ rfl _ _ rfl rfl HRUN.out ?_
            simp only [Act.put, List.setIfInBounds_toArray, List.set_cons_zero, List.set_cons_succ]
            clear HRUN
            refine hK0.out _ _ (HE.out.below) (fun hHeld => ?_)
            clear hK0 K0
            refine wpAnyH_ready (rs := [4]) (by kernel_rfl) (by simp) ?_
            refine AllReadyH.cons (by simp; rfl) (fun K0 hK0 => ?_) AllReadyH.nil
            go_simp
            obtain ⟨A7, c7, w7, hrun, ho⟩ := HE.out.app (by omega) 0
            have HRUN := Lib.hid hrun
            have HO := Lib.hid ho
            clear hrun ho
            refine hK0.out _ _ ((HE.out.to ((Below.refl _ _).alloc (Nat.le_refl _) _)).below) (fun hHeld => ?_)
            clear hK0 K0
            refine wpAnyH_ready (rs := [5]) (by kernel_rfl) (by simp) ?_
            refine AllReadyH.cons (by simp; rfl) (fun K0 hK0 => ?_) AllReadyH.nil
            refine step_app rfl (.tmp 44) (.tmp 45) _ rfl _ _ rfl rfl HRUN.out ?_
            simp only [Act.put, List.setIfInBounds_toArray, List.set_cons_zero, List.set_cons_succ]
            clear HRUN HE
            refine hK0.out _ _ (HO.out.below) (fun hHeld => ?_)
            clear hK0 K0
            refine wpAnyH_ready (rs := [6]) (by kernel_rfl) (by simp) ?_
            refine AllReadyH.cons (by simp; rfl) (fun K0 hK0 => ?_) AllReadyH.nil
            go_simp
            obtain ⟨A8, c8, he8, ho1, ho2, _, hor⟩ := HO.out.slice
            injection he8 with e1 e2 e3
            subst e1 e3
            refine (HCS.out _ (HT1.out.below.trans ((HDB.out.trans (HO.out.below.mono HDB.out.size)).mono HT1.out.below.size)) _ _ _ _ hor (by simp) (by omega) (by have := ho1; simp at this; omega) ho2).mono ?_
            rintro e v6 ⟨rfl, hx⟩
            have HDV := Lib.hid (HO.out.below.trans (hx.mono HO.out.below.size))
            rw [HCZ.out ()]
            clear hx ho1 ho2 hor e2
            refine hK0.out _ _ (HDV.out) (fun hHeld => ?_)
            clear hK0 K0
            refine wpAnyH_take (i := 8) (v := ?_) (by simp; rfl) (by kernel_rfl) (by kernel_rfl) (by kernel_rfl) (by exact fun _ _ _ h => h) (Or.inl ⟨by rfl, fun wx hSx => ?_⟩) hHeld ?_
            rotate_left
            · clear hSx; go_simp; (try with_reducible rfl)
            simp only [Act.put, List.setIfInBounds_toArray, List.set_cons_zero, List.set_cons_succ]
            refine wpAnyH_done (by kernel_rfl) ?_ _
            have HT2 := Lib.hid (HTW.out _ (HDB.out.trans (HDV.out.mono HDB.out.size)))
            clear hHeld HDV HDB HTW HO HCZ HUL
            by_cases h2 : i < 2
            · have d4 : decide ((i : Int) < 2) = true := by simp; omega
              clear h2
              go_wp2_with fail
              refine (HAL.out _ HT2.out.below).mono ?_
              rintro e w1 ⟨rfl, hb1⟩
              have HB := Lib.hid (HT2.out.below.trans (hb1.mono HT2.out.below.size))
              clear hb1
              go_wp2
              go_ret
              exact ⟨rfl, HB.out⟩
            have d4 : decide ((i : Int) < 2) = false := by simp; omega
            obtain ⟨bl, off, rfl, hbl, hc⟩ := HRL.out (by rw [HLL.out ()]; omega)
            have hrv : ∀ X, Below v6.heap.size v6 X → RI .i64 X (some ⟨bl, off, none⟩) l := fun X hX => RI.below (RI.below HRL.out HT2.out.below) hX
            have HRA1 := Lib.hid hrv
            have HRT1 := Lib.hid (fun X hX => RI.take 1 (hrv X hX))
            have HRD1 := Lib.hid (fun X hX => RI.tail1 (hrv X hX))
            have HLT : Hid ((l.take 1).length = 1) := Lib.hid (by rw [List.length_take, HLL.out ()]; omega)
            have HLD : Hid ((l.drop 1).length = i - 1) := Lib.hid (by rw [List.length_drop, HLL.out ()])
            have HCP1 : Hid (1 ≤ cp ∧ cp ≤ maxLen) := Lib.hid (by unfold maxLen; omega)
            have HCP2 : Hid (i - 1 ≤ cp - 1 ∧ cp - 1 ≤ maxLen) := Lib.hid (by unfold maxLen; omega)
            have HCP3 : Hid (i ≤ cp ∧ cp ≤ maxLen) := Lib.hid (by unfold maxLen; omega)
            have hg1 : Good (changeS ⟨fs, fg, bg⟩ (l.take 1)) := good_take1 HGS.out HSI.out (by rw [HLL.out ()]; omega)
            have hct := change_two ⟨fs, fg, bg⟩ HSI.out (by rw [HLL.out ()]; omega)
            obtain ⟨Y1, hy1⟩ : ∃ Y, changeS ⟨fs, fg, bg⟩ (l.take 1) = Y := ⟨_, rfl⟩
            rw [hy1] at hg1 hct
            have HCY' := fun (U : World) (hU : Below W.heap.size W U) (A : Option Addr) (m c : Nat) (ys : List Int) (hR : RI .i64 U A ys) (hl : ys.length = m) (hm : m ≤ 1000) (h1 : m ≤ c) (h2 : c ≤ maxLen) => HCH.out Y1 hg1 U hU A m c ys hR hl hm h1 h2
            obtain ⟨p, q, r, hp⟩ : ∃ p q r, pV Y1 = .agg #[.int .u8 p, .int .u32 q, .int .u32 r] := ⟨_, _, _, rfl⟩
            obtain ⟨p', q', r', hp'⟩ : ∃ p q r, pV (changeS ⟨fs, fg, bg⟩ l) = .agg #[.int .u8 p, .int .u32 q, .int .u32 r] := ⟨_, _, _, rfl⟩
            have HY1 : Hid (Unit → pV (changeS ⟨fs, fg, bg⟩ (l.take 1)) = .agg #[.int .u8 p, .int .u32 q, .int .u32 r]) := Lib.hid (fun _ => by rw [hy1, hp])
            have HY2 : Hid (Unit → pV (changeS Y1 (l.drop 1)) = .agg #[.int .u8 p', .int .u32 q', .int .u32 r']) := Lib.hid (fun _ => by rw [hct, hp'])
            have HY3 : Hid (Unit → pV (changeS ⟨fs, fg, bg⟩ l) = .agg #[.int .u8 p', .int .u32 q', .int .u32 r']) := Lib.hid (fun _ => hp')
            have HCY := Lib.hid (fun U hU A m c ys hR hl hm h1 h2 => hp ▸ HCY' U hU A m c ys hR hl hm h1 h2)
            have s1 : (1 : Int) ≤ (cp : Int) := by omega
            have s2 : (1 : Int) ≤ (i : Int) := by omega
            have s3 : ¬ cp = 1 := by omega
            have HTW := Lib.hid (fun X (hX : Below v6.heap.size v6 X) => HT2.out.go hX)
            clear hrv hg1 hct hy1 HCY' hp hp' hc hbl h2 HCH HT1
            go_wp2
            have HDB := Lib.hid (Below.refl v6.heap.size v6).drew
            refine wp_region_held_drew (S := fun W => Below v6.drew.heap.size v6.drew W) (by kernel_rfl) (Below.refl _ _) (fun hHeld => ?_)
            refine wpAnyH_ready (rs := [0]) (by kernel_rfl) (by simp) ?_
            refine AllReadyH.cons (by simp; rfl) (fun K0 hK0 => ?_) AllReadyH.nil
            go_simp
            refine (HAL.out _ (HT2.out.below.trans (HDB.out.mono HT2.out.below.size))).mono ?_
            rintro e v1 ⟨rfl, hx⟩
            have hbv1 : Below v6.drew.heap.size v6.drew v1 := hx
            have HDB2 := Lib.hid (HDB.out.trans (hbv1.mono HDB.out.size))
            clear HDB
            have HDB := HDB2
            clear HDB2
            clear hx
            refine hK0.out _ _ hbv1 (fun _ => ?_)
            clear hK0 K0 hHeld
            refine heldMono (S' := fun W => Below v1.heap.size v1 W) (fun _ h => hbv1.trans (h.mono hbv1.size)) _ _ _ _ ?_
            have hHeld := Below.refl v1.heap.size v1
            have HBv1 := Lib.hid hbv1
            clear hbv1
            refine wpAnyH_take (i := 1) (v := ?_) (by simp; rfl) (by kernel_rfl) (by kernel_rfl) (by kernel_rfl) (by exact fun _ _ _ h => h) (Or.inl ⟨by rfl, fun wx hSx => ?_⟩) hHeld ?_
            rotate_left
            · clear hSx; go_simp; (try with_reducible rfl)
            simp only [Act.put, List.setIfInBounds_toArray, List.set_cons_zero, List.set_cons_succ]
            refine wpAnyH_take (i := 2) (v := ?_) (by simp; rfl) (by kernel_rfl) (by kernel_rfl) (by kernel_rfl) (by exact fun _ _ _ h => h) (Or.inl ⟨by rfl, fun wx hSx => ?_⟩) hHeld ?_
            rotate_left
            · have hz := HTW.out wx (HDB.out.trans (hSx.mono HDB.out.size)); obtain ⟨p0, p1, p2⟩ := pcell hz.r0; clear hSx hz; go_simp; (try with_reducible rfl)
            simp only [Act.put, List.setIfInBounds_toArray, List.set_cons_zero, List.set_cons_succ]
            refine wpAnyH_take (i := 3) (v := ?_) (by simp; rfl) (by kernel_rfl) (by kernel_rfl) (by kernel_rfl) (by exact fun _ _ _ h => h) (Or.inl ⟨by rfl, fun wx hSx => ?_⟩) hHeld ?_
            rotate_left
            · clear hSx; go_simp; (try with_reducible rfl)
            simp only [Act.put, List.setIfInBounds_toArray, List.set_cons_zero, List.set_cons_succ]
            refine wpAnyH_take (i := 4) (v := ?_) (by simp; rfl) (by kernel_rfl) (by kernel_rfl) (by kernel_rfl) (by exact fun _ _ _ h => h) (Or.inl ⟨by rfl, fun wx hSx => ?_⟩) hHeld ?_
            rotate_left
            · clear hSx; go_simp; (try with_reducible rfl)
            simp only [Act.put, List.setIfInBounds_toArray, List.set_cons_zero, List.set_cons_succ]
            refine wpAnyH_take (i := 6) (v := ?_) (by simp; rfl) (by kernel_rfl) (by kernel_rfl) (by kernel_rfl) (by exact fun _ _ _ h => h) (Or.inl ⟨by rfl, fun wx hSx => ?_⟩) hHeld ?_
            rotate_left
            · clear hSx; go_simp; (try with_reducible rfl)
            simp only [Act.put, List.setIfInBounds_toArray, List.set_cons_zero, List.set_cons_succ]
            refine wpAnyH_take (i := 7) (v := ?_) (by simp; rfl) (by kernel_rfl) (by kernel_rfl) (by kernel_rfl) (by exact fun _ _ _ h => h) (Or.inl ⟨by rfl, fun wx hSx => ?_⟩) hHeld ?_
            rotate_left
            · clear hSx; go_simp; (try with_reducible rfl)
            simp only [Act.put, List.setIfInBounds_toArray, List.set_cons_zero, List.set_cons_succ]
            refine wpAnyH_take (i := 9) (v := ?_) (by simp; rfl) (by kernel_rfl) (by kernel_rfl) (by kernel_rfl) (by exact fun _ _ _ h => h) (Or.inl ⟨by rfl, fun wx hSx => ?_⟩) hHeld ?_
            rotate_left
            · have hz := HTW.out wx (HDB.out.trans (hSx.mono HDB.out.size)); obtain ⟨p0, p1, p2⟩ := pcell hz.r0; clear hSx hz; go_simp; (try with_reducible rfl)
            simp only [Act.put, List.setIfInBounds_toArray, List.set_cons_zero, List.set_cons_succ]
            refine wpAnyH_take (i := 10) (v := ?_) (by simp; rfl) (by kernel_rfl) (by kernel_rfl) (by kernel_rfl) (by exact fun _ _ _ h => h) (Or.inl ⟨by rfl, fun wx hSx => ?_⟩) hHeld ?_
            rotate_left
            · clear hSx; go_simp; (try with_reducible rfl)
            simp only [Act.put, List.setIfInBounds_toArray, List.set_cons_zero, List.set_cons_succ]
            refine wpAnyH_ready (rs := [5]) (by kernel_rfl) (by simp) ?_
            refine AllReadyH.cons (by simp; rfl) (fun K0 hK0 => ?_) AllReadyH.nil
            go_simp
            refine (HCS.out _ (HT2.out.below.trans (HDB.out.mono HT2.out.below.size)) _ _ _ _ (HRT1.out _ HDB.out) HLT.out (by omega) HCP1.out.1 HCP1.out.2).mono ?_
            rintro e v20 ⟨rfl, hx⟩
            have hbv20 : Below v1.heap.size v1 v20 := hx
            have HDB2 := Lib.hid (HDB.out.trans (hbv20.mono HDB.out.size))
            clear HDB
            have HDB := HDB2
            clear HDB2
            clear hx
            rw [HY1.out ()]
            refine hK0.out _ _ hbv20 (fun _ => ?_)
            clear hK0 K0 hHeld
            refine heldMono (S' := fun W => Below v20.heap.size v20 W) (fun _ h => hbv20.trans (h.mono hbv20.size)) _ _ _ _ ?_
            have hHeld := Below.refl v20.heap.size v20
            have HBv20 := Lib.hid hbv20
            clear hbv20
            refine wpAnyH_ready (rs := [8]) (by kernel_rfl) (by simp) ?_
            refine AllReadyH.cons (by simp; rfl) (fun K0 hK0 => ?_) AllReadyH.nil
            go_simp
            refine (HCY.out _ (HT2.out.below.trans (HDB.out.mono HT2.out.below.size)) _ _ _ _ (HRD1.out _ HDB.out) HLD.out (by omega) HCP2.out.1 HCP2.out.2).mono ?_
            rintro e v35 ⟨rfl, hx⟩
            have hbv35 : Below v20.heap.size v20 v35 := hx
            have HDB2 := Lib.hid (HDB.out.trans (hbv35.mono HDB.out.size))
            clear HDB
            have HDB := HDB2
            clear HDB2
            clear hx
            rw [HY2.out ()]
            refine hK0.out _ _ hbv35 (fun _ => ?_)
            clear hK0 K0 hHeld
            refine heldMono (S' := fun W => Below v35.heap.size v35 W) (fun _ h => hbv35.trans (h.mono hbv35.size)) _ _ _ _ ?_
            have hHeld := Below.refl v35.heap.size v35
            have HBv35 := Lib.hid hbv35
            clear hbv35
            refine wpAnyH_ready (rs := [11]) (by kernel_rfl) (by simp) ?_
            refine AllReadyH.cons (by simp; rfl) (fun K0 hK0 => ?_) AllReadyH.nil
            go_simp
            refine (HCS.out _ (HT2.out.below.trans (HDB.out.mono HT2.out.below.size)) _ _ _ _ (HRA1.out _ HDB.out) (HLL.out ()) (by omega) HCP3.out.1 HCP3.out.2).mono ?_
            rintro e v48 ⟨rfl, hx⟩
            have hbv48 : Below v35.heap.size v35 v48 := hx
            have HDB2 := Lib.hid (HDB.out.trans (hbv48.mono HDB.out.size))
            clear HDB
            have HDB := HDB2
            clear HDB2
            clear hx
            rw [HY3.out ()]
            refine hK0.out _ _ hbv48 (fun _ => ?_)
            clear hK0 K0 hHeld
            refine heldMono (S' := fun W => Below v48.heap.size v48 W) (fun _ h => hbv48.trans (h.mono hbv48.size)) _ _ _ _ ?_
            have hHeld := Below.refl v48.heap.size v48
            have HBv48 := Lib.hid hbv48
            clear hbv48
            refine wpAnyH_take (i := 12) (v := ?_) (by simp; rfl) (by kernel_rfl) (by kernel_rfl) (by kernel_rfl) (by exact fun _ _ _ h => h) (Or.inl ⟨by rfl, fun wx hSx => ?_⟩) hHeld ?_
            rotate_left
            · clear hSx; go_simp; (try with_reducible rfl)
            simp only [Act.put, List.setIfInBounds_toArray, List.set_cons_zero, List.set_cons_succ]
            refine wpAnyH_take (i := 13) (v := ?_) (by simp; rfl) (by kernel_rfl) (by kernel_rfl) (by kernel_rfl) (by exact fun _ _ _ h => h) (Or.inl ⟨by rfl, fun wx hSx => ?_⟩) hHeld ?_
            rotate_left
            · clear hSx; go_simp; (try with_reducible rfl)
            simp only [Act.put, List.setIfInBounds_toArray, List.set_cons_zero, List.set_cons_succ]
            refine wpAnyH_take (i := 14) (v := ?_) (by simp; rfl) (by kernel_rfl) (by kernel_rfl) (by kernel_rfl) (by exact fun _ _ _ h => h) (Or.inl ⟨by rfl, fun wx hSx => ?_⟩) hHeld ?_
            rotate_left
            · clear hSx; go_simp; (try with_reducible rfl)
            simp only [Act.put, List.setIfInBounds_toArray, List.set_cons_zero, List.set_cons_succ]
            refine wpAnyH_done (by kernel_rfl) ?_ _
            have HBF := Lib.hid (HT2.out.below.trans (HDB.out.mono HT2.out.below.size))
            clear hHeld HDB HTW
            go_wp2
            go_ret
            exact ⟨rfl, HBF.out⟩
          · go_simp
            have hz : RI .i64 (x0a.alloc (.cells #[.int .i64 0] 3)) (some ⟨x0a.heap.size, 0, none⟩) [0] := RI.one .i64 x0a 0 3
            have hbX : Below x0a.heap.size x0a (x0a.alloc (.cells #[.int .i64 0] 3)) := (Below.refl _ _).alloc (Nat.le_refl _) _
            have hzr := heap_alloc_new x0a (.cells #[.int .i64 0] 3)
            generalize x0a.alloc (.cells #[.int .i64 0] 3) = x1z at hz hbX hzr ⊢
            have HZ := Lib.hid hz
            have HE2 := Lib.hid (HE.out.to hbX)
            have HNE : Hid (D.heap.size < x0a.heap.size) := Lib.hid (HE.out.lt)
            have HZR := Lib.hid hzr
            clear HE hz hbX hzr
            have HE := HE2
            clear HE2
            refine hK0.out _ _ (HE.out.below) (fun hHeld => ?_)
            clear hK0 K0
            refine wpAnyH_ready (rs := [3]) (by kernel_rfl) (by simp) ?_
            refine AllReadyH.cons (by simp; rfl) (fun K0 hK0 => ?_) AllReadyH.nil
            obtain ⟨A6, c6, x2p, hrun, ho, hrz⟩ := app_beside HE.out HZR.out HNE.out (HUL.out _ (HDB.out.trans (HE.out.below.mono HDB.out.size))) (by omega)
            have HZ2 := Lib.hid hrz
            clear HZ hrz HZR HNE
            have HZ := HZ2
            clear HZ2
            have HRUN := Lib.hid hrun
            clear HE
            have HE := Lib.hid ho
            clear hrun ho
            refine step_app rfl (.tmp 42) (.tmp 43) _ rfl _ _ rfl rfl HRUN.out ?_
            simp only [Act.put, List.setIfInBounds_toArray, List.set_cons_zero, List.set_cons_succ]
            clear HRUN
            refine hK0.out _ _ (HE.out.below) (fun hHeld => ?_)
            clear hK0 K0
            refine wpAnyH_ready (rs := [5]) (by kernel_rfl) (by simp) ?_
            refine AllReadyH.cons (by simp; rfl) (fun K0 hK0 => ?_) AllReadyH.nil
            obtain ⟨A7, c7, x9, hrun, ho⟩ := HE.out.apps1 (x := 0) (W2 := x2p) ⟨_, 1, rfl, (fun h => by cases h), HZ.out⟩ (Below.refl _ _) (by omega)
            have HRUN := Lib.hid hrun
            have HO := Lib.hid ho
            clear hrun ho HE
            refine step_app rfl (.tmp 44) (.tmp 45) _ rfl _ _ rfl rfl HRUN.out ?_
            simp only [Act.put, List.setIfInBounds_toArray, List.set_cons_zero, List.set_cons_succ]
            clear HRUN
            refine hK0.out _ _ (HO.out.below) (fun hHeld => ?_)
            clear hK0 K0
            refine wpAnyH_ready (rs := [6]) (by kernel_rfl) (by simp) ?_
            refine AllReadyH.cons (by simp; rfl) (fun K0 hK0 => ?_) AllReadyH.nil
            go_simp
            obtain ⟨A8, c8, he8, ho1, ho2, _, hor⟩ := HO.out.slice
            injection he8 with e1 e2 e3
            subst e1 e3
            refine (HCS.out _ (HT1.out.below.trans ((HDB.out.trans (HO.out.below.mono HDB.out.size)).mono HT1.out.below.size)) _ _ _ _ hor (by simp) (by omega) (by have := ho1; simp at this; omega) ho2).mono ?_
            rintro e v6 ⟨rfl, hx⟩
            have HDV := Lib.hid (HO.out.below.trans (hx.mono HO.out.below.size))
            rw [HCZ.out ()]
            clear hx ho1 ho2 hor e2
            refine hK0.out _ _ (HDV.out) (fun hHeld => ?_)
            clear hK0 K0
            refine wpAnyH_take (i := 8) (v := ?_) (by simp; rfl) (by kernel_rfl) (by kernel_rfl) (by kernel_rfl) (by exact fun _ _ _ h => h) (Or.inl ⟨by rfl, fun wx hSx => ?_⟩) hHeld ?_
            rotate_left
            · clear hSx; go_simp; (try with_reducible rfl)
            simp only [Act.put, List.setIfInBounds_toArray, List.set_cons_zero, List.set_cons_succ]
            refine wpAnyH_done (by kernel_rfl) ?_ _
            have HT2 := Lib.hid (HTW.out _ (HDB.out.trans (HDV.out.mono HDB.out.size)))
            clear hHeld HDV HDB HTW HO HCZ HUL
            by_cases h2 : i < 2
            · have d4 : decide ((i : Int) < 2) = true := by simp; omega
              clear h2
              go_wp2_with fail
              refine (HAL.out _ HT2.out.below).mono ?_
              rintro e w1 ⟨rfl, hb1⟩
              have HB := Lib.hid (HT2.out.below.trans (hb1.mono HT2.out.below.size))
              clear hb1
              go_wp2
              go_ret
              exact ⟨rfl, HB.out⟩
            have d4 : decide ((i : Int) < 2) = false := by simp; omega
            obtain ⟨bl, off, rfl, hbl, hc⟩ := HRL.out (by rw [HLL.out ()]; omega)
            have hrv : ∀ X, Below v6.heap.size v6 X → RI .i64 X (some ⟨bl, off, none⟩) l := fun X hX => RI.below (RI.below HRL.out HT2.out.below) hX
            have HRA1 := Lib.hid hrv
            have HRT1 := Lib.hid (fun X hX => RI.take 1 (hrv X hX))
            have HRD1 := Lib.hid (fun X hX => RI.tail1 (hrv X hX))
            have HLT : Hid ((l.take 1).length = 1) := Lib.hid (by rw [List.length_take, HLL.out ()]; omega)
            have HLD : Hid ((l.drop 1).length = i - 1) := Lib.hid (by rw [List.length_drop, HLL.out ()])
            have HCP1 : Hid (1 ≤ cp ∧ cp ≤ maxLen) := Lib.hid (by unfold maxLen; omega)
            have HCP2 : Hid (i - 1 ≤ cp - 1 ∧ cp - 1 ≤ maxLen) := Lib.hid (by unfold maxLen; omega)
            have HCP3 : Hid (i ≤ cp ∧ cp ≤ maxLen) := Lib.hid (by unfold maxLen; omega)
            have hg1 : Good (changeS ⟨fs, fg, bg⟩ (l.take 1)) := good_take1 HGS.out HSI.out (by rw [HLL.out ()]; omega)
            have hct := change_two ⟨fs, fg, bg⟩ HSI.out (by rw [HLL.out ()]; omega)
            obtain ⟨Y1, hy1⟩ : ∃ Y, changeS ⟨fs, fg, bg⟩ (l.take 1) = Y := ⟨_, rfl⟩
            rw [hy1] at hg1 hct
            have HCY' := fun (U : World) (hU : Below W.heap.size W U) (A : Option Addr) (m c : Nat) (ys : List Int) (hR : RI .i64 U A ys) (hl : ys.length = m) (hm : m ≤ 1000) (h1 : m ≤ c) (h2 : c ≤ maxLen) => HCH.out Y1 hg1 U hU A m c ys hR hl hm h1 h2
            obtain ⟨p, q, r, hp⟩ : ∃ p q r, pV Y1 = .agg #[.int .u8 p, .int .u32 q, .int .u32 r] := ⟨_, _, _, rfl⟩
            obtain ⟨p', q', r', hp'⟩ : ∃ p q r, pV (changeS ⟨fs, fg, bg⟩ l) = .agg #[.int .u8 p, .int .u32 q, .int .u32 r] := ⟨_, _, _, rfl⟩
            have HY1 : Hid (Unit → pV (changeS ⟨fs, fg, bg⟩ (l.take 1)) = .agg #[.int .u8 p, .int .u32 q, .int .u32 r]) := Lib.hid (fun _ => by rw [hy1, hp])
            have HY2 : Hid (Unit → pV (changeS Y1 (l.drop 1)) = .agg #[.int .u8 p', .int .u32 q', .int .u32 r']) := Lib.hid (fun _ => by rw [hct, hp'])
            have HY3 : Hid (Unit → pV (changeS ⟨fs, fg, bg⟩ l) = .agg #[.int .u8 p', .int .u32 q', .int .u32 r']) := Lib.hid (fun _ => hp')
            have HCY := Lib.hid (fun U hU A m c ys hR hl hm h1 h2 => hp ▸ HCY' U hU A m c ys hR hl hm h1 h2)
            have s1 : (1 : Int) ≤ (cp : Int) := by omega
            have s2 : (1 : Int) ≤ (i : Int) := by omega
            have s3 : ¬ cp = 1 := by omega
            have HTW := Lib.hid (fun X (hX : Below v6.heap.size v6 X) => HT2.out.go hX)
            clear hrv hg1 hct hy1 HCY' hp hp' hc hbl h2 HCH HT1
            go_wp2
            have HDB := Lib.hid (Below.refl v6.heap.size v6).drew
            refine wp_region_held_drew (S := fun W => Below v6.drew.heap.size v6.drew W) (by kernel_rfl) (Below.refl _ _) (fun hHeld => ?_)
            refine wpAnyH_ready (rs := [0]) (by kernel_rfl) (by simp) ?_
            refine AllReadyH.cons (by simp; rfl) (fun K0 hK0 => ?_) AllReadyH.nil
            go_simp
            refine (HAL.out _ (HT2.out.below.trans (HDB.out.mono HT2.out.below.size))).mono ?_
            rintro e v1 ⟨rfl, hx⟩
            have hbv1 : Below v6.drew.heap.size v6.drew v1 := hx
            have HDB2 := Lib.hid (HDB.out.trans (hbv1.mono HDB.out.size))
            clear HDB
            have HDB := HDB2
            clear HDB2
            clear hx
            refine hK0.out _ _ hbv1 (fun _ => ?_)
            clear hK0 K0 hHeld
            refine heldMono (S' := fun W => Below v1.heap.size v1 W) (fun _ h => hbv1.trans (h.mono hbv1.size)) _ _ _ _ ?_
            have hHeld := Below.refl v1.heap.size v1
            have HBv1 := Lib.hid hbv1
            clear hbv1
            refine wpAnyH_take (i := 1) (v := ?_) (by simp; rfl) (by kernel_rfl) (by kernel_rfl) (by kernel_rfl) (by exact fun _ _ _ h => h) (Or.inl ⟨by rfl, fun wx hSx => ?_⟩) hHeld ?_
            rotate_left
            · clear hSx; go_simp; (try with_reducible rfl)
            simp only [Act.put, List.setIfInBounds_toArray, List.set_cons_zero, List.set_cons_succ]
            refine wpAnyH_take (i := 2) (v := ?_) (by simp; rfl) (by kernel_rfl) (by kernel_rfl) (by kernel_rfl) (by exact fun _ _ _ h => h) (Or.inl ⟨by rfl, fun wx hSx => ?_⟩) hHeld ?_
            rotate_left
            · have hz := HTW.out wx (HDB.out.trans (hSx.mono HDB.out.size)); obtain ⟨p0, p1, p2⟩ := pcell hz.r0; clear hSx hz; go_simp; (try with_reducible rfl)
            simp only [Act.put, List.setIfInBounds_toArray, List.set_cons_zero, List.set_cons_succ]
            refine wpAnyH_take (i := 3) (v := ?_) (by simp; rfl) (by kernel_rfl) (by kernel_rfl) (by kernel_rfl) (by exact fun _ _ _ h => h) (Or.inl ⟨by rfl, fun wx hSx => ?_⟩) hHeld ?_
            rotate_left
            · clear hSx; go_simp; (try with_reducible rfl)
            simp only [Act.put, List.setIfInBounds_toArray, List.set_cons_zero, List.set_cons_succ]
            refine wpAnyH_take (i := 4) (v := ?_) (by simp; rfl) (by kernel_rfl) (by kernel_rfl) (by kernel_rfl) (by exact fun _ _ _ h => h) (Or.inl ⟨by rfl, fun wx hSx => ?_⟩) hHeld ?_
            rotate_left
            · clear hSx; go_simp; (try with_reducible rfl)
            simp only [Act.put, List.setIfInBounds_toArray, List.set_cons_zero, List.set_cons_succ]
            refine wpAnyH_take (i := 6) (v := ?_) (by simp; rfl) (by kernel_rfl) (by kernel_rfl) (by kernel_rfl) (by exact fun _ _ _ h => h) (Or.inl ⟨by rfl, fun wx hSx => ?_⟩) hHeld ?_
            rotate_left
            · clear hSx; go_simp; (try with_reducible rfl)
            simp only [Act.put, List.setIfInBounds_toArray, List.set_cons_zero, List.set_cons_succ]
            refine wpAnyH_take (i := 7) (v := ?_) (by simp; rfl) (by kernel_rfl) (by kernel_rfl) (by kernel_rfl) (by exact fun _ _ _ h => h) (Or.inl ⟨by rfl, fun wx hSx => ?_⟩) hHeld ?_
            rotate_left
            · clear hSx; go_simp; (try with_reducible rfl)
            simp only [Act.put, List.setIfInBounds_toArray, List.set_cons_zero, List.set_cons_succ]
            refine wpAnyH_take (i := 9) (v := ?_) (by simp; rfl) (by kernel_rfl) (by kernel_rfl) (by kernel_rfl) (by exact fun _ _ _ h => h) (Or.inl ⟨by rfl, fun wx hSx => ?_⟩) hHeld ?_
            rotate_left
            · have hz := HTW.out wx (HDB.out.trans (hSx.mono HDB.out.size)); obtain ⟨p0, p1, p2⟩ := pcell hz.r0; clear hSx hz; go_simp; (try with_reducible rfl)
            simp only [Act.put, List.setIfInBounds_toArray, List.set_cons_zero, List.set_cons_succ]
            refine wpAnyH_take (i := 10) (v := ?_) (by simp; rfl) (by kernel_rfl) (by kernel_rfl) (by kernel_rfl) (by exact fun _ _ _ h => h) (Or.inl ⟨by rfl, fun wx hSx => ?_⟩) hHeld ?_
            rotate_left
            · clear hSx; go_simp; (try with_reducible rfl)
            simp only [Act.put, List.setIfInBounds_toArray, List.set_cons_zero, List.set_cons_succ]
            refine wpAnyH_ready (rs := [5]) (by kernel_rfl) (by simp) ?_
            refine AllReadyH.cons (by simp; rfl) (fun K0 hK0 => ?_) AllReadyH.nil
            go_simp
            refine (HCS.out _ (HT2.out.below.trans (HDB.out.mono HT2.out.below.size)) _ _ _ _ (HRT1.out _ HDB.out) HLT.out (by omega) HCP1.out.1 HCP1.out.2).mono ?_
            rintro e v20 ⟨rfl, hx⟩
            have hbv20 : Below v1.heap.size v1 v20 := hx
            have HDB2 := Lib.hid (HDB.out.trans (hbv20.mono HDB.out.size))
            clear HDB
            have HDB := HDB2
            clear HDB2
            clear hx
            rw [HY1.out ()]
            refine hK0.out _ _ hbv20 (fun _ => ?_)
            clear hK0 K0 hHeld
            refine heldMono (S' := fun W => Below v20.heap.size v20 W) (fun _ h => hbv20.trans (h.mono hbv20.size)) _ _ _ _ ?_
            have hHeld := Below.refl v20.heap.size v20
            have HBv20 := Lib.hid hbv20
            clear hbv20
            refine wpAnyH_ready (rs := [8]) (by kernel_rfl) (by simp) ?_
            refine AllReadyH.cons (by simp; rfl) (fun K0 hK0 => ?_) AllReadyH.nil
            go_simp
            refine (HCY.out _ (HT2.out.below.trans (HDB.out.mono HT2.out.below.size)) _ _ _ _ (HRD1.out _ HDB.out) HLD.out (by omega) HCP2.out.1 HCP2.out.2).mono ?_
            rintro e v35 ⟨rfl, hx⟩
            have hbv35 : Below v20.heap.size v20 v35 := hx
            have HDB2 := Lib.hid (HDB.out.trans (hbv35.mono HDB.out.size))
            clear HDB
            have HDB := HDB2
            clear HDB2
            clear hx
            rw [HY2.out ()]
            refine hK0.out _ _ hbv35 (fun _ => ?_)
            clear hK0 K0 hHeld
            refine heldMono (S' := fun W => Below v35.heap.size v35 W) (fun _ h => hbv35.trans (h.mono hbv35.size)) _ _ _ _ ?_
            have hHeld := Below.refl v35.heap.size v35
            have HBv35 := Lib.hid hbv35
            clear hbv35
            refine wpAnyH_ready (rs := [11]) (by kernel_rfl) (by simp) ?_
            refine AllReadyH.cons (by simp; rfl) (fun K0 hK0 => ?_) AllReadyH.nil
            go_simp
            refine (HCS.out _ (HT2.out.below.trans (HDB.out.mono HT2.out.below.size)) _ _ _ _ (HRA1.out _ HDB.out) (HLL.out ()) (by omega) HCP3.out.1 HCP3.out.2).mono ?_
            rintro e v48 ⟨rfl, hx⟩
            have hbv48 : Below v35.heap.size v35 v48 := hx
            have HDB2 := Lib.hid (HDB.out.trans (hbv48.mono HDB.out.size))
            clear HDB
            have HDB := HDB2
            clear HDB2
            clear hx
            rw [HY3.out ()]
            refine hK0.out _ _ hbv48 (fun _ => ?_)
            clear hK0 K0 hHeld
            refine heldMono (S' := fun W => Below v48.heap.size v48 W) (fun _ h => hbv48.trans (h.mono hbv48.size)) _ _ _ _ ?_
            have hHeld := Below.refl v48.heap.size v48
            have HBv48 := Lib.hid hbv48
            clear hbv48
            refine wpAnyH_take (i := 12) (v := ?_) (by simp; rfl) (by kernel_rfl) (by kernel_rfl) (by kernel_rfl) (by exact fun _ _ _ h => h) (Or.inl ⟨by rfl, fun wx hSx => ?_⟩) hHeld ?_
            rotate_left
            · clear hSx; go_simp; (try with_reducible rfl)
            simp only [Act.put, List.setIfInBounds_toArray, List.set_cons_zero, List.set_cons_succ]
            refine wpAnyH_take (i := 13) (v := ?_) (by simp; rfl) (by kernel_rfl) (by kernel_rfl) (by kernel_rfl) (by exact fun _ _ _ h => h) (Or.inl ⟨by rfl, fun wx hSx => ?_⟩) hHeld ?_
            rotate_left
            · clear hSx; go_simp; (try with_reducible rfl)
            simp only [Act.put, List.setIfInBounds_toArray, List.set_cons_zero, List.set_cons_succ]
            refine wpAnyH_take (i := 14) (v := ?_) (by simp; rfl) (by kernel_rfl) (by kernel_rfl) (by kernel_rfl) (by exact fun _ _ _ h => h) (Or.inl ⟨by rfl, fun wx hSx => ?_⟩) hHeld ?_
            rotate_left
            · clear hSx; go_simp; (try with_reducible rfl)
            simp only [Act.put, List.setIfInBounds_toArray, List.set_cons_zero, List.set_cons_succ]
            refine wpAnyH_done (by kernel_rfl) ?_ _
            have HBF := Lib.hid (HT2.out.below.trans (HDB.out.mono HT2.out.below.size))
            clear hHeld HDB HTW
            go_wp2
            go_ret
            exact ⟨rfl, HBF.out⟩
        · go_simp
          have hz : RI .i64 (D.alloc (.cells #[.int .i64 0] 3)) (some ⟨D.heap.size, 0, none⟩) [0] := RI.one .i64 D 0 3
          have hbX : Below D.heap.size D (D.alloc (.cells #[.int .i64 0] 3)) := (Below.refl _ _).alloc (Nat.le_refl _) _
          generalize D.alloc (.cells #[.int .i64 0] 3) = x0z at hz hbX ⊢
          have HZ := Lib.hid hz
          have HDX := Lib.hid hbX
          clear hz hbX
          refine hK0.out _ _ (HDX.out) (fun hHeld => ?_)
          clear hK0 K0
          refine wpAnyH_ready (rs := [1]) (by kernel_rfl) (by simp) ?_
          refine AllReadyH.cons (by simp; rfl) (fun K0 hK0 => ?_) AllReadyH.nil
          go_simp
          have ho : OwnI x0z (.slice (some ⟨x0z.heap.size, 0, none⟩) 0 0) [] (x0z.alloc (.cells #[] 3)) := OwnI.lit x0z [] 0 rfl (by omega)
          generalize x0z.alloc (.cells #[] 3) = x1a at ho ⊢
          have HZX := Lib.hid (RI.below HZ.out ho.below)
          have HE := Lib.hid ho
          clear ho
          refine hK0.out _ _ (HDX.out.trans (HE.out.below.mono HDX.out.size)) (fun hHeld => ?_)
          clear hK0 K0
          refine wpAnyH_ready (rs := [3]) (by kernel_rfl) (by simp) ?_
          refine AllReadyH.cons (by simp; rfl) (fun K0 hK0 => ?_) AllReadyH.nil
          obtain ⟨A6, c6, x2p, hrun, ho⟩ := HE.out.apps0 (ys := l) (u := .slice A i cp) (HUL.out _ (HDB.out.trans (((HDX.out.trans (HE.out.below.mono HDX.out.size))).mono HDB.out.size))) (Below.refl _ _) (by omega)
          have HZ2 := Lib.hid (RI.below HZ.out ho.below)
          clear HZX
          have HRUN := Lib.hid hrun
          clear HE
          have HE := Lib.hid ho
          clear hrun ho
          refine step_app rfl (.tmp 42) (.tmp 43) _ rfl _ _ rfl rfl HRUN.out ?_
          simp only [Act.put, List.setIfInBounds_toArray, List.set_cons_zero, List.set_cons_succ]
          clear HRUN
          refine hK0.out _ _ (HDX.out.trans (HE.out.below.mono HDX.out.size)) (fun hHeld => ?_)
          clear hK0 K0
          refine wpAnyH_ready (rs := [5]) (by kernel_rfl) (by simp) ?_
          refine AllReadyH.cons (by simp; rfl) (fun K0 hK0 => ?_) AllReadyH.nil
          obtain ⟨A7, c7, x9, hrun, ho⟩ := HE.out.apps1 (x := 0) (W2 := x2p) ⟨_, 1, rfl, (fun h => by cases h), HZ2.out⟩ (Below.refl _ _) (by omega)
          have HRUN := Lib.hid hrun
          have HO := Lib.hid (ho.from HDX.out)
          clear hrun ho HE
          refine step_app rfl (.tmp 44) (.tmp 45) _ rfl _ _ rfl rfl HRUN.out ?_
          simp only [Act.put, List.setIfInBounds_toArray, List.set_cons_zero, List.set_cons_succ]
          clear HRUN
          refine hK0.out _ _ (HO.out.below) (fun hHeld => ?_)
          clear hK0 K0
          refine wpAnyH_ready (rs := [6]) (by kernel_rfl) (by simp) ?_
          refine AllReadyH.cons (by simp; rfl) (fun K0 hK0 => ?_) AllReadyH.nil
          go_simp
          obtain ⟨A8, c8, he8, ho1, ho2, _, hor⟩ := HO.out.slice
          injection he8 with e1 e2 e3
          subst e1 e3
          refine (HCS.out _ (HT1.out.below.trans ((HDB.out.trans (HO.out.below.mono HDB.out.size)).mono HT1.out.below.size)) _ _ _ _ hor (by simp) (by omega) (by have := ho1; simp at this; omega) ho2).mono ?_
          rintro e v6 ⟨rfl, hx⟩
          have HDV := Lib.hid (HO.out.below.trans (hx.mono HO.out.below.size))
          rw [HCZ.out ()]
          clear hx ho1 ho2 hor e2
          refine hK0.out _ _ (HDV.out) (fun hHeld => ?_)
          clear hK0 K0
          refine wpAnyH_take (i := 8) (v := ?_) (by simp; rfl) (by kernel_rfl) (by kernel_rfl) (by kernel_rfl) (by exact fun _ _ _ h => h) (Or.inl ⟨by rfl, fun wx hSx => ?_⟩) hHeld ?_
          rotate_left
          · clear hSx; go_simp; (try with_reducible rfl)
          simp only [Act.put, List.setIfInBounds_toArray, List.set_cons_zero, List.set_cons_succ]
          refine wpAnyH_done (by kernel_rfl) ?_ _
          have HT2 := Lib.hid (HTW.out _ (HDB.out.trans (HDV.out.mono HDB.out.size)))
          clear hHeld HDV HDB HTW HO HCZ HUL
          by_cases h2 : i < 2
          · have d4 : decide ((i : Int) < 2) = true := by simp; omega
            clear h2
            go_wp2_with fail
            refine (HAL.out _ HT2.out.below).mono ?_
            rintro e w1 ⟨rfl, hb1⟩
            have HB := Lib.hid (HT2.out.below.trans (hb1.mono HT2.out.below.size))
            clear hb1
            go_wp2
            go_ret
            exact ⟨rfl, HB.out⟩
          have d4 : decide ((i : Int) < 2) = false := by simp; omega
          obtain ⟨bl, off, rfl, hbl, hc⟩ := HRL.out (by rw [HLL.out ()]; omega)
          have hrv : ∀ X, Below v6.heap.size v6 X → RI .i64 X (some ⟨bl, off, none⟩) l := fun X hX => RI.below (RI.below HRL.out HT2.out.below) hX
          have HRA1 := Lib.hid hrv
          have HRT1 := Lib.hid (fun X hX => RI.take 1 (hrv X hX))
          have HRD1 := Lib.hid (fun X hX => RI.tail1 (hrv X hX))
          have HLT : Hid ((l.take 1).length = 1) := Lib.hid (by rw [List.length_take, HLL.out ()]; omega)
          have HLD : Hid ((l.drop 1).length = i - 1) := Lib.hid (by rw [List.length_drop, HLL.out ()])
          have HCP1 : Hid (1 ≤ cp ∧ cp ≤ maxLen) := Lib.hid (by unfold maxLen; omega)
          have HCP2 : Hid (i - 1 ≤ cp - 1 ∧ cp - 1 ≤ maxLen) := Lib.hid (by unfold maxLen; omega)
          have HCP3 : Hid (i ≤ cp ∧ cp ≤ maxLen) := Lib.hid (by unfold maxLen; omega)
          have hg1 : Good (changeS ⟨fs, fg, bg⟩ (l.take 1)) := good_take1 HGS.out HSI.out (by rw [HLL.out ()]; omega)
          have hct := change_two ⟨fs, fg, bg⟩ HSI.out (by rw [HLL.out ()]; omega)
          obtain ⟨Y1, hy1⟩ : ∃ Y, changeS ⟨fs, fg, bg⟩ (l.take 1) = Y := ⟨_, rfl⟩
          rw [hy1] at hg1 hct
          have HCY' := fun (U : World) (hU : Below W.heap.size W U) (A : Option Addr) (m c : Nat) (ys : List Int) (hR : RI .i64 U A ys) (hl : ys.length = m) (hm : m ≤ 1000) (h1 : m ≤ c) (h2 : c ≤ maxLen) => HCH.out Y1 hg1 U hU A m c ys hR hl hm h1 h2
          obtain ⟨p, q, r, hp⟩ : ∃ p q r, pV Y1 = .agg #[.int .u8 p, .int .u32 q, .int .u32 r] := ⟨_, _, _, rfl⟩
          obtain ⟨p', q', r', hp'⟩ : ∃ p q r, pV (changeS ⟨fs, fg, bg⟩ l) = .agg #[.int .u8 p, .int .u32 q, .int .u32 r] := ⟨_, _, _, rfl⟩
          have HY1 : Hid (Unit → pV (changeS ⟨fs, fg, bg⟩ (l.take 1)) = .agg #[.int .u8 p, .int .u32 q, .int .u32 r]) := Lib.hid (fun _ => by rw [hy1, hp])
          have HY2 : Hid (Unit → pV (changeS Y1 (l.drop 1)) = .agg #[.int .u8 p', .int .u32 q', .int .u32 r']) := Lib.hid (fun _ => by rw [hct, hp'])
          have HY3 : Hid (Unit → pV (changeS ⟨fs, fg, bg⟩ l) = .agg #[.int .u8 p', .int .u32 q', .int .u32 r']) := Lib.hid (fun _ => hp')
          have HCY := Lib.hid (fun U hU A m c ys hR hl hm h1 h2 => hp ▸ HCY' U hU A m c ys hR hl hm h1 h2)
          have s1 : (1 : Int) ≤ (cp : Int) := by omega
          have s2 : (1 : Int) ≤ (i : Int) := by omega
          have s3 : ¬ cp = 1 := by omega
          have HTW := Lib.hid (fun X (hX : Below v6.heap.size v6 X) => HT2.out.go hX)
          clear hrv hg1 hct hy1 HCY' hp hp' hc hbl h2 HCH HT1
          go_wp2
          have HDB := Lib.hid (Below.refl v6.heap.size v6).drew
          refine wp_region_held_drew (S := fun W => Below v6.drew.heap.size v6.drew W) (by kernel_rfl) (Below.refl _ _) (fun hHeld => ?_)
          refine wpAnyH_ready (rs := [0]) (by kernel_rfl) (by simp) ?_
          refine AllReadyH.cons (by simp; rfl) (fun K0 hK0 => ?_) AllReadyH.nil
          go_simp
          refine (HAL.out _ (HT2.out.below.trans (HDB.out.mono HT2.out.below.size))).mono ?_
          rintro e v1 ⟨rfl, hx⟩
          have hbv1 : Below v6.drew.heap.size v6.drew v1 := hx
          have HDB2 := Lib.hid (HDB.out.trans (hbv1.mono HDB.out.size))
          clear HDB
          have HDB := HDB2
          clear HDB2
          clear hx
          refine hK0.out _ _ hbv1 (fun _ => ?_)
          clear hK0 K0 hHeld
          refine heldMono (S' := fun W => Below v1.heap.size v1 W) (fun _ h => hbv1.trans (h.mono hbv1.size)) _ _ _ _ ?_
          have hHeld := Below.refl v1.heap.size v1
          have HBv1 := Lib.hid hbv1
          clear hbv1
          refine wpAnyH_take (i := 1) (v := ?_) (by simp; rfl) (by kernel_rfl) (by kernel_rfl) (by kernel_rfl) (by exact fun _ _ _ h => h) (Or.inl ⟨by rfl, fun wx hSx => ?_⟩) hHeld ?_
          rotate_left
          · clear hSx; go_simp; (try with_reducible rfl)
          simp only [Act.put, List.setIfInBounds_toArray, List.set_cons_zero, List.set_cons_succ]
          refine wpAnyH_take (i := 2) (v := ?_) (by simp; rfl) (by kernel_rfl) (by kernel_rfl) (by kernel_rfl) (by exact fun _ _ _ h => h) (Or.inl ⟨by rfl, fun wx hSx => ?_⟩) hHeld ?_
          rotate_left
          · have hz := HTW.out wx (HDB.out.trans (hSx.mono HDB.out.size)); obtain ⟨p0, p1, p2⟩ := pcell hz.r0; clear hSx hz; go_simp; (try with_reducible rfl)
          simp only [Act.put, List.setIfInBounds_toArray, List.set_cons_zero, List.set_cons_succ]
          refine wpAnyH_take (i := 3) (v := ?_) (by simp; rfl) (by kernel_rfl) (by kernel_rfl) (by kernel_rfl) (by exact fun _ _ _ h => h) (Or.inl ⟨by rfl, fun wx hSx => ?_⟩) hHeld ?_
          rotate_left
          · clear hSx; go_simp; (try with_reducible rfl)
          simp only [Act.put, List.setIfInBounds_toArray, List.set_cons_zero, List.set_cons_succ]
          refine wpAnyH_take (i := 4) (v := ?_) (by simp; rfl) (by kernel_rfl) (by kernel_rfl) (by kernel_rfl) (by exact fun _ _ _ h => h) (Or.inl ⟨by rfl, fun wx hSx => ?_⟩) hHeld ?_
          rotate_left
          · clear hSx; go_simp; (try with_reducible rfl)
          simp only [Act.put, List.setIfInBounds_toArray, List.set_cons_zero, List.set_cons_succ]
          refine wpAnyH_take (i := 6) (v := ?_) (by simp; rfl) (by kernel_rfl) (by kernel_rfl) (by kernel_rfl) (by exact fun _ _ _ h => h) (Or.inl ⟨by rfl, fun wx hSx => ?_⟩) hHeld ?_
          rotate_left
          · clear hSx; go_simp; (try with_reducible rfl)
          simp only [Act.put, List.setIfInBounds_toArray, List.set_cons_zero, List.set_cons_succ]
          refine wpAnyH_take (i := 7) (v := ?_) (by simp; rfl) (by kernel_rfl) (by kernel_rfl) (by kernel_rfl) (by exact fun _ _ _ h => h) (Or.inl ⟨by rfl, fun wx hSx => ?_⟩) hHeld ?_
          rotate_left
          · clear hSx; go_simp; (try with_reducible rfl)
          simp only [Act.put, List.setIfInBounds_toArray, List.set_cons_zero, List.set_cons_succ]
          refine wpAnyH_take (i := 9) (v := ?_) (by simp; rfl) (by kernel_rfl) (by kernel_rfl) (by kernel_rfl) (by exact fun _ _ _ h => h) (Or.inl ⟨by rfl, fun wx hSx => ?_⟩) hHeld ?_
          rotate_left
          · have hz := HTW.out wx (HDB.out.trans (hSx.mono HDB.out.size)); obtain ⟨p0, p1, p2⟩ := pcell hz.r0; clear hSx hz; go_simp; (try with_reducible rfl)
          simp only [Act.put, List.setIfInBounds_toArray, List.set_cons_zero, List.set_cons_succ]
          refine wpAnyH_take (i := 10) (v := ?_) (by simp; rfl) (by kernel_rfl) (by kernel_rfl) (by kernel_rfl) (by exact fun _ _ _ h => h) (Or.inl ⟨by rfl, fun wx hSx => ?_⟩) hHeld ?_
          rotate_left
          · clear hSx; go_simp; (try with_reducible rfl)
          simp only [Act.put, List.setIfInBounds_toArray, List.set_cons_zero, List.set_cons_succ]
          refine wpAnyH_ready (rs := [5]) (by kernel_rfl) (by simp) ?_
          refine AllReadyH.cons (by simp; rfl) (fun K0 hK0 => ?_) AllReadyH.nil
          go_simp
          refine (HCS.out _ (HT2.out.below.trans (HDB.out.mono HT2.out.below.size)) _ _ _ _ (HRT1.out _ HDB.out) HLT.out (by omega) HCP1.out.1 HCP1.out.2).mono ?_
          rintro e v20 ⟨rfl, hx⟩
          have hbv20 : Below v1.heap.size v1 v20 := hx
          have HDB2 := Lib.hid (HDB.out.trans (hbv20.mono HDB.out.size))
          clear HDB
          have HDB := HDB2
          clear HDB2
          clear hx
          rw [HY1.out ()]
          refine hK0.out _ _ hbv20 (fun _ => ?_)
          clear hK0 K0 hHeld
          refine heldMono (S' := fun W => Below v20.heap.size v20 W) (fun _ h => hbv20.trans (h.mono hbv20.size)) _ _ _ _ ?_
          have hHeld := Below.refl v20.heap.size v20
          have HBv20 := Lib.hid hbv20
          clear hbv20
          refine wpAnyH_ready (rs := [8]) (by kernel_rfl) (by simp) ?_
          refine AllReadyH.cons (by simp; rfl) (fun K0 hK0 => ?_) AllReadyH.nil
          go_simp
          refine (HCY.out _ (HT2.out.below.trans (HDB.out.mono HT2.out.below.size)) _ _ _ _ (HRD1.out _ HDB.out) HLD.out (by omega) HCP2.out.1 HCP2.out.2).mono ?_
          rintro e v35 ⟨rfl, hx⟩
          have hbv35 : Below v20.heap.size v20 v35 := hx
          have HDB2 := Lib.hid (HDB.out.trans (hbv35.mono HDB.out.size))
          clear HDB
          have HDB := HDB2
          clear HDB2
          clear hx
          rw [HY2.out ()]
          refine hK0.out _ _ hbv35 (fun _ => ?_)
          clear hK0 K0 hHeld
          refine heldMono (S' := fun W => Below v35.heap.size v35 W) (fun _ h => hbv35.trans (h.mono hbv35.size)) _ _ _ _ ?_
          have hHeld := Below.refl v35.heap.size v35
          have HBv35 := Lib.hid hbv35
          clear hbv35
          refine wpAnyH_ready (rs := [11]) (by kernel_rfl) (by simp) ?_
          refine AllReadyH.cons (by simp; rfl) (fun K0 hK0 => ?_) AllReadyH.nil
          go_simp
          refine (HCS.out _ (HT2.out.below.trans (HDB.out.mono HT2.out.below.size)) _ _ _ _ (HRA1.out _ HDB.out) (HLL.out ()) (by omega) HCP3.out.1 HCP3.out.2).mono ?_
          rintro e v48 ⟨rfl, hx⟩
          have hbv48 : Below v35.heap.size v35 v48 := hx
          have HDB2 := Lib.hid (HDB.out.trans (hbv48.mono HDB.out.size))
          clear HDB
          have HDB := HDB2
          clear HDB2
          clear hx
          rw [HY3.out ()]
          refine hK0.out _ _ hbv48 (fun _ => ?_)
          clear hK0 K0 hHeld
          refine heldMono (S' := fun W => Below v48.heap.size v48 W) (fun _ h => hbv48.trans (h.mono hbv48.size)) _ _ _ _ ?_
          have hHeld := Below.refl v48.heap.size v48
          have HBv48 := Lib.hid hbv48
          clear hbv48
          refine wpAnyH_take (i := 12) (v := ?_) (by simp; rfl) (by kernel_rfl) (by kernel_rfl) (by kernel_rfl) (by exact fun _ _ _ h => h) (Or.inl ⟨by rfl, fun wx hSx => ?_⟩) hHeld ?_
          rotate_left
          · clear hSx; go_simp; (try with_reducible rfl)
          simp only [Act.put, List.setIfInBounds_toArray, List.set_cons_zero, List.set_cons_succ]
          refine wpAnyH_take (i := 13) (v := ?_) (by simp; rfl) (by kernel_rfl) (by kernel_rfl) (by kernel_rfl) (by exact fun _ _ _ h => h) (Or.inl ⟨by rfl, fun wx hSx => ?_⟩) hHeld ?_
          rotate_left
          · clear hSx; go_simp; (try with_reducible rfl)
          simp only [Act.put, List.setIfInBounds_toArray, List.set_cons_zero, List.set_cons_succ]
          refine wpAnyH_take (i := 14) (v := ?_) (by simp; rfl) (by kernel_rfl) (by kernel_rfl) (by kernel_rfl) (by exact fun _ _ _ h => h) (Or.inl ⟨by rfl, fun wx hSx => ?_⟩) hHeld ?_
          rotate_left
          · clear hSx; go_simp; (try with_reducible rfl)
          simp only [Act.put, List.setIfInBounds_toArray, List.set_cons_zero, List.set_cons_succ]
          refine wpAnyH_done (by kernel_rfl) ?_ _
          have HBF := Lib.hid (HT2.out.below.trans (HDB.out.mono HT2.out.below.size))
          clear hHeld HDB HTW
          go_wp2
          go_ret
          exact ⟨rfl, HBF.out⟩
end Go.Proofs.YtohhmpkmcodoeaaDoor
