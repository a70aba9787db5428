/-
  Proved here, where sha's table lies as the program lays it: what file's New answers: a sender of which nothing is known, or none.
-/
import Derived.Test.YtdlhpmbgpjjkoaaDoorFie
set_option linter.unusedSimpArgs false
set_option linter.unusedVariables false
namespace Go.Proofs.YtdlhpmbgpjjkoaaDoor
open Go.RowKit
/-- Bytes as numbers. -/
def natL (bs : List Int) : List Nat := bs.map Int.toNat
theorem natL_len (bs : List Int) : (natL bs).length = bs.length := by simp [natL]
theorem RI.r0 {w : World} {A : Option Addr} {bs : List Int} (h : RI .u8 w A bs) (hb : ∀ i, 0 ≤ bs.getD i 0) : R0 w A (natL bs) := fun hl => by
  rw [natL_len] at hl
  obtain ⟨b, off, e, hlt, hc⟩ := h hl
  refine ⟨b, off, e, hlt, fun i hi => ?_⟩
  rw [natL_len] at hi
  rw [hc i hi]
  have := hb i
  simp [natL, List.getD, hi] at this ⊢
  omega
/-- The sum of bytes. -/
def sumB (bs : List Int) : List Nat := sumS (natL bs)
theorem sumB_len (bs : List Int) : (sumB bs).length = 32 := length_sumS _
theorem sha_one {bs : List Int} {A : Option Addr} {c n : Nat} (hn : bs.length = n) (hb : ∀ i, 0 ≤ bs.getD i 0) (hc : n ≤ c) (hm : c ≤ maxLen) (hs : n ≤ 100000) (w : World) (hr : RI .u8 w A bs) (hT : Tab w) :
    Calls Tryd.prog 25 #[.slice (some ⟨w.heap.size, 0, none⟩) 1 1] (w.alloc (.cells #[.slice A n c] 23)) fun e w' => e = .returned (.agg (V8 (sumB bs)).toArray) ∧ Below w.heap.size w w' := by
  subst hn
  have hb1 : Below w.heap.size w (w.alloc (.cells #[.slice A bs.length c] 23)) := (Below.refl _ _).alloc (Nat.le_refl _) _
  have hR : RS (w.alloc (.cells #[.slice A bs.length c] 23)) (some ⟨w.heap.size, 0, none⟩) [natL bs] := by
    refine RS.one (A := A) (c := c) (t := 23) ?_ ((hr.below hb1).r0 hb) (by rw [natL_len]; exact hc) hm
    rw [natL_len]
    exact heap_alloc_new w _
  refine (of_any [natL bs] _ 1 _ hR (by simp) (by unfold maxLen; omega) (hT.to hb1) (by simp [natL_len]; omega)).mono ?_
  rintro e w' ⟨rfl, h⟩
  refine ⟨?_, hb1.trans (h.mono hb1.size)⟩
  simp [sumB]
/-- NEW -/
theorem step_build {P : Program} {ops : Array Oper} {o : Oper} {a : Act} {w : World} {K : Act → World → Prop} {Q : Exit → Act → World → Prop} {E : Prop} (hgd : o.guard = none) (t : TypeId) (parts : Array (Nat × Operand)) (ho : o.op = .build t parts) (cells : Array Value)
    (hf : P.built t (parts.map fun (i, x) => (i, a.eval x)).toList = some cells) (h : K (a.put o.dst (.agg cells)) w) : if Region.wanted o (yielded ops a.tmps) = true then Oper.wp P o a w K Q else E := by
  have hw : Region.wanted o (yielded ops a.tmps) = true := by simp [Region.wanted, hgd]
  rw [if_pos hw]
  exact wp_build t parts ho (by rw [hf]; rfl) (by rw [hf]; exact h)
theorem list32 {α : Type} {l : List α} (h : l.length = 32) : ∃ x0 x1 x2 x3 x4 x5 x6 x7 x8 x9 x10 x11 x12 x13 x14 x15 x16 x17 x18 x19 x20 x21 x22 x23 x24 x25 x26 x27 x28 x29 x30 x31 : α, l = [x0, x1, x2, x3, x4, x5, x6, x7, x8, x9, x10, x11, x12, x13, x14, x15, x16, x17, x18, x19, x20, x21, x22, x23, x24, x25, x26, x27, x28, x29, x30, x31] := by
  obtain _ | ⟨x0, l⟩ := l
  · simp at h
  obtain _ | ⟨x1, l⟩ := l
  · simp at h
  obtain _ | ⟨x2, l⟩ := l
  · simp at h
  obtain _ | ⟨x3, l⟩ := l
  · simp at h
  obtain _ | ⟨x4, l⟩ := l
  · simp at h
  obtain _ | ⟨x5, l⟩ := l
  · simp at h
  obtain _ | ⟨x6, l⟩ := l
  · simp at h
  obtain _ | ⟨x7, l⟩ := l
  · simp at h
  obtain _ | ⟨x8, l⟩ := l
  · simp at h
  obtain _ | ⟨x9, l⟩ := l
  · simp at h
  obtain _ | ⟨x10, l⟩ := l
  · simp at h
  obtain _ | ⟨x11, l⟩ := l
  · simp at h
  obtain _ | ⟨x12, l⟩ := l
  · simp at h
  obtain _ | ⟨x13, l⟩ := l
  · simp at h
  obtain _ | ⟨x14, l⟩ := l
  · simp at h
  obtain _ | ⟨x15, l⟩ := l
  · simp at h
  obtain _ | ⟨x16, l⟩ := l
  · simp at h
  obtain _ | ⟨x17, l⟩ := l
  · simp at h
  obtain _ | ⟨x18, l⟩ := l
  · simp at h
  obtain _ | ⟨x19, l⟩ := l
  · simp at h
  obtain _ | ⟨x20, l⟩ := l
  · simp at h
  obtain _ | ⟨x21, l⟩ := l
  · simp at h
  obtain _ | ⟨x22, l⟩ := l
  · simp at h
  obtain _ | ⟨x23, l⟩ := l
  · simp at h
  obtain _ | ⟨x24, l⟩ := l
  · simp at h
  obtain _ | ⟨x25, l⟩ := l
  · simp at h
  obtain _ | ⟨x26, l⟩ := l
  · simp at h
  obtain _ | ⟨x27, l⟩ := l
  · simp at h
  obtain _ | ⟨x28, l⟩ := l
  · simp at h
  obtain _ | ⟨x29, l⟩ := l
  · simp at h
  obtain _ | ⟨x30, l⟩ := l
  · simp at h
  obtain _ | ⟨x31, l⟩ := l
  · simp at h
  obtain rfl : l = [] := by cases l <;> simp_all
  exact ⟨x0, x1, x2, x3, x4, x5, x6, x7, x8, x9, x10, x11, x12, x13, x14, x15, x16, x17, x18, x19, x20, x21, x22, x23, x24, x25, x26, x27, x28, x29, x30, x31, rfl⟩
theorem info_inf : (Tryd.prog.info? 34).map (·.size) = some 35 := by kernel_rfl
theorem info_sum : (Tryd.prog.info? 32).map (·.size) = some 32 := by kernel_rfl
set_option maxRecDepth 100000 in
theorem built_sd (id : Nat) (nm : ByteArray) (n : Nat) {sum : List Nat} (h : sum.length = 32) (A : Option Addr) (m c N : Nat) : Tryd.prog.built 57 [(0, .agg (infL id nm n sum).toArray), (1, .slice A m c), (2, .agg #[.int .i64 N, .int .u64 0])] = some (sdL id nm n sum (.slice A m c) N 0 0 false).toArray := by
  obtain ⟨x0, x1, x2, x3, x4, x5, x6, x7, x8, x9, x10, x11, x12, x13, x14, x15, x16, x17, x18, x19, x20, x21, x22, x23, x24, x25, x26, x27, x28, x29, x30, x31, rfl⟩ := list32 h
  kernel_rfl
theorem inf_put (id : Nat) (nm : ByteArray) (n : Nat) (X : List Nat) (hX : X.length = 32) : ((infL id nm n Z32).toArray.toList.take 3 ++ V8 X ++ (infL id nm n Z32).toArray.toList.drop (3 + (V8 X).length)).toArray = (infL id nm n X).toArray := by
  rw [length_V8, hX]
  simp [infL, Z32]
theorem fnew_no {id : Nat} {nm : ByteArray} {n c : Nat} {A : Option Addr} (hnm : nm.size ≤ 1000000) (hI : rI id nm n = false) (w : World) : Calls Tryd.prog 6 #[.int .u64 id, .string nm, .slice A n c] w fun e w' => e = .returned (.tuple #[.pointer none, .int .i64 3]) ∧ Below w.heap.size w w' := by
  have HR := Lib.hid (fun W => sright_any id nm n hnm Z32 W)
  rw [hI] at HR
  have HE := Lib.hid (show (infL 0 ⟨#[]⟩ 0 Z32).toArray.size = (infL id nm n Z32).toArray.size by simp [infL, Z32])
  have HS := Lib.hid (show (Tryd.prog.info? 34).map (·.size) = some (infL id nm n Z32).toArray.size by rw [List.size_toArray, infL_len (by simp [Z32])]; exact info_inf)
  have HA := Lib.hid (show (infL id nm n Z32).toArray.all (·.oneCell') = true by simpa using infL_one id nm n Z32)
  have HB := Lib.hid (below_setRow (((Below.refl w.heap.size w).alloc (Nat.le_refl _) (.cells (infL 0 ⟨#[]⟩ 0 Z32).toArray 34))) (Nat.le_refl _) (infL id nm n Z32).toArray)
  clear hnm hI
  go_enter Tryd.func6, Tryd.ntmps6
  go_wp2_with (first | (refine wpList_build_to rfl 34 _ rfl (infL id nm n Z32).toArray (by kernel_rfl) ?_) | (refine wpList_store_row rfl 34 _ _ rfl w.heap.size (infL id nm n Z32).toArray rfl rfl 34 (infL 0 ⟨#[]⟩ 0 Z32).toArray (heap_alloc_new _ _) HS.out HE.out HA.out ?_) | (refine wpList_load_row rfl 34 _ rfl w.heap.size rfl 34 (infL id nm n Z32).toArray (0, 0) _ (setRow_heap _ _ _ _ _ _ (heap_alloc_new _ _)) Tryd.underlying34 rfl HS.out ?_))
  refine (HR.out _).mono ?_
  rintro e wx ⟨rfl, hx⟩
  have HX := Lib.hid (HB.out.trans (hx.mono HB.out.size))
  clear hx
  go_wp2
  go_ret2
  exact ⟨rfl, HX.out⟩
theorem wpList_store_to {P : Program} {ops : Array Oper} {rest : List Oper} {o : Oper} {a : Act} {w : World} {Q : Exit → Act → World → Prop} (hgd : o.guard = none) (ty : TypeId) (x y : Operand) (ho : o.op = .store ty x y)
    (g off : Nat) (cells : List Value) (hx : a.eval x = .pointer (some ⟨g, off, none⟩)) (hy : a.eval y = .agg cells.toArray)
    (t : TypeId) (cur : Array Value) (hg : w.heap[g]? = some (.cells cur t (0, 0))) (hi : (P.info? ty).map (·.size) = some cells.length)
    (hf : off + cells.length ≤ cur.size) (h1 : ∀ v ∈ cells, v.oneCell' = true) (new : Array Value) (hnew : (cur.toList.take off ++ cells ++ cur.toList.drop (off + cells.length)).toArray = new)
    (h : wpList P ops Q rest (a.put o.dst undef) (w.setRow g new)) : wpList P ops Q (o :: rest) a w :=
  wpList_store_at hgd ty x y ho g off cells hx hy t cur hg hi hf h1 (by rw [hnew]; exact h)
theorem own_lt {w : World} {base : Nat} {e : TypeId} {size : Nat} {a : Addr} {m c n : Nat} {xs : List Value} (h : w.ownsRow base e size (.slice (some a) m c) n xs) : a.block < w.heap.size := by
  rcases h.2 with ⟨h0, _⟩ | ⟨g, cap, cur, h1, _, h3, _⟩
  · cases h0
  · injection h1 with h1 _ _
    injection h1 with h1
    subst h1
    exact lt_of_block h3
set_option maxRecDepth 100000 in
set_option maxHeartbeats 1000000 in
theorem fnew_yes {id : Nat} {nm : ByteArray} {bs : List Int} {n c : Nat} {A : Option Addr} (hn : bs.length = n) (hnm : nm.size ≤ 1000000) (hI : rI id nm n = true) (hb : ∀ i, 0 ≤ bs.getD i 0) (hc : n ≤ c) (hm : c ≤ maxLen) (hz : A = none → c = 0) (w : World) (hr : RI .u8 w A bs) (hT : Tab w) :
    Calls Tryd.prog 6 #[.int .u64 id, .string nm, .slice A n c] w fun e w' => ∃ g, e = .returned (.tuple #[.pointer (some ⟨g, 0, none⟩), .int .i64 0]) ∧ w.heap.size ≤ g ∧ Sd w' g id nm (sumB bs) bs ((n + 63) / 64) 0 0 false ∧ Below w.heap.size w w' := by
  have hparts : 1 ≤ id ∧ n ≤ 4096 := by
    simp [rI] at hI
    omega
  have HR0 := Lib.hid (fun W => sright_any id nm n hnm Z32 W)
  rw [hI] at HR0
  have HE := Lib.hid (show (infL 0 ⟨#[]⟩ 0 Z32).toArray.size = (infL id nm n Z32).toArray.size by simp [infL, Z32])
  have HS := Lib.hid (show (Tryd.prog.info? 34).map (·.size) = some (infL id nm n Z32).toArray.size by rw [List.size_toArray, infL_len (by simp [Z32])]; exact info_inf)
  have HA := Lib.hid (show (infL id nm n Z32).toArray.all (·.oneCell') = true by simpa using infL_one id nm n Z32)
  have HB := Lib.hid (below_setRow (((Below.refl w.heap.size w).alloc (Nat.le_refl _) (.cells (infL 0 ⟨#[]⟩ 0 Z32).toArray 34))) (Nat.le_refl _) (infL id nm n Z32).toArray)
  have HROW := Lib.hid (show (((w.alloc (.cells (infL 0 ⟨#[]⟩ 0 Z32).toArray 34))).setRow w.heap.size (infL id nm n Z32).toArray).heap[w.heap.size]? = some (.cells (infL id nm n Z32).toArray 34 (0, 0)) from setRow_heap _ _ _ _ _ _ (heap_alloc_new _ _))
  obtain ⟨X, hX⟩ : ∃ X, sumB bs = X := ⟨_, rfl⟩
  have hXl : X.length = 32 := by rw [← hX]; exact sumB_len bs
  have HSH := Lib.hid (fun (W : World) (hB : Below w.heap.size w W) => hX ▸ sha_one hn hb hc hm (by omega) W (hr.below hB) (hT.to hB))
  obtain ⟨N, hN⟩ : ∃ N, N = (n + 63) / 64 := ⟨_, rfl⟩
  rw [← hN]
  have HCH := Lib.hid (fun W => chunks_yes hparts.2 hN W)
  have HBN := Lib.hid (fun W => new_yes (n := (N : Int)) (by omega) W)
  have HPUT := Lib.hid (inf_put id nm n X hXl)
  have HXL := Lib.hid hXl
  have HSX := Lib.hid (show (Tryd.prog.info? 32).map (·.size) = some (V8 X).length by rw [length_V8, hXl]; exact info_sum)
  have HRI := Lib.hid hr
  have HN := Lib.hid hn
  have HNN := Lib.hid hN
  have HP := Lib.hid hparts
  have HZ := Lib.hid hz
  have HSZ := Lib.hid (show n ≤ 100000 by omega)
  rw [hX]
  clear hn hnm hI hb hc hm hz hr hT hparts hX hXl hN
  go_enter Tryd.func6, Tryd.ntmps6
  go_wp2_with (first | (refine wpList_build_to rfl 34 _ rfl (infL id nm n Z32).toArray (by kernel_rfl) ?_) | (refine wpList_store_row rfl 34 _ _ rfl w.heap.size (infL id nm n Z32).toArray rfl rfl 34 (infL 0 ⟨#[]⟩ 0 Z32).toArray (heap_alloc_new _ _) HS.out HE.out HA.out ?_) | (refine wpList_load_row rfl 34 _ rfl w.heap.size rfl 34 (infL id nm n Z32).toArray (0, 0) _ (setRow_heap _ _ _ _ _ _ (heap_alloc_new _ _)) Tryd.underlying34 rfl HS.out ?_))
  refine (HR0.out _).mono ?_
  rintro e wx ⟨rfl, hx⟩
  have HX := Lib.hid (HB.out.trans (hx.mono HB.out.size))
  have HRX := Lib.hid ((hx.block _ (lt_of_block HROW.out)).trans HROW.out)
  clear hx HR0 HB HROW HE HS HA
  go_wp2_with fail
  refine (HSH.out _ HX.out).mono ?_
  rintro e wy ⟨rfl, hy⟩
  have HB2 := Lib.hid (HX.out.trans (hy.mono HX.out.size))
  have HRY := Lib.hid ((hy.block _ (lt_of_block HRX.out)).trans HRX.out)
  clear hy HX HRX HSH
  have HIN := Lib.hid (show 3 + (V8 X).length ≤ (infL id nm n Z32).toArray.size from by rw [length_V8, HXL.out, List.size_toArray, infL_len (by simp [Z32])]; omega)
  go_upto_region 5 with (refine wpList_store_to rfl 32 (.tmp 22) (.tmp 21) rfl w.heap.size 3 (V8 X) rfl rfl 34 _ HRY.out HSX.out HIN.out (one_V8 X) _ HPUT.out ?_)
  have HRZ := Lib.hid (show (wy.setRow w.heap.size (infL id nm n X).toArray).heap[w.heap.size]? = some (.cells (infL id nm n X).toArray 34 (0, 0)) from setRow_heap _ _ _ _ _ _ HRY.out)
  have HB3 := Lib.hid (below_setRow HB2.out (Nat.le_refl _) (infL id nm n X).toArray)
  obtain ⟨h0, hh0⟩ : ∃ h0, w.heap.size = h0 := ⟨_, rfl⟩
  obtain ⟨Z, hZ⟩ : ∃ Z, wy.setRow w.heap.size (infL id nm n X).toArray = Z := ⟨_, rfl⟩
  rw [hZ] at HRZ HB3 ⊢
  rw [hh0] at HRZ ⊢
  have HH0 := Lib.hid hh0
  obtain ⟨k0, k1, k2⟩ := inf_cells HRZ.out
  clear hZ hh0 HRY HB2 HIN HPUT HSX
  go_wp2_with (first | (go_at_call 29; refine (HCH.out _).mono ?_; rintro e wq ⟨rfl, rfl⟩))
  refine (HBN.out _).mono ?_
  rintro e V ⟨rfl, hV⟩
  unfold mV
  have HRV := Lib.hid ((hV.block _ (lt_of_block HRZ.out)).trans HRZ.out)
  have HBV := Lib.hid (HB3.out.trans (hV.mono HB3.out.size))
  clear hV k0 k1 k2 HRZ HB3
  go_upto_region 6 with fail
  have HM := Lib.hid (MB.new V N 0)
  have HRU := Lib.hid ((Below.heap_alloc V (.cells #[.int .i64 (N : Int), .int .u64 0] 38) h0 (lt_of_block HRV.out)).trans HRV.out)
  have HBU0 := Lib.hid (HBV.out.alloc HBV.out.size (.cells #[.int .i64 (N : Int), .int .u64 0] 38))
  obtain ⟨vb, hvb⟩ : ∃ b, V.heap.size = b := ⟨_, rfl⟩
  obtain ⟨U, hU⟩ : ∃ U, V.alloc (.cells #[.int .i64 (N : Int), .int .u64 0] 38) = U := ⟨_, rfl⟩
  rw [hU] at HM HRU HBU0 ⊢
  rw [hvb] at HM ⊢
  clear hU hvb HRV HBV
  have HI := Lib.hid (show ∀ W, Below U.heap.size U W → ∀ (j : Nat) v, (infL id nm n X)[j]? = some v → W.cell? ⟨h0, j, none⟩ = some v from fun W hb j v hv => by
    rw [cell_of_row W h0 j _ _ _ ((hb.block _ (lt_of_block HRU.out)).trans HRU.out), List.getElem?_toArray]
    exact hv)
  have HS2 := Lib.hid (show (Tryd.prog.info? 34).map (·.size) = some (infL id nm n X).length by rw [infL_len HXL.out]; exact info_inf)
  have HR := Lib.hid (show ∀ W, Below U.heap.size U W → RI .u8 W A bs from fun W hb => (HRI.out.below HBU0.out).below hb)
  have HBU := Lib.hid (fun A3 m c3 => built_sd id nm n HXL.out A3 m c3 N)
  have HD := Lib.hid (belowN (Below.refl U.heap.size U) 1)
  have FIN : ∀ (wy : World) (A3 : Option Addr) (c3 : Nat) (w0 : World), Own8 w0 (.slice A3 bs.length c3) bs wy → (bs.length ≤ c3 ∧ c3 ≤ maxLen ∧ (A3 = none → c3 = 0)) → Sd (wy.alloc (.cells (sdL id nm n X (.slice A3 bs.length c3) N 0 0 false).toArray 57)) wy.heap.size id nm X bs N 0 0 false := by
    intro wy A3 c3 w0 hv hk
    have hal := (Below.refl wy.heap.size wy).alloc (Nat.le_refl _) (.cells (sdL id nm n X (.slice A3 bs.length c3) N 0 0 false).toArray 57)
    refine ⟨⟨A3, c3, by rw [HN.out]; exact heap_alloc_new _ _, (Own8.ri hv).1.below hal, fun a ha => ?_, hk⟩, HP.out.1, HXL.out, ?_, by rw [HN.out]; exact HNN.out, by rw [HN.out]; exact HP.out.2, by omega⟩
    · subst ha
      exact own_lt hv.own
    · rw [rB_in (by have := HNN.out; have := HP.out.2; omega)]
      exact decide_eq_true (Nat.two_pow_pos _)
  have HFIN := Lib.hid FIN
  clear FIN HRU HRI HCH HBN
  refine wp_region_held_drew (S := fun W => Below U.heap.size U W) (by kernel_rfl) HD.out (fun hHeld => ?_)
  refine wpAnyH_take (i := 1) (v := ?_) (by simp; rfl) (by kernel_rfl) (by kernel_rfl) (by kernel_rfl) (by exact fun _ _ _ h => h) (Or.inl ⟨by rfl, fun wx hSx => ?_⟩) hHeld ?_
  rotate_left
  · clear hSx; go_simp; (try with_reducible rfl)
  simp only [Act.put, List.setIfInBounds_toArray, List.set_cons_zero, List.set_cons_succ]
  refine wpAnyH_take (i := 3) (v := ?_) (by simp; rfl) (by kernel_rfl) (by kernel_rfl) (by kernel_rfl) (by exact fun _ _ _ h => h) (Or.inl ⟨by rfl, fun wx hSx => ?_⟩) hHeld ?_
  rotate_left
  · obtain ⟨e0, e1⟩ := And.intro (HM.out.below hSx).c0 (HM.out.below hSx).c1; clear hSx; go_simp; (try with_reducible rfl)
  simp only [Act.put, List.setIfInBounds_toArray, List.set_cons_zero, List.set_cons_succ]
  refine wpAnyH_ready (rs := [0, 2]) (by kernel_rfl) (by simp) ?_
  refine AllReadyH.cons (by simp; rfl) (fun K0 hK0 => ?_) (AllReadyH.cons (by simp; rfl) (fun K0 hK0 => ?_) AllReadyH.nil)
  · refine step_load_at rfl 34 (.tmp 8) rfl h0 0 rfl (infL id nm n X) _ (fun j v hv => by rw [Nat.zero_add]; exact HI.out _ hHeld j v hv) Tryd.underlying34 rfl HS2.out ?_
    simp only [Act.put, List.setIfInBounds_toArray, List.set_cons_zero, List.set_cons_succ]
    refine hK0.out _ _ hHeld (fun _ => ?_)
    clear hK0 K0
    refine wpAnyH_ready (rs := [2]) (by kernel_rfl) (by simp) ?_
    refine AllReadyH.cons (by simp; rfl) (fun K0 hK0 => ?_) AllReadyH.nil
    go_simp
    refine (clone_any HN.out _ (HR.out _ hHeld) HSZ.out HZ.out).mono ?_
    rintro e wy ⟨v, rfl, hv⟩
    have HV := Lib.hid hv
    clear hv
    have hY := Below.trans hHeld (HV.out.below.mono hHeld.size)
    have HWY := Lib.hid (show w.heap.size ≤ wy.heap.size from Nat.le_trans HBU0.out.size hY.size)
    refine hK0.out _ _ hY (fun _ => ?_)
    obtain ⟨A3, c3, rfl, k1, k2, k3⟩ := own_slice HV.out.own
    have HVK := Lib.hid (And.intro k1 (And.intro k2 k3))
    clear hK0 K0 hHeld k1 k2 k3
    have hHeld := hY
    refine wpAnyH_ready (rs := [4]) (by kernel_rfl) (by simp) ?_
    refine AllReadyH.cons (by simp; rfl) (fun K0 hK0 => ?_) AllReadyH.nil
    refine step_build rfl 57 _ rfl (sdL id nm n X (.slice A3 bs.length c3) N 0 0 false).toArray (by simp only [List.map_toArray, List.map_cons, List.map_nil]; exact HBU.out A3 bs.length c3) ?_
    simp only [Act.put, List.setIfInBounds_toArray, List.set_cons_zero, List.set_cons_succ]
    refine hK0.out _ _ hHeld (fun _ => ?_)
    clear hK0 K0
    refine wpAnyH_ready (rs := [5]) (by kernel_rfl) (by simp) ?_
    refine AllReadyH.cons (by simp; rfl) (fun K0 hK0 => ?_) AllReadyH.nil
    go_simp
    have hY2 : Below U.heap.size U (wy.alloc (.cells (sdL id nm n X (.slice A3 bs.length c3) N 0 0 false).toArray 57)) := hHeld.alloc hHeld.size _
    refine hK0.out _ _ hY2 (fun _ => ?_)
    clear hK0 K0 hHeld
    have hHeld := hY2
    refine wpAnyH_take (i := 6) (v := ?_) (by simp; rfl) (by kernel_rfl) (by kernel_rfl) (by kernel_rfl) (by exact fun _ _ _ h => h) (Or.inl ⟨by rfl, fun wx hSx => ?_⟩) hHeld ?_
    rotate_left
    · clear hSx; go_simp; (try with_reducible rfl)
    simp only [Act.put, List.setIfInBounds_toArray, List.set_cons_zero, List.set_cons_succ]
    refine wpAnyH_take (i := 7) (v := ?_) (by simp; rfl) (by kernel_rfl) (by kernel_rfl) (by kernel_rfl) (by exact fun _ _ _ h => h) (Or.inl ⟨by rfl, fun wx hSx => ?_⟩) hHeld ?_
    rotate_left
    · clear hSx; go_simp; (try with_reducible rfl)
    simp only [Act.put, List.setIfInBounds_toArray, List.set_cons_zero, List.set_cons_succ]
    refine wpAnyH_done (by kernel_rfl) ?_ _
    have HF := Lib.hid (HFIN.out _ _ _ _ HV.out HVK.out)
    have HB9 := Lib.hid hHeld
    have HG := Lib.hid (show w.heap.size ≤ wy.heap.size from HWY.out)
    clear hHeld
    go_wp2
    go_ret2
    exact ⟨wy.heap.size, rfl, HG.out, HF.out, HBU0.out.trans (HB9.out.mono HBU0.out.size)⟩
  · go_simp
    refine (clone_any HN.out _ (HR.out _ hHeld) HSZ.out HZ.out).mono ?_
    rintro e wy ⟨v, rfl, hv⟩
    have HV := Lib.hid hv
    clear hv
    have hY := Below.trans hHeld (HV.out.below.mono hHeld.size)
    have HWY := Lib.hid (show w.heap.size ≤ wy.heap.size from Nat.le_trans HBU0.out.size hY.size)
    refine hK0.out _ _ hY (fun _ => ?_)
    obtain ⟨A3, c3, rfl, k1, k2, k3⟩ := own_slice HV.out.own
    have HVK := Lib.hid (And.intro k1 (And.intro k2 k3))
    clear hK0 K0 hHeld k1 k2 k3
    have hHeld := hY
    refine wpAnyH_ready (rs := [0]) (by kernel_rfl) (by simp) ?_
    refine AllReadyH.cons (by simp; rfl) (fun K0 hK0 => ?_) AllReadyH.nil
    refine step_load_at rfl 34 (.tmp 8) rfl h0 0 rfl (infL id nm n X) _ (fun j v hv => by rw [Nat.zero_add]; exact HI.out _ hHeld j v hv) Tryd.underlying34 rfl HS2.out ?_
    simp only [Act.put, List.setIfInBounds_toArray, List.set_cons_zero, List.set_cons_succ]
    refine hK0.out _ _ hHeld (fun _ => ?_)
    clear hK0 K0
    refine wpAnyH_ready (rs := [4]) (by kernel_rfl) (by simp) ?_
    refine AllReadyH.cons (by simp; rfl) (fun K0 hK0 => ?_) AllReadyH.nil
    refine step_build rfl 57 _ rfl (sdL id nm n X (.slice A3 bs.length c3) N 0 0 false).toArray (by simp only [List.map_toArray, List.map_cons, List.map_nil]; exact HBU.out A3 bs.length c3) ?_
    simp only [Act.put, List.setIfInBounds_toArray, List.set_cons_zero, List.set_cons_succ]
    refine hK0.out _ _ hHeld (fun _ => ?_)
    clear hK0 K0
    refine wpAnyH_ready (rs := [5]) (by kernel_rfl) (by simp) ?_
    refine AllReadyH.cons (by simp; rfl) (fun K0 hK0 => ?_) AllReadyH.nil
    go_simp
    have hY2 : Below U.heap.size U (wy.alloc (.cells (sdL id nm n X (.slice A3 bs.length c3) N 0 0 false).toArray 57)) := hHeld.alloc hHeld.size _
    refine hK0.out _ _ hY2 (fun _ => ?_)
    clear hK0 K0 hHeld
    have hHeld := hY2
    refine wpAnyH_take (i := 6) (v := ?_) (by simp; rfl) (by kernel_rfl) (by kernel_rfl) (by kernel_rfl) (by exact fun _ _ _ h => h) (Or.inl ⟨by rfl, fun wx hSx => ?_⟩) hHeld ?_
    rotate_left
    · clear hSx; go_simp; (try with_reducible rfl)
    simp only [Act.put, List.setIfInBounds_toArray, List.set_cons_zero, List.set_cons_succ]
    refine wpAnyH_take (i := 7) (v := ?_) (by simp; rfl) (by kernel_rfl) (by kernel_rfl) (by kernel_rfl) (by exact fun _ _ _ h => h) (Or.inl ⟨by rfl, fun wx hSx => ?_⟩) hHeld ?_
    rotate_left
    · clear hSx; go_simp; (try with_reducible rfl)
    simp only [Act.put, List.setIfInBounds_toArray, List.set_cons_zero, List.set_cons_succ]
    refine wpAnyH_done (by kernel_rfl) ?_ _
    have HF := Lib.hid (HFIN.out _ _ _ _ HV.out HVK.out)
    have HB9 := Lib.hid hHeld
    have HG := Lib.hid (show w.heap.size ≤ wy.heap.size from HWY.out)
    clear hHeld
    go_wp2
    go_ret2
    exact ⟨wy.heap.size, rfl, HG.out, HF.out, HBU0.out.trans (HB9.out.mono HBU0.out.size)⟩
end Go.Proofs.YtdlhpmbgpjjkoaaDoor
