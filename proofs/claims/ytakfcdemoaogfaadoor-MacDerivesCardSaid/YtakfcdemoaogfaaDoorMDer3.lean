/-
  Proved here: the document's own 'Derive' answers the key of a secret, a label and a number, in memory of its own.
-/
import Derived.Test.YtakfcdemoaogfaaDoorMStr
namespace Go.Proofs.YtakfcdemoaogfaaDoor
open Go.RowKit
theorem add_off (g o i : Nat) : (⟨g, o, none⟩ : Addr).add i = ⟨g, o + i, none⟩ := by unfold Addr.add; split <;> simp_all
theorem set_other {w : World} {a b : Addr} {v : Value} (h : a ≠ b) : (w.setCell a v).cell? b = w.cell? b := World.cell?_setCell_other _ _ _ _ h
theorem set_same {w : World} {a : Addr} {v u : Value} (h : w.cell? a = some u) : (w.setCell a v).cell? a = some v := World.cell?_setCell_same _ _ _ h
theorem set_free {w : World} {a b : Addr} {v : Value} : (w.setCell a v).frozen? b = w.frozen? b := World.frozen?_setCell _ _ _ _
/-- Two bytes behind a row that has room for them, where nothing is frozen. -/
theorem run_append_two {P : Program} (w : World) (t ty e : TypeId) (i : TypeInfo) (ht : P.underlying t = some (.slice e)) (hi : P.info? e = some i) (hs1 : i.size = 1)
    (g n cap : Nat) (x1 x2 : Value) (h1 : w.cell? ⟨g, n, none⟩ = some x1) (h2 : w.cell? ⟨g, n + 1, none⟩ = some x2) (f1 : w.frozen? ⟨g, n, none⟩ = false) (f2 : w.frozen? ⟨g, n + 1, none⟩ = false)
    (a : Addr) (c : Nat) (u1 u2 : Value) (hnews : ∀ j u, [u1, u2][j]? = some u → w.cell? (a.add j) = some u) (o1 : u1.oneCell' = true) (o2 : u2.oneCell' = true) (hroom : n + 2 ≤ cap) :
    (Builtin.append_ #[t, t] ty #[.slice (some ⟨g, 0, none⟩) n cap, .slice (some a) 2 c]).run P w = .ok (.slice (some ⟨g, 0, none⟩) (n + 2) cap) ((w.setCell ⟨g, n, none⟩ u1).setCell ⟨g, n + 1, none⟩ u2) := by
  have hf := run_firstCells_some (P := P) w 1 2 a 2 c [u1, u2] rfl hnews
  have h2' : (w.setCell ⟨g, n, none⟩ u1).cell? ⟨g, n + 1, none⟩ = some x2 := (set_other (by simp)).trans h2
  have f2' : (w.setCell ⟨g, n, none⟩ u1).frozen? ⟨g, n + 1, none⟩ = false := (set_free).trans f2
  have hst : (storeCells ⟨g, n, none⟩ [u1, u2] 0).run P w = .ok () ((w.setCell ⟨g, n, none⟩ u1).setCell ⟨g, n + 1, none⟩ u2) := by
    have s1 : (store ((⟨g, n, none⟩ : Addr).add 0) u1).run P w = .ok () (w.setCell ⟨g, n, none⟩ u1) := by
      rw [add_off, Nat.add_zero, run_store P w _ u1 _ o1, h1]
      simp [f1]
    have s2 : (store ((⟨g, n, none⟩ : Addr).add 1) u2).run P (w.setCell ⟨g, n, none⟩ u1) = .ok () ((w.setCell ⟨g, n, none⟩ u1).setCell ⟨g, n + 1, none⟩ u2) := by
      rw [add_off, run_store P _ _ u2 _ o2, h2']
      simp [f2']
    simp only [storeCells, Sem.run_bind, s1, s2, Result.andThen_ok, Nat.zero_add, Sem.run_pure]
  simp [Builtin.append_, run_underlying ht, sizeOf, typeInfo, hi, hs1, Builtin.lenOf, hroom, hf, Addr.add_lit, hst]
/-- A label's bytes, and two more behind them. -/
theorem app_lab (s : ByteArray) (x y : Nat) (w : World) (hs : s.size ≤ 32) :
    ∃ A' cap' w2, (Builtin.append_ #[22, 22] 22 #[.slice (some ⟨w.heap.size, 0, none⟩) s.size (grownCap w s.size 0 5), .slice (some ⟨w.heap.size + 1, 0, none⟩) 2 2]).run Tryd.prog ((Lib.bytesWorld w 5 s).alloc (.cells #[.int .u8 (x : Int), .int .u8 (y : Int)] 5)) = .ok (.slice A' (s.size + 2) cap') w2 ∧
      R0 w2 A' (labS s ++ [x, y]) ∧ Below w.heap.size w w2 ∧ A' ≠ none ∧ s.size + 2 ≤ cap' ∧ cap' ≤ maxLen := by
  obtain ⟨i0, hi, hz0, hz1, hz2⟩ := info_parts infoByte
  have hbs := Lib.bytesWorld_size w 5 s
  obtain ⟨B, hB⟩ : ∃ B, Lib.bytesWorld w 5 s = B := ⟨_, rfl⟩
  have hlab := lab_r0 w 5 s
  have hbel := lab_below w 5 s
  have hnew := Lib.bytesWorld_at_new w 5 s
  rw [hB] at hbs hlab hbel hnew ⊢
  have hcs : (Lib.bytesCells w 5 s).size = grownCap w s.size 0 5 := by
    have hge := grownCap_ge w s.size 0 5
    have : s.data.size = s.size := rfl
    simp [Lib.bytesCells, this]
    omega
  obtain ⟨cur, hcur⟩ : ∃ cur, Lib.bytesCells w 5 s = cur := ⟨_, rfl⟩
  rw [hcur] at hnew hcs
  obtain ⟨W, hW⟩ : ∃ W, B.alloc (.cells #[.int .u8 (x : Int), .int .u8 (y : Int)] 5) = W := ⟨_, rfl⟩
  rw [hW]
  have hWn : W.heap[w.heap.size]? = some (.cells cur 5 (cur.size, cur.size + 1)) := by rw [← hW]; exact (old_block _ _ _ (by omega)).trans hnew
  have hW2 : W.heap[w.heap.size + 1]? = some (.cells #[.int .u8 (x : Int), .int .u8 (y : Int)] 5 (0, 0)) := by rw [← hW]; exact new_block _ _ _ (by omega)
  have hWb : Below w.heap.size w W := by rw [← hW]; exact hbel.alloc (by omega) _
  have hWs : W.heap.size = w.heap.size + 2 := by rw [← hW]; simp [hbs]
  have hWl : ∀ i, i < s.size → W.cell? ⟨w.heap.size, i, none⟩ = some (.int .u8 ((labS s).getD i 0 : Nat)) := by
    intro i hi
    obtain ⟨b, off, e, _, hc⟩ := hlab (by rw [length_labS]; omega)
    obtain ⟨rfl, rfl⟩ : w.heap.size = b ∧ 0 = off := by simpa using e
    have h1 := hc i (by rw [length_labS]; omega)
    rw [Nat.zero_add] at h1
    rw [← h1]
    exact World.cell?_of_block (by rw [← hW]; exact old_block _ _ _ (by simp only []; omega))
  have hnews : ∀ j u, [Value.int .u8 (x : Int), .int .u8 (y : Int)][j]? = some u → W.cell? ((⟨w.heap.size + 1, 0, none⟩ : Addr).add j) = some u := by
    intro j u hj
    rw [add_off, Nat.zero_add, cell_of_row W _ j _ _ _ hW2, ← hj]
    simp
  have hll : (labS s ++ [x, y]).length = s.size + 2 := by simp [length_labS]
  have hget : ∀ i, (labS s ++ [x, y]).getD i 0 = if i < s.size then (labS s).getD i 0 else if i = s.size then x else if i = s.size + 1 then y else 0 := by
    intro i
    have hl := length_labS s
    simp only [List.getD_eq_getElem?_getD]
    by_cases h1 : i < s.size
    · rw [if_pos h1, List.getElem?_append_left (by omega)]
    · rw [if_neg h1, List.getElem?_append_right (by omega), hl]
      by_cases h2 : i = s.size
      · subst h2; simp
      · rw [if_neg h2]
        by_cases h3 : i = s.size + 1
        · subst h3; simp
        · rw [if_neg h3, List.getElem?_eq_none (by simp; omega)]; rfl
  by_cases hroom : s.size + 2 ≤ grownCap w s.size 0 5
  · have e1 : s.size < cur.size := by omega
    have e2 : s.size + 1 < cur.size := by omega
    have fr : ∀ i, i < cur.size → W.frozen? ⟨w.heap.size, i, none⟩ = false := by
      intro i hi
      simp only [World.frozen?, hWn, Bool.and_eq_false_iff, decide_eq_false_iff_not]
      left
      omega
    have ce : ∀ i (hi : i < cur.size), W.cell? ⟨w.heap.size, i, none⟩ = some cur[i] := by
      intro i hi
      simp [World.cell?, hWn, hi]
    have hr := run_append_two (P := Tryd.prog) W 22 22 5 i0 Tryd.underlying22 hi hz1 w.heap.size s.size (grownCap w s.size 0 5) _ _ (ce _ e1) (ce _ e2) (fr _ e1) (fr _ e2) ⟨w.heap.size + 1, 0, none⟩ 2 (.int .u8 (x : Int)) (.int .u8 (y : Int)) hnews rfl rfl hroom
    refine ⟨_, _, _, hr, fun _ => ⟨w.heap.size, 0, rfl, by simp [hWs], fun i hi => ?_⟩, (hWb.setCell (by simp) _).setCell (by simp) _, by simp, hroom, grownCap_le_maxLen w s.size 0 5 (by unfold maxLen; omega)⟩
    rw [hll] at hi
    rw [Nat.zero_add, hget]
    by_cases h3 : i = s.size + 1
    · subst h3
      rw [if_neg (by omega), if_neg (by omega), if_pos rfl]
      exact set_same ((set_other (by simp)).trans (ce _ e2))
    · rw [set_other (by simp <;> omega)]
      by_cases h2 : i = s.size
      · subst h2
        rw [if_neg (by omega), if_pos rfl]
        exact set_same (ce _ e1)
      · rw [set_other (by simp <;> omega), if_pos (by omega)]
        exact hWl i (by omega)
  · have hge := grownCap_ge w s.size 0 5
    have hr := run_append_grow (P := Tryd.prog) W 22 22 5 i0 (.int .u8 0) Tryd.underlying22 hi hz0 ⟨w.heap.size, 0, none⟩ s.size (grownCap w s.size 0 5) (V8 (labS s)) (by rw [hz1, length_V8, length_labS, Nat.mul_one]) (fun j v hj => by
        have hjl : j < s.size := by have := (List.getElem?_eq_some_iff.1 hj).1; simpa [length_labS] using this
        rw [add_off, Nat.zero_add, hWl j hjl, ← hj, V8_get (by rw [length_labS]; omega)]) ⟨w.heap.size + 1, 0, none⟩ 2 2 [.int .u8 (x : Int), .int .u8 (y : Int)] (by rw [hz1]; rfl) hnews (by omega) (by omega) (growslice_fits (by omega) (by rw [hz2]; omega))
    refine ⟨_, _, _, hr, fun _ => ⟨W.heap.size, 0, rfl, by simp, fun i hi => ?_⟩, (hWb.drew.alloc (by simp [hWs]) _), by simp, grownCap_ge _ _ _ _, grownCap_le_maxLen _ _ _ _ (by unfold maxLen; omega)⟩
    rw [hll] at hi
    have hn := heap_alloc_new W.drew (.cells ((V8 (labS s)).toArray ++ [Value.int .u8 (x : Int), .int .u8 (y : Int)].toArray ++ Builtin.zeroCells (Value.int .u8 0).cells (grownCap W (s.size + 2) (grownCap w s.size 0 5) 5 - (s.size + 2))) 5)
    rw [Nat.zero_add]
    refine (cell_of_row _ W.heap.size i _ _ _ hn).trans ?_
    have e : (V8 (labS s)).toArray ++ [Value.int .u8 (x : Int), .int .u8 (y : Int)].toArray = (V8 (labS s ++ [x, y])).toArray := by rw [V8_append]; simp [V8]
    rw [e, Array.getElem?_append_left (by simp [length_labS]; omega), List.getElem?_toArray, V8_get (by omega)]
theorem lab_lt (s : ByteArray) (i : Nat) (hi : i < 256) (j : Nat) : (labS s ++ [0, i]).getD j 0 < 256 := by
  simp only [List.getD_eq_getElem?_getD]
  by_cases h : j < (labS s).length
  · rw [List.getElem?_append_left h, List.getElem?_eq_getElem h]
    simp only [labS, List.getElem_map, Option.getD_some]
    exact UInt8.toNat_lt _
  · rw [List.getElem?_append_right (by omega)]
    match j - (labS s).length with
    | 0 => simp
    | 1 => simpa using hi
    | n + 2 => simp
set_option maxRecDepth 100000 in
set_option maxHeartbeats 1000000 in
theorem rderive_some (key : List Nat) (A : Option Addr) (cap : Nat) (s : ByteArray) (i : Nat) (w : World) (hK : R0 w A key) (hnA : A = none → cap = 0) (hcap : key.length ≤ cap) (ha : ∀ j, key.getD j 0 < 256) (h0 : 0 < key.length) (hk : key.length ≤ 900) (hi : i < 256) (hs : s.size ≤ 32) :
    Calls Tryd.prog 24 #[.slice A key.length cap, .string s, .int .i64 (i : Int)] w (RDer (keyS key (labS s) i) 0 w) := by
  have hd : ((key.length : Int) == 0) = false := by rw [beq_eq_false_iff_ne]; omega
  have hd2 : ¬ (255 : Int) < (i : Int) := by omega
  have hd3 : ¬ (32 : Int) < (s.size : Int) := by omega
  have hi8 : (i : Int) % 256 = (i : Int) := by omega
  have hbz : (Lib.bytesWorld w 5 s).heap.size = w.heap.size + 1 := Lib.bytesWorld_size w 5 s
  have hcv := fun W : World => Lib.run_convert_string_bytes (P := Tryd.prog) W 9 22 5 s Tryd.underlying9 Tryd.underlying22 Tryd.underlying5
  obtain ⟨A', cap', w2, hr, hR, hb2, hne, hc', _⟩ := app_lab s 0 i w hs
  have hX := Lib.hid (rmark_any key (labS s ++ [0, i]) A A' cap cap' w2 (hK.to hb2) hnA hcap ha hR (fun h => absurd h hne) (by simp [length_labS]; omega) (lab_lt s i hi) (by simp [length_labS]; omega) hk)
  have hl : (labS s ++ [0, i]).length = s.size + 2 := by simp [length_labS]
  rw [hl] at hX
  have HP := Lib.hid (show ∀ (v : Value) (w' : World), w'.ownsRow w2.heap.size 5 1 v 32 (V8 (markS key (labS s ++ [0, i]))) → Below w2.heap.size w2 w' → ∃ g c, v = .slice (some ⟨g, 0, none⟩) 32 c ∧ 32 ≤ c ∧ RDer (keyS key (labS s) i) 0 w (.returned (.tuple #[.slice (some ⟨g, 0, none⟩) 16 c, .int .i64 0])) w' from by
    intro v w' ho hb
    obtain ⟨g, c, rfl, _, hg⟩ := ho.form (by omega)
    obtain ⟨A2, c2, e, _, hc2, _⟩ := own_r0 ho
    obtain ⟨rfl, rfl⟩ : some ⟨g, 0, none⟩ = A2 ∧ c = c2 := by simpa using e
    refine ⟨g, c, rfl, hc2, g, c, rfl, fun j hj => ?_, hg, hb2.trans (hb.mono hb2.size)⟩
    rw [ho.cellAt j (by omega), V8_get (by rw [length_markS]; omega)]
    simp [keyS, List.getD_eq_getElem?_getD, hj])
  have HR := Lib.hid hr
  clear hK hnA hcap ha hk hs hR hb2 hne hc' hl hr hi h0
  go_enter Tryd.func24, Tryd.ntmps24
  go_wp2_with (at_builtin; refine wpList_run _ rfl _ _ 22 22 rfl _ _ rfl rfl _ _ HR.out ?_)
  clear HR hcv hbz
  refine hX.out.mono ?_
  rintro e w3 ⟨v, rfl, ho, hb⟩
  obtain ⟨g, c, rfl, hc, hE⟩ := HP.out v w3 ho hb
  have HE := Lib.hid hE
  have hsl := fun W => slice_high (some ⟨g, 0, none⟩) 32 c 16 (by omega) hc W
  clear hE ho hb HP hX
  go_wp2
  go_ret2
  exact HE.out
end Go.Proofs.YtakfcdemoaogfaaDoor
