/-
  Proved here: the program's Read of base: letters' bytes.
-/
import Derived.Test.YtmpmlmhphnpdlaaBi
import Derived.Lib.OthersKept
set_option linter.unusedSimpArgs false
set_option linter.unusedVariables false
namespace Go.Proofs.Ytmpmlmhphnpdlaa
open Go.RowKit
theorem fold6_0 (o : List Int) (x : Int) (h0 : 0 ≤ x) (h1 : x < 64) : (bits6 x).foldl stepR (o, 0, 0) = (o, x, 6) := by
  simp [bits6, stepR]; omega
theorem fold6_6 (o : List Int) (v x : Int) (h0 : 0 ≤ x) (h1 : x < 64) : (bits6 x).foldl stepR (o, v, 6) = (o ++ [v * 4 + x / 16], x % 16, 4) := by
  simp [bits6, stepR]; omega
theorem fold6_4 (o : List Int) (v x : Int) (h0 : 0 ≤ x) (h1 : x < 64) : (bits6 x).foldl stepR (o, v, 4) = (o ++ [v * 16 + x / 4], x % 4, 2) := by
  simp [bits6, stepR]; omega
theorem fold6_2 (o : List Int) (v x : Int) (h0 : 0 ≤ x) (h1 : x < 64) : (bits6 x).foldl stepR (o, v, 2) = (o ++ [v * 64 + x], 0, 0) := by
  simp [bits6, stepR]; omega
theorem stR_go (t : List Int) {i : Nat} (hi : i < t.length) : stR t (i + 1) 0 = (bits6 (valL (t.getD i 0))).foldl stepR (stR t i 0) := by
  rw [← stR_next hi]
  unfold stR
  rw [List.foldl_append, List.foldl_append]
  rfl
theorem stR_0 (t : List Int) (i : Nat) : (stR t i 0).1 = outR ((t.take i).map valL) := by
  unfold stR outR
  rw [List.take_zero, List.append_nil]
theorem iterPos_of {w : World} {k : Nat} {s : ByteArray} {p : Nat} (h : w.heap[k]? = some (.stringIter s p)) : w.iterPos k = p := by
  unfold World.iterPos; rw [h]
theorem own_iterAt {w : World} {B e size n : Nat} {v : Value} {xs : List Value} {k : Nat} {s : ByteArray} {pos : Nat} (h : w.ownsRow B e size v n xs) (hk : w.heap[k]? = some (.stringIter s pos)) (pos' : Nat) : (w.iterAt k s pos').ownsRow B e size v n xs := by
  refine ⟨h.1, ?_⟩
  rcases h.2 with h0 | ⟨g, cap, cur, hv, hb, hg, rest⟩
  · exact .inl h0
  · refine .inr ⟨g, cap, cur, hv, hb, ?_, rest⟩
    rw [Lib.iterAt_other _ _ _ _ _ (fun e => by subst e; rw [hk] at hg; cases hg)]
    exact hg
theorem own_ne_iter {w : World} {B e size n : Nat} {v : Value} {xs : List Value} {k : Nat} {s : ByteArray} {pos : Nat} (h : w.ownsRow B e size v n xs) (hk : w.heap[k]? = some (.stringIter s pos)) : some k ≠ v.ownBlock := by
  rcases h.2 with ⟨rfl, _⟩ | ⟨g, cap, cur, rfl, hb, hg, rest⟩
  · simp [Value.ownBlock]
  · intro e
    simp only [Value.ownBlock, Option.some.injEq] at e
    subst e
    rw [hk] at hg
    cases hg
/-- What has been read of the letters ahead of place i. -/
structure Rs (w : World) (I : Nat) (s : ByteArray) (t : List Int) (x : Value) (i : Nat) (v : Int) (m : Nat) (W : World) : Prop where
  it : W.heap[I]? = some (.stringIter s i)
  own : Own8 w x (stR t i 0).1 W
  st : stR t i 0 = ((stR t i 0).1, v, m)
theorem Rs.fit {w : World} {I : Nat} {s : ByteArray} {t : List Int} {x : Value} {i : Nat} {v : Int} {m : Nat} {W : World} (h : Rs w I s t x i v m W) (hi : i ≤ t.length) : m = 6 * i % 8 ∧ 0 ≤ v ∧ v < 2 ^ (6 * i % 8) ∧ (stR t i 0).1.length = 6 * i / 8 := by
  have f := stR_fit (t := t) (i := i) (q := 0) hi (by omega)
  rw [h.st] at f
  exact ⟨f.1, f.2.1, f.2.2.1, f.2.2.2.1⟩
theorem Own8.it {w W : World} {v : Value} {xs : List Int} (h : Own8 w v xs W) {I : Nat} {s : ByteArray} {i : Nat} (hI : W.heap[I]? = some (.stringIter s i)) (hw : w.heap.size ≤ I) (p : Nat) : Own8 w v xs (W.iterAt I s p) :=
  ⟨own_iterAt h.own hI p, Lib.below_iterAt h.below hw s p⟩
/-- One byte more; an iterator stays as it is. -/
theorem Own8.appI {w : World} {v : Value} {xs : List Int} {W : World} (h : Own8 w v xs W) (y : Int) (hn : xs.length + 1 ≤ 100000) {I : Nat} {s : ByteArray} {p : Nat} (hI : W.heap[I]? = some (.stringIter s p)) :
    ∃ A n c w', (Builtin.append_ #[85, 85] 85 #[v, .slice (some ⟨W.heap.size, 0, none⟩) 1 1]).run Try.prog (W.alloc (.cells #[.int .u8 y] 5)) = .ok (.slice A n c) w' ∧ Own8 w (.slice A n c) (xs ++ [y]) w' ∧ w'.heap[I]? = some (.stringIter s p) := by
  have hI2 : (W.alloc (.cells #[.int .u8 y] 5)).heap[I]? = some (.stringIter s p) := (Below.heap_alloc _ _ _ (lt_of_block hI)).trans hI
  have h1 := h.to ((Below.refl _ _).alloc (Nat.le_refl _) (.cells #[.int .u8 y] 5))
  obtain ⟨v', w', r, o, g⟩ := app_u8 (ys := [y]) (m := 1) rfl 1 (RI.lit W [y] 5) (fun e => by cases e) h1.own (by omega) h1.below.size
  obtain ⟨A, c, rfl, _⟩ := own_slice o
  exact ⟨A, _, c, w', r, ⟨own_cast o (by simp) rfl, h1.below.grown g h1.below.size (ownBlock_le h.own)⟩, (g.block I (lt_of_block hI2) (own_ne_iter h1.own hI2)).trans hI2⟩
theorem mod8 (i : Nat) : 6 * i % 8 = 0 ∨ 6 * i % 8 = 2 ∨ 6 * i % 8 = 4 ∨ 6 * i % 8 = 6 := by omega
theorem read_long (s : ByteArray) (w : World) (h : 90000 < s.size) (hm : s.size ≤ 9223372036854775807) : Calls Try.prog 79 #[.string s] w fun e w' => e = .returned (.tuple #[.slice none 0 0, .int .i64 2]) ∧ w = w' := by
  have d1 : decide ((90000 : Int) < (s.size : Int)) = true := by simp; omega
  have d2 : decide (90000 < s.size) = true := by simp; omega
  go_enter Try.func79, Try.ntmps79
  go_wp2
  go_returns
  exact ⟨rfl, rfl⟩
theorem faultF_nn (t : List Int) : ∀ k i : Nat, 0 ≤ faultF t i k
  | 0, _ => by rw [faultF]; omega
  | k + 1, i => by
    rw [faultF]
    split
    · exact faultF_nn t k (i + 1)
    · omega
theorem read_bad {w : World} {t : List Int} (ht : IsBytes t) (hl : t.length ≤ 90000) (hg : goodB t = false) : Calls Try.prog 79 #[.string (strOfNums t)] w fun e w' => e = .returned (.tuple #[.slice none 0 0, .int .i64 3]) ∧ Below w.heap.size w w' := by
  have hsz : (strOfNums t).size = t.length := strOfNums_size t
  have HFA := Lib.hid (fault_any (w := w) ht (by omega))
  obtain ⟨n, hn⟩ : ∃ n, t.length = n := ⟨_, rfl⟩
  obtain ⟨F, hF⟩ : ∃ F, faultS t = F := ⟨_, rfl⟩
  have hF1 : (F == -1) = false := by
    rw [← hF]; unfold faultS; rw [hg, if_neg (by decide)]
    have := faultF_nn t t.length 0
    simp; omega
  have hF2 : (F != -1) = true := by simp at hF1; simp [hF1]
  rw [hn] at hsz hl
  rw [hF] at HFA
  have d1 : decide ((90000 : Int) < (n : Int)) = false := by simp; omega
  have d2 : decide (90000 < n) = false := by simp; omega
  clear hn hF hg ht
  go_enter Try.func79, Try.ntmps79
  go_wp2_with fail
  refine HFA.out.mono ?_
  rintro e wx ⟨rfl, hb⟩
  go_wp2
  go_returns
  exact ⟨rfl, hb⟩
set_option maxRecDepth 100000 in
set_option maxHeartbeats 2000000 in
theorem read_ok {w : World} {t : List Int} (ht : IsBytes t) (hl : t.length ≤ 90000) (hg : goodB t = true) : Calls Try.prog 79 #[.string (strOfNums t)] w fun e w' => ∃ (A : Option Addr) (k : Nat), e = .returned (.tuple #[.slice A k k, .int .i64 0]) ∧ RI .u8 w' A (decB t) ∧ (decB t).length = k ∧ Below w.heap.size w w' := by
  have hF : faultS t = -1 := by unfold faultS; rw [hg, if_pos rfl]
  have HFA := Lib.hid (hF ▸ fault_any (w := w) ht (by omega))
  have HAT := Lib.hid (fun (i : Nat) (hi : i < t.length) (h : i < (strOfNums t).size) => str_at ht hi h)
  obtain ⟨hv, hdec⟩ := out_good t hg
  obtain ⟨hh1, hh2, hh3, hh4⟩ := headL_len t
  obtain ⟨h, hh⟩ : ∃ h, (headL t).length = h := ⟨_, rfl⟩
  rw [hh] at hh1 hh2 hh3 hh4
  rw [hh2, ← stR_0] at hdec
  have hlet : ∀ i, i < h → 0 ≤ valL (t.getD i 0) := fun i hi => hv _ (by rw [hh2]; rw [List.getD_eq_getElem?_getD, List.getElem?_eq_getElem (by omega)]; exact List.mem_take_iff_getElem.2 ⟨i, by omega, rfl⟩)
  obtain ⟨s, hs⟩ : ∃ s, strOfNums t = s := ⟨_, rfl⟩
  have hsz : s.size = t.length := by rw [← hs]; exact strOfNums_size t
  obtain ⟨n, hn⟩ : ∃ n, t.length = n := ⟨_, rfl⟩
  rw [hs] at HAT HFA ⊢
  rw [hn] at hsz hl hh1
  have HN := Lib.hid hn
  have HSZ := Lib.hid hsz
  have HLET := Lib.hid hlet
  have HDEC := Lib.hid hdec
  have HPAD := Lib.hid (fun hi : h < n => hh4 (by rw [hn]; exact hi))
  have d1 : decide ((90000 : Int) < (n : Int)) = false := by simp; omega
  have d2 : decide (90000 < n) = false := by simp; omega
  clear hF hv hdec hh2 hh3 hh4 hh hlet hs hn ht hg
  obtain ⟨k4, hk4⟩ : ∃ k4, n / 4 * 3 = k4 := ⟨_, rfl⟩
  have hk : (n : Int) / 4 * 3 = (k4 : Int) := by omega
  have hk2 : k4 ≤ 100000 := by omega
  clear hk4
  go_enter Try.func79, Try.ntmps79
  go_wp2_with fail
  refine HFA.out.mono ?_
  rintro e w0 ⟨rfl, hb0⟩
  obtain ⟨W1, hmk, hO1⟩ : ∃ W1, (Instr.makeSlice 85 (.int .i64 0) (.int .i64 k4)).run Try.prog w0 = .ok (.slice (some ⟨w0.heap.size, 0, none⟩) 0 k4) W1 ∧ Own8 w (.slice (some ⟨w0.heap.size, 0, none⟩) 0 k4) [] W1 := by
    obtain ⟨i0, hi, hz0, hz1, hz2⟩ := info_parts info_u8
    refine ⟨_, run_make (P := Try.prog) w0 85 5 i0 _ Try.underlying85 hi hz0 .i64 .i64 0 k4 (by omega) (by omega) (by rw [hz2]; omega) (by omega), ⟨?_, hb0.alloc hb0.size _⟩⟩
    exact World.ownsRow_made w0 _ k4 hb0.size (by unfold maxLen; omega) (by rw [size_madeCells, hz1]; simp)
  have HS1 : Hid (w.heap.size ≤ W1.heap.size) := Lib.hid hO1.below.size
  obtain ⟨I, hI⟩ : ∃ I, W1.heap.size = I := ⟨_, rfl⟩
  have HII := Lib.hid (hI ▸ HS1.out)
  have hit0 : (W1.iter s 0).heap[I]? = some (.stringIter s 0) := by rw [← hI]; exact World.iter_heap W1 s 0
  have HR0 : Hid (Rs w I s t (.slice (some ⟨w0.heap.size, 0, none⟩) 0 k4) 0 0 0 (W1.iter s 0)) := Lib.hid ⟨hit0, hO1.to (below_iter W1 s 0), rfl⟩
  clear hO1 hb0 HFA HS1
  go_wp2
  try rw [hI]
  clear hI hit0 hmk hk hsz
  go_loopw [4, 5, 6, 8] (fun ov bv cv _ wr => ∃ (i : Nat) (v : Int) (m : Nat) (x : Value), i ≤ h ∧ x = ov ∧ bv = .int .i64 v ∧ cv = .int .i64 (m : Nat) ∧ Hid (Rs w I s t x i v m wr)) (fun _ _ _ _ wr => n - wr.iterPos I)
  case atStart => exact ⟨0, 0, 0, _, by omega, rfl, rfl, rfl, HR0⟩
  case round =>
    obtain ⟨i, v, m, x, hi, rfl, rfl, rfl, HR⟩ := hrel
    clear HR0
    obtain ⟨hm, hv0, hv1, hol⟩ := HR.out.fit (by rw [HN.out]; omega)
    have HIP := Lib.hid (iterPos_of HR.out.it)
    by_cases hih : i < h
    · have hin : i < n := by omega
      have hiz : i < s.size := by rw [HSZ.out]; exact hin
      have hat := HAT.out i (by rw [HN.out]; exact hin) hiz
      have hgo := stR_go t (i := i) (by rw [HN.out]; exact hin)
      have hx0 := HLET.out i hih
      have hx1 := (val_range (t.getD i 0)).2
      obtain ⟨q, hq⟩ : ∃ q, t.getD i 0 = q := ⟨_, rfl⟩
      rw [hq] at hat hx0 hx1 hgo
      have hq8 : q < 128 := by
        by_cases hh : q < 128
        · exact hh
        · have hhi := isL_high (c := q) (by omega); unfold isL at hhi; simp at hhi; omega
      have q0 : 0 ≤ q := by rw [← hat]; omega
      have q61 : (q == 61) = false := by
        have : q ≠ 61 := fun e => by rw [e, val_pad] at hx0; omega
        simpa using this
      obtain ⟨y, hy⟩ : ∃ y, valL q = y := ⟨_, rfl⟩
      have HNO := Lib.hid (fun W : World => hy ▸ number_lo q W q0 hq8)
      rw [hy] at hx0 hx1 hgo
      have hnext : ∀ ty, (Instr.next (.pointer (some ⟨I, 0, none⟩)) true ty).run Try.prog wr = .ok (.tuple #[.bool true, .int .i64 i, .int .i32 q]) (wr.iterAt I s (i + 1)) := fun ty => by
        rw [Lib.run_next_ascii_at wr I s i ty HR.out.it hiz (by omega)]; rw [hat]
      obtain ⟨W2, hW2⟩ : ∃ W2, wr.iterAt I s (i + 1) = W2 := ⟨_, rfl⟩
      rw [hW2] at hnext
      have hO2 : Own8 w x (stR t i 0).1 W2 := by rw [← hW2]; exact HR.out.own.it HR.out.it HII.out (i + 1)
      have hI2 : W2.heap[I]? = some (.stringIter s (i + 1)) := by rw [← hW2]; exact Lib.iterAt_heap _ _ _ _ _ HR.out.it
      have hst := HR.out.st
      rw [hst] at hgo
      obtain ⟨o, ho⟩ : ∃ o, (stR t i 0).1 = o := ⟨_, rfl⟩
      rw [ho] at hgo hO2 hol
      clear hat hq hy hW2 hst ho HR q0 hq8
      rcases mod8 i with h8 | h8 | h8 | h8
      · rw [h8] at hm hv1
        subst hm
        have hvz : v = 0 := by omega
        subst hvz
        have hf := hgo.trans (fold6_0 o y hx0 hx1)
        have HR2 : Hid (Rs w I s t x (i + 1) y 6 W2) := Lib.hid ⟨hI2, by rw [hf]; exact hO2, by rw [hf]⟩
        have o1 : bits .or .i64 0 y = y := (bits_join .i64 12 (by decide) (fun n h1 h2 => IntWalk.i64_in _ (by omega)) 6 0 y (by omega) (by omega) (by omega) (by omega) (by omega) (by omega)).trans (by omega)
        have HIP2 := Lib.hid (iterPos_of hI2)
        clear hgo hf hO2 hI2 hv0 hv1 hol
        go_wp2_with fail
        refine (HNO.out _).mono ?_
        rintro e wx ⟨rfl, rfl⟩
        go_wp2
        go_roundw
        case rel => exact ⟨i + 1, y, 6, _, by omega, rfl, rfl, rfl, HR2⟩
        case measure => rw [HIP2.out, HIP.out]; omega
      · rw [h8] at hm hv1
        subst hm
        have hv64 : v < 4 := by omega
        have hf := hgo.trans (fold6_2 o v y hx0 hx1)
        obtain ⟨z, hz⟩ : ∃ z, v * 64 + y = z := ⟨_, rfl⟩
        obtain ⟨r, hr⟩ : ∃ r : Int, 0 = r := ⟨_, rfl⟩
        obtain ⟨u, hu⟩ : ∃ u, v * 64 + y = u := ⟨_, rfl⟩
        rw [hz] at hf
        obtain ⟨A4, n4, c4, w4, hrun, hO4, hI4⟩ := hO2.appI z (by omega) hI2
        have HR2 : Hid (Rs w I s t (.slice A4 n4 c4) (i + 1) r 0 w4) := Lib.hid ⟨hI4, by rw [hf]; exact hO4, by rw [hf]; rw [← hr]⟩
        have o1 : bits .or .i64 (v * 64) y = u := (bits_join .i64 12 (by decide) (fun n h1 h2 => IntWalk.i64_in _ (by omega)) 6 _ y (by omega) (by omega) (by omega) (by omega) (by omega) (by omega)).trans hu
        have z0 : 0 ≤ z := by omega
        have z1 : z < 256 := by omega
        have u0 : 0 ≤ u := by omega
        have u1 : u < 4096 := by omega
        have e1 : u / 1 = z := by omega
        have e2 : bits .and .i64 u 0 = r := (bits_mask .i64 12 (by decide) (fun n h1 h2 => IntWalk.i64_in _ (by omega)) 0 (by decide) u u0 (by omega)).trans (by omega)
        have e3 : IntKind.u8.wrap z = z := wraps_u8 _ z0 z1
        have HRUN := Lib.hid hrun
        have HIP2 := Lib.hid (iterPos_of hI4)
        clear hgo hf hO2 hI2 hv1 hol hrun hO4 hI4 hz hr hu
        go_wp2_with fail
        refine (HNO.out _).mono ?_
        rintro e wx ⟨rfl, rfl⟩
        go_wp2_with (at_builtin; refine wpList_app rfl (.tmp 40) (.tmp 45) _ rfl _ _ rfl rfl HRUN.out ?_)
        go_roundw
        case rel => exact ⟨i + 1, r, 0, _, by omega, rfl, rfl, rfl, HR2⟩
        case measure => rw [HIP2.out, HIP.out]; omega
      · rw [h8] at hm hv1
        subst hm
        have hv64 : v < 16 := by omega
        have hf := hgo.trans (fold6_4 o v y hx0 hx1)
        obtain ⟨z, hz⟩ : ∃ z, v * 16 + y / 4 = z := ⟨_, rfl⟩
        obtain ⟨r, hr⟩ : ∃ r : Int, y % 4 = r := ⟨_, rfl⟩
        obtain ⟨u, hu⟩ : ∃ u, v * 64 + y = u := ⟨_, rfl⟩
        rw [hz, hr] at hf
        obtain ⟨A4, n4, c4, w4, hrun, hO4, hI4⟩ := hO2.appI z (by omega) hI2
        have HR2 : Hid (Rs w I s t (.slice A4 n4 c4) (i + 1) r 2 w4) := Lib.hid ⟨hI4, by rw [hf]; exact hO4, by rw [hf]⟩
        have o1 : bits .or .i64 (v * 64) y = u := (bits_join .i64 12 (by decide) (fun n h1 h2 => IntWalk.i64_in _ (by omega)) 6 _ y (by omega) (by omega) (by omega) (by omega) (by omega) (by omega)).trans hu
        have z0 : 0 ≤ z := by omega
        have z1 : z < 256 := by omega
        have u0 : 0 ≤ u := by omega
        have u1 : u < 4096 := by omega
        have e1 : u / 4 = z := by omega
        have e2 : bits .and .i64 u 3 = r := (bits_mask .i64 12 (by decide) (fun n h1 h2 => IntWalk.i64_in _ (by omega)) 2 (by decide) u u0 (by omega)).trans (by omega)
        have e3 : IntKind.u8.wrap z = z := wraps_u8 _ z0 z1
        have HRUN := Lib.hid hrun
        have HIP2 := Lib.hid (iterPos_of hI4)
        clear hgo hf hO2 hI2 hv1 hol hrun hO4 hI4 hz hr hu
        go_wp2_with fail
        refine (HNO.out _).mono ?_
        rintro e wx ⟨rfl, rfl⟩
        go_wp2_with (at_builtin; refine wpList_app rfl (.tmp 40) (.tmp 45) _ rfl _ _ rfl rfl HRUN.out ?_)
        go_roundw
        case rel => exact ⟨i + 1, r, 2, _, by omega, rfl, rfl, rfl, HR2⟩
        case measure => rw [HIP2.out, HIP.out]; omega
      · rw [h8] at hm hv1
        subst hm
        have hv64 : v < 64 := by omega
        have hf := hgo.trans (fold6_6 o v y hx0 hx1)
        obtain ⟨z, hz⟩ : ∃ z, v * 4 + y / 16 = z := ⟨_, rfl⟩
        obtain ⟨r, hr⟩ : ∃ r : Int, y % 16 = r := ⟨_, rfl⟩
        obtain ⟨u, hu⟩ : ∃ u, v * 64 + y = u := ⟨_, rfl⟩
        rw [hz, hr] at hf
        obtain ⟨A4, n4, c4, w4, hrun, hO4, hI4⟩ := hO2.appI z (by omega) hI2
        have HR2 : Hid (Rs w I s t (.slice A4 n4 c4) (i + 1) r 4 w4) := Lib.hid ⟨hI4, by rw [hf]; exact hO4, by rw [hf]⟩
        have o1 : bits .or .i64 (v * 64) y = u := (bits_join .i64 12 (by decide) (fun n h1 h2 => IntWalk.i64_in _ (by omega)) 6 _ y (by omega) (by omega) (by omega) (by omega) (by omega) (by omega)).trans hu
        have z0 : 0 ≤ z := by omega
        have z1 : z < 256 := by omega
        have u0 : 0 ≤ u := by omega
        have u1 : u < 4096 := by omega
        have e1 : u / 16 = z := by omega
        have e2 : bits .and .i64 u 15 = r := (bits_mask .i64 12 (by decide) (fun n h1 h2 => IntWalk.i64_in _ (by omega)) 4 (by decide) u u0 (by omega)).trans (by omega)
        have e3 : IntKind.u8.wrap z = z := wraps_u8 _ z0 z1
        have HRUN := Lib.hid hrun
        have HIP2 := Lib.hid (iterPos_of hI4)
        clear hgo hf hO2 hI2 hv1 hol hrun hO4 hI4 hz hr hu
        go_wp2_with fail
        refine (HNO.out _).mono ?_
        rintro e wx ⟨rfl, rfl⟩
        go_wp2_with (at_builtin; refine wpList_app rfl (.tmp 40) (.tmp 45) _ rfl _ _ rfl rfl HRUN.out ?_)
        go_roundw
        case rel => exact ⟨i + 1, r, 4, _, by omega, rfl, rfl, rfl, HR2⟩
        case measure => rw [HIP2.out, HIP.out]; omega
    · have hih2 : i = h := by omega
      subst hih2
      obtain ⟨A8, c8, rfl, hc8, hcm, _⟩ := own_slice HR.out.own.own
      obtain ⟨D, hD⟩ : ∃ D, (stR t i 0).1 = D := ⟨_, rfl⟩
      have hO := HR.out.own
      have hit := HR.out.it
      have hDD : decB t = D := HDEC.out.symm.trans hD
      rw [hD] at hO hc8
      rw [hD]
      obtain ⟨k, hk⟩ : ∃ k, D.length = k := ⟨_, rfl⟩
      rw [hk] at hc8
      rw [hk]
      unfold maxLen at hcm
      have HFIN : Hid (∀ W : World, Own8 w (.slice A8 D.length c8) D W → RI .u8 W A8 (decB t) ∧ (decB t).length = k ∧ Below w.heap.size w W) := Lib.hid (fun W hb => ⟨hDD ▸ hb.ri.1, by rw [hDD]; exact hk, hb.below⟩)
      have HOO : Hid (Own8 w (.slice A8 D.length c8) D wr ∧ Own8 w (.slice A8 D.length c8) D (wr.iterAt I s (i + 1))) := Lib.hid ⟨hk ▸ hO, hk ▸ hO.it hit HII.out _⟩
      have HIT := Lib.hid hit
      clear hO hDD hD hk HDEC HR hih hit hol hm hv0 hv1
      by_cases hin : i < n
      · have hiz : i < s.size := by rw [HSZ.out]; exact hin
        have hat := HAT.out i (by rw [HN.out]; exact hin) hiz
        rw [HPAD.out hin] at hat
        have hnext : ∀ ty, (Instr.next (.pointer (some ⟨I, 0, none⟩)) true ty).run Try.prog wr = .ok (.tuple #[.bool true, .int .i64 i, .int .i32 61]) (wr.iterAt I s (i + 1)) := fun ty => by
          rw [Lib.run_next_ascii_at wr I s i ty HIT.out hiz (by omega)]; rw [hat]
        have g5 : (0 : Int) ≤ (k : Int) := by omega
        clear hat
        go_wp2
        go_returns
        exact ⟨_, _, rfl, HFIN.out _ HOO.out.2⟩
      · have hnext : ∀ ty, (Instr.next (.pointer (some ⟨I, 0, none⟩)) true ty).run Try.prog wr = .ok (.tuple #[.bool false]) wr := fun ty => Lib.run_next_end_at wr I s i ty HIT.out (by rw [HSZ.out]; exact hin)
        have g5 : (0 : Int) ≤ (k : Int) := by omega
        go_wp2
        go_returns
        exact ⟨_, _, rfl, HFIN.out _ HOO.out.1⟩
end Go.Proofs.Ytmpmlmhphnpdlaa
