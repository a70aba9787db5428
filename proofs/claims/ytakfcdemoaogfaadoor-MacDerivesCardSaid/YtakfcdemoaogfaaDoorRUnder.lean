/-
  Proved here: the document's own 'under' tells whether a number's square, or its cube, is not above a prime, moved up.
-/
import Derived.Test.YtakfcdemoaogfaaDoorRMul
import Derived.Deep.AppendLies
namespace Go.Proofs.YtakfcdemoaogfaaDoor
open Go.RowKit
/-- A number below 2^48 by its four digits. -/
def dig4 (x : Nat) : List Nat := [x % 4096, x / 4096 % 4096, x / 16777216 % 4096, x / 68719476736]
theorem val_dig4 (x : Nat) : val (dig4 x) = x := by
  simp only [dig4, val]
  omega
theorem dig4_lt (x : Nat) (hx : x < 281474976710656) (j : Nat) : (dig4 x).getD j 0 < 4096 := by
  match j with
  | 0 => show x % 4096 < 4096; omega
  | 1 => show x / 4096 % 4096 < 4096; omega
  | 2 => show x / 16777216 % 4096 < 4096; omega
  | 3 => show x / 68719476736 < 4096; omega
  | j + 4 => show 0 < 4096; omega
theorem all_getD {l : List Nat} (h : ∀ d ∈ l, d < 4096) (j : Nat) : l.getD j 0 < 4096 := by
  by_cases hj : j < l.length
  · have := h _ (List.getElem_mem hj)
    simpa [List.getD_eq_getElem?_getD, hj] using this
  · simp [List.getD_eq_getElem?_getD, List.getElem?_eq_none (Nat.le_of_not_lt hj)]
/-- One list is twice another up to k, and as it from there on. -/
structure DB (o o2 : List Nat) (k : Nat) : Prop where
  len : o2.length = o.length
  lo : ∀ i, i < k → o2.getD i 0 = 2 * o.getD i 0
  hi : ∀ i, k ≤ i → o2.getD i 0 = o.getD i 0
theorem DB.start (o : List Nat) : DB o o 0 := ⟨rfl, fun i h => absurd h (by omega), fun _ _ => rfl⟩
theorem DB.next {o o2 : List Nat} {k : Nat} (h : DB o o2 k) (hk : k < o.length) : DB o (o2.set k (2 * o2.getD k 0)) (k + 1) := by
  refine ⟨by rw [List.length_set, h.len], fun i hi => ?_, fun i hi => ?_⟩
  · by_cases e : i = k
    · subst e
      have : i < o2.length := by rw [h.len]; exact hk
      rw [← h.hi i (Nat.le_refl _)]
      simp [List.getD_eq_getElem?_getD, this]
    · rw [← h.lo i (by omega)]
      simp [List.getD_eq_getElem?_getD, Ne.symm e]
  · rw [← h.hi i (by omega)]
    have : ¬ k = i := by omega
    simp [List.getD_eq_getElem?_getD, this]
theorem val_double : ∀ (o o2 : List Nat), o2.length = o.length → (∀ i, o2.getD i 0 = 2 * o.getD i 0) → val o2 = 2 * val o
  | [], [], _, _ => rfl
  | x :: o, y :: o2, hl, h => by
    have h0 := h 0
    have ih := val_double o o2 (by simpa using hl) fun i => h (i + 1)
    simp only [List.getD_cons_zero] at h0
    rw [val, val, h0, ih]
    omega
  | [], _ :: _, hl, _ => by simp at hl
  | _ :: _, [], hl, _ => by simp at hl
theorem DB.all {o o2 : List Nat} {k : Nat} (h : DB o o2 k) (hk : o.length ≤ k) : (∀ i, o2.getD i 0 = 2 * o.getD i 0) ∧ val o2 = 2 * val o := by
  have e : ∀ i, o2.getD i 0 = 2 * o.getD i 0 := fun i => by
    by_cases hi : i < k
    · exact h.lo i hi
    · rw [h.hi i (by omega)]
      simp [List.getD_eq_getElem?_getD, List.getElem?_eq_none (show o.length ≤ i by omega)]
  exact ⟨e, val_double o o2 h.len e⟩
/-- What is wanted, doubled i times. -/
structure WU (w : World) (g N p j i : Nat) (o : List Nat) (W : World) : Prop where
  blk : Blk64 W g o
  len : o.length = N
  below : Below w.heap.size w W
  val : val o = 2 ^ i * (4096 ^ j * p)
  lt : ∀ k, o.getD k 0 ≤ 2 ^ i * p
theorem WU.turn {w : World} {g N p j i : Nat} {o o2 : List Nat} {W W' : World} (h : WU w g N p j i o W) (hd : DB o o2 N) (hb : Blk64 W' g o2) (hw : Below w.heap.size w W') : WU w g N p j (i + 1) o2 W' := by
  have ha := hd.all (by rw [h.len]; exact Nat.le_refl _)
  refine ⟨hb, by rw [hd.len, h.len], hw, ?_, fun k => ?_⟩
  · rw [ha.2, h.val, Nat.pow_succ, Nat.mul_comm (2 ^ i) 2, Nat.mul_assoc]
  · rw [ha.1 k, Nat.pow_succ, Nat.mul_comm (2 ^ i) 2, Nat.mul_assoc]
    exact Nat.mul_le_mul_left 2 (h.lt k)
theorem want_val (N j p : Nat) (hj : j < N) : val ((List.replicate N 0).set j p) = 4096 ^ j * p := by
  have := val_set (List.replicate N 0) j p (by simpa using hj)
  rw [addAt, getD_zeros, Nat.zero_add, val_zeros, Nat.zero_add] at this
  exact this
theorem want_lt (N j p k : Nat) : ((List.replicate N 0).set j p).getD k 0 ≤ p := by
  simp only [List.getD_eq_getElem?_getD, List.getElem?_set, List.getElem?_replicate]
  split
  · split <;> simp
  · split <;> simp
theorem val_zero_end (l : List Nat) : val (l ++ [0]) = val l := by rw [val_append, val_one, Nat.mul_zero, Nat.add_zero]
theorem cmp_final (a b : List Nat) (ha : ∀ d ∈ a, d < 4096) (hb : ∀ d ∈ b, d < 4096) (hl : a.length = b.length) : cmpD (fun i => a.getD i 0) (fun i => b.getD i 0) a.length = decide (val a ≤ val b) := by
  rw [cmpD_val _ _ (all_getD ha) (all_getD hb), valN_more a _ (Nat.le_refl _), valN_more b _ (by omega)]
/-- The row n that is made longer, and the row that is wanted. -/
structure NW (w : World) (M : Nat) (nn wl : List Nat) (g cap gb ob : Nat) (W : World) : Prop where
  own : W.ownsRow w.heap.size 36 1 (.slice (some ⟨g, 0, none⟩) nn.length cap) nn.length (V64 nn)
  ltb : gb < W.heap.size
  ne : g ≠ gb
  wcell : ∀ i, i < wl.length → W.cell? ⟨gb, ob + i, none⟩ = some (.int .u64 (wl.getD i 0 : Nat))
  below : Below w.heap.size w W
  val : val nn = M
  lt : ∀ d ∈ nn, d < 4096
theorem NW.next {w : World} {M : Nat} {nn wl : List Nat} {g cap gb ob : Nat} {W W1 : World} {o : Obj} {g' cap' : Nat} (h : NW w M nn wl g cap gb ob W)
    (hown : W1.ownsRow w.heap.size 36 1 (.slice (some ⟨g', 0, none⟩) (nn.length + 1) cap') (nn.length + 1) (V64 nn ++ [.int .u64 0])) (hgrow : (W.alloc o).grownBy W1 (some g)) (hat : some g = some g' ∨ g' = W.heap.size + 1) : NW w M (nn ++ [0]) wl g' cap' gb ob W1 := by
  have hs := hgrow.size
  have h0 := h.ltb
  have h1 := own_le h.own g rfl
  have hb := h.below.size
  simp only [World.size_alloc] at hs
  refine ⟨by rw [List.length_append, V64_append]; exact hown, by omega, ?_, fun i hi => ?_, (h.below.alloc hb o).grown hgrow (by simp; omega) (fun k hk => by cases hk; exact h1), by rw [val_zero_end]; exact h.val, all_lt_append h.lt (by omega)⟩
  · rcases hat with e | e
    · rw [← Option.some.inj e]; exact h.ne
    · omega
  · have hk : (⟨gb, ob + i, none⟩ : Addr).block < (W.alloc o).heap.size := by simp only [World.size_alloc]; omega
    rw [World.cell?_of_block (hgrow.block _ hk (fun e => h.ne (Option.some.inj e).symm)), World.cell?_of_block (Below.heap_alloc W o gb h.ltb)]
    exact h.wcell i hi
theorem own_below' {w w' : World} {base : Nat} {e : TypeId} {size : Nat} {v : Value} {n : Nat} {xs : List Value} (h : w.ownsRow base e size v n xs) (hb : Below w.heap.size w w') : w'.ownsRow base e size v n xs :=
  h.kept (row := none) ⟨hb.os, hb.tape, hb.output, hb.size, fun k hk _ => hb.block k hk⟩ (by cases v.ownBlock <;> simp)
def lenV : Value → Nat
  | .slice _ l _ => l
  | _ => 0

set_option maxRecDepth 100000 in
set_option maxHeartbeats 2000000 in
theorem under_two (x p : Nat) (w : World) (hx : x < 281474976710656) (hp : p < 4294967296) : Calls Tryd.prog 39 #[.int .u64 x, .int .u64 p, .bool false] w fun e w' => e = .returned (.bool (decide (x * x ≤ p * 2 ^ 64))) ∧ Below w.heap.size w w' := by
  obtain ⟨i0, hi, hz0, hz1, hz2⟩ := info_parts infoU64
  have d0 : (x : Int) % 4096 = ((x % 4096 : Nat) : Int) := by omega
  obtain ⟨x0, hx0⟩ : ∃ y, x % 4096 = y := ⟨_, rfl⟩
  obtain ⟨x1, hx1⟩ : ∃ y, x / 4096 % 4096 = y := ⟨_, rfl⟩
  obtain ⟨x2, hx2⟩ : ∃ y, x / 16777216 % 4096 = y := ⟨_, rfl⟩
  obtain ⟨x3, hx3⟩ : ∃ y, x / 68719476736 = y := ⟨_, rfl⟩
  have r0 : (x : Int) % 4096 = (x0 : Int) := by omega
  have r1 : (x : Int) / 4096 % 4096 = (x1 : Int) := by omega
  have r2 : (x : Int) / 16777216 % 4096 = (x2 : Int) := by omega
  have r3 : (x : Int) / 68719476736 = (x3 : Int) := by omega
  have HV := Lib.hid (val_dig4 x)
  have HG := Lib.hid (dig4_lt x hx)
  rw [show dig4 x = [x0, x1, x2, x3] by rw [dig4, hx0, hx1, hx2, hx3]] at HV HG
  have hl4 : [x0, x1, x2, x3].length = 4 := rfl
  obtain ⟨l, hl⟩ : ∃ l, [x0, x1, x2, x3] = l := ⟨_, rfl⟩
  have HCC := Lib.hid (show (#[Value.int .u64 (x0 : Int), .int .u64 (x1 : Int), .int .u64 (x2 : Int), .int .u64 (x3 : Int)] : Array Value) = (V64 l).toArray by rw [← hl]; rfl)
  rw [hl] at HV HG hl4
  have HL4 := Lib.hid hl4
  clear hx0 hx1 hx2 hx3 hl d0 hl4
  go_enter Tryd.func39, Tryd.ntmps39
  go_wp2_with fail
  rw [HCC.out]
  clear r0 r1 r2 r3 HCC
  obtain ⟨U, hU, G1, G2, G3⟩ : ∃ U : World, U = w.alloc (.cells (V64 l).toArray 36) ∧ U.heap[w.heap.size]? = some (.cells (V64 l).toArray 36 (0, 0)) ∧ Below w.heap.size w U ∧ U.heap.size = w.heap.size + 1 := ⟨_, rfl, heap_alloc_new _ _, (Below.refl _ _).alloc (Nat.le_refl _) _, by simp⟩
  rw [← hU]
  clear hU
  have HRL : Hid (RN .u64 U (some ⟨w.heap.size, 0, none⟩) l) := Lib.hid (fun _ => ⟨w.heap.size, 0, rfl, by omega, fun j hj => by rw [Nat.zero_add]; exact Blk64.cell G1 hj⟩)
  have HB1 := Lib.hid G2
  have HM1 := Lib.hid (mul_any l l (some ⟨w.heap.size, 0, none⟩) (some ⟨w.heap.size, 0, none⟩) 4 4 U HRL.out HRL.out HG.out HG.out (by rw [HL4.out]; omega) (by rw [HL4.out]; omega))
  rw [HL4.out] at HM1
  clear G1 G2 G3
  refine HM1.out.mono ?_
  rintro e w1 ⟨n1, v1, rfl, m1, m2, m3, m4, m5, m6⟩
  rw [HV.out] at m1
  rw [HL4.out] at m3 m4
  clear HM1
  have HB3 := Lib.hid (HB1.out.trans (m6.mono HB1.out.size))
  have ho : w1.ownsRow w.heap.size 36 1 v1 n1.length (V64 n1) := own_base m5 HB1.out.size
  have hlo : 8 ≤ n1.length := by omega
  have hhi : n1.length ≤ 12 := by omega
  clear m3 m4 m5 m6 HRL HV HG HB1 HL4

  obtain ⟨N, hN⟩ : ∃ N, n1.length = N := ⟨_, rfl⟩
  obtain ⟨cn, hv⟩ : ∃ c, v1 = c := ⟨_, rfl⟩
  obtain ⟨nn, hnn⟩ : ∃ n, n1 = n := ⟨_, rfl⟩
  obtain ⟨wv, hwv⟩ : ∃ u, w1 = u := ⟨_, rfl⟩
  rw [hnn] at m1 m2 hN ho hlo hhi
  rw [hv, hwv] at ho
  rw [hv, hwv]
  rw [hwv] at HB3
  clear hnn hv hwv
  rw [hN] at ho hlo hhi
  obtain ⟨gn, cpn, rfl, hgn, hgl⟩ := ho.form (by omega)
  have HNN := Lib.hid (And.intro m1 (And.intro m2 hN))
  have HOW := Lib.hid ho
  clear m1 m2 hN ho
  have hmk : ∀ W, (Instr.makeSlice 79 (.int .i64 ((N : Int) + 2)) (.int .i64 ((N : Int) + 2))).run Tryd.prog W = .ok (.slice (some ⟨W.heap.size, 0, none⟩) (N + 2) (N + 2)) (W.alloc (.cells (V64 (List.replicate (N + 2) 0)).toArray 36)) := fun W => by
    rw [show (N : Int) + 2 = ((N + 2 : Nat) : Int) by omega]
    exact make64 (N + 2) (by omega) W
  have hc0 : ((wv.alloc (.cells (V64 (List.replicate (N + 2) 0)).toArray 36)).cell? ⟨wv.heap.size, 5, none⟩) = some (.int .u64 0) := by
    have h := Blk64.cell (l := List.replicate (N + 2) 0) (heap_alloc_new wv (.cells (V64 (List.replicate (N + 2) 0)).toArray 36)) (i := 5) (by simp; omega)
    rw [getD_zeros] at h
    exact h
  have hf0 : ((wv.alloc (.cells (V64 (List.replicate (N + 2) 0)).toArray 36)).frozen? ⟨wv.heap.size, 5, none⟩) = false := Blk64.free (l := List.replicate (N + 2) 0) (heap_alloc_new wv (.cells (V64 (List.replicate (N + 2) 0)).toArray 36)) 5
  go_wp2
  rw [V64_set]
  clear hmk hc0 hf0
  have H0 := Lib.hid (show WU wv wv.heap.size (N + 2) p 5 0 ((List.replicate (N + 2) 0).set 5 p) (wv.alloc (.cells (V64 ((List.replicate (N + 2) 0).set 5 p)).toArray 36)) from
    ⟨heap_alloc_new _ _, by simp, (Below.refl _ _).alloc (Nat.le_refl _) _, by rw [want_val _ _ _ (by omega)]; simp, fun k => by simpa using want_lt (N + 2) 5 p k⟩)
  go_loopw [11, 12] (fun i _ wr => ∃ (i' : Nat) (o : List Nat), i' ≤ 4 ∧ i = .int .i64 i' ∧ Hid (WU wv wv.heap.size (N + 2) p 5 i' o wr)) (fun i _ _ => 4 - (intOf i).toNat)
  case atStart => exact ⟨0, _, by omega, rfl, H0⟩
  case round =>
    obtain ⟨i, o, hi4, rfl, HI⟩ := hrel
    clear H0
    by_cases hlt : i < 4
    · go_wp2
      go_loopw [12] (fun k wr => ∃ (k' : Nat) (o2 : List Nat), k' ≤ N + 2 ∧ k = .int .i64 k' ∧ Hid (Blk64 wr wv.heap.size o2 ∧ DB o o2 k' ∧ Below wv.heap.size wv wr)) (fun k _ => N + 2 - (intOf k).toNat)
      case atStart => exact ⟨0, o, by omega, rfl, Lib.hid ⟨HI.out.blk, DB.start o, HI.out.below⟩⟩
      case round =>
        obtain ⟨k, o2, hk, rfl, HK⟩ := hrel
        by_cases hlk : k < N + 2
        · have cO := HK.out.1.cell (i := k) (by rw [HK.out.2.1.len, HI.out.len]; exact hlk)
          have fO := HK.out.1.free k
          have l1 := HI.out.lt k
          rw [← HK.out.2.1.hi k (Nat.le_refl _)] at l1
          have l2 : 2 ^ i ≤ 2 ^ 12 := Nat.pow_le_pow_right (by omega) (by omega)
          have l3 : 2 ^ i * p ≤ 2 ^ 12 * 4294967296 := Nat.mul_le_mul l2 (by omega)
          have HN := Lib.hid (show Blk64 (wr.setCell ⟨wv.heap.size, k, none⟩ (.int .u64 ((2 * o2.getD k 0 : Nat) : Int))) wv.heap.size (o2.set k (2 * o2.getD k 0)) ∧ DB o (o2.set k (2 * o2.getD k 0)) (k + 1) ∧ Below wv.heap.size wv (wr.setCell ⟨wv.heap.size, k, none⟩ (.int .u64 ((2 * o2.getD k 0 : Nat) : Int))) from
            ⟨HK.out.1.set _ _, HK.out.2.1.next (by rw [HI.out.len]; exact hlk), HK.out.2.2.setCell (p := ⟨wv.heap.size, k, none⟩) (Nat.le_refl _) _⟩)
          clear HK
          generalize o2.set k (2 * o2.getD k 0) = o3 at HN
          generalize o2.getD k 0 = z at cO l1 HN
          obtain ⟨t, ht⟩ : ∃ t, 2 * z = t := ⟨_, rfl⟩
          rw [ht] at HN
          have r1 : IntKind.u64.wrap (t : Int) = (t : Int) := IntWalk.u64_in _ (by omega)
          have r2 : (2 * (z : Int)) = (t : Int) := by omega
          clear ht l1 l2 l3
          go_wp2
          go_roundw
          case rel => exact ⟨k + 1, o3, by omega, by go_num, HN⟩
          case measure => simp [intOf]; omega
        · obtain rfl : k = N + 2 := by omega
          have HN := Lib.hid (HI.out.turn HK.out.2.1 HK.out.1 HK.out.2.2)
          clear HK HI
          go_wp2
          go_roundw
          case rel => exact ⟨i + 1, o2, by omega, by go_num, HN⟩
          case measure => simp [intOf]; omega
    · obtain rfl : i = 4 := by omega
      have HC := Lib.hid (carried_any o (some ⟨wv.heap.size, 0, none⟩) (N + 2) wr (fun _ => ⟨wv.heap.size, 0, rfl, (Array.getElem?_eq_some_iff.1 HI.out.blk).1, fun j hj => by rw [Nat.zero_add]; exact HI.out.blk.cell hj⟩) (fun j => by
        have := HI.out.lt j
        omega) (by rw [HI.out.len]; omega))
      rw [HI.out.len] at HC
      go_wp2_with fail
      refine HC.out.mono ?_
      rintro e w3 ⟨wl, vw, rfl, c1, c2, c3, c4, c5, c6⟩
      rw [HI.out.val] at c1
      rw [HI.out.len] at c3 c4
      obtain ⟨Aw, cw, rfl, c7, c8, c9⟩ := own_rn c5
      obtain ⟨gb, ob, rfl, hgb, hcb⟩ := c7 (by omega)
      have hge : wr.heap.size ≤ gb := own_le c5 gb rfl
      have hbw : Below wv.heap.size wv w3 := HI.out.below.trans (c6.mono HI.out.below.size)
      have hlw : wv.heap.size ≤ wr.heap.size := HI.out.below.size
      have HNW := Lib.hid (show NW w (x * x) nn wl gn cpn gb ob w3 from ⟨by rw [HNN.out.2.2]; exact own_below' HOW.out hbw, hgb, by omega, hcb, HB3.out.trans (hbw.mono HB3.out.size), HNN.out.1, HNN.out.2.1⟩)
      have HWL := Lib.hid (And.intro c1 c2)
      have hnl := HNN.out.2.2
      clear c1 c2 c5 c6 c7 c8 c9 hcb hbw HC HI HOW HNN HB3 hgb hge hlw hgn hgl
      have hnw : nn.length ≤ wl.length := by omega
      rw [← hnl]
      clear hnl
      go_wp2
      go_loopw [8] (fun v wr => ∃ (mm : List Nat) (g cap : Nat), mm.length ≤ wl.length ∧ v = .slice (some ⟨g, 0, none⟩) mm.length cap ∧ Hid (NW w (x * x) mm wl g cap gb ob wr)) (fun v _ => wl.length - lenV v)
      case atStart => exact ⟨nn, gn, cpn, hnw, rfl, HNW⟩
      case round =>
        obtain ⟨mm, g, cap, hmw, rfl, HM⟩ := hrel
        clear HNW hnw
        by_cases hlm : mm.length < wl.length
        · have hbs := HM.out.below.size
          go_wp2_with (at_builtin; refine wpList_append_lies _ rfl _ _ 79 rfl w.heap.size 36 i0 (.int .u64 0) 1 8 Tryd.underlying79 hi hz0 hz1 hz2 rfl (by decide) _ _ _ rfl (HM.out.own.alloc _) ⟨wr.heap.size, 0, none⟩ 1 1 [.int .u64 0] rfl rfl ?c1 ?c2 (by decide) ?c3 ?c4 ?c5 (wr.heap.size + 1) (by simp) ?_)
          case c1 =>
            intro q u hq
            match q, hq with
            | 0, hq => simp at hq; subst hq; simp [Addr.add]
          case c2 => intro u hu; simp at hu; subst hu; rfl
          case c3 => unfold maxLen; omega
          case c4 => omega
          case c5 => simp; omega
          · intro g' cap' w1 hown1 hgrow hat _
            have HM2 := Lib.hid (HM.out.next hown1 hgrow hat)
            clear hown1 hgrow hat HM
            go_wp2
            go_roundw
            case rel => exact ⟨mm ++ [0], g', cap', by simp; omega, by simp, HM2⟩
            case measure => simp [lenV]; omega
        · have hKK : mm.length = wl.length := by omega
          have hbs := HM.out.below
          have HMC := Lib.hid (fun i (hi : i < wl.length) => (HM.out.own.cellAt i (by omega)).trans (V64_get (by omega)))
          have HWC := Lib.hid HM.out.wcell
          have HF := Lib.hid (cmp_final mm wl HM.out.lt HWL.out.2 hKK)
          have HFV := Lib.hid (And.intro HM.out.val HWL.out.1)
          rw [hKK] at HF ⊢
          obtain ⟨K, hK⟩ : ∃ K, wl.length = K := ⟨_, rfl⟩
          have hK1 : 1 ≤ K := by omega
          have hK2 : K ≤ 1000 := by omega
          rw [hK] at HF HMC HWC ⊢
          clear HM HWL hKK hlm hmw hK
          have s1 : IntKind.i64.wrap ((K : Int) - 1) = (K : Int) - 1 := IntWalk.i64_in _ (by omega)
          go_wp2
          go_loop [13, 14] (fun i _ => ∃ k : Nat, k ≤ K ∧ i = .int .i64 ((k : Int) - 1) ∧ Hid (cmpD (fun i => mm.getD i 0) (fun i => wl.getD i 0) k = decide (val mm ≤ val wl))) (fun i _ => (intOf i + 1).toNat)
          case atStart => exact ⟨K, by omega, rfl, HF⟩
          case round =>
            obtain ⟨k, hk, rfl, HR⟩ := hrel
            clear HF
            cases k with
            | zero =>
              have hR := HR.out
              rw [cmpD] at hR
              have hm1 : ((0 : Nat) : Int) - 1 = -1 := by omega
              rw [hm1]
              have HR2 := Lib.hid hR
              clear HR hm1 s1 hK1 hK2 hR
              go_wp2
              go_ret
              have hR := HR2.out
              exact ⟨by rw [HFV.out.1, HFV.out.2] at hR; rw [show p * 2 ^ 64 = 2 ^ 4 * (4096 ^ 5 * p) by rw [← Nat.mul_assoc, Nat.mul_comm p]]; rw [← hR]; simp, hbs⟩
            | succ j =>
              rw [show ((j + 1 : Nat) : Int) - 1 = (j : Int) by omega]
              have cM := HMC.out j (by omega)
              have cW := HWC.out j (by omega)
              have hR := HR.out
              rw [cmpD] at hR
              obtain ⟨a, ha⟩ : ∃ a, mm.getD j 0 = a := ⟨_, rfl⟩
              obtain ⟨b, hb⟩ : ∃ b, wl.getD j 0 = b := ⟨_, rfl⟩
              rw [ha] at cM hR
              rw [hb] at cW hR
              have hjK : j < K := by omega
              clear ha hb HR
              have s2 : IntKind.i64.wrap ((j : Int) - 1) = (j : Int) - 1 := IntWalk.i64_in _ (by omega)
              by_cases hab : a = b
              · rw [if_pos hab] at hR
                have HR2 := Lib.hid hR
                subst hab
                have hne : ((a : Int) != (a : Int)) = false := by simp
                clear hR
                go_wp2
                go_round
                case rel => exact ⟨j, by omega, by simp, HR2⟩
                case measure => simp [intOf]
              · rw [if_neg hab] at hR
                have hne : ((a : Int) != (b : Int)) = true := by simp; omega
                have HR2 := Lib.hid hR
                clear hR hab
                go_wp2
                go_ret
                have hR := HR2.out
                rw [HFV.out.1, HFV.out.2] at hR
                exact ⟨by rw [show p * 2 ^ 64 = 2 ^ 4 * (4096 ^ 5 * p) by rw [← Nat.mul_assoc, Nat.mul_comm p]]; rw [← hR]; simp, hbs⟩

set_option maxRecDepth 100000 in
set_option maxHeartbeats 2000000 in
theorem under_three (x p : Nat) (w : World) (hx : x < 281474976710656) (hp : p < 4294967296) : Calls Tryd.prog 39 #[.int .u64 x, .int .u64 p, .bool true] w fun e w' => e = .returned (.bool (decide (x * x * x ≤ p * 2 ^ 96))) ∧ Below w.heap.size w w' := by
  obtain ⟨i0, hi, hz0, hz1, hz2⟩ := info_parts infoU64
  have d0 : (x : Int) % 4096 = ((x % 4096 : Nat) : Int) := by omega
  obtain ⟨x0, hx0⟩ : ∃ y, x % 4096 = y := ⟨_, rfl⟩
  obtain ⟨x1, hx1⟩ : ∃ y, x / 4096 % 4096 = y := ⟨_, rfl⟩
  obtain ⟨x2, hx2⟩ : ∃ y, x / 16777216 % 4096 = y := ⟨_, rfl⟩
  obtain ⟨x3, hx3⟩ : ∃ y, x / 68719476736 = y := ⟨_, rfl⟩
  have r0 : (x : Int) % 4096 = (x0 : Int) := by omega
  have r1 : (x : Int) / 4096 % 4096 = (x1 : Int) := by omega
  have r2 : (x : Int) / 16777216 % 4096 = (x2 : Int) := by omega
  have r3 : (x : Int) / 68719476736 = (x3 : Int) := by omega
  have HV := Lib.hid (val_dig4 x)
  have HG := Lib.hid (dig4_lt x hx)
  rw [show dig4 x = [x0, x1, x2, x3] by rw [dig4, hx0, hx1, hx2, hx3]] at HV HG
  have hl4 : [x0, x1, x2, x3].length = 4 := rfl
  obtain ⟨l, hl⟩ : ∃ l, [x0, x1, x2, x3] = l := ⟨_, rfl⟩
  have HCC := Lib.hid (show (#[Value.int .u64 (x0 : Int), .int .u64 (x1 : Int), .int .u64 (x2 : Int), .int .u64 (x3 : Int)] : Array Value) = (V64 l).toArray by rw [← hl]; rfl)
  rw [hl] at HV HG hl4
  have HL4 := Lib.hid hl4
  clear hx0 hx1 hx2 hx3 hl d0 hl4
  go_enter Tryd.func39, Tryd.ntmps39
  go_wp2_with fail
  rw [HCC.out]
  clear r0 r1 r2 r3 HCC
  obtain ⟨U, hU, G1, G2, G3⟩ : ∃ U : World, U = w.alloc (.cells (V64 l).toArray 36) ∧ U.heap[w.heap.size]? = some (.cells (V64 l).toArray 36 (0, 0)) ∧ Below w.heap.size w U ∧ U.heap.size = w.heap.size + 1 := ⟨_, rfl, heap_alloc_new _ _, (Below.refl _ _).alloc (Nat.le_refl _) _, by simp⟩
  rw [← hU]
  clear hU
  have HRL : Hid (RN .u64 U (some ⟨w.heap.size, 0, none⟩) l) := Lib.hid (fun _ => ⟨w.heap.size, 0, rfl, by omega, fun j hj => by rw [Nat.zero_add]; exact Blk64.cell G1 hj⟩)
  have HB1 := Lib.hid G2
  have HM1 := Lib.hid (mul_any l l (some ⟨w.heap.size, 0, none⟩) (some ⟨w.heap.size, 0, none⟩) 4 4 U HRL.out HRL.out HG.out HG.out (by rw [HL4.out]; omega) (by rw [HL4.out]; omega))
  rw [HL4.out] at HM1
  clear G1 G2 G3
  refine HM1.out.mono ?_
  rintro e w1 ⟨n1, v1, rfl, m1, m2, m3, m4, m5, m6⟩
  rw [HV.out] at m1
  rw [HL4.out] at m3 m4
  clear HM1
  obtain ⟨A1, c1, rfl, q1, q2, q3⟩ := own_rn m5
  have HM2 := Lib.hid (mul_any n1 l A1 (some ⟨w.heap.size, 0, none⟩) c1 4 w1 q1 (HRL.out.to m6) (all_getD m2) HG.out (by omega) (by rw [HL4.out]; omega))
  rw [HL4.out] at HM2
  have HB2 := Lib.hid (HB1.out.trans (m6.mono HB1.out.size))
  have HV2 := Lib.hid (And.intro m1 (And.intro m3 m4))
  clear m1 m2 m3 m4 m5 m6 q1 q2 q3 HRL
  go_wp2_with fail
  refine HM2.out.mono ?_
  rintro e w2 ⟨n2, v2, rfl, m1, m2, m3, m4, m5, m6⟩
  rw [HV2.out.1, HV.out] at m1
  rw [HL4.out] at m3 m4
  have hlo : 12 ≤ n2.length := by have := HV2.out.2.1; omega
  have hhi : n2.length ≤ 24 := by have := HV2.out.2.2; omega
  have HB3 := Lib.hid (HB2.out.trans (m6.mono HB2.out.size))
  have ho : w2.ownsRow w.heap.size 36 1 v2 n2.length (V64 n2) := own_base m5 HB2.out.size
  clear m3 m4 m5 m6 HM2 HV2 HV HG HB2 HB1 HL4

  obtain ⟨N, hN⟩ : ∃ N, n2.length = N := ⟨_, rfl⟩
  obtain ⟨cn, hv⟩ : ∃ c, v2 = c := ⟨_, rfl⟩
  obtain ⟨nn, hnn⟩ : ∃ n, n2 = n := ⟨_, rfl⟩
  obtain ⟨wv, hwv⟩ : ∃ u, w2 = u := ⟨_, rfl⟩
  rw [hnn] at m1 m2 hN ho hlo hhi
  rw [hv, hwv] at ho
  rw [hv, hwv]
  rw [hwv] at HB3
  clear hnn hv hwv
  rw [hN] at ho hlo hhi
  obtain ⟨gn, cpn, rfl, hgn, hgl⟩ := ho.form (by omega)
  have HNN := Lib.hid (And.intro m1 (And.intro m2 hN))
  have HOW := Lib.hid ho
  clear m1 m2 hN ho
  have hmk : ∀ W, (Instr.makeSlice 79 (.int .i64 ((N : Int) + 2)) (.int .i64 ((N : Int) + 2))).run Tryd.prog W = .ok (.slice (some ⟨W.heap.size, 0, none⟩) (N + 2) (N + 2)) (W.alloc (.cells (V64 (List.replicate (N + 2) 0)).toArray 36)) := fun W => by
    rw [show (N : Int) + 2 = ((N + 2 : Nat) : Int) by omega]
    exact make64 (N + 2) (by omega) W
  have hc0 : ((wv.alloc (.cells (V64 (List.replicate (N + 2) 0)).toArray 36)).cell? ⟨wv.heap.size, 8, none⟩) = some (.int .u64 0) := by
    have h := Blk64.cell (l := List.replicate (N + 2) 0) (heap_alloc_new wv (.cells (V64 (List.replicate (N + 2) 0)).toArray 36)) (i := 8) (by simp; omega)
    rw [getD_zeros] at h
    exact h
  have hf0 : ((wv.alloc (.cells (V64 (List.replicate (N + 2) 0)).toArray 36)).frozen? ⟨wv.heap.size, 8, none⟩) = false := Blk64.free (l := List.replicate (N + 2) 0) (heap_alloc_new wv (.cells (V64 (List.replicate (N + 2) 0)).toArray 36)) 8
  go_wp2
  rw [V64_set]
  clear hmk hc0 hf0
  have H0 := Lib.hid (show WU wv wv.heap.size (N + 2) p 8 0 ((List.replicate (N + 2) 0).set 8 p) (wv.alloc (.cells (V64 ((List.replicate (N + 2) 0).set 8 p)).toArray 36)) from
    ⟨heap_alloc_new _ _, by simp, (Below.refl _ _).alloc (Nat.le_refl _) _, by rw [want_val _ _ _ (by omega)]; simp, fun k => by simpa using want_lt (N + 2) 8 p k⟩)
  go_loopw [11, 12] (fun i _ wr => ∃ (i' : Nat) (o : List Nat), i' ≤ 0 ∧ i = .int .i64 i' ∧ Hid (WU wv wv.heap.size (N + 2) p 8 i' o wr)) (fun i _ _ => 0 - (intOf i).toNat)
  case atStart => exact ⟨0, _, by omega, rfl, H0⟩
  case round =>
    obtain ⟨i, o, hi4, rfl, HI⟩ := hrel
    clear H0
    by_cases hlt : i < 0
    · exact absurd hlt (by omega)
    · obtain rfl : i = 0 := by omega
      have HC := Lib.hid (carried_any o (some ⟨wv.heap.size, 0, none⟩) (N + 2) wr (fun _ => ⟨wv.heap.size, 0, rfl, (Array.getElem?_eq_some_iff.1 HI.out.blk).1, fun j hj => by rw [Nat.zero_add]; exact HI.out.blk.cell hj⟩) (fun j => by
        have := HI.out.lt j
        omega) (by rw [HI.out.len]; omega))
      rw [HI.out.len] at HC
      go_wp2_with fail
      refine HC.out.mono ?_
      rintro e w3 ⟨wl, vw, rfl, c1, c2, c3, c4, c5, c6⟩
      rw [HI.out.val] at c1
      rw [HI.out.len] at c3 c4
      obtain ⟨Aw, cw, rfl, c7, c8, c9⟩ := own_rn c5
      obtain ⟨gb, ob, rfl, hgb, hcb⟩ := c7 (by omega)
      have hge : wr.heap.size ≤ gb := own_le c5 gb rfl
      have hbw : Below wv.heap.size wv w3 := HI.out.below.trans (c6.mono HI.out.below.size)
      have hlw : wv.heap.size ≤ wr.heap.size := HI.out.below.size
      have HNW := Lib.hid (show NW w (x * x * x) nn wl gn cpn gb ob w3 from ⟨by rw [HNN.out.2.2]; exact own_below' HOW.out hbw, hgb, by omega, hcb, HB3.out.trans (hbw.mono HB3.out.size), HNN.out.1, HNN.out.2.1⟩)
      have HWL := Lib.hid (And.intro c1 c2)
      have hnl := HNN.out.2.2
      clear c1 c2 c5 c6 c7 c8 c9 hcb hbw HC HI HOW HNN HB3 hgb hge hlw hgn hgl
      have hnw : nn.length ≤ wl.length := by omega
      rw [← hnl]
      clear hnl
      go_wp2
      go_loopw [8] (fun v wr => ∃ (mm : List Nat) (g cap : Nat), mm.length ≤ wl.length ∧ v = .slice (some ⟨g, 0, none⟩) mm.length cap ∧ Hid (NW w (x * x * x) mm wl g cap gb ob wr)) (fun v _ => wl.length - lenV v)
      case atStart => exact ⟨nn, gn, cpn, hnw, rfl, HNW⟩
      case round =>
        obtain ⟨mm, g, cap, hmw, rfl, HM⟩ := hrel
        clear HNW hnw
        by_cases hlm : mm.length < wl.length
        · have hbs := HM.out.below.size
          go_wp2_with (at_builtin; refine wpList_append_lies _ rfl _ _ 79 rfl w.heap.size 36 i0 (.int .u64 0) 1 8 Tryd.underlying79 hi hz0 hz1 hz2 rfl (by decide) _ _ _ rfl (HM.out.own.alloc _) ⟨wr.heap.size, 0, none⟩ 1 1 [.int .u64 0] rfl rfl ?c1 ?c2 (by decide) ?c3 ?c4 ?c5 (wr.heap.size + 1) (by simp) ?_)
          case c1 =>
            intro q u hq
            match q, hq with
            | 0, hq => simp at hq; subst hq; simp [Addr.add]
          case c2 => intro u hu; simp at hu; subst hu; rfl
          case c3 => unfold maxLen; omega
          case c4 => omega
          case c5 => simp; omega
          · intro g' cap' w1 hown1 hgrow hat _
            have HM2 := Lib.hid (HM.out.next hown1 hgrow hat)
            clear hown1 hgrow hat HM
            go_wp2
            go_roundw
            case rel => exact ⟨mm ++ [0], g', cap', by simp; omega, by simp, HM2⟩
            case measure => simp [lenV]; omega
        · have hKK : mm.length = wl.length := by omega
          have hbs := HM.out.below
          have HMC := Lib.hid (fun i (hi : i < wl.length) => (HM.out.own.cellAt i (by omega)).trans (V64_get (by omega)))
          have HWC := Lib.hid HM.out.wcell
          have HF := Lib.hid (cmp_final mm wl HM.out.lt HWL.out.2 hKK)
          have HFV := Lib.hid (And.intro HM.out.val HWL.out.1)
          rw [hKK] at HF ⊢
          obtain ⟨K, hK⟩ : ∃ K, wl.length = K := ⟨_, rfl⟩
          have hK1 : 1 ≤ K := by omega
          have hK2 : K ≤ 1000 := by omega
          rw [hK] at HF HMC HWC ⊢
          clear HM HWL hKK hlm hmw hK
          have s1 : IntKind.i64.wrap ((K : Int) - 1) = (K : Int) - 1 := IntWalk.i64_in _ (by omega)
          go_wp2
          go_loop [13, 14] (fun i _ => ∃ k : Nat, k ≤ K ∧ i = .int .i64 ((k : Int) - 1) ∧ Hid (cmpD (fun i => mm.getD i 0) (fun i => wl.getD i 0) k = decide (val mm ≤ val wl))) (fun i _ => (intOf i + 1).toNat)
          case atStart => exact ⟨K, by omega, rfl, HF⟩
          case round =>
            obtain ⟨k, hk, rfl, HR⟩ := hrel
            clear HF
            cases k with
            | zero =>
              have hR := HR.out
              rw [cmpD] at hR
              have hm1 : ((0 : Nat) : Int) - 1 = -1 := by omega
              rw [hm1]
              have HR2 := Lib.hid hR
              clear HR hm1 s1 hK1 hK2 hR
              go_wp2
              go_ret
              have hR := HR2.out
              exact ⟨by rw [HFV.out.1, HFV.out.2] at hR; rw [show p * 2 ^ 96 = 2 ^ 0 * (4096 ^ 8 * p) by rw [← Nat.mul_assoc, Nat.mul_comm p]]; rw [← hR]; simp, hbs⟩
            | succ j =>
              rw [show ((j + 1 : Nat) : Int) - 1 = (j : Int) by omega]
              have cM := HMC.out j (by omega)
              have cW := HWC.out j (by omega)
              have hR := HR.out
              rw [cmpD] at hR
              obtain ⟨a, ha⟩ : ∃ a, mm.getD j 0 = a := ⟨_, rfl⟩
              obtain ⟨b, hb⟩ : ∃ b, wl.getD j 0 = b := ⟨_, rfl⟩
              rw [ha] at cM hR
              rw [hb] at cW hR
              have hjK : j < K := by omega
              clear ha hb HR
              have s2 : IntKind.i64.wrap ((j : Int) - 1) = (j : Int) - 1 := IntWalk.i64_in _ (by omega)
              by_cases hab : a = b
              · rw [if_pos hab] at hR
                have HR2 := Lib.hid hR
                subst hab
                have hne : ((a : Int) != (a : Int)) = false := by simp
                clear hR
                go_wp2
                go_round
                case rel => exact ⟨j, by omega, by simp, HR2⟩
                case measure => simp [intOf]
              · rw [if_neg hab] at hR
                have hne : ((a : Int) != (b : Int)) = true := by simp; omega
                have HR2 := Lib.hid hR
                clear hR hab
                go_wp2
                go_ret
                have hR := HR2.out
                rw [HFV.out.1, HFV.out.2] at hR
                exact ⟨by rw [show p * 2 ^ 96 = 2 ^ 0 * (4096 ^ 8 * p) by rw [← Nat.mul_assoc, Nat.mul_comm p]]; rw [← hR]; simp, hbs⟩
end Go.Proofs.YtakfcdemoaogfaaDoor
