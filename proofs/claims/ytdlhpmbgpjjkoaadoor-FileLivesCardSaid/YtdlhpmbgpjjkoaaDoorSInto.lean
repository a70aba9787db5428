/-
  Proved here, for every state and every block of 64 bytes, where the table of constants is as the program lays it: sha's goInto answers what 'goIntoS' says, and nothing that was there is changed.
-/
import Derived.Test.YtdlhpmbgpjjkoaaDoorSWords
namespace Go.Proofs.YtdlhpmbgpjjkoaaDoor
open Go.RowKit
/-- The constants. -/
def kk : List Nat := [
  0x428a2f98, 0x71374491, 0xb5c0fbcf, 0xe9b5dba5, 0x3956c25b, 0x59f111f1, 0x923f82a4, 0xab1c5ed5,
  0xd807aa98, 0x12835b01, 0x243185be, 0x550c7dc3, 0x72be5d74, 0x80deb1fe, 0x9bdc06a7, 0xc19bf174,
  0xe49b69c1, 0xefbe4786, 0x0fc19dc6, 0x240ca1cc, 0x2de92c6f, 0x4a7484aa, 0x5cb0a9dc, 0x76f988da,
  0x983e5152, 0xa831c66d, 0xb00327c8, 0xbf597fc7, 0xc6e00bf3, 0xd5a79147, 0x06ca6351, 0x14292967,
  0x27b70a85, 0x2e1b2138, 0x4d2c6dfc, 0x53380d13, 0x650a7354, 0x766a0abb, 0x81c2c92e, 0x92722c85,
  0xa2bfe8a1, 0xa81a664b, 0xc24b8b70, 0xc76c51a3, 0xd192e819, 0xd6990624, 0xf40e3585, 0x106aa070,
  0x19a4c116, 0x1e376c08, 0x2748774c, 0x34b0bcb5, 0x391c0cb3, 0x4ed8aa4a, 0x5b9cca4f, 0x682e6ff3,
  0x748f82ee, 0x78a5636f, 0x84c87814, 0x8cc70208, 0x90befffa, 0xa4506ceb, 0xbef9a3f7, 0xc67178f2]
/-- The table of constants, as it lies in memory. -/
structure Tab (w : World) : Prop where
  cell : ∀ i, i < 64 → w.cell? ⟨0, i, none⟩ = some (.int .u32 (kk.getD i 0 : Nat))
  big : 0 < w.heap.size
theorem Tab.below {B : Nat} {w w' : World} (h : Tab w) (hb : Below B w w') (hB : 0 < B) : Tab w' :=
  ⟨fun i hi => (hb.cell (p := ⟨0, i, none⟩) hB).trans (h.cell i hi), Nat.lt_of_lt_of_le h.big hb.size⟩
theorem Tab.to {w w' : World} (h : Tab w) (hb : Below w.heap.size w w') : Tab w' := h.below hb h.big

structure S8 where
  a : Nat
  b : Nat
  c : Nat
  d : Nat
  e : Nat
  f : Nat
  g : Nat
  h : Nat
def S8.list (s : S8) : List Nat := [s.a, s.b, s.c, s.d, s.e, s.f, s.g, s.h]
def S8.t (s : S8) (k w : Nat) : Nat := add32 (add32 (add32 (add32 s.h (xor32 (xor32 (rot32 6 s.e) (rot32 11 s.e)) (rot32 25 s.e))) (xor32 (and32 s.e s.f) (and32 (not32 s.e) s.g))) k) w
def S8.u (s : S8) : Nat := add32 (xor32 (xor32 (rot32 2 s.a) (rot32 13 s.a)) (rot32 22 s.a)) (xor32 (xor32 (and32 s.a s.b) (and32 s.a s.c)) (and32 s.b s.c))
def S8.next (s : S8) (k w : Nat) : S8 := ⟨add32 (s.t k w) s.u, s.a, s.b, s.c, add32 s.d (s.t k w), s.e, s.f, s.g⟩
def rdS (ws : List Nat) (s : S8) : Nat → S8
  | 0 => s
  | i + 1 => (rdS ws s i).next (kk.getD i 0) (ws.getD i 0)
/-- What lies in memory while a block goes into a state: the state, the block, the answer's place. -/
structure G0 (w : World) (s : S8) (blk : List Nat) (W : World) : Prop where
  st : Blk32 W w.heap.size 82 s.list
  blk : W.heap[w.heap.size + 1]? = some (.cells (V8 blk).toArray 83 (0, 0))
  ans : Blk32 W (w.heap.size + 1 + 1) 82 (List.replicate 8 0)
  size : w.heap.size + 3 ≤ W.heap.size
  below : Below w.heap.size w W
  tab : Tab W
theorem G0.drewN {w : World} {s : S8} {blk : List Nat} {W : World} (h : G0 w s blk W) (n : Nat) : G0 w s blk (W.drewN n) := ⟨h.st, h.blk, h.ans, h.size, belowN h.below n, ⟨h.tab.cell, h.tab.big⟩⟩
theorem G0.to {w : World} {s : S8} {blk : List Nat} {W W' : World} (h : G0 w s blk W) (hb : Below W.heap.size W W') : G0 w s blk W' := by
  have hz := h.size
  exact ⟨(hb.block _ (by omega)).trans h.st, (hb.block _ (by omega)).trans h.blk, (hb.block _ (by omega)).trans h.ans, Nat.le_trans h.size hb.size, h.below.trans (hb.mono h.below.size), h.tab.to hb⟩
theorem u32_not (a : Nat) : bits .xor .u32 (if IntKind.u32.signed = true then -1 else IntKind.u32.max) (a : Int) = ((not32 a : Nat) : Int) := by
  have e : (if IntKind.u32.signed = true then -1 else IntKind.u32.max) = (4294967295 : Int) := by decide
  rw [e, bits_u32]
  have h : BitVec.ofInt 32 4294967295 = BitVec.allOnes 32 := by decide
  simp only [h, BitVec.allOnes_xor, BitVec.toNat_not, ofInt32, not32]
def addTo (st v : List Nat) : Nat → List Nat
  | 0 => st
  | k + 1 => (addTo st v k).set k (add32 ((addTo st v k).getD k 0) (v.getD k 0))
theorem length_addTo (st v : List Nat) : ∀ k, (addTo st v k).length = st.length
  | 0 => rfl
  | k + 1 => by simp [addTo, length_addTo st v k]
def S8.plus (s S : S8) : S8 := ⟨add32 s.a S.a, add32 s.b S.b, add32 s.c S.c, add32 s.d S.d, add32 s.e S.e, add32 s.f S.f, add32 s.g S.g, add32 s.h S.h⟩
theorem addTo_eight (s S : S8) : addTo s.list S.list 8 = (s.plus S).list := rfl
/-- What a state becomes when a block goes into it. -/
def goIntoS (s : S8) (blk : List Nat) : S8 := s.plus (rdS (wordsS blk) s 64)
structure G1 (w : World) (l : List Nat) (W : World) : Prop where
  st : Blk32 W w.heap.size 82 l
  ans : Blk32 W (w.heap.size + 1 + 1) 82 (List.replicate 8 0)
  size : w.heap.size + 3 ≤ W.heap.size
  below : Below w.heap.size w W
theorem info34 : (Tryd.prog.info? 82).map (·.size) = some 8 := by kernel_rfl
theorem turn_any (z : Int) (x : Nat) (w : World) (hz : z = 2 ∨ z = 6 ∨ z = 11 ∨ z = 13 ∨ z = 22 ∨ z = 25) : Calls Tryd.prog 54 #[.int .u32 x, .int .i64 z] w fun e w' => e = .returned (.int .u32 (rot32 z.toNat x : Nat)) ∧ w = w' := by
  rcases hz with rfl | rfl | rfl | rfl | rfl | rfl
  · exact turn2 x w
  · exact turn6 x w
  · exact turn11 x w
  · exact turn13 x w
  · exact turn22 x w
  · exact turn25 x w
theorem turn_still (z : Int) (x : Nat) (w : World) (n : Nat) (hz : z = 2 ∨ z = 6 ∨ z = 11 ∨ z = 13 ∨ z = 22 ∨ z = 25) : Calls Tryd.prog 54 #[.int .u32 x, .int .i64 z] (w.drewN n) fun e w' => e = .returned (.int .u32 (rot32 z.toNat x : Nat)) ∧ ∃ m, w' = w.drewN m :=
  (turn_any z x _ hz).mono fun _ _ ⟨he, hw⟩ => ⟨he, n, hw.symm⟩
theorem agg33 : ∀ w, (isAgg 81).run Tryd.prog w = .ok false w := fun _ => by kernel_rfl
theorem size33 : ∀ w, (sizeOf 81).run Tryd.prog w = .ok 1 w := fun _ => by kernel_rfl
theorem ix34 (S : S8) (i : Nat) (hi : i < 8) (w : World) : (Instr.index 82 (.agg #[.int .u32 (S.a : Int), .int .u32 (S.b : Int), .int .u32 (S.c : Int), .int .u32 (S.d : Int), .int .u32 (S.e : Int), .int .u32 (S.f : Int), .int .u32 (S.g : Int), .int .u32 (S.h : Int)]) (.int .i64 (i : Int))).run Tryd.prog w = .ok (.int .u32 (S.list.getD i 0 : Nat)) w :=
  ix_agg w 82 81 8 (V32 S.list).toArray i _ Tryd.underlying82 agg33 size33 hi (by simpa using V32_get (l := S.list) (i := i) hi)
theorem ix72 (l : List Nat) (hl : l.length = 64) (i : Nat) (hi : i < 64) (w : World) : (Instr.index 89 (.agg (V32 l).toArray) (.int .i64 (i : Int))).run Tryd.prog w = .ok (.int .u32 (l.getD i 0 : Nat)) w :=
  ix_agg w 89 81 64 _ i _ Tryd.underlying89 agg33 size33 hi (by simpa using V32_get (by omega))

set_option maxRecDepth 100000 in
set_option maxHeartbeats 1000000 in
theorem goInto_ws (s : S8) (blk ws : List Nat) (w : World) (hl : blk.length = 64) (hlw : ws.length = 64) (hT : Tab w) (hw : ∀ W : World, Calls Tryd.prog 53 #[.agg (V8 blk).toArray] W fun e w' => e = .returned (.agg (V32 ws).toArray) ∧ Below W.heap.size W w') :
    Calls Tryd.prog 50 #[.agg (V32 s.list).toArray, .agg (V8 blk).toArray] w fun e w' => e = .returned (.agg (V32 (s.plus (rdS ws s 64)).list).toArray) ∧ Below w.heap.size w w' := by
  have HW := Lib.hid hw
  have HLW := Lib.hid hlw
  clear hw hlw
  have HL := Lib.hid hl
  have hsz : (V8 blk).toArray.size = 64 := by simp [hl]
  have HI : (Tryd.prog.info? 83).map (·.size) = some (V8 blk).toArray.size := by rw [hsz]; exact info35
  have HII := Lib.hid HI
  clear HI hsz hl
  go_enter Tryd.func50, Tryd.ntmps50
  go_wp2
  have b0 : Blk32 (((w.alloc (.cells (V32 s.list).toArray 82)).alloc (.cells (V8 blk).toArray 83)).alloc (.cells #[.int .u32 0, .int .u32 0, .int .u32 0, .int .u32 0, .int .u32 0, .int .u32 0, .int .u32 0, .int .u32 0] 82)) w.heap.size 82 s.list := (old_block _ _ _ (by simp; omega)).trans ((old_block _ _ _ (by simp)).trans (heap_alloc_new _ _))
  have b1 : (((w.alloc (.cells (V32 s.list).toArray 82)).alloc (.cells (V8 blk).toArray 83)).alloc (.cells #[.int .u32 0, .int .u32 0, .int .u32 0, .int .u32 0, .int .u32 0, .int .u32 0, .int .u32 0, .int .u32 0] 82)).heap[w.heap.size + 1]? = some (.cells (V8 blk).toArray 83 (0, 0)) := (old_block _ _ _ (by simp)).trans (new_block _ _ _ (by simp))
  have b2 : Blk32 (((w.alloc (.cells (V32 s.list).toArray 82)).alloc (.cells (V8 blk).toArray 83)).alloc (.cells #[.int .u32 0, .int .u32 0, .int .u32 0, .int .u32 0, .int .u32 0, .int .u32 0, .int .u32 0, .int .u32 0] 82)) (w.heap.size + 1 + 1) 82 (List.replicate 8 0) := new_block _ _ _ (by simp)
  have bs : (((w.alloc (.cells (V32 s.list).toArray 82)).alloc (.cells (V8 blk).toArray 83)).alloc (.cells #[.int .u32 0, .int .u32 0, .int .u32 0, .int .u32 0, .int .u32 0, .int .u32 0, .int .u32 0, .int .u32 0] 82)).heap.size = w.heap.size + 3 := by simp
  have hb : Below w.heap.size w (((w.alloc (.cells (V32 s.list).toArray 82)).alloc (.cells (V8 blk).toArray 83)).alloc (.cells #[.int .u32 0, .int .u32 0, .int .u32 0, .int .u32 0, .int .u32 0, .int .u32 0, .int .u32 0, .int .u32 0] 82)) := (((Below.refl _ _).alloc (Nat.le_refl _) _).alloc (by simp) _).alloc (by simp; omega) _
  generalize (((w.alloc (.cells (V32 s.list).toArray 82)).alloc (.cells (V8 blk).toArray 83)).alloc (.cells #[.int .u32 0, .int .u32 0, .int .u32 0, .int .u32 0, .int .u32 0, .int .u32 0, .int .u32 0, .int .u32 0] 82)) = W at b0 b1 b2 bs hb ⊢
  have HB := Lib.hid (G0.mk (s := s) (blk := blk) b0 b1 b2 (by omega) hb (hT.to hb))
  clear b0 b1 b2 bs hb hT
  have l8 : s.list.length = 8 := rfl
  have c0 : W.cell? ⟨w.heap.size, 0, none⟩ = some (.int .u32 (s.a : Int)) := HB.out.st.cell (i := 0) (by omega)
  have c1 : W.cell? ⟨w.heap.size, 1, none⟩ = some (.int .u32 (s.b : Int)) := HB.out.st.cell (i := 1) (by omega)
  have c2 : W.cell? ⟨w.heap.size, 2, none⟩ = some (.int .u32 (s.c : Int)) := HB.out.st.cell (i := 2) (by omega)
  have c3 : W.cell? ⟨w.heap.size, 3, none⟩ = some (.int .u32 (s.d : Int)) := HB.out.st.cell (i := 3) (by omega)
  clear l8
  go_quiet (fail)
  have HB1 := Lib.hid (HB.out.drewN nq)
  clear c0 c1 c2 c3 HB
  generalize W.drewN nq = W1 at HB1 ⊢
  have l8 : s.list.length = 8 := rfl
  have c4 : W1.cell? ⟨w.heap.size, 4, none⟩ = some (.int .u32 (s.e : Int)) := HB1.out.st.cell (i := 4) (by omega)
  have c5 : W1.cell? ⟨w.heap.size, 5, none⟩ = some (.int .u32 (s.f : Int)) := HB1.out.st.cell (i := 5) (by omega)
  have c6 : W1.cell? ⟨w.heap.size, 6, none⟩ = some (.int .u32 (s.g : Int)) := HB1.out.st.cell (i := 6) (by omega)
  have c7 : W1.cell? ⟨w.heap.size, 7, none⟩ = some (.int .u32 (s.h : Int)) := HB1.out.st.cell (i := 7) (by omega)
  clear l8
  go_wp2
  go_quiet (fail)
  have HB2 := Lib.hid (HB1.out.drewN nq)
  clear c4 c5 c6 c7 HB1
  generalize W1.drewN nq = W2 at HB2 ⊢
  go_wp2_with (first | (refine wpList_load_row rfl 83 _ rfl (w.heap.size + 1) rfl 83 (V8 blk).toArray (0,0) _ HB2.out.blk Tryd.underlying83 rfl HII.out ?_) | (go_at_call 53; refine (HW.out _).mono ?_; rintro e w3 ⟨rfl, hb3⟩))
  have HB3 := Lib.hid (HB2.out.to hb3)
  clear hb3 HB2
  clear HL HII HW
  go_loopw [5, 6, 7, 8, 9, 10, 11, 12, 13, 14, 15, 16, 37] (fun a b c d e f g h _ _ _ _ i wr => ∃ k : Nat, k ≤ 64 ∧ i = .int .i64 k ∧ a = .int .u32 ((rdS ws s k).a : Nat) ∧ b = .int .u32 ((rdS ws s k).b : Nat) ∧ c = .int .u32 ((rdS ws s k).c : Nat) ∧ d = .int .u32 ((rdS ws s k).d : Nat) ∧ e = .int .u32 ((rdS ws s k).e : Nat) ∧ f = .int .u32 ((rdS ws s k).f : Nat) ∧ g = .int .u32 ((rdS ws s k).g : Nat) ∧ h = .int .u32 ((rdS ws s k).h : Nat) ∧ Hid (G0 w s blk wr)) (fun _ _ _ _ _ _ _ _ _ _ _ _ i _ => 64 - (intOf i).toNat)
  case atStart => exact ⟨0, by omega, rfl, rfl, rfl, rfl, rfl, rfl, rfl, rfl, rfl, HB3⟩
  case round =>
    obtain ⟨k, hk, rfl, rfl, rfl, rfl, rfl, rfl, rfl, rfl, rfl, HG⟩ := hrel
    by_cases hlt : k < 64
    · have ix := ix72 ws HLW.out k hlt
      have ck := HG.out.tab.cell k hlt
      obtain ⟨x, hx⟩ : ∃ x, ws.getD k 0 = x := ⟨_, rfl⟩
      obtain ⟨y, hy⟩ : ∃ y, kk.getD k 0 = y := ⟨_, rfl⟩
      obtain ⟨S, hS⟩ : ∃ S, rdS ws s k = S := ⟨_, rfl⟩
      rw [hx] at ix
      rw [hy] at ck
      rw [hS]
      have HX := Lib.hid (And.intro hx (And.intro hy hS))
      clear hx hy hS
      obtain ⟨a, b, c, d, e, f, g, h⟩ := S
      have r1 := u32_add
      have r2 := u32_xor
      have r3 := u32_and
      have r4 := u32_not
      go_wp2
      go_quiet ((go_at_call 54; exact turn_still _ _ _ _ (by decide)))
      have HG1 := Lib.hid (HG.out.drewN nq)
      clear ck HG
      generalize wr.drewN nq = wq at HG1 ⊢
      go_wp2_with (go_at_call 54; refine (turn_any _ _ _ (by decide)).mono ?_; rintro e w' ⟨rfl, rfl⟩)
      go_roundw
      case rel =>
        obtain ⟨hx, hy, hS⟩ := HX.out
        refine ⟨k + 1, by omega, by go_num, ?_⟩
        rw [rdS, hx, hy, hS]
        exact ⟨rfl, rfl, rfl, rfl, rfl, rfl, rfl, rfl, HG1⟩
      case measure => simp [intOf]; omega
    · obtain rfl : k = 64 := by omega
      have H0 := Lib.hid (show G1 w s.list wr from ⟨HG.out.st, HG.out.ans, HG.out.size, HG.out.below⟩)
      clear HG
      rw [show ((64 : Nat) : Int) = (64 : Int) from rfl]
      generalize hS : rdS ws s 64 = S
      have HS := Lib.hid hS
      clear hS
      go_wp2
      go_loopw [17, 18, 108] (fun _ _ i wr => ∃ k : Nat, k ≤ 8 ∧ i = .int .i64 k ∧ Hid (G1 w (addTo s.list S.list k) wr)) (fun _ _ i _ => 8 - (intOf i).toNat)
      case atStart => exact ⟨0, by omega, rfl, H0⟩
      case round =>
        obtain ⟨j, hj, rfl, HG⟩ := hrel
        have l8 : ∀ k, (addTo s.list S.list k).length = 8 := fun k => length_addTo _ _ k
        by_cases hlj : j < 8
        · have cj := HG.out.st.cell (i := j) (by rw [l8]; omega)
          have fj := HG.out.st.free j
          have ix := ix34 S j hlj
          obtain ⟨x, hx⟩ : ∃ x, S.list.getD j 0 = x := ⟨_, rfl⟩
          obtain ⟨y, hy⟩ : ∃ y, (addTo s.list S.list j).getD j 0 = y := ⟨_, rfl⟩
          rw [hx] at ix
          rw [hy] at cj
          have HX := Lib.hid (And.intro hx hy)
          clear hx hy l8
          have r1 := u32_add
          go_wp2
          go_roundw
          case rel =>
            obtain ⟨hx, hy⟩ := HX.out
            refine ⟨j + 1, by omega, by go_num, Lib.hid ⟨?_, HG.out.ans.other _ _ (by simp only [ne_eq]; omega), by simpa using HG.out.size, HG.out.below.setCell (by simp) _⟩⟩
            have := HG.out.st.set j (add32 y x)
            rw [addTo, hx, hy]
            exact this
          case measure => simp [intOf]; omega
        · obtain rfl : j = 8 := by omega
          have hsz : (Tryd.prog.info? 82).map (·.size) = some (V32 (addTo s.list S.list 8)).toArray.size := by rw [show (V32 (addTo s.list S.list 8)).toArray.size = 8 by simp [l8]]; exact info34
          have HZ := Lib.hid hsz
          clear hsz l8
          go_wp2_with (first | refine wpList_load_row rfl 82 _ rfl w.heap.size rfl 82 (V32 (addTo s.list S.list 8)).toArray (0,0) _ HG.out.st Tryd.underlying82 rfl HZ.out ?_ | refine wpList_store_row rfl 82 _ _ rfl (w.heap.size + 1 + 1) _ rfl rfl 82 (V32 (List.replicate 8 0)).toArray HG.out.ans HZ.out ?c1 ?c2 ?_)
          case c1 => simp [length_addTo, S8.list]
          case c2 => simpa using one_V32 (addTo s.list S.list 8)
          refine bodyPost_ret (v := .agg (V32 (addTo s.list S.list 8)).toArray) (results_cell_row (p := 4) (ty := 82) Tryd.results50 _ _ (w.heap.size + 1 + 1) 82 _ (0, 0) _ rfl (setRow_heap _ _ _ _ _ _ HG.out.ans) Tryd.underlying82 rfl HZ.out) rfl ⟨?_, below_setRow HG.out.below (by omega) _⟩
          rw [addTo_eight, ← HS.out]

theorem goInto_any (s : S8) (blk : List Nat) (w : World) (hl : blk.length = 64) (hT : Tab w) : Calls Tryd.prog 50 #[.agg (V32 s.list).toArray, .agg (V8 blk).toArray] w fun e w' => e = .returned (.agg (V32 (goIntoS s blk).list).toArray) ∧ Below w.heap.size w w' :=
  goInto_ws s blk (wordsS blk) w hl (length_wordsS blk) hT fun W => words_any blk W hl
end Go.Proofs.YtdlhpmbgpjjkoaaDoor
