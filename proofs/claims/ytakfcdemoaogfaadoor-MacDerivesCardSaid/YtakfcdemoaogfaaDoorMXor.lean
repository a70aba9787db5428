/-
  Proved here, for every array of 64 bytes and every byte: mac's xored answers each of them xor'ed with it, as 'xorS' says, and nothing that was there is changed.
-/
import Derived.Test.YtakfcdemoaogfaaDoorSAlive
namespace Go.Proofs.YtakfcdemoaogfaaDoor
open Go.RowKit
def xor8 (a b : Nat) : Nat := (a ^^^ b) % 256
def or8 (a b : Nat) : Nat := (a ||| b) % 256
theorem ofInt8 (a : Nat) : (BitVec.ofInt 8 (a : Int)).toNat = a % 256 := by simp
theorem bits_u8 (op : BinOp) (a b : Int) : bits op .u8 a b = (((match op with | .and => BitVec.ofInt 8 a &&& BitVec.ofInt 8 b | .or => BitVec.ofInt 8 a ||| BitVec.ofInt 8 b | .xor => BitVec.ofInt 8 a ^^^ BitVec.ofInt 8 b | _ => BitVec.ofInt 8 a &&& ~~~ BitVec.ofInt 8 b).toNat : Nat) : Int) := by
  unfold bits
  have h : ∀ v : BitVec 8, IntKind.u8.wrap (v.toNat : Int) = (v.toNat : Int) := by
    intro v
    have := v.isLt
    simp [IntKind.wrap, IntKind.bits, IntKind.signed]
    omega
  cases op <;> exact h _
theorem u8_xor (a b : Nat) : bits .xor .u8 (a : Int) (b : Int) = ((xor8 a b : Nat) : Int) := by
  rw [bits_u8]
  simp only [BitVec.toNat_xor, ofInt8, xor8]
  rw [show (256 : Nat) = 2 ^ 8 from rfl, Nat.xor_mod_two_pow]
theorem u8_or (a b : Nat) : bits .or .u8 (a : Int) (b : Int) = ((or8 a b : Nat) : Int) := by
  rw [bits_u8]
  simp only [BitVec.toNat_or, ofInt8, or8]
  rw [show (256 : Nat) = 2 ^ 8 from rfl, Nat.or_mod_two_pow]
/-- The first k bytes are xor'ed. -/
def xo (l : List Nat) (y : Nat) : Nat → List Nat
  | 0 => l
  | k + 1 => (xo l y k).set k (xor8 ((xo l y k).getD k 0) y)
theorem length_xo (l : List Nat) (y : Nat) : ∀ k, (xo l y k).length = l.length
  | 0 => rfl
  | k + 1 => by simp [xo, length_xo l y k]
def xorS (l : List Nat) (y : Nat) : List Nat := xo l y 64
structure XK (w : World) (l : List Nat) (W : World) : Prop where
  key : Blk8 W w.heap.size 35 l
  ans : Blk8 W (w.heap.size + 1) 35 (List.replicate 64 0)
  size : W.heap.size = w.heap.size + 2
  below : Below w.heap.size w W

set_option maxRecDepth 100000 in
set_option maxHeartbeats 1000000 in
theorem xored_any (l : List Nat) (y : Nat) (w : World) (hl : l.length = 64) : Calls Tryd.prog 31 #[.agg (V8 l).toArray, .int .u8 (y : Int)] w fun e w' => e = .returned (.agg (V8 (xorS l y)).toArray) ∧ Below w.heap.size w w' := by
  have HL := Lib.hid hl
  clear hl
  go_enter Tryd.func31, Tryd.ntmps31
  go_wp2
  go_loopw [5, 6] (fun _ i wr => ∃ k : Nat, k ≤ 64 ∧ i = .int .i64 k ∧ Hid (XK w (xo l y k) wr)) (fun _ i _ => 64 - (intOf i).toNat)
  case atStart => exact ⟨0, by omega, rfl, Lib.hid ⟨(old_block _ _ _ (by simp)).trans (heap_alloc_new _ _), new_block _ _ _ (by simp), by simp, ((Below.refl _ _).alloc (Nat.le_refl _) _).alloc (by simp) _⟩⟩
  case round =>
    obtain ⟨k, hk, rfl, HK⟩ := hrel
    by_cases hlt : k < 64
    · have ck := HK.out.key.cell (i := k) (by rw [length_xo, HL.out]; exact hlt)
      have fk := HK.out.key.free k
      obtain ⟨x, hx⟩ : ∃ x, (xo l y k).getD k 0 = x := ⟨_, rfl⟩
      rw [hx] at ck
      have HX := Lib.hid hx
      clear hx
      have r := u8_xor
      go_wp2
      go_roundw
      case rel =>
        refine ⟨k + 1, by omega, by go_num, Lib.hid ⟨?_, HK.out.ans.other _ _ (by simp only [ne_eq]; omega), by simp [HK.out.size], HK.out.below.setCell (by simp) _⟩⟩
        have := HK.out.key.set k (xor8 x y)
        rw [xo, HX.out]
        exact this
      case measure => simp [intOf]; omega
    · obtain rfl : k = 64 := by omega
      have hsz : (Tryd.prog.info? 35).map (·.size) = some (V8 (xorS l y)).toArray.size := by rw [show (V8 (xorS l y)).toArray.size = 64 by simp [xorS, length_xo, HL.out]]; exact info35
      have HS := Lib.hid hsz
      clear hsz
      have HZ := Lib.hid (show XK w (xorS l y) wr from HK.out)
      clear HK
      have HA := Lib.hid (show ((List.replicate 64 0).length = (xorS l y).length) by simp [xorS, length_xo, HL.out])
      go_wp2_with (first | refine wpList_load_row rfl 35 _ rfl w.heap.size rfl 35 (V8 (xorS l y)).toArray (0,0) _ HZ.out.key Tryd.underlying35 rfl HS.out ?_ | refine wpList_store_row rfl 35 _ _ rfl (w.heap.size + 1) _ rfl rfl 35 (V8 (List.replicate 64 0)).toArray HZ.out.ans HS.out ?c1 ?c2 ?_)
      case c1 => simpa using HA.out
      case c2 => simpa using one_V8 (xorS l y)
      exact bodyPost_ret (v := .agg (V8 (xorS l y)).toArray) (results_cell_row (p := 4) (ty := 35) Tryd.results31 _ _ (w.heap.size + 1) 35 _ (0, 0) _ rfl (setRow_heap _ _ _ _ _ _ HZ.out.ans) Tryd.underlying35 rfl HS.out) rfl ⟨rfl, below_setRow HZ.out.below (by omega) _⟩
end Go.Proofs.YtakfcdemoaogfaaDoor
