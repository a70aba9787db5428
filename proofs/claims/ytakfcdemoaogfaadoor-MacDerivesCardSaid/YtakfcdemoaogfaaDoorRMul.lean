/-
  Proved here, for every two slices that read as at most 16 digits of 4096 each: the document's own 'mul' answers digits of their product, in memory of its own.
-/
import Derived.Test.YtakfcdemoaogfaaDoorRCar
import Derived.Test.YtakfcdemoaogfaaDoorSWords
namespace Go.Proofs.YtakfcdemoaogfaaDoor
open Go.RowKit
def Blk64 (w : World) (g : Nat) (l : List Nat) : Prop := w.heap[g]? = some (.cells (V64 l).toArray 36 (0, 0))
theorem Blk64.cell {w : World} {g : Nat} {l : List Nat} (h : Blk64 w g l) {i : Nat} (hi : i < l.length) : w.cell? ⟨g, i, none⟩ = some (.int .u64 (l.getD i 0 : Nat)) := by
  rw [cell_of_row w g i _ 36 _ h]; simpa using V64_get hi
theorem Blk64.free {w : World} {g : Nat} {l : List Nat} (h : Blk64 w g l) (i : Nat) : w.frozen? ⟨g, i, none⟩ = false := frozen_of_row w g i _ 36 h
theorem V64_set (l : List Nat) (i v : Nat) : (V64 l).set i (.int .u64 (v : Int)) = V64 (l.set i v) := by
  simp [V64, List.map_set]
theorem Blk64.set {w : World} {g : Nat} {l : List Nat} (h : Blk64 w g l) (i v : Nat) : Blk64 (w.setCell ⟨g, i, none⟩ (.int .u64 (v : Int))) g (l.set i v) := by
  unfold Blk64
  rw [heap_setCell_same w g i _ 36 _ h]
  simp [← V64_set]
theorem made64 (q : Nat) : madeCells #[.int .u64 0] q = (V64 (List.replicate q 0)).toArray := by
  apply Array.ext'
  apply List.ext_getElem
  · simp [madeCells, V64]
  · intro i h1 h2
    simp [madeCells, V64, Nat.mod_one]
theorem make64 (n : Nat) (hn : n ≤ 1000) (W : World) : (Instr.makeSlice 79 (.int .i64 (n : Int)) (.int .i64 (n : Int))).run Tryd.prog W = .ok (.slice (some ⟨W.heap.size, 0, none⟩) n n) (W.alloc (.cells (V64 (List.replicate n 0)).toArray 36)) := by
  obtain ⟨i0, hi, hz0, hz1, hz2⟩ := info_parts infoU64
  have := run_make W 79 36 i0 (.int .u64 0) Tryd.underlying79 hi hz0 .i64 .i64 (n : Int) (n : Int) (by omega) (by omega) (by rw [hz2]; omega) (by omega)
  rw [hz1, Int.toNat_natCast, Nat.mul_one] at this
  rw [this]
  congr 3
  exact made64 n
/-- The sum so far: i digits are done, and k of the next. -/
structure MU (w : World) (a b o : List Nat) (i k : Nat) (W : World) : Prop where
  blk : Blk64 W w.heap.size o
  len : o.length = a.length + b.length
  below : Below w.heap.size w W
  val : val o = val (a.take i) * val b + 4096 ^ i * a.getD i 0 * val (b.take k)
  lt : ∀ j, o.getD j 0 ≤ (i * b.length + k) * 16777216
theorem val_take_succ (b : List Nat) (k : Nat) (hk : k < b.length) : val (b.take (k + 1)) = val (b.take k) + 4096 ^ k * b.getD k 0 := by
  rw [List.take_succ_eq_append_getElem hk, val_append, val_one]
  simp [List.getD_eq_getElem?_getD, hk, Nat.min_eq_left (Nat.le_of_lt hk)]
set_option maxRecDepth 100000 in
theorem MU.next {w : World} {a b o : List Nat} {i k : Nat} {W : World} (h : MU w a b o i k W) (hi : i < a.length) (hk : k < b.length) (ha : ∀ j, a.getD j 0 < 4096) (hb : ∀ j, b.getD j 0 < 4096) :
    MU w a b (addAt o (i + k) (a.getD i 0 * b.getD k 0)) i (k + 1) (W.setCell ⟨w.heap.size, i + k, none⟩ (.int .u64 ((o.getD (i + k) 0 + a.getD i 0 * b.getD k 0 : Nat) : Int))) := by
  have hlt : i + k < o.length := by have := h.len; omega
  refine ⟨h.blk.set _ _, by rw [length_addAt, h.len], h.below.setCell (p := ⟨w.heap.size, i + k, none⟩) (Nat.le_refl _) _, ?_, fun j => ?_⟩
  · rw [val_set _ _ _ hlt, h.val, val_take_succ b k hk, Nat.mul_add, Nat.add_assoc]
    congr 2
    rw [Nat.pow_add, Nat.mul_assoc, Nat.mul_assoc, Nat.mul_left_comm (4096 ^ k)]
  · have h1 := h.lt j
    have h2 : a.getD i 0 * b.getD k 0 ≤ 16769025 := Nat.le_trans (Nat.mul_le_mul (show a.getD i 0 ≤ 4095 by have := ha i; omega) (show b.getD k 0 ≤ 4095 by have := hb k; omega)) (by decide)
    rw [getD_addAt _ _ _ _ hlt]
    generalize i * b.length = M at h1 ⊢
    generalize a.getD i 0 * b.getD k 0 = P at h2 ⊢
    generalize o.getD j 0 = Q at h1 ⊢
    have e : (M + (k + 1)) * 16777216 = (M + k) * 16777216 + 16777216 := by omega
    rw [e]
    generalize (M + k) * 16777216 = R at h1 ⊢
    clear e ha hb
    by_cases hj : j = i + k
    · rw [if_pos hj]; omega
    · rw [if_neg hj]; exact Nat.le_trans h1 (Nat.le_add_right _ _)
theorem MU.turn {w : World} {a b o : List Nat} {i : Nat} {W : World} (h : MU w a b o i b.length W) (hi : i < a.length) : MU w a b o (i + 1) 0 W := by
  refine ⟨h.blk, h.len, h.below, ?_, fun j => ?_⟩
  · rw [h.val, List.take_length, val_take_succ a i hi, List.take_zero]
    simp only [Go.Proofs.YtakfcdemoaogfaaDoor.val]
    rw [Nat.mul_zero, Nat.add_zero, Nat.add_mul]
  · have := h.lt j
    rw [Nat.add_mul i 1, Nat.one_mul, Nat.add_zero]
    exact this
theorem MU.drew {w : World} {a b o : List Nat} {i k : Nat} {W : World} (h : MU w a b o i k W) : MU w a b o i k W.drew := ⟨h.blk, h.len, h.below.drew, h.val, h.lt⟩
theorem MU.turn' {w : World} {a b o : List Nat} {i k : Nat} {W : World} (h : MU w a b o i k W) (hi : i < a.length) (hk : b.length = k) : MU w a b o (i + 1) 0 W := by
  subst hk
  exact h.turn hi
theorem own_base {w : World} {base base' : Nat} {e : TypeId} {size : Nat} {v : Value} {n : Nat} {xs : List Value} (h : w.ownsRow base e size v n xs) (hb : base' ≤ base) : w.ownsRow base' e size v n xs := by
  obtain ⟨h1, h2⟩ := h
  refine ⟨h1, ?_⟩
  rcases h2 with h2 | ⟨g, cap, cur, h3, h4, h5⟩
  · exact .inl h2
  · exact .inr ⟨g, cap, cur, h3, by omega, h5⟩
theorem val_zeros (n : Nat) : val (List.replicate n 0) = 0 := by
  induction n with
  | zero => rfl
  | succ n ih => rw [List.replicate_succ, val, ih]
theorem getD_zeros (n i : Nat) : (List.replicate n 0).getD i 0 = 0 := by
  simp only [List.getD_eq_getElem?_getD, List.getElem?_replicate]
  split <;> rfl
def MulPost (a b : List Nat) (w : World) (e : Ending) (w' : World) : Prop :=
  ∃ out v, e = .returned v ∧ val out = val a * val b ∧ (∀ d ∈ out, d < 4096) ∧ a.length + b.length ≤ out.length ∧ out.length ≤ a.length + b.length + 4 ∧ w'.ownsRow w.heap.size 36 1 v out.length (V64 out) ∧ Below w.heap.size w w'
set_option maxRecDepth 100000 in
set_option maxHeartbeats 2000000 in
theorem mul_any (a b : List Nat) (A B : Option Addr) (ca cb : Nat) (w : World) (hA : RN .u64 w A a) (hB : RN .u64 w B b) (ha : ∀ j, a.getD j 0 < 4096) (hb : ∀ j, b.getD j 0 < 4096) (hla : a.length ≤ 16) (hlb : b.length ≤ 16) :
    Calls Tryd.prog 43 #[.slice A a.length ca, .slice B b.length cb] w (MulPost a b w) := by
  have HA := Lib.hid hA
  have HB := Lib.hid hB
  have HD := Lib.hid (And.intro ha hb)
  obtain ⟨la, hal⟩ : ∃ la, a.length = la := ⟨_, rfl⟩
  obtain ⟨lb, hbl⟩ : ∃ lb, b.length = lb := ⟨_, rfl⟩
  have hmk : ∀ W, (Instr.makeSlice 79 (.int .i64 ((la : Int) + (lb : Int))) (.int .i64 ((la : Int) + (lb : Int)))).run Tryd.prog W = .ok (.slice (some ⟨W.heap.size, 0, none⟩) (la + lb) (la + lb)) (W.alloc (.cells (V64 (List.replicate (la + lb) 0)).toArray 36)) := fun W => by
    rw [show (la : Int) + (lb : Int) = ((la + lb : Nat) : Int) by omega]
    exact make64 (la + lb) (by omega) W
  have HL := Lib.hid (And.intro hal hbl)
  rw [hal] at hla ⊢
  rw [hbl] at hlb ⊢
  clear hA hB ha hb hal hbl
  go_enter Tryd.func43, Tryd.ntmps43
  go_wp2
  clear hmk
  have H0 := Lib.hid (show MU w a b (List.replicate (la + lb) 0) 0 0 (w.alloc (.cells (V64 (List.replicate (la + lb) 0)).toArray 36)) from
    ⟨heap_alloc_new _ _, by simp [HL.out.1, HL.out.2], (Below.refl _ _).alloc (Nat.le_refl _) _, by rw [val_zeros]; simp [val], fun j => by rw [getD_zeros]; omega⟩)
  go_loopw [6, 7] (fun i _ wr => ∃ (i' : Nat) (o : List Nat), i' ≤ la ∧ i = .int .i64 i' ∧ Hid (MU w a b o i' 0 wr)) (fun i _ _ => la - (intOf i).toNat)
  case atStart => exact ⟨0, _, by omega, rfl, H0⟩
  case round =>
    obtain ⟨i, o, hi, rfl, HI⟩ := hrel
    clear H0
    by_cases hlt : i < la
    · go_wp2
      go_loopw [7] (fun k wr => ∃ (k' : Nat) (o : List Nat), k' ≤ lb ∧ k = .int .i64 k' ∧ Hid (MU w a b o i k' wr)) (fun k _ => lb - (intOf k).toNat)
      case atStart => exact ⟨0, _, by omega, rfl, HI⟩
      case round =>
        obtain ⟨k, o2, hk, rfl, HK⟩ := hrel
        clear HI
        by_cases hlk : k < lb
        · obtain ⟨gA, oA, rfl, hgA, hcA⟩ := HA.out (by have := HL.out.1; omega)
          obtain ⟨gB, oB, rfl, hgB, hcB⟩ := HB.out (by have := HL.out.2; omega)
          have cA : wr.cell? ⟨gA, oA + i, none⟩ = some (.int .u64 (a.getD i 0 : Nat)) := (HK.out.below.cell (p := ⟨gA, oA + i, none⟩) hgA).trans (hcA i (by have := HL.out.1; omega))
          have cB : wr.cell? ⟨gB, oB + k, none⟩ = some (.int .u64 (b.getD k 0 : Nat)) := (HK.out.below.cell (p := ⟨gB, oB + k, none⟩) hgB).trans (hcB k (by have := HL.out.2; omega))
          have cO := HK.out.blk.cell (i := i + k) (by rw [HK.out.len, HL.out.1, HL.out.2]; omega)
          have fO := HK.out.blk.free (i + k)
          have HN := Lib.hid (HK.out.next (by rw [HL.out.1]; exact hlt) (by rw [HL.out.2]; exact hlk) HD.out.1 HD.out.2)
          have l1 := HK.out.lt (i + k)
          have l2 := HD.out.1 i
          have l3 := HD.out.2 k
          rw [HL.out.2] at l1
          clear hcA hcB HK
          obtain ⟨x, hx⟩ : ∃ x, a.getD i 0 = x := ⟨_, rfl⟩
          obtain ⟨y, hy⟩ : ∃ y, b.getD k 0 = y := ⟨_, rfl⟩
          obtain ⟨z, hz⟩ : ∃ z, o2.getD (i + k) 0 = z := ⟨_, rfl⟩
          rw [hx] at cA l2
          rw [hy] at cB l3
          rw [hz] at cO l1
          rw [hx, hy, hz] at HN
          clear hx hy hz
          have l4 : i * lb ≤ 16 * 16 := Nat.mul_le_mul (by omega) hlb
          have l5 : x * y ≤ 4095 * 4095 := Nat.mul_le_mul (by omega) (by omega)
          obtain ⟨p, hp⟩ : ∃ p, x * y = p := ⟨_, rfl⟩
          rw [hp] at HN l5
          obtain ⟨t, ht⟩ : ∃ t, z + p = t := ⟨_, rfl⟩
          rw [ht] at HN
          have r1 : IntKind.u64.wrap ((x : Int) * (y : Int)) = (p : Int) := by rw [← Int.natCast_mul, hp]; exact IntWalk.u64_in _ (by omega)
          have r2 : IntKind.u64.wrap ((z : Int) + (p : Int)) = (t : Int) := by rw [show (z : Int) + (p : Int) = (t : Int) by omega]; exact IntWalk.u64_in _ (by omega)
          have l6 : z + p < 18446744073709551616 := by omega
          clear hp ht l1 l4
          go_wp2
          go_region
          go_wp2
          go_roundw
          case rel => exact ⟨k + 1, _, by omega, by go_num, Lib.hid HN.out.drew⟩
          case measure => simp [intOf]; omega
        · obtain rfl : k = lb := by omega
          have HK2 := Lib.hid (HK.out.turn' (by rw [HL.out.1]; exact hlt) HL.out.2)
          clear HK
          go_wp2
          go_roundw
          case rel => exact ⟨i + 1, _, by omega, by go_num, HK2⟩
          case measure => simp [intOf]; omega
    · obtain rfl : i = la := by omega
      have hlen : o.length = i + lb := by rw [HI.out.len, HL.out.1, HL.out.2]
      have HC := Lib.hid (carried_any o (some ⟨w.heap.size, 0, none⟩) (i + lb) wr (fun _ => ⟨w.heap.size, 0, rfl, (Array.getElem?_eq_some_iff.1 HI.out.blk).1, fun j hj => by rw [Nat.zero_add]; exact HI.out.blk.cell hj⟩) (fun j => by
        have := HI.out.lt j
        have l4 : i * b.length ≤ 16 * 16 := Nat.mul_le_mul hla (by rw [HL.out.2]; exact hlb)
        omega) (by omega))
      rw [hlen] at HC
      have HV := Lib.hid (show val o = val a * val b by
        have := HI.out.val
        rw [List.take_zero, List.take_of_length_le (by rw [HL.out.1]; exact Nat.le_refl _)] at this
        simpa [Go.Proofs.YtakfcdemoaogfaaDoor.val] using this)
      have HZ := Lib.hid hlen
      clear hlen
      go_wp2_with fail
      refine HC.out.mono ?_
      rintro e w2 ⟨out, v, rfl, h1, h2, h3, h4, h5, h6⟩
      have HE : Hid (MulPost a b w (.returned v) w2) := Lib.hid ⟨out, v, rfl, h1.trans HV.out, h2, by rw [← HI.out.len]; exact h3, by rw [← HI.out.len]; exact h4, own_base h5 HI.out.below.size, HI.out.below.trans (h6.mono HI.out.below.size)⟩
      clear h1 h2 h3 h4 h5 h6 HC HI
      go_wp2
      go_ret
      exact HE.out
end Go.Proofs.YtakfcdemoaogfaaDoor
