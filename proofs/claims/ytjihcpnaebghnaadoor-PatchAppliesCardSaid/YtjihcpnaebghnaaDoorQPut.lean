/-
  Proved here, for every number below 2^62: appendNumber puts just the number's bytes ('numB') behind a row of bytes that its caller owns; and for every number: Put answers its bytes in memory of its own, or ErrRange.
-/
import Derived.Test.YtjihcpnaebghnaaDoorQSize
import Derived.Lib.Hide
import Derived.Maps.AppendAt
namespace Go.Proofs.YtjihcpnaebghnaaDoor
open Go.RowKit

set_option maxRecDepth 100000 in
/-- One more byte behind what is owned: what the round leaves. -/
theorem own_snoc {w' : World} {base n : Nat} {v' : Value} {xs : List Value} {P D : List Int} {j : Nat} {V : Int} (hj : 1 ≤ j) (hP : P ++ digs j V = D)
    (h : w'.ownsRow base 5 1 v' (n + P.length + 1) (xs ++ (B8 P ++ [.int .u8 (V / 2 ^ (8 * (j - 1)) % 256)]))) :
    ∃ P', P'.length ≤ D.length ∧ P' ++ digs (j - 1) V = D ∧ w'.ownsRow base 5 1 v' (n + P'.length) (xs ++ B8 P') := by
  obtain ⟨j, rfl⟩ : ∃ k, j = k + 1 := ⟨j - 1, by omega⟩
  rw [Nat.add_sub_cancel] at h ⊢
  refine ⟨P ++ [V / 2 ^ (8 * j) % 256], by rw [← hP]; simp [digs], by rw [← hP]; simp [digs], ?_⟩
  have e1 : n + (P ++ [V / 2 ^ (8 * j) % 256]).length = n + P.length + 1 := by simp; omega
  have e2 : xs ++ B8 (P ++ [V / 2 ^ (8 * j) % 256]) = xs ++ (B8 P ++ [.int .u8 (V / 2 ^ (8 * j) % 256)]) := by simp [B8]
  rw [e1, e2]
  exact h

def AppPost (base n : Nat) (sv : Value) (xs : List Value) (v : Int) (w : World) (e : Ending) (w' : World) : Prop :=
  ∃ v', e = .returned v' ∧ w'.ownsRow base 5 1 v' (n + (numB v).length) (xs ++ B8 (numB v)) ∧ Below base w w' ∧ w.grownBy w' sv.ownBlock ∧ Lies w sv v'

set_option maxRecDepth 100000 in
set_option maxHeartbeats 1000000 in
theorem appendNumber_any (base : Nat) (sv : Value) (n : Nat) (xs : List Value) (v : Int) (w : World) (hown : w.ownsRow base 5 1 sv n xs) (h0 : 0 ≤ v) (h1 : v < 4611686018427387904) (hn : n ≤ 70368744177664)
    (hbase : base ≤ w.heap.size) (hT : Tab w) : Calls Tryd.prog 95 #[sv, .int .u64 v] w (AppPost base n sv xs v w) := by
  obtain ⟨c0, c1, c2, c3, hbig⟩ := id hT
  obtain ⟨i0, hi, hz0, hz1, hz2⟩ := info_parts infoByte
  go_enter Tryd.func95, Tryd.ntmps95
  go_wp2_with fail
  refine (sizeMark_any v _ h0 (by omega) hT).mono ?_
  rintro e w' ⟨m, ok, rfl, rfl, hm⟩
  rcases hm with ⟨ha, rfl, rfl⟩ | ⟨ha, hb, rfl, rfl⟩ | ⟨ha, hb, rfl, rfl⟩ | ⟨ha, hb, rfl, rfl⟩ | ⟨ha, rfl, rfl⟩
  all_goals first | (exfalso; omega) | skip
  all_goals first | have ho := or0 h0 ha | have ho := or1 ha hb | have ho := or2 ha hb | have ho := or3 ha hb
  all_goals first | have HS := Lib.hid (szN0 ha) | have HS := Lib.hid (szN1 ha hb) | have HS := Lib.hid (szN2 ha hb) | have HS := Lib.hid (szN3 ha)
  all_goals obtain ⟨hV0, hV1⟩ := topV_bd h0 h1
  all_goals go_wp2
  all_goals clear ho
  all_goals (
    go_loopw [0, 8] (fun b i wr => ∃ (j : Nat) (P : List Int), j ≤ 8 ∧ P.length ≤ 8 ∧ i = .int .i64 ((j : Int) - 1) ∧ P ++ digs j (topV v) = numB v ∧ wr.ownsRow base 5 1 b (n + P.length) (xs ++ B8 P) ∧ Below base w wr ∧ w.grownBy wr sv.ownBlock ∧ Lies w sv b) (fun _ i _ => (intOf i + 1).toNat)
    case atStart => exact ⟨szN v, [], (szN_le v).2, by simp, by rw [HS.out]; rfl, rfl, by simpa using hown, Below.refl _ _, World.grownBy.refl _ _, Lies.refl _ _⟩
    case round =>
      obtain ⟨j, P, hj, hPl, rfl, hP, hown', hbel, hgr, hlies⟩ := hrel
      have HP := Lib.hid hP
      clear hP
      by_cases hj0 : 1 ≤ j
      · go_wp2_with (at_builtin; refine wpList_append_own_at _ rfl _ _ 25 rfl base 5 i0 (.int .u8 0) 1 1 Tryd.underlying25 hi hz0 hz1 hz2 rfl (by decide) _ _ _ rfl (hown'.alloc _) ⟨wr.heap.size, 0, none⟩ 1 1 [.int .u8 (topV v / 2 ^ (8 * (j - 1)) % 256)] rfl rfl ?c1 ?c2 ?c3 ?c4 ?c5 ?_)
        case c1 =>
          intro q u hq
          match q, hq with
          | 0, hq => simp at hq; subst hq; simp [Addr.add]
        case c2 => intro u hu; simp at hu; subst hu; rfl
        case c3 => unfold maxLen; omega
        case c4 => omega
        case c5 => have := hbel.size; simp; omega
        · intro v' w1 hown1 hgrow _ hat
          obtain ⟨hgr1, hlies1⟩ := grown_step hgr hlies hgrow hat
          have hb1 : Below base w w1 := (hbel.alloc (by have := hbel.size; omega) _).grown hgrow (by have := hbel.size; simp; omega) (ownBlock_le hown')
          obtain ⟨P', hl', hP', hown2⟩ := own_snoc hj0 HP.out hown1
          rw [numB_length] at hl'
          have hs8 := (szN_le v).2
          have HP' := Lib.hid hP'
          clear hP' hown1 hgrow hown' hbel hgr hlies hat
          go_wp2
          go_roundw
          case rel => exact ⟨j - 1, P', by omega, by omega, congrArg (Value.int .i64) (by omega), HP'.out, hown2, hb1, hgr1, hlies1⟩
          case measure => simp [intOf]; omega
      · go_wp2
        go_ret
        obtain rfl : j = 0 := by omega
        have e : P = numB v := by rw [← HP.out]; simp [digs]
        subst e
        exact ⟨_, rfl, hown', hbel, hgr, hlies⟩)

/-- What Put answers of a number that has bytes. -/
def PutPost (v : Int) (w : World) (e : Ending) (w' : World) : Prop :=
  ∃ v', e = .returned (.tuple #[v', .int .i64 0]) ∧ w'.ownsRow w.heap.size 5 1 v' (numB v).length (B8 (numB v)) ∧ Below w.heap.size w w'

set_option maxRecDepth 100000 in
theorem put_big (v : Int) (w : World) (h0 : 4611686018427387904 ≤ v) (h1 : v < 18446744073709551616) (hT : Tab w) :
    Calls Tryd.prog 73 #[.int .u64 v] w fun e w' => e = .returned (.tuple #[.slice none 0 0, .int .i64 11]) ∧ w = w' := by
  have hz : szOf v = 0 := by rw [szOf, if_neg (by omega), if_neg (by omega), if_neg (by omega), if_neg (by omega)]
  go_enter Tryd.func73, Tryd.ntmps73
  go_wp2_with fail
  refine (size_any v _ (by omega) h1 hT).mono ?_
  rintro e w' ⟨rfl, rfl⟩
  go_wp2
  go_ret2
  exact ⟨rfl, rfl⟩

set_option maxRecDepth 100000 in
theorem put_fits (v : Int) (w : World) (h0 : 0 ≤ v) (h1 : v < 4611686018427387904) (hT : Tab w) : Calls Tryd.prog 73 #[.int .u64 v] w (PutPost v w) := by
  obtain ⟨i0, hi, hz0, hz1, hz2⟩ := info_parts infoByte
  obtain ⟨hs1, hs8⟩ := szN_le v
  have hne : ((szN v : Int) == 0) = false := beq_eq_false_iff_ne.2 (by omega)
  go_enter Tryd.func73, Tryd.ntmps73
  go_wp2_with fail
  refine (size_any v _ h0 (by omega) hT).mono ?_
  rintro e w' ⟨rfl, rfl⟩
  rw [szOf_szN h1]
  go_wp2_with (first | (refine wpList_make_own w rfl (.const (.int .i64 0)) (.tmp 9) 25 rfl w.heap.size 5 i0 (.int .u8 0) 1 Tryd.underlying25 hi hz0 hz1 .i64 .i64 (szN v : Int) (szN v) rfl rfl rfl (by rw [hz2]; omega) (by unfold maxLen; omega) (Nat.le_refl _) ?_; intro w1 hown1 hg1) | (go_at_call 95; fail))
  have hb1 : Below w.heap.size w w1 := (Below.refl _ _).grown hg1 (Nat.le_refl _) (by intro k h; cases h)
  refine (appendNumber_any w.heap.size _ 0 [] v w1 hown1 h0 h1 (by omega) hb1.size (hT.below hb1 hT.big)).mono ?_
  rintro e w2 ⟨v', rfl, hown2, hb2, _⟩
  go_wp2
  go_ret2
  refine ⟨v', rfl, ?_, hb1.trans hb2⟩
  simpa using hown2
end Go.Proofs.YtjihcpnaebghnaaDoor
