/-
  Proved here: Write (frag), where the table of sizes is as the program lays it, and the document's own Right and Write, answer what 'rgt' and 'wrS' say, in memory of their own.
-/
import Derived.Test.YtmklcghoeapfbaaDoorFa
import Derived.Test.YtmklcghoeapfbaaDoorVRefPut
import Derived.Laws.MakeOwn
namespace Go.Proofs.YtmklcghoeapfbaaDoor
open Go.RowKit

/-- A part's bytes. -/
def wrB (p : Prt) : List Int := numB p.id ++ [p.ix, p.ct] ++ p.d
/-- What Write answers. -/
def wrS (p : Prt) : List Int × Int := if p.ok = true then (wrB p, 0) else ([], 3)
theorem u8_small {x : Int} (h0 : 0 ≤ x) (h1 : x < 256) : IntKind.u8.wrap x = x := by simp [IntKind.wrap_u8]; omega

set_option maxRecDepth 100000 in
set_option maxHeartbeats 2000000 in
theorem write_any (p : Prt) (A : Option Addr) (m c : Nat) (w : World) (hm : p.d.length = m) (hO : (0 ≤ p.id ∧ p.id < 18446744073709551616) ∧ (-9223372036854775808 ≤ p.ct ∧ p.ct < 9223372036854775808) ∧ (-9223372036854775808 ≤ p.ix ∧ p.ix < 9223372036854775808)) (hR : RB w w.heap.size A p.d) (hA : A = none → c = 0) (hmx : m ≤ maxLen) (hT : Tab w) :
    Calls Tryd.prog 9 #[PV p.id p.ix p.ct A m c] w (BytPost (wrS p) w) := by
  obtain ⟨id, ix, ct, d⟩ := p
  obtain ⟨⟨o0, o1⟩, ⟨o2, o3⟩, _⟩ := hO
  have HM := Lib.hid hm
  have HR := Lib.hid hR
  simp only at o0 o1 o2 o3
  clear hR hm
  have hWS := show wrS ⟨id, ix, ct, d⟩ = if rgt id ix ct m = true then (wrB ⟨id, ix, ct, d⟩, 0) else ([], 3) by
    have := HM.out
    simp only at this
    subst this
    rfl
  have HWS := Lib.hid hWS
  clear hWS
  have hb0 : Below w.heap.size w (w.alloc (.cells #[.int .u64 id, .int .i64 ix, .int .i64 ct, .slice A m c] 25)) := (Below.refl _ _).alloc (Nat.le_refl _) _
  have HB0 := Lib.hid hb0
  have HP0 := Lib.hid (heap_alloc_new w (.cells #[.int .u64 id, .int .i64 ix, .int .i64 ct, .slice A m c] 25))
  clear hb0
  go_enter Tryd.func9, Tryd.ntmps9
  go_wp2_with fail
  refine (right_any id ix ct A m c _ o0 o1 o2 o3 hmx).mono ?_
  rintro e w1 ⟨rfl, hb1⟩
  have hbw1 : Below w.heap.size w w1 := HB0.out.trans (hb1.mono HB0.out.size)
  have HP1 := Lib.hid ((hb1.block _ (by simp)).trans HP0.out)
  clear hb1
  cases hr : rgt id ix ct m
  · rw [hr] at HWS
    have HPP := Lib.hid (bytpost_nil (w := w) (w' := w1) (E := 3) HWS.out hbw1)
    clear hr
    go_wp2
    go_ret2
    exact HPP.out
  · rw [hr] at HWS
    obtain ⟨y1, y2, y3, y4, y5, y6, y7⟩ := rgt_yes hr
    clear hr
    have hT1 := hT.below hbw1 hT.big
    obtain ⟨⟨a0, a1, a2, a3⟩, _⟩ := blk4 HP1.out
    have hPU := put_fits id w1 (by omega) (by omega) hT1
    have HPU := Lib.hid hPU
    clear hPU
    go_wp2_with fail
    refine HPU.out.mono ?_
    rintro e w2 ⟨v, rfl, hv, hb2⟩
    clear a0 a1 a2 a3
    have HL := Lib.hid (numB_length id)
    have hsz := szN_le id
    rw [HL.out] at hv
    obtain ⟨s, hs⟩ : ∃ s, szN id = s := ⟨_, rfl⟩
    rw [hs] at hv hsz HL
    clear hs
    have hbw2 : Below w.heap.size w w2 := hbw1.trans (hb2.mono hbw1.size)
    have HP2 := Lib.hid ((hb2.block _ (lt_of_block HP1.out)).trans HP1.out)
    obtain ⟨⟨a0, a1, a2, a3⟩, _⟩ := blk4 HP2.out
    obtain ⟨AV, cV, rfl, hV1, hV2, hV3⟩ := own_slice hv
    have hRV : RB w2 w2.heap.size AV (numB id) := by
      obtain ⟨A', c', h1, h2, _⟩ := RB.of_own (bs := numB id) (by rw [HL.out]; exact hv)
      injection h1 with h1 _ _
      subst h1; exact h2
    have hm480 : m ≤ 480 := by omega
    obtain ⟨i0, hi, hz0, hz1, hz2⟩ := info_parts infoByte
    obtain ⟨w3, hmk, hown3, hgr3⟩ := run_make_own (P := Tryd.prog) w2 (w.heap.size + 1) 23 5 i0 _ 1 Tryd.underlying23 hi hz0 hz1 .i64 .i64 (s + 2 + m) (by rw [hz2]; omega) (by unfold maxLen; omega) (by have := lt_of_block HP2.out; omega)
    rw [show ((s + 2 + m : Nat) : Int) = (s : Int) + 2 + (m : Int) by omega] at hmk
    have hb3 : Below w2.heap.size w2 w3 := ⟨hgr3.os, hgr3.tape, hgr3.output, hgr3.size, fun k hk => hgr3.block k hk (by simp)⟩
    have HP3 := Lib.hid ((hb3.block _ (lt_of_block HP2.out)).trans HP2.out)
    have hbw3 : Below w.heap.size w w3 := hbw2.trans (hb3.mono hbw2.size)
    obtain ⟨v4, w4, hrun4, hown4, hgr4⟩ := app_bytes (xs := []) cV (hRV.below hb3) hV3 hown3 (by rw [HL.out]; omega) (by have := lt_of_block HP3.out; omega)
    rw [HL.out] at hrun4 hown4
    have hb4 : Below w2.heap.size w2 w4 := hb3.grown hgr4 hb3.size (fun k hk => lit_le (Nat.le_refl _) hk)
    have HP4 := Lib.hid ((hb4.block _ (lt_of_block HP2.out)).trans HP2.out)
    have hbw4 : Below w.heap.size w w4 := hbw2.trans (hb4.mono hbw2.size)
    have hRB5 : RB (w4.alloc (.cells #[.int .u8 ix, .int .u8 ct] 5)) (w4.heap.size + 1) (some ⟨w4.heap.size, 0, none⟩) [ix, ct] := RB.of_block (by omega) (heap_alloc_new _ _)
    obtain ⟨v6, w6, hrun6, hown6, hgr6⟩ := app_bytes (xs := [] ++ numB id) 2 hRB5 (fun h => by cases h) (own_below hown4 ((Below.refl _ _).alloc (Nat.le_refl _) _)) (by simp; omega) (by have := lt_of_block HP4.out; simp; omega)
    have hb6 : Below w.heap.size w w6 := (hbw4.alloc hbw4.size _).grown hgr6 (by have := hbw4.size; simp; omega) (fun k hk => by have := ownBlock_le hown4 k hk; omega)
    have hP6 : w6.heap[w.heap.size]? = some (.cells #[.int .u64 id, .int .i64 ix, .int .i64 ct, .slice A m c] 25 (0, 0)) := by
      rw [hgr6.block _ (by have := lt_of_block HP4.out; simp; omega) ?_, Below.heap_alloc _ _ _ (lt_of_block HP4.out)]
      · exact HP4.out
      · intro e
        have := ownBlock_le hown4 _ e.symm
        omega
    have HP6 := Lib.hid hP6
    obtain ⟨v7, w7, hrun7, hown7, hgr7⟩ := app_bytes (xs := [] ++ numB id ++ [ix, ct]) c (HR.out.below hb6) hA hown6 (by rw [HM.out]; simp; omega) (by have := lt_of_block HP6.out; omega)
    have hb7 : Below w.heap.size w w7 := hb6.grown hgr7 hb6.size (fun k hk => by have := ownBlock_le hown6 k hk; omega)
    have HPP := Lib.hid (show BytPost (wrS ⟨id, ix, ct, d⟩) w (.returned (.tuple #[v7, .int .i64 0])) w7 from by
      rw [HWS.out, if_pos trivial]
      refine ⟨v7, rfl, own_mono (own_cast hown7 ?_ ?_) (by omega), hb7⟩
      · have := HM.out; simp [wrB, HL.out]; omega
      · simp [wrB])
    rw [show d.length = m from HM.out] at hrun7
    have HR4 := Lib.hid hrun4
    have HR6 := Lib.hid hrun6
    have HR7 := Lib.hid hrun7
    have kx : IntKind.u8.wrap ix = ix := u8_small (by omega) (by omega)
    have kc : IntKind.u8.wrap ct = ct := u8_small (by omega) (by omega)
    clear a0 a1 a2 a3 hrun4 hown4 hgr4 hb4 hbw4 hown3 hgr3 hb3 hbw3 hv hb2 hrun6 hown6 hgr6 hb6 hrun7 hown7 hgr7 hb7 hRB5 hP6
    obtain ⟨⟨a0, a1, a2, a3⟩, _⟩ := blk4 HP2.out
    obtain ⟨⟨b0, b1, b2, b3⟩, _⟩ := blk4 HP4.out
    obtain ⟨⟨e0, e1, e2, e3⟩, _⟩ := blk4 HP6.out
    go_wp2_with (first | (at_builtin; refine wpList_app rfl (.tmp 27) (.tmp 28) _ rfl _ _ rfl rfl HR4.out ?_) | (at_builtin; refine wpList_app rfl (.tmp 30) (.tmp 37) _ rfl _ _ rfl rfl HR6.out ?_) | (at_builtin; refine wpList_app rfl (.tmp 39) (.tmp 41) _ rfl _ _ rfl rfl HR7.out ?_))
    go_ret2
    exact HPP.out
end Go.Proofs.YtmklcghoeapfbaaDoor
