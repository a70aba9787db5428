/-
  Proved here: the document's own 'into' is the program's 'goInto': a block into a state, in memory of its own.
-/
import Derived.Test.YtakfcdemoaogfaaDoorRW
namespace Go.Proofs.YtakfcdemoaogfaaDoor
open Go.RowKit
/-- All words of a state are below 2^32. -/
def Ok8 (s : S8) : Prop := s.a < 4294967296 ∧ s.b < 4294967296 ∧ s.c < 4294967296 ∧ s.d < 4294967296 ∧ s.e < 4294967296 ∧ s.f < 4294967296 ∧ s.g < 4294967296 ∧ s.h < 4294967296
theorem add32_lt (a b : Nat) : add32 a b < 4294967296 := by unfold add32; omega
theorem Ok8.next {s : S8} (h : Ok8 s) (k w : Nat) : Ok8 (s.next k w) := ⟨add32_lt _ _, h.1, h.2.1, h.2.2.1, add32_lt _ _, h.2.2.2.2.1, h.2.2.2.2.2.1, h.2.2.2.2.2.2.1⟩
theorem Ok8.rd {s : S8} (h : Ok8 s) (ws : List Nat) : ∀ i, Ok8 (rdS ws s i)
  | 0 => h
  | i + 1 => (Ok8.rd h ws i).next _ _
theorem Ok8.plus (s S : S8) : Ok8 (s.plus S) := ⟨add32_lt _ _, add32_lt _ _, add32_lt _ _, add32_lt _ _, add32_lt _ _, add32_lt _ _, add32_lt _ _, add32_lt _ _⟩
theorem add32_comm (a b : Nat) : add32 a b = add32 b a := by unfold add32; rw [Nat.add_comm]
theorem plus_comm (s S : S8) : s.plus S = S.plus s := by
  unfold S8.plus
  rw [add32_comm s.a, add32_comm s.b, add32_comm s.c, add32_comm s.d, add32_comm s.e, add32_comm s.f, add32_comm s.g, add32_comm s.h]
theorem u32_wadd (p q : Nat) : IntKind.u32.wrap ((p : Int) + (q : Int)) = ((add32 p q : Nat) : Int) := by rw [IntKind.wrap_u32]; exact u32_add p q
theorem u32_wnot (e : Nat) (_ : e < 4294967296) : IntKind.u32.wrap (4294967295 - (e : Int)) = ((not32 e : Nat) : Int) := by
  rw [IntKind.wrap_u32]; unfold not32; omega
theorem u32_wand (p q : Nat) : bits .and .u32 (p : Int) (q : Int) = ((and32 p q : Nat) : Int) := u32_and p q
structure IK (w w1 : World) (st : S8) (i g : Nat) (W : World) : Prop where
  cell : ∀ k, k < 8 → W.cell? ⟨g, k, none⟩ = some (.int .u32 (st.list.getD k 0 : Nat))
  blk : 0 < i → Blk32 W g 33 st.list
  lo : w1.heap.size ≤ g
  lt : g < W.heap.size
  below : Below w1.heap.size w1 W
theorem IK.new {w w1 : World} {st : S8} {i g : Nat} {wr : World} (h : IK w w1 st i g wr) (st2 : S8) (W : World) (hb : Below wr.heap.size wr W) : IK w w1 st2 (i + 1) W.heap.size (W.alloc (.cells (V32 st2.list).toArray 33)) := by
  have hB : Blk32 (W.alloc (.cells (V32 st2.list).toArray 33)) W.heap.size 33 st2.list := heap_alloc_new _ _
  have h2 := h.below.trans (hb.mono h.below.size)
  exact ⟨fun k hk => hB.cell hk, fun _ => hB, h2.size, by simp, h2.alloc h2.size _⟩
theorem V32_8 (x0 x1 x2 x3 x4 x5 x6 x7 : Nat) : (V32 [x0, x1, x2, x3, x4, x5, x6, x7]).toArray = #[.int .u32 (x0 : Int), .int .u32 (x1 : Int), .int .u32 (x2 : Int), .int .u32 (x3 : Int), .int .u32 (x4 : Int), .int .u32 (x5 : Int), .int .u32 (x6 : Int), .int .u32 (x7 : Int)] := rfl
theorem IK.new8 {w w1 : World} {st : S8} {i g : Nat} {wr : World} (h : IK w w1 st i g wr) (st2 : S8) (W : World) (hb : Below wr.heap.size wr W) {x0 x1 x2 x3 x4 x5 x6 x7 : Nat} (hl : st2.list = [x0, x1, x2, x3, x4, x5, x6, x7]) :
    IK w w1 st2 (i + 1) W.heap.size (W.alloc (.cells #[.int .u32 (x0 : Int), .int .u32 (x1 : Int), .int .u32 (x2 : Int), .int .u32 (x3 : Int), .int .u32 (x4 : Int), .int .u32 (x5 : Int), .int .u32 (x6 : Int), .int .u32 (x7 : Int)] 33)) := by
  have := h.new st2 W hb
  rw [hl, V32_8] at this
  exact this
theorem next_list (a b c d e f g h k w : Nat) : (S8.next ⟨a, b, c, d, e, f, g, h⟩ k w).list = [add32 (add32 (add32 (add32 (add32 h (xor32 (xor32 (rot32 6 e) (rot32 11 e)) (rot32 25 e))) (xor32 (and32 e f) (and32 (not32 e) g))) k) w) (add32 (xor32 (xor32 (rot32 2 a) (rot32 13 a)) (rot32 22 a)) (xor32 (xor32 (and32 a b) (and32 a c)) (and32 b c))), a, b, c, add32 d (add32 (add32 (add32 (add32 h (xor32 (xor32 (rot32 6 e) (rot32 11 e)) (rot32 25 e))) (xor32 (and32 e f) (and32 (not32 e) g))) k) w), e, f, g] := by
  simp only [S8.next, S8.list, S8.t, S8.u]
set_option maxRecDepth 100000 in
set_option maxHeartbeats 4000000 in
theorem rinto_any (S : S8) (blk : List Nat) (A B K : Option Addr) (cs cb ck : Nat) (w : World) (hS : RN .u32 w A S.list) (hO : Ok8 S) (hB : R0 w B blk) (hlb : blk.length = 64) (hb : ∀ j, blk.getD j 0 < 256) (hK : RN .u32 w K kk) :
    Calls Tryd.prog 36 #[.slice A 8 cs, .slice B 64 cb, .slice K 64 ck] w fun e w' => ∃ g cap, e = .returned (.slice (some ⟨g, 0, none⟩) 8 cap) ∧ 8 ≤ cap ∧ cap ≤ maxLen ∧ w.heap.size ≤ g ∧ RN .u32 w' (some ⟨g, 0, none⟩) (goIntoS S blk).list ∧ Below w.heap.size w w' := by
  obtain ⟨i0, hi, hz0, hz1, hz2⟩ := info_parts infoU32
  obtain ⟨gs, os, rfl, hgs, hcs⟩ := hS (by simp [S8.list])
  obtain ⟨gk, ok, rfl, hgk, hck⟩ := hK (by decide)
  have HWD := Lib.hid (rwords_any blk B cb w hB hlb hb)
  have HG := Lib.hid (show goIntoS S blk = (rdS (wordsS blk) S 64).plus S from plus_comm _ _)
  have hwl := length_wordsS blk
  generalize wordsS blk = ws at HWD HG hwl
  generalize goIntoS S blk = GO at HG ⊢
  have HWL := Lib.hid hwl
  have HS := Lib.hid hcs
  have HK := Lib.hid hck
  have HO := Lib.hid hO
  clear hS hO hB hlb hb hK hcs hck hwl
  go_enter Tryd.func36, Tryd.ntmps36
  go_wp2_with fail
  refine HWD.out.mono ?_
  rintro e w1 ⟨vw, rfl, HW0⟩
  obtain ⟨gw, cw, rfl, hgw, hgwl⟩ := HW0.own.form (by omega)
  have HB1 := Lib.hid HW0.below
  have HWC := Lib.hid (fun k (hk : k < 64) => (HW0.own.cellAt k (by omega)).trans (V32_get (l := ws) (by rw [HWL.out]; exact hk)))
  clear HW0 HWD
  have hown0 : w1.ownsRow w1.heap.size 33 1 (.slice none 0 0) 0 [] := World.ownsRow_nil _ _ _ _
  go_upto_region 4 with (at_builtin; refine wpList_append_lies _ rfl _ _ 61 rfl w1.heap.size 33 i0 (.int .u32 0) 1 4 Tryd.underlying61 hi hz0 hz1 hz2 rfl (by decide) _ 0 [] rfl hown0 ⟨gs, os, none⟩ 8 cs (V32 S.list) rfl ?c0 ?c1 ?c2 (by decide) ?c3 ?c4 ?c5 w1.heap.size rfl ?_)
  case c0 => simp [S8.list]
  case c1 =>
    intro q u hq
    have hq8 : q < S.list.length := by simpa using (List.getElem?_eq_some_iff.1 hq).1
    have hadd : (⟨gs, os, none⟩ : Addr).add q = ⟨gs, os + q, none⟩ := by unfold Addr.add; split <;> simp_all
    rw [V32_get hq8] at hq
    rw [hadd, ← hq]
    exact (HB1.out.cell (p := ⟨gs, os + q, none⟩) hgs).trans (HS.out q hq8)
  case c2 => exact one_V32 _
  case c3 => unfold maxLen; omega
  case c4 => omega
  case c5 => exact Nat.le_refl _
  intro g0 cap0 w2 hown2 hgrow _ hg0
  have hcap0 : 8 ≤ cap0 := by
    rcases hown2.2 with ⟨h', _⟩ | ⟨g', cap', cur, h', _, _, hc', _⟩
    · cases h'
    · cases h'; omega
  have H0 := Lib.hid (show IK w w1 (rdS ws S 0) 0 g0 w2 from ⟨fun k hk => (hown2.cellAt k (by omega)).trans (V32_get (by simpa [rdS, S8.list] using hk)), fun h => absurd h (by omega), own_le hown2 g0 rfl, hg0, (Below.refl _ _).grown hgrow (Nat.le_refl _) (fun k hk => by simp [Value.ownBlock] at hk)⟩)
  clear hown0 hown2 hgrow hg0
  go_wp2
  go_loopw [8, 9, 10, 11, 12, 13] (fun v i _ _ _ _ wr => ∃ (i' g cap : Nat), i' ≤ 64 ∧ i = .int .i64 i' ∧ v = .slice (some ⟨g, 0, none⟩) 8 cap ∧ 8 ≤ cap ∧ (0 < i' → cap = 8) ∧ Hid (IK w w1 (rdS ws S i') i' g wr)) (fun _ i _ _ _ _ _ => 64 - (intOf i).toNat)
  case atStart => exact ⟨0, g0, cap0, by omega, rfl, rfl, hcap0, fun h => absurd h (by omega), H0⟩
  case round =>
    obtain ⟨i, g, cap, hi64, rfl, rfl, hcap, hcap8, HI⟩ := hrel
    clear H0
    by_cases hlt : i < 64
    · have HST := Lib.hid (HO.out.rd ws i)
      have HNX := Lib.hid (show rdS ws S (i + 1) = (rdS ws S i).next (kk.getD i 0) (ws.getD i 0) from rfl)
      obtain ⟨st, hst⟩ : ∃ st, rdS ws S i = st := ⟨_, rfl⟩
      rw [hst] at HI HST HNX
      clear hst
      obtain ⟨a, b, c, d, e, f, gg, h⟩ := st
      have C := Lib.hid HI.out.cell
      have LT := Lib.hid HI.out.lt
      have hW : ∀ k, k < 64 → wr.cell? ⟨gw, k, none⟩ = some (.int .u32 (ws.getD k 0 : Nat)) := fun k hk => (HI.out.below.cell (p := ⟨gw, k, none⟩) hgwl).trans (HWC.out k hk)
      have hKc : ∀ k, k < 64 → wr.cell? ⟨gk, ok + k, none⟩ = some (.int .u32 (kk.getD k 0 : Nat)) := fun k hk => (HI.out.below.cell (p := ⟨gk, ok + k, none⟩) (Nat.lt_of_lt_of_le hgk HB1.out.size)).trans ((HB1.out.cell (p := ⟨gk, ok + k, none⟩) hgk).trans (HK.out k hk))
      have CW := Lib.hid (hW i hlt)
      have CK := Lib.hid (hKc i hlt)
      clear hW hKc
      generalize ws.getD i 0 = wi at CW HNX
      generalize kk.getD i 0 = ki at CK HNX
      have C0 : Hid (wr.cell? ⟨g, 0, none⟩ = some (.int .u32 (a : Int))) := C.out 0 (by omega)
      have C1 : Hid (wr.cell? ⟨g, 1, none⟩ = some (.int .u32 (b : Int))) := C.out 1 (by omega)
      have C2 : Hid (wr.cell? ⟨g, 2, none⟩ = some (.int .u32 (c : Int))) := C.out 2 (by omega)
      have C3 : Hid (wr.cell? ⟨g, 3, none⟩ = some (.int .u32 (d : Int))) := C.out 3 (by omega)
      have C4 : Hid (wr.cell? ⟨g, 4, none⟩ = some (.int .u32 (e : Int))) := C.out 4 (by omega)
      have C5 : Hid (wr.cell? ⟨g, 5, none⟩ = some (.int .u32 (f : Int))) := C.out 5 (by omega)
      have C6 : Hid (wr.cell? ⟨g, 6, none⟩ = some (.int .u32 (gg : Int))) := C.out 6 (by omega)
      have C7 : Hid (wr.cell? ⟨g, 7, none⟩ = some (.int .u32 (h : Int))) := C.out 7 (by omega)
      have la : Hid (a < 4294967296) := HST.out.1
      have le : Hid (e < 4294967296) := HST.out.2.2.2.2.1
      have ha := u32_wadd
      have hx := u32_xor
      have hn := u32_wand
      have hne := u32_wnot e le.out
      clear C hcap8
      go_upto_region 7 with fail
      refine wp_region_held_drew (S := fun W => W.cell? ⟨g, 4, none⟩ = some (.int .u32 (e : Int)) ∧ W.cell? ⟨g, 0, none⟩ = some (.int .u32 (a : Int))) (by kernel_rfl) ⟨C4.out, C0.out⟩ (fun hHeld => ?_)
      refine wpAnyH_take (i := 0) (v := ?_) (by simp; rfl) (by kernel_rfl) (by kernel_rfl) (by kernel_rfl) (by exact fun _ _ _ h => h) (Or.inl ⟨by rfl, fun wx hSx => ?_⟩) hHeld ?_
      rotate_left
      · clear hSx; go_simp; (try with_reducible rfl)
      simp only [Act.put, List.setIfInBounds_toArray, List.set_cons_zero, List.set_cons_succ]
      refine wpAnyH_take (i := 1) (v := ?_) (by simp; rfl) (by kernel_rfl) (by kernel_rfl) (by kernel_rfl) (by exact fun _ _ _ h => h) (Or.inl ⟨by rfl, fun wx hSx => ?_⟩) hHeld ?_
      rotate_left
      · clear hSx; go_simp; (try with_reducible rfl)
      simp only [Act.put, List.setIfInBounds_toArray, List.set_cons_zero, List.set_cons_succ]
      refine wpAnyH_take (i := 2) (v := ?_) (by simp; rfl) (by kernel_rfl) (by kernel_rfl) (by kernel_rfl) (by exact fun _ _ _ h => h) (Or.inl ⟨by rfl, fun wx hSx => ?_⟩) hHeld ?_
      rotate_left
      · have hc := hSx.1; clear hSx; go_simp; (try with_reducible rfl)
      simp only [Act.put, List.setIfInBounds_toArray, List.set_cons_zero, List.set_cons_succ]
      refine wpAnyH_take (i := 3) (v := ?_) (by simp; rfl) (by kernel_rfl) (by kernel_rfl) (by kernel_rfl) (by exact fun _ _ _ h => h) (Or.inl ⟨by rfl, fun wx hSx => ?_⟩) hHeld ?_
      rotate_left
      · clear hSx; go_simp; (try with_reducible rfl)
      simp only [Act.put, List.setIfInBounds_toArray, List.set_cons_zero, List.set_cons_succ]
      refine wpAnyH_take (i := 4) (v := ?_) (by simp; rfl) (by kernel_rfl) (by kernel_rfl) (by kernel_rfl) (by exact fun _ _ _ h => h) (Or.inl ⟨by rfl, fun wx hSx => ?_⟩) hHeld ?_
      rotate_left
      · clear hSx; go_simp; (try with_reducible rfl)
      simp only [Act.put, List.setIfInBounds_toArray, List.set_cons_zero, List.set_cons_succ]
      refine wpAnyH_take (i := 5) (v := ?_) (by simp; rfl) (by kernel_rfl) (by kernel_rfl) (by kernel_rfl) (by exact fun _ _ _ h => h) (Or.inl ⟨by rfl, fun wx hSx => ?_⟩) hHeld ?_
      rotate_left
      · have hc := hSx.2; clear hSx; go_simp; (try with_reducible rfl)
      simp only [Act.put, List.setIfInBounds_toArray, List.set_cons_zero, List.set_cons_succ]
      refine wpAnyH_take (i := 6) (v := ?_) (by simp; rfl) (by kernel_rfl) (by kernel_rfl) (by kernel_rfl) (by exact fun _ _ _ h => h) (Or.inl ⟨by rfl, fun wx hSx => ?_⟩) hHeld ?_
      rotate_left
      · clear hSx; go_simp; (try with_reducible rfl)
      simp only [Act.put, List.setIfInBounds_toArray, List.set_cons_zero, List.set_cons_succ]
      refine wpAnyH_take (i := 7) (v := ?_) (by simp; rfl) (by kernel_rfl) (by kernel_rfl) (by kernel_rfl) (by exact fun _ _ _ h => h) (Or.inl ⟨by rfl, fun wx hSx => ?_⟩) hHeld ?_
      rotate_left
      · clear hSx; go_simp; (try with_reducible rfl)
      simp only [Act.put, List.setIfInBounds_toArray, List.set_cons_zero, List.set_cons_succ]
      refine wpAnyH_done (by kernel_rfl) ?_ _
      clear hHeld
      go_upto_region 8 with fail
      refine wp_region_held_drew (S := fun W => W.cell? ⟨g, 7, none⟩ = some (.int .u32 (h : Int)) ∧ W.cell? ⟨g, 5, none⟩ = some (.int .u32 (f : Int)) ∧ W.cell? ⟨g, 6, none⟩ = some (.int .u32 (gg : Int)) ∧ W.cell? ⟨gk, ok + i, none⟩ = some (.int .u32 (ki : Int)) ∧ W.cell? ⟨gw, i, none⟩ = some (.int .u32 (wi : Int))) (by kernel_rfl) ⟨C7.out, C5.out, C6.out, CK.out, CW.out⟩ (fun hHeld => ?_)
      refine wpAnyH_take (i := 0) (v := ?_) (by simp; rfl) (by kernel_rfl) (by kernel_rfl) (by kernel_rfl) (by exact fun _ _ _ h => h) (Or.inl ⟨by rfl, fun wx hSx => ?_⟩) hHeld ?_
      rotate_left
      · clear hSx; go_simp; (try with_reducible rfl)
      simp only [Act.put, List.setIfInBounds_toArray, List.set_cons_zero, List.set_cons_succ]
      refine wpAnyH_take (i := 1) (v := ?_) (by simp; rfl) (by kernel_rfl) (by kernel_rfl) (by kernel_rfl) (by exact fun _ _ _ h => h) (Or.inl ⟨by rfl, fun wx hSx => ?_⟩) hHeld ?_
      rotate_left
      · clear hSx; go_simp; (try with_reducible rfl)
      simp only [Act.put, List.setIfInBounds_toArray, List.set_cons_zero, List.set_cons_succ]
      refine wpAnyH_take (i := 2) (v := ?_) (by simp; rfl) (by kernel_rfl) (by kernel_rfl) (by kernel_rfl) (by exact fun _ _ _ h => h) (Or.inl ⟨by rfl, fun wx hSx => ?_⟩) hHeld ?_
      rotate_left
      · have hc := hSx.1; clear hSx; go_simp; (try with_reducible rfl)
      simp only [Act.put, List.setIfInBounds_toArray, List.set_cons_zero, List.set_cons_succ]
      refine wpAnyH_take (i := 3) (v := ?_) (by simp; rfl) (by kernel_rfl) (by kernel_rfl) (by kernel_rfl) (by exact fun _ _ _ h => h) (Or.inl ⟨by rfl, fun wx hSx => ?_⟩) hHeld ?_
      rotate_left
      · clear hSx; go_simp; (try with_reducible rfl)
      simp only [Act.put, List.setIfInBounds_toArray, List.set_cons_zero, List.set_cons_succ]
      refine wpAnyH_take (i := 5) (v := ?_) (by simp; rfl) (by kernel_rfl) (by kernel_rfl) (by kernel_rfl) (by exact fun _ _ _ h => h) (Or.inl ⟨by rfl, fun wx hSx => ?_⟩) hHeld ?_
      rotate_left
      · clear hSx; go_simp; (try with_reducible rfl)
      simp only [Act.put, List.setIfInBounds_toArray, List.set_cons_zero, List.set_cons_succ]
      refine wpAnyH_take (i := 8) (v := ?_) (by simp; rfl) (by kernel_rfl) (by kernel_rfl) (by kernel_rfl) (by exact fun _ _ _ h => h) (Or.inl ⟨by rfl, fun wx hSx => ?_⟩) hHeld ?_
      rotate_left
      · clear hSx; go_simp; (try with_reducible rfl)
      simp only [Act.put, List.setIfInBounds_toArray, List.set_cons_zero, List.set_cons_succ]
      refine wpAnyH_take (i := 12) (v := ?_) (by simp; rfl) (by kernel_rfl) (by kernel_rfl) (by kernel_rfl) (by exact fun _ _ _ h => h) (Or.inl ⟨by rfl, fun wx hSx => ?_⟩) hHeld ?_
      rotate_left
      · clear hSx; go_simp; (try with_reducible rfl)
      simp only [Act.put, List.setIfInBounds_toArray, List.set_cons_zero, List.set_cons_succ]
      refine wpAnyH_take (i := 13) (v := ?_) (by simp; rfl) (by kernel_rfl) (by kernel_rfl) (by kernel_rfl) (by exact fun _ _ _ h => h) (Or.inl ⟨by rfl, fun wx hSx => ?_⟩) hHeld ?_
      rotate_left
      · clear hSx; go_simp; (try with_reducible rfl)
      simp only [Act.put, List.setIfInBounds_toArray, List.set_cons_zero, List.set_cons_succ]
      refine wpAnyH_take (i := 14) (v := ?_) (by simp; rfl) (by kernel_rfl) (by kernel_rfl) (by kernel_rfl) (by exact fun _ _ _ h => h) (Or.inl ⟨by rfl, fun wx hSx => ?_⟩) hHeld ?_
      rotate_left
      · clear hSx; go_simp; (try with_reducible rfl)
      simp only [Act.put, List.setIfInBounds_toArray, List.set_cons_zero, List.set_cons_succ]
      refine wpAnyH_take (i := 15) (v := ?_) (by simp; rfl) (by kernel_rfl) (by kernel_rfl) (by kernel_rfl) (by exact fun _ _ _ h => h) (Or.inl ⟨by rfl, fun wx hSx => ?_⟩) hHeld ?_
      rotate_left
      · have hc := hSx.2.1; clear hSx; go_simp; (try with_reducible rfl)
      simp only [Act.put, List.setIfInBounds_toArray, List.set_cons_zero, List.set_cons_succ]
      refine wpAnyH_take (i := 16) (v := ?_) (by simp; rfl) (by kernel_rfl) (by kernel_rfl) (by kernel_rfl) (by exact fun _ _ _ h => h) (Or.inl ⟨by rfl, fun wx hSx => ?_⟩) hHeld ?_
      rotate_left
      · clear hSx; go_simp; (try with_reducible rfl)
      simp only [Act.put, List.setIfInBounds_toArray, List.set_cons_zero, List.set_cons_succ]
      refine wpAnyH_take (i := 17) (v := ?_) (by simp; rfl) (by kernel_rfl) (by kernel_rfl) (by kernel_rfl) (by exact fun _ _ _ h => h) (Or.inl ⟨by rfl, fun wx hSx => ?_⟩) hHeld ?_
      rotate_left
      · clear hSx; go_simp; (try with_reducible rfl)
      simp only [Act.put, List.setIfInBounds_toArray, List.set_cons_zero, List.set_cons_succ]
      refine wpAnyH_take (i := 18) (v := ?_) (by simp; rfl) (by kernel_rfl) (by kernel_rfl) (by kernel_rfl) (by exact fun _ _ _ h => h) (Or.inl ⟨by rfl, fun wx hSx => ?_⟩) hHeld ?_
      rotate_left
      · clear hSx; go_simp; (try with_reducible rfl)
      simp only [Act.put, List.setIfInBounds_toArray, List.set_cons_zero, List.set_cons_succ]
      refine wpAnyH_take (i := 19) (v := ?_) (by simp; rfl) (by kernel_rfl) (by kernel_rfl) (by kernel_rfl) (by exact fun _ _ _ h => h) (Or.inl ⟨by rfl, fun wx hSx => ?_⟩) hHeld ?_
      rotate_left
      · clear hSx; go_simp; (try with_reducible rfl)
      simp only [Act.put, List.setIfInBounds_toArray, List.set_cons_zero, List.set_cons_succ]
      refine wpAnyH_take (i := 20) (v := ?_) (by simp; rfl) (by kernel_rfl) (by kernel_rfl) (by kernel_rfl) (by exact fun _ _ _ h => h) (Or.inl ⟨by rfl, fun wx hSx => ?_⟩) hHeld ?_
      rotate_left
      · clear hSx; go_simp; (try with_reducible rfl)
      simp only [Act.put, List.setIfInBounds_toArray, List.set_cons_zero, List.set_cons_succ]
      refine wpAnyH_take (i := 21) (v := ?_) (by simp; rfl) (by kernel_rfl) (by kernel_rfl) (by kernel_rfl) (by exact fun _ _ _ h => h) (Or.inl ⟨by rfl, fun wx hSx => ?_⟩) hHeld ?_
      rotate_left
      · have hc := hSx.2.2.1; clear hSx; go_simp; (try with_reducible rfl)
      simp only [Act.put, List.setIfInBounds_toArray, List.set_cons_zero, List.set_cons_succ]
      refine wpAnyH_take (i := 22) (v := ?_) (by simp; rfl) (by kernel_rfl) (by kernel_rfl) (by kernel_rfl) (by exact fun _ _ _ h => h) (Or.inl ⟨by rfl, fun wx hSx => ?_⟩) hHeld ?_
      rotate_left
      · clear hSx; go_simp; (try with_reducible rfl)
      simp only [Act.put, List.setIfInBounds_toArray, List.set_cons_zero, List.set_cons_succ]
      refine wpAnyH_take (i := 23) (v := ?_) (by simp; rfl) (by kernel_rfl) (by kernel_rfl) (by kernel_rfl) (by exact fun _ _ _ h => h) (Or.inl ⟨by rfl, fun wx hSx => ?_⟩) hHeld ?_
      rotate_left
      · clear hSx; go_simp; (try with_reducible rfl)
      simp only [Act.put, List.setIfInBounds_toArray, List.set_cons_zero, List.set_cons_succ]
      refine wpAnyH_take (i := 25) (v := ?_) (by simp; rfl) (by kernel_rfl) (by kernel_rfl) (by kernel_rfl) (by exact fun _ _ _ h => h) (Or.inl ⟨by rfl, fun wx hSx => ?_⟩) hHeld ?_
      rotate_left
      · clear hSx; go_simp; (try with_reducible rfl)
      simp only [Act.put, List.setIfInBounds_toArray, List.set_cons_zero, List.set_cons_succ]
      refine wpAnyH_take (i := 26) (v := ?_) (by simp; rfl) (by kernel_rfl) (by kernel_rfl) (by kernel_rfl) (by exact fun _ _ _ h => h) (Or.inl ⟨by rfl, fun wx hSx => ?_⟩) hHeld ?_
      rotate_left
      · clear hSx; go_simp; (try with_reducible rfl)
      simp only [Act.put, List.setIfInBounds_toArray, List.set_cons_zero, List.set_cons_succ]
      refine wpAnyH_take (i := 27) (v := ?_) (by simp; rfl) (by kernel_rfl) (by kernel_rfl) (by kernel_rfl) (by exact fun _ _ _ h => h) (Or.inl ⟨by rfl, fun wx hSx => ?_⟩) hHeld ?_
      rotate_left
      · clear hSx; go_simp; (try with_reducible rfl)
      simp only [Act.put, List.setIfInBounds_toArray, List.set_cons_zero, List.set_cons_succ]
      refine wpAnyH_take (i := 28) (v := ?_) (by simp; rfl) (by kernel_rfl) (by kernel_rfl) (by kernel_rfl) (by exact fun _ _ _ h => h) (Or.inl ⟨by rfl, fun wx hSx => ?_⟩) hHeld ?_
      rotate_left
      · have hc := hSx.2.2.2.1; clear hSx; go_simp; (try with_reducible rfl)
      simp only [Act.put, List.setIfInBounds_toArray, List.set_cons_zero, List.set_cons_succ]
      refine wpAnyH_take (i := 30) (v := ?_) (by simp; rfl) (by kernel_rfl) (by kernel_rfl) (by kernel_rfl) (by exact fun _ _ _ h => h) (Or.inl ⟨by rfl, fun wx hSx => ?_⟩) hHeld ?_
      rotate_left
      · clear hSx; go_simp; (try with_reducible rfl)
      simp only [Act.put, List.setIfInBounds_toArray, List.set_cons_zero, List.set_cons_succ]
      refine wpAnyH_take (i := 31) (v := ?_) (by simp; rfl) (by kernel_rfl) (by kernel_rfl) (by kernel_rfl) (by exact fun _ _ _ h => h) (Or.inl ⟨by rfl, fun wx hSx => ?_⟩) hHeld ?_
      rotate_left
      · clear hSx; go_simp; (try with_reducible rfl)
      simp only [Act.put, List.setIfInBounds_toArray, List.set_cons_zero, List.set_cons_succ]
      refine wpAnyH_take (i := 32) (v := ?_) (by simp; rfl) (by kernel_rfl) (by kernel_rfl) (by kernel_rfl) (by exact fun _ _ _ h => h) (Or.inl ⟨by rfl, fun wx hSx => ?_⟩) hHeld ?_
      rotate_left
      · clear hSx; go_simp; (try with_reducible rfl)
      simp only [Act.put, List.setIfInBounds_toArray, List.set_cons_zero, List.set_cons_succ]
      refine wpAnyH_take (i := 33) (v := ?_) (by simp; rfl) (by kernel_rfl) (by kernel_rfl) (by kernel_rfl) (by exact fun _ _ _ h => h) (Or.inl ⟨by rfl, fun wx hSx => ?_⟩) hHeld ?_
      rotate_left
      · have hc := hSx.2.2.2.2; clear hSx; go_simp; (try with_reducible rfl)
      simp only [Act.put, List.setIfInBounds_toArray, List.set_cons_zero, List.set_cons_succ]
      refine wpAnyH_ready (rs := [4]) (by kernel_rfl) (by simp) ?_
      refine AllReadyH.cons (by simp; rfl) (fun K0 hK0 => ?_) AllReadyH.nil
      go_simp
      refine (rturn_r 6 e _ le.out (by omega) (by omega)).mono ?_
      rintro e w9 ⟨rfl, hw9⟩
      subst hw9
      refine hK0.out _ _ hHeld (fun _ => ?_)
      clear hK0 K0
      refine wpAnyH_ready (rs := [6]) (by kernel_rfl) (by simp) ?_
      refine AllReadyH.cons (by simp; rfl) (fun K0 hK0 => ?_) AllReadyH.nil
      go_simp
      refine (rturn_r 11 e _ le.out (by omega) (by omega)).mono ?_
      rintro e w9 ⟨rfl, hw9⟩
      subst hw9
      refine hK0.out _ _ hHeld (fun _ => ?_)
      clear hK0 K0
      refine wpAnyH_take (i := 7) (v := ?_) (by simp; rfl) (by kernel_rfl) (by kernel_rfl) (by kernel_rfl) (by exact fun _ _ _ h => h) (Or.inl ⟨by rfl, fun wx hSx => ?_⟩) hHeld ?_
      rotate_left
      · clear hSx; go_simp; (try with_reducible rfl)
      simp only [Act.put, List.setIfInBounds_toArray, List.set_cons_zero, List.set_cons_succ]
      refine wpAnyH_ready (rs := [9]) (by kernel_rfl) (by simp) ?_
      refine AllReadyH.cons (by simp; rfl) (fun K0 hK0 => ?_) AllReadyH.nil
      go_simp
      refine (rturn_r 25 e _ le.out (by omega) (by omega)).mono ?_
      rintro e w9 ⟨rfl, hw9⟩
      subst hw9
      refine hK0.out _ _ hHeld (fun _ => ?_)
      clear hK0 K0
      refine wpAnyH_take (i := 10) (v := ?_) (by simp; rfl) (by kernel_rfl) (by kernel_rfl) (by kernel_rfl) (by exact fun _ _ _ h => h) (Or.inl ⟨by rfl, fun wx hSx => ?_⟩) hHeld ?_
      rotate_left
      · clear hSx; go_simp; (try with_reducible rfl)
      simp only [Act.put, List.setIfInBounds_toArray, List.set_cons_zero, List.set_cons_succ]
      refine wpAnyH_take (i := 11) (v := ?_) (by simp; rfl) (by kernel_rfl) (by kernel_rfl) (by kernel_rfl) (by exact fun _ _ _ h => h) (Or.inl ⟨by rfl, fun wx hSx => ?_⟩) hHeld ?_
      rotate_left
      · clear hSx; go_simp; (try with_reducible rfl)
      simp only [Act.put, List.setIfInBounds_toArray, List.set_cons_zero, List.set_cons_succ]
      refine wpAnyH_take (i := 24) (v := ?_) (by simp; rfl) (by kernel_rfl) (by kernel_rfl) (by kernel_rfl) (by exact fun _ _ _ h => h) (Or.inl ⟨by rfl, fun wx hSx => ?_⟩) hHeld ?_
      rotate_left
      · clear hSx; go_simp; (try with_reducible rfl)
      simp only [Act.put, List.setIfInBounds_toArray, List.set_cons_zero, List.set_cons_succ]
      refine wpAnyH_take (i := 29) (v := ?_) (by simp; rfl) (by kernel_rfl) (by kernel_rfl) (by kernel_rfl) (by exact fun _ _ _ h => h) (Or.inl ⟨by rfl, fun wx hSx => ?_⟩) hHeld ?_
      rotate_left
      · clear hSx; go_simp; (try with_reducible rfl)
      simp only [Act.put, List.setIfInBounds_toArray, List.set_cons_zero, List.set_cons_succ]
      refine wpAnyH_take (i := 34) (v := ?_) (by simp; rfl) (by kernel_rfl) (by kernel_rfl) (by kernel_rfl) (by exact fun _ _ _ h => h) (Or.inl ⟨by rfl, fun wx hSx => ?_⟩) hHeld ?_
      rotate_left
      · clear hSx; go_simp; (try with_reducible rfl)
      simp only [Act.put, List.setIfInBounds_toArray, List.set_cons_zero, List.set_cons_succ]
      refine wpAnyH_take (i := 35) (v := ?_) (by simp; rfl) (by kernel_rfl) (by kernel_rfl) (by kernel_rfl) (by exact fun _ _ _ h => h) (Or.inl ⟨by rfl, fun wx hSx => ?_⟩) hHeld ?_
      rotate_left
      · clear hSx; go_simp; (try with_reducible rfl)
      simp only [Act.put, List.setIfInBounds_toArray, List.set_cons_zero, List.set_cons_succ]
      refine wpAnyH_done (by kernel_rfl) ?_ _
      clear hHeld
      go_upto_region 9 with fail
      refine wp_region_held_drew (S := fun W => W.cell? ⟨g, 1, none⟩ = some (.int .u32 (b : Int)) ∧ W.cell? ⟨g, 2, none⟩ = some (.int .u32 (c : Int))) (by kernel_rfl) ⟨C1.out, C2.out⟩ (fun hHeld => ?_)
      refine wpAnyH_take (i := 0) (v := ?_) (by simp; rfl) (by kernel_rfl) (by kernel_rfl) (by kernel_rfl) (by exact fun _ _ _ h => h) (Or.inl ⟨by rfl, fun wx hSx => ?_⟩) hHeld ?_
      rotate_left
      · clear hSx; go_simp; (try with_reducible rfl)
      simp only [Act.put, List.setIfInBounds_toArray, List.set_cons_zero, List.set_cons_succ]
      refine wpAnyH_take (i := 2) (v := ?_) (by simp; rfl) (by kernel_rfl) (by kernel_rfl) (by kernel_rfl) (by exact fun _ _ _ h => h) (Or.inl ⟨by rfl, fun wx hSx => ?_⟩) hHeld ?_
      rotate_left
      · clear hSx; go_simp; (try with_reducible rfl)
      simp only [Act.put, List.setIfInBounds_toArray, List.set_cons_zero, List.set_cons_succ]
      refine wpAnyH_take (i := 5) (v := ?_) (by simp; rfl) (by kernel_rfl) (by kernel_rfl) (by kernel_rfl) (by exact fun _ _ _ h => h) (Or.inl ⟨by rfl, fun wx hSx => ?_⟩) hHeld ?_
      rotate_left
      · clear hSx; go_simp; (try with_reducible rfl)
      simp only [Act.put, List.setIfInBounds_toArray, List.set_cons_zero, List.set_cons_succ]
      refine wpAnyH_take (i := 8) (v := ?_) (by simp; rfl) (by kernel_rfl) (by kernel_rfl) (by kernel_rfl) (by exact fun _ _ _ h => h) (Or.inl ⟨by rfl, fun wx hSx => ?_⟩) hHeld ?_
      rotate_left
      · clear hSx; go_simp; (try with_reducible rfl)
      simp only [Act.put, List.setIfInBounds_toArray, List.set_cons_zero, List.set_cons_succ]
      refine wpAnyH_take (i := 9) (v := ?_) (by simp; rfl) (by kernel_rfl) (by kernel_rfl) (by kernel_rfl) (by exact fun _ _ _ h => h) (Or.inl ⟨by rfl, fun wx hSx => ?_⟩) hHeld ?_
      rotate_left
      · clear hSx; go_simp; (try with_reducible rfl)
      simp only [Act.put, List.setIfInBounds_toArray, List.set_cons_zero, List.set_cons_succ]
      refine wpAnyH_take (i := 10) (v := ?_) (by simp; rfl) (by kernel_rfl) (by kernel_rfl) (by kernel_rfl) (by exact fun _ _ _ h => h) (Or.inl ⟨by rfl, fun wx hSx => ?_⟩) hHeld ?_
      rotate_left
      · clear hSx; go_simp; (try with_reducible rfl)
      simp only [Act.put, List.setIfInBounds_toArray, List.set_cons_zero, List.set_cons_succ]
      refine wpAnyH_take (i := 11) (v := ?_) (by simp; rfl) (by kernel_rfl) (by kernel_rfl) (by kernel_rfl) (by exact fun _ _ _ h => h) (Or.inl ⟨by rfl, fun wx hSx => ?_⟩) hHeld ?_
      rotate_left
      · have hc := hSx.1; clear hSx; go_simp; (try with_reducible rfl)
      simp only [Act.put, List.setIfInBounds_toArray, List.set_cons_zero, List.set_cons_succ]
      refine wpAnyH_take (i := 12) (v := ?_) (by simp; rfl) (by kernel_rfl) (by kernel_rfl) (by kernel_rfl) (by exact fun _ _ _ h => h) (Or.inl ⟨by rfl, fun wx hSx => ?_⟩) hHeld ?_
      rotate_left
      · clear hSx; go_simp; (try with_reducible rfl)
      simp only [Act.put, List.setIfInBounds_toArray, List.set_cons_zero, List.set_cons_succ]
      refine wpAnyH_take (i := 13) (v := ?_) (by simp; rfl) (by kernel_rfl) (by kernel_rfl) (by kernel_rfl) (by exact fun _ _ _ h => h) (Or.inl ⟨by rfl, fun wx hSx => ?_⟩) hHeld ?_
      rotate_left
      · clear hSx; go_simp; (try with_reducible rfl)
      simp only [Act.put, List.setIfInBounds_toArray, List.set_cons_zero, List.set_cons_succ]
      refine wpAnyH_take (i := 14) (v := ?_) (by simp; rfl) (by kernel_rfl) (by kernel_rfl) (by kernel_rfl) (by exact fun _ _ _ h => h) (Or.inl ⟨by rfl, fun wx hSx => ?_⟩) hHeld ?_
      rotate_left
      · clear hSx; go_simp; (try with_reducible rfl)
      simp only [Act.put, List.setIfInBounds_toArray, List.set_cons_zero, List.set_cons_succ]
      refine wpAnyH_take (i := 15) (v := ?_) (by simp; rfl) (by kernel_rfl) (by kernel_rfl) (by kernel_rfl) (by exact fun _ _ _ h => h) (Or.inl ⟨by rfl, fun wx hSx => ?_⟩) hHeld ?_
      rotate_left
      · clear hSx; go_simp; (try with_reducible rfl)
      simp only [Act.put, List.setIfInBounds_toArray, List.set_cons_zero, List.set_cons_succ]
      refine wpAnyH_take (i := 16) (v := ?_) (by simp; rfl) (by kernel_rfl) (by kernel_rfl) (by kernel_rfl) (by exact fun _ _ _ h => h) (Or.inl ⟨by rfl, fun wx hSx => ?_⟩) hHeld ?_
      rotate_left
      · have hc := hSx.2; clear hSx; go_simp; (try with_reducible rfl)
      simp only [Act.put, List.setIfInBounds_toArray, List.set_cons_zero, List.set_cons_succ]
      refine wpAnyH_take (i := 17) (v := ?_) (by simp; rfl) (by kernel_rfl) (by kernel_rfl) (by kernel_rfl) (by exact fun _ _ _ h => h) (Or.inl ⟨by rfl, fun wx hSx => ?_⟩) hHeld ?_
      rotate_left
      · clear hSx; go_simp; (try with_reducible rfl)
      simp only [Act.put, List.setIfInBounds_toArray, List.set_cons_zero, List.set_cons_succ]
      refine wpAnyH_take (i := 18) (v := ?_) (by simp; rfl) (by kernel_rfl) (by kernel_rfl) (by kernel_rfl) (by exact fun _ _ _ h => h) (Or.inl ⟨by rfl, fun wx hSx => ?_⟩) hHeld ?_
      rotate_left
      · clear hSx; go_simp; (try with_reducible rfl)
      simp only [Act.put, List.setIfInBounds_toArray, List.set_cons_zero, List.set_cons_succ]
      refine wpAnyH_take (i := 19) (v := ?_) (by simp; rfl) (by kernel_rfl) (by kernel_rfl) (by kernel_rfl) (by exact fun _ _ _ h => h) (Or.inl ⟨by rfl, fun wx hSx => ?_⟩) hHeld ?_
      rotate_left
      · clear hSx; go_simp; (try with_reducible rfl)
      simp only [Act.put, List.setIfInBounds_toArray, List.set_cons_zero, List.set_cons_succ]
      refine wpAnyH_take (i := 20) (v := ?_) (by simp; rfl) (by kernel_rfl) (by kernel_rfl) (by kernel_rfl) (by exact fun _ _ _ h => h) (Or.inl ⟨by rfl, fun wx hSx => ?_⟩) hHeld ?_
      rotate_left
      · clear hSx; go_simp; (try with_reducible rfl)
      simp only [Act.put, List.setIfInBounds_toArray, List.set_cons_zero, List.set_cons_succ]
      refine wpAnyH_take (i := 21) (v := ?_) (by simp; rfl) (by kernel_rfl) (by kernel_rfl) (by kernel_rfl) (by exact fun _ _ _ h => h) (Or.inl ⟨by rfl, fun wx hSx => ?_⟩) hHeld ?_
      rotate_left
      · have hc := hSx.1; clear hSx; go_simp; (try with_reducible rfl)
      simp only [Act.put, List.setIfInBounds_toArray, List.set_cons_zero, List.set_cons_succ]
      refine wpAnyH_take (i := 22) (v := ?_) (by simp; rfl) (by kernel_rfl) (by kernel_rfl) (by kernel_rfl) (by exact fun _ _ _ h => h) (Or.inl ⟨by rfl, fun wx hSx => ?_⟩) hHeld ?_
      rotate_left
      · clear hSx; go_simp; (try with_reducible rfl)
      simp only [Act.put, List.setIfInBounds_toArray, List.set_cons_zero, List.set_cons_succ]
      refine wpAnyH_take (i := 23) (v := ?_) (by simp; rfl) (by kernel_rfl) (by kernel_rfl) (by kernel_rfl) (by exact fun _ _ _ h => h) (Or.inl ⟨by rfl, fun wx hSx => ?_⟩) hHeld ?_
      rotate_left
      · clear hSx; go_simp; (try with_reducible rfl)
      simp only [Act.put, List.setIfInBounds_toArray, List.set_cons_zero, List.set_cons_succ]
      refine wpAnyH_take (i := 24) (v := ?_) (by simp; rfl) (by kernel_rfl) (by kernel_rfl) (by kernel_rfl) (by exact fun _ _ _ h => h) (Or.inl ⟨by rfl, fun wx hSx => ?_⟩) hHeld ?_
      rotate_left
      · have hc := hSx.2; clear hSx; go_simp; (try with_reducible rfl)
      simp only [Act.put, List.setIfInBounds_toArray, List.set_cons_zero, List.set_cons_succ]
      refine wpAnyH_take (i := 25) (v := ?_) (by simp; rfl) (by kernel_rfl) (by kernel_rfl) (by kernel_rfl) (by exact fun _ _ _ h => h) (Or.inl ⟨by rfl, fun wx hSx => ?_⟩) hHeld ?_
      rotate_left
      · clear hSx; go_simp; (try with_reducible rfl)
      simp only [Act.put, List.setIfInBounds_toArray, List.set_cons_zero, List.set_cons_succ]
      refine wpAnyH_take (i := 26) (v := ?_) (by simp; rfl) (by kernel_rfl) (by kernel_rfl) (by kernel_rfl) (by exact fun _ _ _ h => h) (Or.inl ⟨by rfl, fun wx hSx => ?_⟩) hHeld ?_
      rotate_left
      · clear hSx; go_simp; (try with_reducible rfl)
      simp only [Act.put, List.setIfInBounds_toArray, List.set_cons_zero, List.set_cons_succ]
      refine wpAnyH_ready (rs := [1]) (by kernel_rfl) (by simp) ?_
      refine AllReadyH.cons (by simp; rfl) (fun K0 hK0 => ?_) AllReadyH.nil
      go_simp
      refine (rturn_r 2 a _ la.out (by omega) (by omega)).mono ?_
      rintro e w9 ⟨rfl, hw9⟩
      subst hw9
      refine hK0.out _ _ hHeld (fun _ => ?_)
      clear hK0 K0
      refine wpAnyH_ready (rs := [3]) (by kernel_rfl) (by simp) ?_
      refine AllReadyH.cons (by simp; rfl) (fun K0 hK0 => ?_) AllReadyH.nil
      go_simp
      refine (rturn_r 13 a _ la.out (by omega) (by omega)).mono ?_
      rintro e w9 ⟨rfl, hw9⟩
      subst hw9
      refine hK0.out _ _ hHeld (fun _ => ?_)
      clear hK0 K0
      refine wpAnyH_take (i := 4) (v := ?_) (by simp; rfl) (by kernel_rfl) (by kernel_rfl) (by kernel_rfl) (by exact fun _ _ _ h => h) (Or.inl ⟨by rfl, fun wx hSx => ?_⟩) hHeld ?_
      rotate_left
      · clear hSx; go_simp; (try with_reducible rfl)
      simp only [Act.put, List.setIfInBounds_toArray, List.set_cons_zero, List.set_cons_succ]
      refine wpAnyH_ready (rs := [6]) (by kernel_rfl) (by simp) ?_
      refine AllReadyH.cons (by simp; rfl) (fun K0 hK0 => ?_) AllReadyH.nil
      go_simp
      refine (rturn_r 22 a _ la.out (by omega) (by omega)).mono ?_
      rintro e w9 ⟨rfl, hw9⟩
      subst hw9
      refine hK0.out _ _ hHeld (fun _ => ?_)
      clear hK0 K0
      refine wpAnyH_take (i := 7) (v := ?_) (by simp; rfl) (by kernel_rfl) (by kernel_rfl) (by kernel_rfl) (by exact fun _ _ _ h => h) (Or.inl ⟨by rfl, fun wx hSx => ?_⟩) hHeld ?_
      rotate_left
      · clear hSx; go_simp; (try with_reducible rfl)
      simp only [Act.put, List.setIfInBounds_toArray, List.set_cons_zero, List.set_cons_succ]
      refine wpAnyH_take (i := 27) (v := ?_) (by simp; rfl) (by kernel_rfl) (by kernel_rfl) (by kernel_rfl) (by exact fun _ _ _ h => h) (Or.inl ⟨by rfl, fun wx hSx => ?_⟩) hHeld ?_
      rotate_left
      · clear hSx; go_simp; (try with_reducible rfl)
      simp only [Act.put, List.setIfInBounds_toArray, List.set_cons_zero, List.set_cons_succ]
      refine wpAnyH_take (i := 28) (v := ?_) (by simp; rfl) (by kernel_rfl) (by kernel_rfl) (by kernel_rfl) (by exact fun _ _ _ h => h) (Or.inl ⟨by rfl, fun wx hSx => ?_⟩) hHeld ?_
      rotate_left
      · clear hSx; go_simp; (try with_reducible rfl)
      simp only [Act.put, List.setIfInBounds_toArray, List.set_cons_zero, List.set_cons_succ]
      refine wpAnyH_done (by kernel_rfl) ?_ _
      clear hHeld
      go_upto_region 10 with fail
      refine wp_region_held_drew (S := fun W => Below wr.heap.size wr W) (by kernel_rfl) (Below.refl _ _).drew.drew.drew.drew (fun hHeld => ?_)
      refine wpAnyH_take (i := 0) (v := ?_) (by simp; rfl) (by kernel_rfl) (by kernel_rfl) (by kernel_rfl) (by exact fun _ _ _ h => h) (Or.inl ⟨by rfl, fun wx hSx => ?_⟩) hHeld ?_
      rotate_left
      · clear hSx; go_simp; (try with_reducible rfl)
      simp only [Act.put, List.setIfInBounds_toArray, List.set_cons_zero, List.set_cons_succ]
      refine wpAnyH_take (i := 1) (v := ?_) (by simp; rfl) (by kernel_rfl) (by kernel_rfl) (by kernel_rfl) (by exact fun _ _ _ h => h) (Or.inl ⟨by rfl, fun wx hSx => ?_⟩) hHeld ?_
      rotate_left
      · clear hSx; go_simp; (try with_reducible rfl)
      simp only [Act.put, List.setIfInBounds_toArray, List.set_cons_zero, List.set_cons_succ]
      refine wpAnyH_take (i := 2) (v := ?_) (by simp; rfl) (by kernel_rfl) (by kernel_rfl) (by kernel_rfl) (by exact fun _ _ _ h => h) (Or.inl ⟨by rfl, fun wx hSx => ?_⟩) hHeld ?_
      rotate_left
      · clear hSx; go_simp; (try with_reducible rfl)
      simp only [Act.put, List.setIfInBounds_toArray, List.set_cons_zero, List.set_cons_succ]
      refine wpAnyH_take (i := 3) (v := ?_) (by simp; rfl) (by kernel_rfl) (by kernel_rfl) (by kernel_rfl) (by exact fun _ _ _ h => h) (Or.inl ⟨by rfl, fun wx hSx => ?_⟩) hHeld ?_
      rotate_left
      · clear hSx; go_simp; (try with_reducible rfl)
      simp only [Act.put, List.setIfInBounds_toArray, List.set_cons_zero, List.set_cons_succ]
      refine wpAnyH_take (i := 4) (v := ?_) (by simp; rfl) (by kernel_rfl) (by kernel_rfl) (by kernel_rfl) (by exact fun _ _ _ h => h) (Or.inl ⟨by rfl, fun wx hSx => ?_⟩) hHeld ?_
      rotate_left
      · clear hSx; go_simp; (try with_reducible rfl)
      simp only [Act.put, List.setIfInBounds_toArray, List.set_cons_zero, List.set_cons_succ]
      refine wpAnyH_take (i := 5) (v := ?_) (by simp; rfl) (by kernel_rfl) (by kernel_rfl) (by kernel_rfl) (by exact fun _ _ _ h => h) (Or.inl ⟨by rfl, fun wx hSx => ?_⟩) hHeld ?_
      rotate_left
      · have hc := (hSx.cell (p := ⟨g, 0, none⟩) LT.out).trans C0.out; clear hSx; go_simp; (try with_reducible rfl)
      simp only [Act.put, List.setIfInBounds_toArray, List.set_cons_zero, List.set_cons_succ]
      refine wpAnyH_take (i := 6) (v := ?_) (by simp; rfl) (by kernel_rfl) (by kernel_rfl) (by kernel_rfl) (by exact fun _ _ _ h => h) (Or.inl ⟨by rfl, fun wx hSx => ?_⟩) hHeld ?_
      rotate_left
      · clear hSx; go_simp; (try with_reducible rfl)
      simp only [Act.put, List.setIfInBounds_toArray, List.set_cons_zero, List.set_cons_succ]
      refine wpAnyH_take (i := 7) (v := ?_) (by simp; rfl) (by kernel_rfl) (by kernel_rfl) (by kernel_rfl) (by exact fun _ _ _ h => h) (Or.inl ⟨by rfl, fun wx hSx => ?_⟩) hHeld ?_
      rotate_left
      · clear hSx; go_simp; (try with_reducible rfl)
      simp only [Act.put, List.setIfInBounds_toArray, List.set_cons_zero, List.set_cons_succ]
      refine wpAnyH_take (i := 8) (v := ?_) (by simp; rfl) (by kernel_rfl) (by kernel_rfl) (by kernel_rfl) (by exact fun _ _ _ h => h) (Or.inl ⟨by rfl, fun wx hSx => ?_⟩) hHeld ?_
      rotate_left
      · have hc := (hSx.cell (p := ⟨g, 1, none⟩) LT.out).trans C1.out; clear hSx; go_simp; (try with_reducible rfl)
      simp only [Act.put, List.setIfInBounds_toArray, List.set_cons_zero, List.set_cons_succ]
      refine wpAnyH_take (i := 9) (v := ?_) (by simp; rfl) (by kernel_rfl) (by kernel_rfl) (by kernel_rfl) (by exact fun _ _ _ h => h) (Or.inl ⟨by rfl, fun wx hSx => ?_⟩) hHeld ?_
      rotate_left
      · clear hSx; go_simp; (try with_reducible rfl)
      simp only [Act.put, List.setIfInBounds_toArray, List.set_cons_zero, List.set_cons_succ]
      refine wpAnyH_take (i := 10) (v := ?_) (by simp; rfl) (by kernel_rfl) (by kernel_rfl) (by kernel_rfl) (by exact fun _ _ _ h => h) (Or.inl ⟨by rfl, fun wx hSx => ?_⟩) hHeld ?_
      rotate_left
      · clear hSx; go_simp; (try with_reducible rfl)
      simp only [Act.put, List.setIfInBounds_toArray, List.set_cons_zero, List.set_cons_succ]
      refine wpAnyH_take (i := 11) (v := ?_) (by simp; rfl) (by kernel_rfl) (by kernel_rfl) (by kernel_rfl) (by exact fun _ _ _ h => h) (Or.inl ⟨by rfl, fun wx hSx => ?_⟩) hHeld ?_
      rotate_left
      · have hc := (hSx.cell (p := ⟨g, 2, none⟩) LT.out).trans C2.out; clear hSx; go_simp; (try with_reducible rfl)
      simp only [Act.put, List.setIfInBounds_toArray, List.set_cons_zero, List.set_cons_succ]
      refine wpAnyH_take (i := 12) (v := ?_) (by simp; rfl) (by kernel_rfl) (by kernel_rfl) (by kernel_rfl) (by exact fun _ _ _ h => h) (Or.inl ⟨by rfl, fun wx hSx => ?_⟩) hHeld ?_
      rotate_left
      · clear hSx; go_simp; (try with_reducible rfl)
      simp only [Act.put, List.setIfInBounds_toArray, List.set_cons_zero, List.set_cons_succ]
      refine wpAnyH_take (i := 13) (v := ?_) (by simp; rfl) (by kernel_rfl) (by kernel_rfl) (by kernel_rfl) (by exact fun _ _ _ h => h) (Or.inl ⟨by rfl, fun wx hSx => ?_⟩) hHeld ?_
      rotate_left
      · clear hSx; go_simp; (try with_reducible rfl)
      simp only [Act.put, List.setIfInBounds_toArray, List.set_cons_zero, List.set_cons_succ]
      refine wpAnyH_take (i := 14) (v := ?_) (by simp; rfl) (by kernel_rfl) (by kernel_rfl) (by kernel_rfl) (by exact fun _ _ _ h => h) (Or.inl ⟨by rfl, fun wx hSx => ?_⟩) hHeld ?_
      rotate_left
      · have hc := (hSx.cell (p := ⟨g, 3, none⟩) LT.out).trans C3.out; clear hSx; go_simp; (try with_reducible rfl)
      simp only [Act.put, List.setIfInBounds_toArray, List.set_cons_zero, List.set_cons_succ]
      refine wpAnyH_take (i := 15) (v := ?_) (by simp; rfl) (by kernel_rfl) (by kernel_rfl) (by kernel_rfl) (by exact fun _ _ _ h => h) (Or.inl ⟨by rfl, fun wx hSx => ?_⟩) hHeld ?_
      rotate_left
      · clear hSx; go_simp; (try with_reducible rfl)
      simp only [Act.put, List.setIfInBounds_toArray, List.set_cons_zero, List.set_cons_succ]
      refine wpAnyH_take (i := 16) (v := ?_) (by simp; rfl) (by kernel_rfl) (by kernel_rfl) (by kernel_rfl) (by exact fun _ _ _ h => h) (Or.inl ⟨by rfl, fun wx hSx => ?_⟩) hHeld ?_
      rotate_left
      · clear hSx; go_simp; (try with_reducible rfl)
      simp only [Act.put, List.setIfInBounds_toArray, List.set_cons_zero, List.set_cons_succ]
      refine wpAnyH_take (i := 17) (v := ?_) (by simp; rfl) (by kernel_rfl) (by kernel_rfl) (by kernel_rfl) (by exact fun _ _ _ h => h) (Or.inl ⟨by rfl, fun wx hSx => ?_⟩) hHeld ?_
      rotate_left
      · clear hSx; go_simp; (try with_reducible rfl)
      simp only [Act.put, List.setIfInBounds_toArray, List.set_cons_zero, List.set_cons_succ]
      refine wpAnyH_take (i := 18) (v := ?_) (by simp; rfl) (by kernel_rfl) (by kernel_rfl) (by kernel_rfl) (by exact fun _ _ _ h => h) (Or.inl ⟨by rfl, fun wx hSx => ?_⟩) hHeld ?_
      rotate_left
      · clear hSx; go_simp; (try with_reducible rfl)
      simp only [Act.put, List.setIfInBounds_toArray, List.set_cons_zero, List.set_cons_succ]
      refine wpAnyH_take (i := 19) (v := ?_) (by simp; rfl) (by kernel_rfl) (by kernel_rfl) (by kernel_rfl) (by exact fun _ _ _ h => h) (Or.inl ⟨by rfl, fun wx hSx => ?_⟩) hHeld ?_
      rotate_left
      · have hc := (hSx.cell (p := ⟨g, 4, none⟩) LT.out).trans C4.out; clear hSx; go_simp; (try with_reducible rfl)
      simp only [Act.put, List.setIfInBounds_toArray, List.set_cons_zero, List.set_cons_succ]
      refine wpAnyH_take (i := 20) (v := ?_) (by simp; rfl) (by kernel_rfl) (by kernel_rfl) (by kernel_rfl) (by exact fun _ _ _ h => h) (Or.inl ⟨by rfl, fun wx hSx => ?_⟩) hHeld ?_
      rotate_left
      · clear hSx; go_simp; (try with_reducible rfl)
      simp only [Act.put, List.setIfInBounds_toArray, List.set_cons_zero, List.set_cons_succ]
      refine wpAnyH_take (i := 21) (v := ?_) (by simp; rfl) (by kernel_rfl) (by kernel_rfl) (by kernel_rfl) (by exact fun _ _ _ h => h) (Or.inl ⟨by rfl, fun wx hSx => ?_⟩) hHeld ?_
      rotate_left
      · clear hSx; go_simp; (try with_reducible rfl)
      simp only [Act.put, List.setIfInBounds_toArray, List.set_cons_zero, List.set_cons_succ]
      refine wpAnyH_take (i := 22) (v := ?_) (by simp; rfl) (by kernel_rfl) (by kernel_rfl) (by kernel_rfl) (by exact fun _ _ _ h => h) (Or.inl ⟨by rfl, fun wx hSx => ?_⟩) hHeld ?_
      rotate_left
      · have hc := (hSx.cell (p := ⟨g, 5, none⟩) LT.out).trans C5.out; clear hSx; go_simp; (try with_reducible rfl)
      simp only [Act.put, List.setIfInBounds_toArray, List.set_cons_zero, List.set_cons_succ]
      refine wpAnyH_take (i := 23) (v := ?_) (by simp; rfl) (by kernel_rfl) (by kernel_rfl) (by kernel_rfl) (by exact fun _ _ _ h => h) (Or.inl ⟨by rfl, fun wx hSx => ?_⟩) hHeld ?_
      rotate_left
      · clear hSx; go_simp; (try with_reducible rfl)
      simp only [Act.put, List.setIfInBounds_toArray, List.set_cons_zero, List.set_cons_succ]
      refine wpAnyH_take (i := 24) (v := ?_) (by simp; rfl) (by kernel_rfl) (by kernel_rfl) (by kernel_rfl) (by exact fun _ _ _ h => h) (Or.inl ⟨by rfl, fun wx hSx => ?_⟩) hHeld ?_
      rotate_left
      · clear hSx; go_simp; (try with_reducible rfl)
      simp only [Act.put, List.setIfInBounds_toArray, List.set_cons_zero, List.set_cons_succ]
      refine wpAnyH_take (i := 25) (v := ?_) (by simp; rfl) (by kernel_rfl) (by kernel_rfl) (by kernel_rfl) (by exact fun _ _ _ h => h) (Or.inl ⟨by rfl, fun wx hSx => ?_⟩) hHeld ?_
      rotate_left
      · have hc := (hSx.cell (p := ⟨g, 6, none⟩) LT.out).trans C6.out; clear hSx; go_simp; (try with_reducible rfl)
      simp only [Act.put, List.setIfInBounds_toArray, List.set_cons_zero, List.set_cons_succ]
      refine wpAnyH_ready (rs := [26]) (by kernel_rfl) (by simp) ?_
      refine AllReadyH.cons (by simp; rfl) (fun K0 hK0 => ?_) AllReadyH.nil
      go_simp
      refine hK0.out _ _ (hHeld.alloc hHeld.size _) (fun hHeld => ?_)
      clear hK0 K0
      refine wpAnyH_take (i := 27) (v := ?_) (by simp; rfl) (by kernel_rfl) (by kernel_rfl) (by kernel_rfl) (by exact fun _ _ _ h => h) (Or.inl ⟨by rfl, fun wx hSx => ?_⟩) hHeld ?_
      rotate_left
      · clear hSx; go_simp; (try with_reducible rfl)
      simp only [Act.put, List.setIfInBounds_toArray, List.set_cons_zero, List.set_cons_succ]
      refine wpAnyH_done (by kernel_rfl) ?_ _
      have hnl := next_list a b c d e f gg h ki wi
      rw [← HNX.out] at hnl
      have HNL := Lib.hid hnl
      clear hnl HNX
      go_wp2
      go_roundw
      case rel => exact ⟨i + 1, wr.heap.size, 8, by omega, by go_num, rfl, by omega, fun _ => rfl, Lib.hid (HI.out.new8 _ wr.drew.drew.drew.drew ((Below.refl _ wr).drew.drew.drew.drew) HNL.out)⟩
      case measure => simp [intOf]; omega
    · obtain rfl : i = 64 := by omega
      obtain rfl := hcap8 (by omega)
      rw [show ((64 : Nat) : Int) = (64 : Int) from rfl]
      generalize rdS ws S 64 = V at HI HG
      have HB := Lib.hid (HI.out.blk (by omega))
      have hlo := HI.out.lo
      have H2 := Lib.hid (show Blk32 wr g 33 (addTo V.list S.list 0) ∧ Below w1.heap.size w1 wr from ⟨HB.out, HI.out.below⟩)
      have ha := u32_wadd
      clear HI HB hcap8
      go_wp2
      go_loopw [14] (fun k wr => ∃ k' : Nat, k' ≤ 8 ∧ k = .int .i64 k' ∧ Hid (Blk32 wr g 33 (addTo V.list S.list k') ∧ Below w1.heap.size w1 wr)) (fun k _ => 8 - (intOf k).toNat)
      case atStart => exact ⟨0, by omega, rfl, H2⟩
      case round =>
        obtain ⟨k, hk8, rfl, HL⟩ := hrel
        clear H2
        by_cases hlk : k < 8
        · have hl8 : (addTo V.list S.list k).length = 8 := by rw [length_addTo]; rfl
          have cV := HL.out.1.cell (i := k) (by omega)
          have fV := HL.out.1.free k
          have cS : wr.cell? ⟨gs, os + k, none⟩ = some (.int .u32 (S.list.getD k 0 : Nat)) := (HL.out.2.cell (p := ⟨gs, os + k, none⟩) (Nat.lt_of_lt_of_le hgs HB1.out.size)).trans ((HB1.out.cell (p := ⟨gs, os + k, none⟩) hgs).trans (HS.out k (by simpa [S8.list] using hlk)))
          have HN := Lib.hid (show Blk32 (wr.setCell ⟨g, k, none⟩ (.int .u32 ((add32 ((addTo V.list S.list k).getD k 0) (S.list.getD k 0) : Nat) : Int))) g 33 (addTo V.list S.list (k + 1)) ∧ Below w1.heap.size w1 (wr.setCell ⟨g, k, none⟩ (.int .u32 ((add32 ((addTo V.list S.list k).getD k 0) (S.list.getD k 0) : Nat) : Int))) from
            ⟨HL.out.1.set k _, HL.out.2.setCell (p := ⟨g, k, none⟩) hlo _⟩)
          obtain ⟨p, hp⟩ : ∃ p, (addTo V.list S.list k).getD k 0 = p := ⟨_, rfl⟩
          obtain ⟨q, hq⟩ : ∃ q, S.list.getD k 0 = q := ⟨_, rfl⟩
          rw [hp] at cV HN
          rw [hq] at cS HN
          clear hp hq hl8 HL
          go_wp2
          go_region
          go_wp2
          go_roundw
          case rel => exact ⟨k + 1, by omega, by go_num, Lib.hid ⟨HN.out.1, HN.out.2.drew⟩⟩
          case measure => simp [intOf]; omega
        · obtain rfl : k = 8 := by omega
          have HE : Hid (RN .u32 wr (some ⟨g, 0, none⟩) GO.list ∧ Below w.heap.size w wr ∧ w.heap.size ≤ g) := by
            refine Lib.hid ⟨fun _ => ⟨g, 0, rfl, (Array.getElem?_eq_some_iff.1 HL.out.1).1, fun j hj => ?_⟩, HB1.out.trans (HL.out.2.mono HB1.out.size), Nat.le_trans HB1.out.size hlo⟩
            have hj8 : j < 8 := by simpa [S8.list] using hj
            have hc := HL.out.1.cell (i := j) (by rw [length_addTo]; simpa [S8.list] using hj8)
            have e8 := addTo_eight V S
            rw [e8] at hc
            rw [Nat.zero_add, HG.out]
            exact hc
          clear HL ha
          go_wp2
          go_ret
          exact ⟨g, 8, rfl, by omega, by unfold maxLen; omega, HE.out.2.2, HE.out.1, HE.out.2.1⟩
end Go.Proofs.YtakfcdemoaogfaaDoor
