/-
  Proved here, where the table of constants is as the program lays it, for every key, bytes and numbers: the law MacKeys answers true, and nothing that was there is changed.
-/
import Derived.Test.YtakfcdemoaogfaaDoorMZeros
import Derived.Deep.RegionHeld
import Derived.Deep.DrawnRows
namespace Go.Proofs.YtakfcdemoaogfaaDoor
open Go.RowKit
theorem addr_zero (a : Addr) : a.add 0 = a := by
  obtain ⟨b, off, sp⟩ := a
  unfold Addr.add
  split <;> simp_all
/-- The first m of a slice. -/
theorem slice_high (A : Option Addr) (l c m : Nat) (hm : m ≤ l) (hl : l ≤ c) (W : World) : (Instr.slice 22 (.slice A l c) none (some (.int .i64 (m : Int))) none).run Tryd.prog W = .ok (.slice A m c) W := by
  have h1 : (m : Int) ≤ (c : Int) := by omega
  cases A with
  | none => simp [Instr.slice, run_underlying Tryd.underlying22, Instr.sliceBounds, run_sliceBound, h1]
  | some a => simp [Instr.slice, run_underlying Tryd.underlying22, Instr.sliceBounds, run_sliceBound, h1, addr_zero]
/-- What a slice holds from m on. -/
theorem slice_low {A : Option Addr} {bs : List Nat} {l c m : Nat} (w : World) (hl : bs.length = l) (h : R0 w A bs) (hlc : l ≤ c) (hm : m ≤ l) : ∃ A', (∀ W, Below w.heap.size w W → R0 W A' (bs.drop m)) ∧ ∀ W : World, (Instr.slice 22 (.slice A l c) (some (.int .i64 (m : Int))) none none).run Tryd.prog W = .ok (.slice A' (l - m) (c - m)) W := by
  have h1 : (m : Int) ≤ (l : Int) := by omega
  cases A with
  | none =>
    refine ⟨none, fun W hW hp => ?_, fun W => by simp [Instr.slice, run_underlying Tryd.underlying22, Instr.sliceBounds, run_sliceBound, h1]⟩
    obtain ⟨_, _, e, _⟩ := h (by simp at hp; omega)
    cases e
  | some a =>
    refine ⟨some (if c = m then a else a.add m), fun W hW hp => ?_, fun W => ?_⟩
    · have hp' : m < l := by simp at hp; omega
      obtain ⟨b, off, e, hb, hc⟩ := (h.to hW) (by omega)
      obtain rfl := Option.some.inj e
      have ha : (⟨b, off, none⟩ : Addr).add m = ⟨b, off + m, none⟩ := by unfold Addr.add; split <;> simp_all
      rw [if_neg (by omega), ha]
      refine ⟨b, off + m, rfl, hb, fun i hi => ?_⟩
      rw [List.length_drop] at hi
      rw [show off + m + i = off + (m + i) by omega, hc (m + i) (by omega)]
      simp [List.getD_eq_getElem?_getD]
    · simp [Instr.slice, run_underlying Tryd.underlying22, Instr.sliceBounds, run_sliceBound, h1]
      split <;> rfl
/-- The blocks that have been made so far. -/
structure KS (w : World) (oA oB : Obj) (oa ob : Option Nat) (W : World) : Prop where
  below : Below w.heap.size w W
  a : ∀ g, oa = some g → W.heap[g]? = some oA
  b : ∀ g, ob = some g → W.heap[g]? = some oB
theorem KS.to {w : World} {oA oB : Obj} {oa ob : Option Nat} {W W' : World} (h : KS w oA oB oa ob W) (hb : Below W.heap.size W W') : KS w oA oB oa ob W' :=
  ⟨h.below.trans (hb.mono h.below.size), fun g hg => (hb.block _ (lt_of_blk (h.a g hg))).trans (h.a g hg), fun g hg => (hb.block _ (lt_of_blk (h.b g hg))).trans (h.b g hg)⟩
theorem KS.newA {w : World} {oA oB : Obj} {ob : Option Nat} {W : World} (h : KS w oA oB none ob W) : KS w oA oB (some W.heap.size) ob (W.alloc oA) := by
  have h' := h.to ((Below.refl _ _).alloc (Nat.le_refl _) oA)
  refine ⟨h'.below, fun g hg => ?_, h'.b⟩
  obtain rfl := Option.some.inj hg
  exact heap_alloc_new _ _
theorem KS.newB {w : World} {oA oB : Obj} {oa : Option Nat} {W : World} (h : KS w oA oB oa none W) : KS w oA oB oa (some W.heap.size) (W.alloc oB) := by
  have h' := h.to ((Below.refl _ _).alloc (Nat.le_refl _) oB)
  refine ⟨h'.below, h'.a, fun g hg => ?_⟩
  obtain rfl := Option.some.inj hg
  exact heap_alloc_new _ _
theorem fill_same (key : List Nat) (m : Nat) (h : key.length + m ≤ 64) : fillK (key ++ List.replicate m 0) = fillK key := by
  rw [fillK, if_pos (by simp; omega), fillK, if_pos (by omega), List.append_assoc, List.replicate_append_replicate]
  congr 2
  simp
  omega
theorem mark_same (key bs : List Nat) (m : Nat) (h : key.length + m ≤ 64) : markS (key ++ List.replicate m 0) bs = markS key bs := by
  rw [markS, markS, fill_same key m h]
set_option maxHeartbeats 1000000 in
theorem keys_out (A B : Option Addr) (lk ca lb cb : Nat) (m i : Int) (w : World) (hT : Tab w) (h63 : -9223372036854775808 ≤ m ∧ m ≤ 9223372036854775807) (h : 64 < lk ∨ 1000 < lb ∨ m < 0 ∨ 64 - lk < m ∨ i < 0 ∨ lb < i) :
    Calls Tryd.prog 9 #[.slice A lk ca, .slice B lb cb, .int .i64 m, .int .i64 i] w fun e w' => e = .returned (.bool true) ∧ Below w.heap.size w w' := by
  have HT := Lib.hid hT
  clear hT
  by_cases h1 : (64 : Int) < (lk : Int)
  · clear h
    go_enter Tryd.func9, Tryd.ntmps9
    go_wp2_with fail
    refine (alive4_any w HT.out).mono ?_
    rintro e w1 ⟨rfl, hb⟩
    go_wp2
    go_ret
    exact ⟨rfl, hb⟩
  by_cases h2 : (1000 : Int) < (lb : Int)
  · clear h
    go_enter Tryd.func9, Tryd.ntmps9
    go_wp2_with fail
    refine (alive4_any w HT.out).mono ?_
    rintro e w1 ⟨rfl, hb⟩
    go_wp2
    go_ret
    exact ⟨rfl, hb⟩
  by_cases h3 : m < 0
  · clear h
    go_enter Tryd.func9, Tryd.ntmps9
    go_wp2_with fail
    refine (alive4_any w HT.out).mono ?_
    rintro e w1 ⟨rfl, hb⟩
    go_wp2
    go_ret
    exact ⟨rfl, hb⟩
  by_cases h4 : (64 : Int) - (lk : Int) < m
  · clear h
    go_enter Tryd.func9, Tryd.ntmps9
    go_wp2_with fail
    refine (alive4_any w HT.out).mono ?_
    rintro e w1 ⟨rfl, hb⟩
    go_wp2
    go_ret
    exact ⟨rfl, hb⟩
  by_cases h5 : i < 0
  · clear h
    go_enter Tryd.func9, Tryd.ntmps9
    go_wp2_with fail
    refine (alive4_any w HT.out).mono ?_
    rintro e w1 ⟨rfl, hb⟩
    go_wp2
    go_ret
    exact ⟨rfl, hb⟩
  have h6 : (lb : Int) < i := by omega
  clear h
  go_enter Tryd.func9, Tryd.ntmps9
  go_wp2_with fail
  refine (alive4_any w HT.out).mono ?_
  rintro e w1 ⟨rfl, hb⟩
  go_wp2
  go_ret
  exact ⟨rfl, hb⟩
theorem own_from {w : World} {base : Nat} {e : TypeId} {size : Nat} {v : Value} {n : Nat} {xs : List Value} (h : w.ownsRow base e size v n xs) : ∀ k, v.ownBlock = some k → base ≤ k := by
  intro k hk
  rcases h.2 with ⟨rfl, _⟩ | ⟨g, cap, cur, rfl, hg, _⟩
  · simp [Value.ownBlock] at hk
  · have : g = k := by simpa [Value.ownBlock] using hk
    omega
theorem own_r0 {w : World} {base : Nat} {v : Value} {n : Nat} {cs : List Nat} (h : w.ownsRow base 5 1 v n (V8 cs)) : ∃ A cap, v = .slice A n cap ∧ R0 w A cs ∧ n ≤ cap ∧ cap ≤ maxLen := by
  obtain ⟨hl, ⟨rfl, rfl⟩ | ⟨b, cap, cur, rfl, hb, hblk, hnc, hmx, hsz, htk⟩⟩ := id h
  · refine ⟨none, 0, rfl, fun hp => ?_, Nat.le_refl _, by unfold maxLen; omega⟩
    simp at hl
    rw [hl] at hp
    simp at hp
  · refine ⟨_, cap, rfl, fun hp => ⟨b, 0, rfl, (Array.getElem?_eq_some_iff.1 hblk).1, fun i hi => ?_⟩, hnc, hmx⟩
    have hn : cs.length = n := by simpa using hl
    have := h.cellAt i (by omega)
    rw [Nat.zero_add, this, V8_get hi]
theorem mark_at1 (key bs : List Nat) (n nb : Nat) (hn : key.length = n) (hnb : bs.length = nb) (L B : Option Addr) (cl cb : Nat) (W : World) (g : Nat) (hg : W.heap[g]? = some (.cells #[.slice B nb cb] 22 (0, 0))) (hL : R0 W L key) (hcl : n ≤ cl) (hml : cl ≤ maxLen) (hB : R0 W B bs) (hcb : nb ≤ cb) (hmb : cb ≤ maxLen) (hT : Tab W) (h1 : n ≤ 64) (h2 : nb ≤ 1000) :
    Calls Tryd.prog 18 #[.slice L n cl, .slice (some ⟨g, 0, none⟩) 1 1] W fun e w' => e = .returned (.agg (V8 (markS key bs)).toArray) ∧ Below W.heap.size W w' := by
  subst hn
  subst hnb
  have := mark_any key [bs] L (some ⟨g, 0, none⟩) cl 1 W hL hcl hml (RS.one hg hB hcb hmb) (by simp) (by unfold maxLen; omega) hT (by omega) (by simp; omega)
  simpa using this
theorem mark_at2 (key b1 b2 : List Nat) (n n1 n2 : Nat) (hn : key.length = n) (hn1 : b1.length = n1) (hn2 : b2.length = n2) (L B1 B2 : Option Addr) (cl c1 c2 : Nat) (W : World) (g : Nat) (hg : W.heap[g]? = some (.cells #[.slice B1 n1 c1, .slice B2 n2 c2] 22 (0, 0))) (hL : R0 W L key) (hcl : n ≤ cl) (hml : cl ≤ maxLen) (hB1 : R0 W B1 b1) (hB2 : R0 W B2 b2) (hc1 : n1 ≤ c1) (hm1 : c1 ≤ maxLen) (hc2 : n2 ≤ c2) (hm2 : c2 ≤ maxLen) (hT : Tab W) (h1 : n ≤ 64) (h2 : n1 + n2 ≤ 1000) :
    Calls Tryd.prog 18 #[.slice L n cl, .slice (some ⟨g, 0, none⟩) 2 2] W fun e w' => e = .returned (.agg (V8 (markS key (b1 ++ b2))).toArray) ∧ Below W.heap.size W w' := by
  subst hn
  subst hn1
  subst hn2
  have := mark_any key [b1, b2] L (some ⟨g, 0, none⟩) cl 2 W hL hcl hml (RS.two hg hB1 hB2 hc1 hc2 hm1 hm2) (by simp) (by unfold maxLen; omega) hT (by omega) (by simp; omega)
  simpa using this
/-- The key, copied. -/
theorem app_key (key : List Nat) (A : Option Addr) (ca : Nat) (w : World) (hK : R0 w A key) (hnA : A = none → ca = 0) (hca : key.length ≤ ca) (hk : key.length ≤ 64) :
    ∃ v1 w1, (Builtin.append_ #[22, 22] 22 #[.slice (some ⟨w.heap.size, 0, none⟩) 0 0, .slice A key.length ca]).run Tryd.prog (w.alloc (.cells #[] 5)) = .ok v1 w1 ∧ w1.ownsRow w.heap.size 5 1 v1 key.length (V8 key) ∧ Below w.heap.size w w1 ∧ v1 ≠ .slice none 0 0 := by
  obtain ⟨i0, hi, hz0, hz1, hz2⟩ := info_parts infoByte
  have hown : (w.alloc (.cells #[] 5)).ownsRow w.heap.size 5 1 (.slice (some ⟨w.heap.size, 0, none⟩) 0 0) 0 [] := World.ownsRow_made w #[] 0 (Nat.le_refl _) (by unfold maxLen; omega) rfl
  have hbl : Below w.heap.size w (w.alloc (.cells #[] 5)) := (Below.refl _ _).alloc (Nat.le_refl _) _
  cases A with
  | none =>
    have h0 : ca = 0 := hnA rfl
    subst h0
    obtain rfl : key = [] := List.eq_nil_of_length_eq_zero (by omega)
    exact ⟨_, _, run_append_owned_none _ w.heap.size 22 22 5 i0 1 Tryd.underlying22 hi _ 0 [] hown, hown, hbl, by simp⟩
  | some a =>
    obtain ⟨v1, w1, hr, ho, hg, hv⟩ := run_append_own (P := Tryd.prog) (w.alloc (.cells #[] 5)) w.heap.size 22 22 5 i0 (.int .u8 0) 1 1 Tryd.underlying22 hi hz0 hz1 hz2 rfl (by decide) _ 0 [] hown a key.length ca (V8 key) (by simp) (fun j u hj => by
        have hjl : j < key.length := by simpa using (List.getElem?_eq_some_iff.1 hj).1
        obtain ⟨b, off, e, hlt, hc⟩ := (hK.to hbl) (by omega)
        obtain rfl := Option.some.inj e
        have hadd : (⟨b, off, none⟩ : Addr).add j = ⟨b, off + j, none⟩ := by unfold Addr.add; split <;> simp_all
        rw [hadd, hc j hjl, ← hj, V8_get hjl]) (one_V8 key) (by unfold maxLen; omega) (by omega) (by simp)
    refine ⟨v1, w1, hr, by simpa using ho, hbl.grown hg (by simp) (own_from hown), fun h => ?_⟩
    have := (hv.1 h).1
    cases this
theorem V8_zeros (key : List Nat) (m : Nat) : V8 key ++ List.replicate m (.int .u8 0) = V8 (key ++ List.replicate m 0) := by
  simp [V8, List.map_replicate]
set_option maxRecDepth 100000 in
set_option maxHeartbeats 2000000 in
theorem keys_in (key bs : List Nat) (A B : Option Addr) (ca cb : Nat) (m i : Nat) (w : World) (hT : Tab w) (hK : R0 w A key) (hca : key.length ≤ ca) (hma : ca ≤ maxLen) (hnA : A = none → ca = 0) (hB : R0 w B bs) (hcb : bs.length ≤ cb) (hmb : cb ≤ maxLen) (hb : bs.length ≤ 1000) (hm : key.length + m ≤ 64) (hi : i ≤ bs.length) :
    Calls Tryd.prog 9 #[.slice A key.length ca, .slice B bs.length cb, .int .i64 (m : Int), .int .i64 (i : Int)] w fun e w' => e = .returned (.bool true) ∧ Below w.heap.size w w' := by
  have t1 : ¬ (64 : Int) < (key.length : Int) := by omega
  have t2 : ¬ (1000 : Int) < (bs.length : Int) := by omega
  have t3 : ¬ (m : Int) < 0 := by omega
  have t4 : ¬ (64 : Int) - (key.length : Int) < (m : Int) := by omega
  have t5 : ¬ (i : Int) < 0 := by omega
  have t6 : ¬ (bs.length : Int) < (i : Int) := by omega
  obtain ⟨v1, w1, hr1, ho1, hb1, hv1⟩ := app_key key A ca w hK hnA hca (by omega)
  obtain ⟨i0, hi0, hz0, hz1, hz2⟩ := info_parts infoByte
  obtain ⟨v2, w2, hr2, ho2, hg2⟩ := run_zeros_own (P := Tryd.prog) w1 w.heap.size 22 3 22 5 i0 (.int .u8 0) Tryd.underlying22 Tryd.underlying3 hi0 hz0 hz1 hz2 rfl rfl v1 key.length m (V8 key) ho1 hv1 hm hb1.size
  have hb2 : Below w.heap.size w w2 := hb1.grown hg2 hb1.size (own_from ho1)
  rw [V8_zeros] at ho2
  obtain ⟨L, cl, rfl, hL, hcl, hml⟩ := own_r0 ho2
  obtain ⟨B2, hB2, hs2⟩ := slice_low w2 rfl (hB.to hb2) hcb hi
  have hs1 := fun W => slice_high B bs.length cb i hi hcb W
  obtain ⟨n, hn⟩ : ∃ n, key.length = n := ⟨_, rfl⟩
  obtain ⟨nb, hnb⟩ : ∃ nb, bs.length = nb := ⟨_, rfl⟩
  have HMA := Lib.hid (fun (oa ob : Option Nat) (W : World) (g : Nat) (h : KS w2 (.cells #[.slice B nb cb] 22) (.cells #[.slice B i cb, .slice B2 (nb - i) (cb - i)] 22) oa ob W) (e : oa = some g) =>
    mark_at1 (key ++ List.replicate m 0) bs (n + m) nb (by simp [hn]) hnb L B cl cb W g (h.a g e) (hL.to h.below) (by omega) hml ((hB.to hb2).to h.below) (by omega) hmb ((hT.to hb2).to h.below) (by omega) (by omega))
  have HMB := Lib.hid (fun (oa ob : Option Nat) (W : World) (g : Nat) (h : KS w2 (.cells #[.slice B nb cb] 22) (.cells #[.slice B i cb, .slice B2 (nb - i) (cb - i)] 22) oa ob W) (e : ob = some g) =>
    mark_at2 key (bs.take i) (bs.drop i) n i (nb - i) hn (by simp; omega) (by simp [hnb]) A B B2 ca cb (cb - i) W g (h.b g e) ((hK.to hb2).to h.below) (by omega) hma (R0.front ((hB.to hb2).to h.below) i) (hB2 W h.below) (by omega) hmb (by omega) (by omega) ((hT.to hb2).to h.below) (by omega) (by omega))
  rw [mark_same key bs m hm] at HMA
  rw [List.take_append_drop] at HMB
  have HEQ := Lib.hid (fun W => eqSum (markS key bs) (markS key bs) (length_markS _ _) (length_markS _ _) W)
  rw [beq_self_eq_true] at HEQ
  generalize markS key bs = X at HMA HMB HEQ
  have HR1 := Lib.hid hr1
  have HR2 := Lib.hid hr2
  have HB2 := Lib.hid hb2
  have HT2 := Lib.hid (hT.to hb2)
  rw [hn] at HR1 t1 t4
  rw [hnb] at t2 t6 hs1 hs2 hi
  rw [hn] at HR2
  rw [hn, hnb]
  clear hT hK hca hma hnA hB hcb hmb hb hm ho1 hb1 hv1 ho2 hg2 hb2 hL hcl hml hB2 hr1 hr2 hn hnb hz0 hz1 hz2 hi0
  go_enter Tryd.func9, Tryd.ntmps9
  go_upto_region 4 with (first | (at_builtin; refine wpList_run _ rfl _ _ 22 22 rfl _ _ rfl rfl _ _ HR1.out ?_) | (at_builtin; refine wpList_run _ rfl _ _ 22 3 rfl _ _ rfl rfl _ _ HR2.out ?_))
  have hq := HEQ.out
  clear HR1 HR2 t1 t2 t3 t4 t5 t6
  refine wp_region_held_drew (S := fun _ => True) (by kernel_rfl) trivial (fun hHeld => ?_)
  refine wpAnyH_ready (rs := [0]) (by kernel_rfl) (by simp) ?_
  refine AllReadyH.cons (by simp; rfl) (fun K0 hK0 => ?_) AllReadyH.nil
  go_simp
  refine (alive4_any w2.drew (HT2.out.to (Below.refl _ _).drew)).mono ?_
  rintro e U0 ⟨rfl, hb0⟩
  have N0 := Lib.hid (show KS w2 (.cells #[.slice B nb cb] 22) (.cells #[.slice B i cb, .slice B2 (nb - i) (cb - i)] 22) none none U0 from ⟨(Below.refl _ _).drew.trans hb0, (fun g h => by cases h), (fun g h => by cases h)⟩)
  refine hK0.out _ _ trivial (fun hHeld => ?_)
  clear hK0 K0 hb0
  refine wpAnyH_take (i := 1) (v := ?_) (by simp; rfl) (by kernel_rfl) (by kernel_rfl) (by kernel_rfl) (by exact fun _ _ _ h => h) (Or.inl ⟨by rfl, fun wx hSx => ?_⟩) hHeld ?_
  rotate_left
  · clear hSx; go_simp; (try with_reducible rfl)
  simp only [Act.put, List.setIfInBounds_toArray, List.set_cons_zero, List.set_cons_succ]
  refine wpAnyH_take (i := 2) (v := ?_) (by simp; rfl) (by kernel_rfl) (by kernel_rfl) (by kernel_rfl) (by exact fun _ _ _ h => h) (Or.inl ⟨by rfl, fun wx hSx => ?_⟩) hHeld ?_
  rotate_left
  · clear hSx; go_simp; (try with_reducible rfl)
  simp only [Act.put, List.setIfInBounds_toArray, List.set_cons_zero, List.set_cons_succ]
  refine wpAnyH_take (i := 3) (v := ?_) (by simp; rfl) (by kernel_rfl) (by kernel_rfl) (by kernel_rfl) (by exact fun _ _ _ h => h) (Or.inl ⟨by rfl, fun wx hSx => ?_⟩) hHeld ?_
  rotate_left
  · clear hSx; go_simp; (try with_reducible rfl)
  simp only [Act.put, List.setIfInBounds_toArray, List.set_cons_zero, List.set_cons_succ]
  refine wpAnyH_take (i := 6) (v := ?_) (by simp; rfl) (by kernel_rfl) (by kernel_rfl) (by kernel_rfl) (by exact fun _ _ _ h => h) (Or.inl ⟨by rfl, fun wx hSx => ?_⟩) hHeld ?_
  rotate_left
  · clear hSx; go_simp; (try with_reducible rfl)
  simp only [Act.put, List.setIfInBounds_toArray, List.set_cons_zero, List.set_cons_succ]
  refine wpAnyH_take (i := 7) (v := ?_) (by simp; rfl) (by kernel_rfl) (by kernel_rfl) (by kernel_rfl) (by exact fun _ _ _ h => h) (Or.inl ⟨by rfl, fun wx hSx => ?_⟩) hHeld ?_
  rotate_left
  · clear hSx; go_simp; (try with_reducible rfl)
  simp only [Act.put, List.setIfInBounds_toArray, List.set_cons_zero, List.set_cons_succ]
  refine wpAnyH_take (i := 8) (v := ?_) (by simp; rfl) (by kernel_rfl) (by kernel_rfl) (by kernel_rfl) (by exact fun _ _ _ h => h) (Or.inl ⟨by rfl, fun wx hSx => ?_⟩) hHeld ?_
  rotate_left
  · clear hSx; go_simp; (try with_reducible rfl)
  simp only [Act.put, List.setIfInBounds_toArray, List.set_cons_zero, List.set_cons_succ]
  refine wpAnyH_take (i := 9) (v := ?_) (by simp; rfl) (by kernel_rfl) (by kernel_rfl) (by kernel_rfl) (by exact fun _ _ _ h => h) (Or.inl ⟨by rfl, fun wx hSx => ?_⟩) hHeld ?_
  rotate_left
  · clear hSx; go_simp; (try with_reducible rfl)
  simp only [Act.put, List.setIfInBounds_toArray, List.set_cons_zero, List.set_cons_succ]
  refine wpAnyH_take (i := 10) (v := ?_) (by simp; rfl) (by kernel_rfl) (by kernel_rfl) (by kernel_rfl) (by exact fun _ _ _ h => h) (Or.inl ⟨by rfl, fun wx hSx => ?_⟩) hHeld ?_
  rotate_left
  · clear hSx; go_simp; (try with_reducible rfl)
  simp only [Act.put, List.setIfInBounds_toArray, List.set_cons_zero, List.set_cons_succ]
  refine wpAnyH_take (i := 11) (v := ?_) (by simp; rfl) (by kernel_rfl) (by kernel_rfl) (by kernel_rfl) (by exact fun _ _ _ h => h) (Or.inl ⟨by rfl, fun wx hSx => ?_⟩) hHeld ?_
  rotate_left
  · clear hSx; go_simp; (try with_reducible rfl)
  simp only [Act.put, List.setIfInBounds_toArray, List.set_cons_zero, List.set_cons_succ]
  refine wpAnyH_take (i := 12) (v := ?_) (by simp; rfl) (by kernel_rfl) (by kernel_rfl) (by kernel_rfl) (by exact fun _ _ _ h => h) (Or.inl ⟨by rfl, fun wx hSx => ?_⟩) hHeld ?_
  rotate_left
  · clear hSx; go_simp; (try with_reducible rfl)
  simp only [Act.put, List.setIfInBounds_toArray, List.set_cons_zero, List.set_cons_succ]
  refine wpAnyH_ready (rs := [4, 13]) (by kernel_rfl) (by simp) ?_
  refine AllReadyH.cons (by simp; rfl) (fun K0 hK0 => ?_) (AllReadyH.cons (by simp; rfl) (fun K0 hK0 => ?_) AllReadyH.nil)
  · go_simp
    have N1 := Lib.hid (N0.out.newA)
    refine hK0.out _ _ trivial (fun hHeld => ?_)
    clear hK0 K0 N0
    generalize (U0.alloc _) = y2 at N1 ⊢
    generalize U0.heap.size = g3 at N1 ⊢
    refine wpAnyH_ready (rs := [5, 13]) (by kernel_rfl) (by simp) ?_
    refine AllReadyH.cons (by simp; rfl) (fun K0 hK0 => ?_) (AllReadyH.cons (by simp; rfl) (fun K0 hK0 => ?_) AllReadyH.nil)
    · go_simp
      refine (HMA.out _ _ y2 g3 N1.out rfl).mono ?_
      rintro e y5 ⟨rfl, hb⟩
      have N4 := Lib.hid (N1.out.to hb)
      refine hK0.out _ _ trivial (fun hHeld => ?_)
      clear hK0 K0 N1 hb
      refine wpAnyH_ready (rs := [13]) (by kernel_rfl) (by simp) ?_
      refine AllReadyH.cons (by simp; rfl) (fun K0 hK0 => ?_) AllReadyH.nil
      · go_simp
        have N6 := Lib.hid (N4.out.newB)
        refine hK0.out _ _ trivial (fun hHeld => ?_)
        clear hK0 K0 N4
        generalize (y5.alloc _) = y7 at N6 ⊢
        generalize y5.heap.size = g8 at N6 ⊢
        refine wpAnyH_ready (rs := [14]) (by kernel_rfl) (by simp) ?_
        refine AllReadyH.cons (by simp; rfl) (fun K0 hK0 => ?_) AllReadyH.nil
        · go_simp
          refine (HMB.out _ _ y7 g8 N6.out rfl).mono ?_
          rintro e y10 ⟨rfl, hb⟩
          have N9 := Lib.hid (N6.out.to hb)
          refine hK0.out _ _ trivial (fun hHeld => ?_)
          clear hK0 K0 N6 hb
          refine wpAnyH_take (i := 15) (v := ?_) (by simp; rfl) (by kernel_rfl) (by kernel_rfl) (by kernel_rfl) (by exact fun _ _ _ h => h) (Or.inl ⟨by rfl, fun wx hSx => ?_⟩) hHeld ?_
          rotate_left
          · clear hSx; go_simp; (try with_reducible rfl)
          simp only [Act.put, List.setIfInBounds_toArray, List.set_cons_zero, List.set_cons_succ]
          refine wpAnyH_take (i := 16) (v := ?_) (by simp; rfl) (by kernel_rfl) (by kernel_rfl) (by kernel_rfl) (by exact fun _ _ _ h => h) (Or.inl ⟨by rfl, fun wx hSx => ?_⟩) hHeld ?_
          rotate_left
          · clear hSx; go_simp; (try with_reducible rfl)
          simp only [Act.put, List.setIfInBounds_toArray, List.set_cons_zero, List.set_cons_succ]
          refine wpAnyH_take (i := 17) (v := ?_) (by simp; rfl) (by kernel_rfl) (by kernel_rfl) (by kernel_rfl) (by exact fun _ _ _ h => h) (Or.inl ⟨by rfl, fun wx hSx => ?_⟩) hHeld ?_
          rotate_left
          · clear hSx; go_simp; (try with_reducible rfl)
          simp only [Act.put, List.setIfInBounds_toArray, List.set_cons_zero, List.set_cons_succ]
          refine wpAnyH_done (by kernel_rfl) ?_ _
          go_wp2
          go_ret
          exact ⟨rfl, HB2.out.trans (N9.out.below.mono HB2.out.size)⟩
    · go_simp
      have N11 := Lib.hid (N1.out.newB)
      refine hK0.out _ _ trivial (fun hHeld => ?_)
      clear hK0 K0 N1
      generalize (y2.alloc _) = y12 at N11 ⊢
      generalize y2.heap.size = g13 at N11 ⊢
      refine wpAnyH_ready (rs := [5]) (by kernel_rfl) (by simp) ?_
      refine AllReadyH.cons (by simp; rfl) (fun K0 hK0 => ?_) AllReadyH.nil
      · go_simp
        refine (HMA.out _ _ y12 g3 N11.out rfl).mono ?_
        rintro e y15 ⟨rfl, hb⟩
        have N14 := Lib.hid (N11.out.to hb)
        refine hK0.out _ _ trivial (fun hHeld => ?_)
        clear hK0 K0 N11 hb
        refine wpAnyH_ready (rs := [14]) (by kernel_rfl) (by simp) ?_
        refine AllReadyH.cons (by simp; rfl) (fun K0 hK0 => ?_) AllReadyH.nil
        · go_simp
          refine (HMB.out _ _ y15 g13 N14.out rfl).mono ?_
          rintro e y17 ⟨rfl, hb⟩
          have N16 := Lib.hid (N14.out.to hb)
          refine hK0.out _ _ trivial (fun hHeld => ?_)
          clear hK0 K0 N14 hb
          refine wpAnyH_take (i := 15) (v := ?_) (by simp; rfl) (by kernel_rfl) (by kernel_rfl) (by kernel_rfl) (by exact fun _ _ _ h => h) (Or.inl ⟨by rfl, fun wx hSx => ?_⟩) hHeld ?_
          rotate_left
          · clear hSx; go_simp; (try with_reducible rfl)
          simp only [Act.put, List.setIfInBounds_toArray, List.set_cons_zero, List.set_cons_succ]
          refine wpAnyH_take (i := 16) (v := ?_) (by simp; rfl) (by kernel_rfl) (by kernel_rfl) (by kernel_rfl) (by exact fun _ _ _ h => h) (Or.inl ⟨by rfl, fun wx hSx => ?_⟩) hHeld ?_
          rotate_left
          · clear hSx; go_simp; (try with_reducible rfl)
          simp only [Act.put, List.setIfInBounds_toArray, List.set_cons_zero, List.set_cons_succ]
          refine wpAnyH_take (i := 17) (v := ?_) (by simp; rfl) (by kernel_rfl) (by kernel_rfl) (by kernel_rfl) (by exact fun _ _ _ h => h) (Or.inl ⟨by rfl, fun wx hSx => ?_⟩) hHeld ?_
          rotate_left
          · clear hSx; go_simp; (try with_reducible rfl)
          simp only [Act.put, List.setIfInBounds_toArray, List.set_cons_zero, List.set_cons_succ]
          refine wpAnyH_done (by kernel_rfl) ?_ _
          go_wp2
          go_ret
          exact ⟨rfl, HB2.out.trans (N16.out.below.mono HB2.out.size)⟩
  · go_simp
    have N18 := Lib.hid (N0.out.newB)
    refine hK0.out _ _ trivial (fun hHeld => ?_)
    clear hK0 K0 N0
    generalize (U0.alloc _) = y19 at N18 ⊢
    generalize U0.heap.size = g20 at N18 ⊢
    refine wpAnyH_ready (rs := [4]) (by kernel_rfl) (by simp) ?_
    refine AllReadyH.cons (by simp; rfl) (fun K0 hK0 => ?_) AllReadyH.nil
    · go_simp
      have N21 := Lib.hid (N18.out.newA)
      refine hK0.out _ _ trivial (fun hHeld => ?_)
      clear hK0 K0 N18
      generalize (y19.alloc _) = y22 at N21 ⊢
      generalize y19.heap.size = g23 at N21 ⊢
      refine wpAnyH_ready (rs := [5]) (by kernel_rfl) (by simp) ?_
      refine AllReadyH.cons (by simp; rfl) (fun K0 hK0 => ?_) AllReadyH.nil
      · go_simp
        refine (HMA.out _ _ y22 g23 N21.out rfl).mono ?_
        rintro e y25 ⟨rfl, hb⟩
        have N24 := Lib.hid (N21.out.to hb)
        refine hK0.out _ _ trivial (fun hHeld => ?_)
        clear hK0 K0 N21 hb
        refine wpAnyH_ready (rs := [14]) (by kernel_rfl) (by simp) ?_
        refine AllReadyH.cons (by simp; rfl) (fun K0 hK0 => ?_) AllReadyH.nil
        · go_simp
          refine (HMB.out _ _ y25 g20 N24.out rfl).mono ?_
          rintro e y27 ⟨rfl, hb⟩
          have N26 := Lib.hid (N24.out.to hb)
          refine hK0.out _ _ trivial (fun hHeld => ?_)
          clear hK0 K0 N24 hb
          refine wpAnyH_take (i := 15) (v := ?_) (by simp; rfl) (by kernel_rfl) (by kernel_rfl) (by kernel_rfl) (by exact fun _ _ _ h => h) (Or.inl ⟨by rfl, fun wx hSx => ?_⟩) hHeld ?_
          rotate_left
          · clear hSx; go_simp; (try with_reducible rfl)
          simp only [Act.put, List.setIfInBounds_toArray, List.set_cons_zero, List.set_cons_succ]
          refine wpAnyH_take (i := 16) (v := ?_) (by simp; rfl) (by kernel_rfl) (by kernel_rfl) (by kernel_rfl) (by exact fun _ _ _ h => h) (Or.inl ⟨by rfl, fun wx hSx => ?_⟩) hHeld ?_
          rotate_left
          · clear hSx; go_simp; (try with_reducible rfl)
          simp only [Act.put, List.setIfInBounds_toArray, List.set_cons_zero, List.set_cons_succ]
          refine wpAnyH_take (i := 17) (v := ?_) (by simp; rfl) (by kernel_rfl) (by kernel_rfl) (by kernel_rfl) (by exact fun _ _ _ h => h) (Or.inl ⟨by rfl, fun wx hSx => ?_⟩) hHeld ?_
          rotate_left
          · clear hSx; go_simp; (try with_reducible rfl)
          simp only [Act.put, List.setIfInBounds_toArray, List.set_cons_zero, List.set_cons_succ]
          refine wpAnyH_done (by kernel_rfl) ?_ _
          go_wp2
          go_ret
          exact ⟨rfl, HB2.out.trans (N26.out.below.mono HB2.out.size)⟩
end Go.Proofs.YtakfcdemoaogfaaDoor
