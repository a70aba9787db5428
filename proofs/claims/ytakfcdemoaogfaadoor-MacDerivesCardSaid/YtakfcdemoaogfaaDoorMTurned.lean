/-
  Proved here, where the table of constants is as the program lays it, for every key, bytes, numbers and byte: the law MacTurned answers true, and nothing that was there is changed.
-/
import Derived.Test.YtakfcdemoaogfaaDoorMAlive
namespace Go.Proofs.YtakfcdemoaogfaaDoor
open Go.RowKit
theorem mark_one (key bs : List Nat) (A B : Option Addr) (ca cb : Nat) (w : World) (N : Nat) (hN : w.heap.size = N) (hK : R0 w A key) (hca : key.length ≤ ca) (hma : ca ≤ maxLen) (hB : R0 w B bs) (hcb : bs.length ≤ cb) (hmb : cb ≤ maxLen) (hT : Tab w) (hn : key.length < 1152921504606846000) (hn2 : bs.length < 1152921504606840000) :
    Calls Tryd.prog 18 #[.slice A key.length ca, .slice (some ⟨N, 0, none⟩) 1 1] (w.alloc (.cells #[.slice B bs.length cb] 22)) fun e w' => e = .returned (.agg (V8 (markS key bs)).toArray) ∧ Below N w w' := by
  subst hN
  have hb : Below w.heap.size w (w.alloc (.cells #[.slice B bs.length cb] 22)) := (Below.refl _ _).alloc (Nat.le_refl _) _
  have := mark_any key [bs] A (some ⟨w.heap.size, 0, none⟩) ca 1 _ (hK.to hb) hca hma (RS.one (heap_alloc_new w (.cells #[.slice B bs.length cb] 22)) (hB.to hb) hcb hmb) (by simp) (by unfold maxLen; omega) (hT.to hb) hn (by simpa using hn2)
  refine this.mono ?_
  rintro e w' ⟨rfl, h⟩
  exact ⟨by simp, hb.trans (h.mono hb.size)⟩
theorem right_one (key mk bs : List Nat) (n : Nat) (hl : mk.length = n) (A M B : Option Addr) (ca cm cb : Nat) (w : World) (N : Nat) (hN : w.heap.size = N) (hK : R0 w A key) (hca : key.length ≤ ca) (hma : ca ≤ maxLen) (hM : R0 w M mk) (hmk : ∀ i, mk.getD i 0 < 256) (hB : R0 w B bs) (hcb : bs.length ≤ cb) (hmb : cb ≤ maxLen) (hT : Tab w) (hn : key.length < 1152921504606846000) (hn2 : bs.length < 1152921504606840000) :
    Calls Tryd.prog 21 #[.slice A key.length ca, .slice M n cm, .slice (some ⟨N, 0, none⟩) 1 1] (w.alloc (.cells #[.slice B bs.length cb] 22)) fun e w' => e = .returned (.bool (rightS key mk bs)) ∧ Below N w w' := by
  subst hN
  subst hl
  have hb : Below w.heap.size w (w.alloc (.cells #[.slice B bs.length cb] 22)) := (Below.refl _ _).alloc (Nat.le_refl _) _
  have := right_any key mk [bs] A M (some ⟨w.heap.size, 0, none⟩) ca cm 1 _ (hK.to hb) hca hma (hM.to hb) hmk (RS.one (heap_alloc_new w (.cells #[.slice B bs.length cb] 22)) (hB.to hb) hcb hmb) (by simp) (by unfold maxLen; omega) (hT.to hb) hn (by simpa using hn2)
  refine this.mono ?_
  rintro e w' ⟨rfl, h⟩
  exact ⟨by simp, hb.trans (h.mono hb.size)⟩
theorem right_same (key bs : List Nat) (n : Nat) (h8 : 8 ≤ n) (h32 : n ≤ 32) : rightS key ((markS key bs).take n) bs = true := by
  simp [rightS, length_markS, eqS]
  omega
theorem right_other (key bs : List Nat) (n i y : Nat) (hi : i < n) (hn : n ≤ 32) (hy : y < 256) (h0 : y ≠ 0) : rightS key (((markS key bs).set i (xor8 ((markS key bs).getD i 0) y)).take n) bs = false := by
  have hX := markS_lt key bs i
  have hl := length_markS key bs
  unfold rightS
  generalize markS key bs = X at hX hl ⊢
  have : eqS ((X.set i (xor8 (X.getD i 0) y)).take n) (X.take ((X.set i (xor8 (X.getD i 0) y)).take n).length) = false := by
    rw [eqS, beq_eq_false_iff_ne]
    intro h
    have h2 := congrArg (fun l => l.getD i 0) h
    have hm : i < X.length := by omega
    simp only [List.getD_eq_getElem?_getD, List.getElem?_take, List.length_take, List.length_set, List.getElem?_set] at h2
    rw [if_pos hi, if_pos (show i < min n X.length by omega)] at h2
    simp only [if_true, hm] at h2
    have e : X[i]?.getD 0 = X.getD i 0 := rfl
    simp only [Option.getD_some, e] at h2
    have := (xor8_zero (xor8 (X.getD i 0) y) (X.getD i 0) (by unfold xor8; omega) hX).2 h2
    unfold xor8 at this
    have h3 : X.getD i 0 ^^^ y < 256 := Nat.xor_lt_two_pow (n := 8) hX hy
    rw [Nat.mod_eq_of_lt h3] at this
    have h4 : (X.getD i 0 ^^^ y) ^^^ X.getD i 0 = y := by rw [Nat.xor_comm (X.getD i 0) y, Nat.xor_assoc, Nat.xor_self, Nat.xor_zero]
    rw [h4, Nat.mod_eq_of_lt hy] at this
    exact h0 this
  rw [this, Bool.and_false]
set_option maxHeartbeats 1000000 in
theorem turned_out (A B : Option Addr) (lk ca lb cb : Nat) (n at_ y : Int) (w : World) (hT : Tab w) (h : 300 < lk ∨ 1000 < lb ∨ n < 8 ∨ 32 < n) :
    Calls Tryd.prog 8 #[.slice A lk ca, .slice B lb cb, .int .i64 n, .int .i64 at_, .int .u8 y] w fun e w' => e = .returned (.bool true) ∧ Below w.heap.size w w' := by
  have HT := Lib.hid hT
  clear hT
  by_cases h1 : (300 : Int) < (lk : Int)
  · clear h
    go_enter Tryd.func8, Tryd.ntmps8
    go_wp2_with fail
    refine (alive4_any w HT.out).mono ?_
    rintro e w1 ⟨rfl, hb⟩
    go_wp2
    go_ret
    exact ⟨rfl, hb⟩
  by_cases h2 : (1000 : Int) < (lb : Int)
  · clear h
    go_enter Tryd.func8, Tryd.ntmps8
    go_wp2_with fail
    refine (alive4_any w HT.out).mono ?_
    rintro e w1 ⟨rfl, hb⟩
    go_wp2
    go_ret
    exact ⟨rfl, hb⟩
  by_cases h3 : n < 8
  · clear h
    go_enter Tryd.func8, Tryd.ntmps8
    go_wp2_with fail
    refine (alive4_any w HT.out).mono ?_
    rintro e w1 ⟨rfl, hb⟩
    go_wp2
    go_ret
    exact ⟨rfl, hb⟩
  have h4 : (32 : Int) < n := by omega
  clear h
  go_enter Tryd.func8, Tryd.ntmps8
  go_wp2_with fail
  refine (alive4_any w HT.out).mono ?_
  rintro e w1 ⟨rfl, hb⟩
  go_wp2
  go_ret
  exact ⟨rfl, hb⟩
set_option maxRecDepth 100000 in
set_option maxHeartbeats 1000000 in
theorem turned_in (key bs : List Nat) (A B : Option Addr) (ca cb : Nat) (n : Nat) (at_ : Int) (y : Nat) (w : World) (hT : Tab w) (hK : R0 w A key) (hca : key.length ≤ ca) (hma : ca ≤ maxLen) (hB : R0 w B bs) (hcb : bs.length ≤ cb) (hmb : cb ≤ maxLen) (hk : key.length ≤ 300) (hb : bs.length ≤ 1000) (h8 : 8 ≤ n) (h32 : n ≤ 32) (hy : y < 256) :
    Calls Tryd.prog 8 #[.slice A key.length ca, .slice B bs.length cb, .int .i64 (n : Int), .int .i64 at_, .int .u8 (y : Int)] w fun e w' => e = .returned (.bool true) ∧ Below w.heap.size w w' := by
  have t1 : ¬ (300 : Int) < (key.length : Int) := by omega
  have t2 : ¬ (1000 : Int) < (bs.length : Int) := by omega
  have t3 : ¬ (n : Int) < 8 := by omega
  have t4 : ¬ (32 : Int) < (n : Int) := by omega
  have HM := Lib.hid (mark_one key bs A B ca cb w _ rfl hK hca hma hB hcb hmb hT (by omega) (by omega))
  have HR := Lib.hid (fun (W : World) (hb : Below w.heap.size w W) (mk : List Nat) (hl : mk.length = n) (M : Option Addr) (hM : R0 W M mk) (hmk : ∀ i, mk.getD i 0 < 256) => right_one key mk bs n hl A M B ca 32 cb W _ rfl (hK.to hb) hca hma hM hmk (hB.to hb) hcb hmb (hT.to hb) (by omega) (by omega))
  have HS0 := Lib.hid (right_same key bs n h8 h32)
  have HS1 := Lib.hid (fun i hi h0 => right_other key bs n i y hi h32 hy h0)
  have HXL := Lib.hid (length_markS key bs)
  have HXB := Lib.hid (markS_lt key bs)
  generalize markS key bs = X at HM HS0 HS1 HXL HXB
  have HSX := Lib.hid (show (Tryd.prog.info? 29).map (·.size) = some (V8 X).toArray.size by rw [List.size_toArray, length_V8, HXL.out]; exact info29)
  have HEX := Lib.hid (show (V8 Z32).toArray.size = (V8 X).toArray.size by simp [HXL.out, Z32])
  have HOX := Lib.hid (show (V8 X).toArray.all (·.oneCell') = true by simpa using one_V8 X)
  have HT := Lib.hid hT
  have HN := Lib.hid (And.intro h8 (And.intro h32 hy))
  clear hT hK hca hma hB hcb hmb hk hb h8 h32 hy
  go_enter Tryd.func8, Tryd.ntmps8
  go_wp2_with fail
  refine HM.out.mono ?_
  rintro e w1 ⟨rfl, hb1⟩
  have HB1 := Lib.hid hb1
  clear hb1 HM
  go_upto_region 4 with (refine wpList_store_row rfl 29 _ _ rfl w1.heap.size (V8 X).toArray rfl rfl 29 (V8 Z32).toArray (heap_alloc_new _ _) HSX.out HEX.out HOX.out ?_)
  obtain ⟨U, hU, G1, G2⟩ : ∃ U : World, U = (w1.alloc (.cells ZL 29)).setRow w1.heap.size (V8 X).toArray ∧ U.heap[w1.heap.size]? = some (.cells (V8 X).toArray 29 (0, 0)) ∧ Below w.heap.size w U :=
    ⟨_, rfl, setRow_heap _ _ _ _ _ _ (heap_alloc_new _ _), below_setRow (HB1.out.alloc HB1.out.size _) HB1.out.size _⟩
  unfold ZL at hU
  rw [← hU]
  have hsz : w.heap.size ≤ w1.heap.size := HB1.out.size
  clear hU HB1 HEX HOX HSX
  generalize w1.heap.size = m at G1 hsz ⊢
  have HG1 := Lib.hid G1
  have HG2 := Lib.hid G2
  clear G1 G2
  have hs16 := slice_arr29_to m n HN.out.2.1
  go_wp2_with fail
  refine (HR.out U HG2.out (X.take n) (by have := HN.out.2.1; simp [HXL.out]; omega) (some ⟨m, 0, none⟩) (R0.front (R0.block HG1.out) n) (take_lt HXB.out n)).mono ?_
  rintro e w2 ⟨rfl, hb2⟩
  rw [HS0.out]
  have HH1 := Lib.hid (show w2.heap[m]? = some (.cells (V8 X).toArray 29 (0, 0)) from (hb2.block _ (lt_of_blk HG1.out)).trans HG1.out)
  have HH2 := Lib.hid (show Below w.heap.size w w2 from HG2.out.trans (hb2.mono HG2.out.size))
  clear hb2 HG1 HG2 HS0
  by_cases q1 : at_ < 0
  · go_wp2_with fail
    refine (alive4_any w2 (HT.out.to HH2.out)).mono ?_
    rintro e w3 ⟨rfl, hb3⟩
    go_wp2
    go_ret
    exact ⟨rfl, HH2.out.trans (hb3.mono HH2.out.size)⟩
  by_cases q2 : (n : Int) ≤ at_
  · go_wp2_with fail
    refine (alive4_any w2 (HT.out.to HH2.out)).mono ?_
    rintro e w3 ⟨rfl, hb3⟩
    go_wp2
    go_ret
    exact ⟨rfl, HH2.out.trans (hb3.mono HH2.out.size)⟩
  by_cases q3 : y = 0
  · subst q3
    go_wp2_with fail
    refine (alive4_any w2 (HT.out.to HH2.out)).mono ?_
    rintro e w3 ⟨rfl, hb3⟩
    go_wp2
    go_ret
    exact ⟨rfl, HH2.out.trans (hb3.mono HH2.out.size)⟩
  obtain ⟨i, rfl⟩ : ∃ i : Nat, at_ = (i : Int) := ⟨at_.toNat, by omega⟩
  have hin : i < n := by omega
  have q4 : ((y : Int) == 0) = false := by rw [beq_eq_false_iff_ne]; omega
  have HQ := Lib.hid (HS1.out i hin q3)
  have hi32 : i < 32 := by have := HN.out.2.1; omega
  have hbk : Blk8 w2 m 29 X := HH1.out
  have c0 := hbk.cell (i := i) (by rw [HXL.out]; exact hi32)
  have f0 := hbk.free i
  have s0 := hbk.set i (xor8 (X.getD i 0) y)
  have hlt : ∀ j, (X.set i (xor8 (X.getD i 0) y)).getD j 0 < 256 := set_lt HXB.out (by unfold xor8; omega)
  have hlen : (X.set i (xor8 (X.getD i 0) y)).length = 32 := by rw [List.length_set, HXL.out]
  clear hbk HS1 q3
  generalize hX2 : X.set i (xor8 (X.getD i 0) y) = X2 at HQ s0 hlt hlen
  clear hX2
  generalize X.getD i 0 = x at c0 s0
  have HS := Lib.hid (And.intro s0 (And.intro hlt hlen))
  clear s0 hlt hlen
  have r1 := u8_xor
  have HV := Lib.hid (show Below w.heap.size w (w2.setCell ⟨m, i, none⟩ (.int .u8 (xor8 x y : Nat))) from HH2.out.setCell (p := ⟨m, i, none⟩) hsz _)
  go_wp2_with fail
  generalize w2.setCell ⟨m, i, none⟩ (.int .u8 (xor8 x y : Nat)) = V at HS HV ⊢
  refine (alive4_any V (HT.out.to HV.out)).mono ?_
  rintro e w3 ⟨rfl, hb3⟩
  have HK1 := Lib.hid (show w3.heap[m]? = some (.cells (V8 X2).toArray 29 (0, 0)) from (hb3.block _ (lt_of_blk HS.out.1)).trans HS.out.1)
  have HK2 := Lib.hid (show Below w.heap.size w w3 from HV.out.trans (hb3.mono HV.out.size))
  clear hb3 HV HH1 HH2 c0 f0 q1 q2 q4 r1
  go_wp2_with fail
  refine (HR.out w3 HK2.out (X2.take n) (by have := HN.out.2.1; simp [HS.out.2.2]; omega) (some ⟨m, 0, none⟩) (R0.front (R0.block HK1.out) n) (take_lt HS.out.2.1 n)).mono ?_
  rintro e w4 ⟨rfl, hb4⟩
  rw [HQ.out]
  go_wp2
  go_ret
  exact ⟨rfl, HK2.out.trans (hb4.mono HK2.out.size)⟩
end Go.Proofs.YtakfcdemoaogfaaDoor
