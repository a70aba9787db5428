/-
  Proved here: StyleFlags.
-/
import Derived.Test.YtohhmpkmcodoeaaDoorZi
set_option linter.unusedSimpArgs false
set_option linter.unusedVariables false
namespace Go.Proofs.YtohhmpkmcodoeaaDoor
open Go.RowKit
theorem and7 (v : Int) (h0 : 0 ≤ v) (h1 : v < 256) : bits .and .u8 v 7 = v % 8 := by
  have H : ∀ p : Fin 256, bits .and .u8 ((p.1 : Nat) : Int) 7 = ((p.1 : Nat) : Int) % 8 := by decide +kernel
  have := H ⟨v.toNat, by omega⟩
  simpa [show ((v.toNat : Nat) : Int) = v by omega] using this
theorem change_one (s : Sty) (n : Int) (h1 : ¬ (n = 38 ∨ n = 48)) : changeS s [n] = oneS s n := by
  unfold changeS
  rw [if_neg (by simp)]
  show chF 1 s [n] = _
  rw [chF, if_neg h1]
  rfl

set_option maxRecDepth 100000 in
set_option maxHeartbeats 2000000 in
theorem sf_0 (s : Sty) (c : Int) (W : World) (h : Both W) (hs : Good s) (hk : bits .and .u8 c 7 = 0) : Calls Tryd.prog 7 #[pV s, .int .u8 c] W fun e w' => e = .returned (.bool true) ∧ Below W.heap.size W w' := by
  have hg1 : Good (oneS s 1) := hs.one 1
  have e1 : oneS s 1 = ⟨s.fs.set 0 true, s.fg, s.bg⟩ := rfl
  have e2 : oneS (oneS s 1) 22 = ⟨((s.fs.set 0 true).set 0 false).set 1 false, s.fg, s.bg⟩ := rfl
  have HC1 := Lib.hid (fun (U : World) (hU : Below W.heap.size W U) (A : Option Addr) (hR : RI .i64 U A [1]) => change_one s 1 (by omega) ▸ p_change s (w := U) (A := A) (n := 1) (cp := 1) hs (h.below hU (Nat.le_refl _)).ft hR rfl (by omega) (by omega) (by unfold maxLen; omega))
  have HC2 := Lib.hid (fun (U : World) (hU : Below W.heap.size W U) (A : Option Addr) (hR : RI .i64 U A [22]) => change_one (oneS s 1) 22 (by omega) ▸ p_change (oneS s 1) (w := U) (A := A) (n := 1) (cp := 1) hg1 (h.below hU (Nat.le_refl _)).ft hR rfl (by omega) (by omega) (by unfold maxLen; omega))
  have HAL := Lib.hid (fun (U : World) (hU : Below W.heap.size W U) => alive_any U (h.below hU (Nat.le_refl _)))
  have f1 := flag_or s.fs hs.len 0 (by omega)
  have f2 := flag_not3 (s.fs.set 0 true) (by simpa using hs.len)
  rw [e2] at HC2
  rw [e1] at HC1 HC2
  obtain ⟨fs, fg, bg⟩ := s
  dsimp only at f1 f2 e1 e2
  simp only [pV] at HC1 HC2
  show Calls Tryd.prog 7 #[.agg #[.int .u8 (flagsF fs), .int .u32 fg, .int .u32 bg], .int .u8 c] W _
  obtain ⟨a, ha⟩ : ∃ a, flagsF fs = a := ⟨_, rfl⟩
  obtain ⟨b, hb⟩ : ∃ a, flagsF (fs.set 0 true) = a := ⟨_, rfl⟩
  obtain ⟨d, hd⟩ : ∃ a, flagsF (((fs.set 0 true).set 0 false).set 1 false) = a := ⟨_, rfl⟩
  rw [ha] at HC1 f1 ⊢
  rw [hb] at HC1 HC2 f1 f2
  rw [hd] at HC2 f2
  have f1 : bits .or .u8 a 1 = b := f1
  have f2 : bits .andNot .u8 b 3 = d := f2
  have HB0 := Lib.hid ((Below.refl W.heap.size W).alloc (Nat.le_refl _) (.cells #[.int .u8 a, .int .u32 fg, .int .u32 bg] 24))
  have HROW := Lib.hid (heap_alloc_new W (.cells #[.int .u8 a, .int .u32 fg, .int .u32 bg] 24))
  have HLT : Hid (W.heap.size < (W.alloc (.cells #[.int .u8 a, .int .u32 fg, .int .u32 bg] 24)).heap.size) := Lib.hid (by simp)
  have HL0 := Lib.hid ((OwnI.lit (W.alloc (.cells #[.int .u8 a, .int .u32 fg, .int .u32 bg] 24)) [1] 1 rfl (by omega)))
  clear ha hb hd e1 e2 hg1 hs h
  go_enter Tryd.func7, Tryd.ntmps7
  go_wp2_with fail
  refine (HC1.out _ (HB0.out.trans (HL0.out.below.mono HB0.out.size)) _ (by obtain ⟨A, c, e, _, r⟩ := HL0.out.ri; injection e with e1; subst e1; simpa only [World.size_alloc] using r)).mono ?_
  rintro e w1 ⟨rfl, hb1⟩
  have hb01 := HL0.out.below.trans (hb1.mono HL0.out.below.size)
  have hrow1 := (hb01.block _ HLT.out).trans HROW.out
  have hb11 := HB0.out.trans (hb01.mono HB0.out.size)
  generalize (W.alloc (.cells #[.int .u8 a, .int .u32 fg, .int .u32 bg] 24)) = U at *
  have hlt1 := lt_of_block hrow1
  have HB1 := Lib.hid hb11
  have HR1 := Lib.hid hrow1
  clear hb1 hb01 hb11 hrow1 HB0 HL0 HROW HLT
  have HL1 := Lib.hid (OwnI.lit (w1.alloc (.cells #[.int .u8 b, .int .u32 fg, .int .u32 bg] 24)) [22] 1 rfl (by omega))
  have HB2 := Lib.hid (HB1.out.alloc HB1.out.size (.cells #[.int .u8 b, .int .u32 fg, .int .u32 bg] 24))
  have HR2 := Lib.hid ((heap_alloc_old w1 (.cells #[.int .u8 b, .int .u32 fg, .int .u32 bg] 24) hlt1).trans HR1.out)
  have HR3 := Lib.hid (heap_alloc_new w1 (.cells #[.int .u8 b, .int .u32 fg, .int .u32 bg] 24))
  go_wp2_with fail
  refine (HC2.out _ (HB2.out.trans (HL1.out.below.mono HB2.out.size)) _ (by obtain ⟨A, c, e, _, r⟩ := HL1.out.ri; injection e with e1; subst e1; simpa only [World.size_alloc] using r)).mono ?_
  rintro e w2 ⟨rfl, hb2⟩
  have hb12 := HL1.out.below.trans (hb2.mono HL1.out.below.size)
  have hra := (hb12.block _ (lt_of_block HR2.out)).trans HR2.out
  have hrb := (hb12.block _ (lt_of_block HR3.out)).trans HR3.out
  have HB3 := Lib.hid ((HB2.out.trans (hb12.mono HB2.out.size)).alloc (HB2.out.trans (hb12.mono HB2.out.size)).size (.cells #[.int .u8 d, .int .u32 fg, .int .u32 bg] 24))
  have HRA := Lib.hid ((heap_alloc_old w2 (.cells #[.int .u8 d, .int .u32 fg, .int .u32 bg] 24) (lt_of_block hra)).trans hra)
  have HRB := Lib.hid ((heap_alloc_old w2 (.cells #[.int .u8 d, .int .u32 fg, .int .u32 bg] 24) (lt_of_block hrb)).trans hrb)
  have HRC := Lib.hid (heap_alloc_new w2 (.cells #[.int .u8 d, .int .u32 fg, .int .u32 bg] 24))
  clear hb2 hb12 hra hrb HR1 HR2 HR3 HB1 HB2 HL1 hlt1
  go_wp2_with fail
  refine (HAL.out _ HB3.out).mono ?_
  rintro e w3 ⟨rfl, hb3⟩
  obtain ⟨p0, p1, p2⟩ := pcell ((hb3.block _ (lt_of_block HRA.out)).trans HRA.out)
  obtain ⟨q0, q1, q2⟩ := pcell ((hb3.block _ (lt_of_block HRB.out)).trans HRB.out)
  obtain ⟨r0, r1, r2⟩ := pcell ((hb3.block _ (lt_of_block HRC.out)).trans HRC.out)
  have HB4 := Lib.hid (HB3.out.trans (hb3.mono HB3.out.size))
  clear hb3 HRA HRB HRC
  go_wp2
  go_ret
  exact ⟨rfl, HB4.out⟩

set_option maxRecDepth 100000 in
set_option maxHeartbeats 2000000 in
theorem sf_1 (s : Sty) (c : Int) (W : World) (h : Both W) (hs : Good s) (hk : bits .and .u8 c 7 = 1) : Calls Tryd.prog 7 #[pV s, .int .u8 c] W fun e w' => e = .returned (.bool true) ∧ Below W.heap.size W w' := by
  have hg1 : Good (oneS s 2) := hs.one 2
  have e1 : oneS s 2 = ⟨s.fs.set 1 true, s.fg, s.bg⟩ := rfl
  have e2 : oneS (oneS s 2) 22 = ⟨((s.fs.set 1 true).set 0 false).set 1 false, s.fg, s.bg⟩ := rfl
  have HC1 := Lib.hid (fun (U : World) (hU : Below W.heap.size W U) (A : Option Addr) (hR : RI .i64 U A [2]) => change_one s 2 (by omega) ▸ p_change s (w := U) (A := A) (n := 1) (cp := 1) hs (h.below hU (Nat.le_refl _)).ft hR rfl (by omega) (by omega) (by unfold maxLen; omega))
  have HC2 := Lib.hid (fun (U : World) (hU : Below W.heap.size W U) (A : Option Addr) (hR : RI .i64 U A [22]) => change_one (oneS s 2) 22 (by omega) ▸ p_change (oneS s 2) (w := U) (A := A) (n := 1) (cp := 1) hg1 (h.below hU (Nat.le_refl _)).ft hR rfl (by omega) (by omega) (by unfold maxLen; omega))
  have HAL := Lib.hid (fun (U : World) (hU : Below W.heap.size W U) => alive_any U (h.below hU (Nat.le_refl _)))
  have f1 := flag_or s.fs hs.len 1 (by omega)
  have f2 := flag_not3 (s.fs.set 1 true) (by simpa using hs.len)
  rw [e2] at HC2
  rw [e1] at HC1 HC2
  obtain ⟨fs, fg, bg⟩ := s
  dsimp only at f1 f2 e1 e2
  simp only [pV] at HC1 HC2
  show Calls Tryd.prog 7 #[.agg #[.int .u8 (flagsF fs), .int .u32 fg, .int .u32 bg], .int .u8 c] W _
  obtain ⟨a, ha⟩ : ∃ a, flagsF fs = a := ⟨_, rfl⟩
  obtain ⟨b, hb⟩ : ∃ a, flagsF (fs.set 1 true) = a := ⟨_, rfl⟩
  obtain ⟨d, hd⟩ : ∃ a, flagsF (((fs.set 1 true).set 0 false).set 1 false) = a := ⟨_, rfl⟩
  rw [ha] at HC1 f1 ⊢
  rw [hb] at HC1 HC2 f1 f2
  rw [hd] at HC2 f2
  have f1 : bits .or .u8 a 2 = b := f1
  have f2 : bits .andNot .u8 b 3 = d := f2
  have HB0 := Lib.hid ((Below.refl W.heap.size W).alloc (Nat.le_refl _) (.cells #[.int .u8 a, .int .u32 fg, .int .u32 bg] 24))
  have HROW := Lib.hid (heap_alloc_new W (.cells #[.int .u8 a, .int .u32 fg, .int .u32 bg] 24))
  have HLT : Hid (W.heap.size < (W.alloc (.cells #[.int .u8 a, .int .u32 fg, .int .u32 bg] 24)).heap.size) := Lib.hid (by simp)
  have HL0 := Lib.hid ((OwnI.lit (W.alloc (.cells #[.int .u8 a, .int .u32 fg, .int .u32 bg] 24)) [2] 1 rfl (by omega)))
  clear ha hb hd e1 e2 hg1 hs h
  go_enter Tryd.func7, Tryd.ntmps7
  go_wp2_with fail
  refine (HC1.out _ (HB0.out.trans (HL0.out.below.mono HB0.out.size)) _ (by obtain ⟨A, c, e, _, r⟩ := HL0.out.ri; injection e with e1; subst e1; simpa only [World.size_alloc] using r)).mono ?_
  rintro e w1 ⟨rfl, hb1⟩
  have hb01 := HL0.out.below.trans (hb1.mono HL0.out.below.size)
  have hrow1 := (hb01.block _ HLT.out).trans HROW.out
  have hb11 := HB0.out.trans (hb01.mono HB0.out.size)
  generalize (W.alloc (.cells #[.int .u8 a, .int .u32 fg, .int .u32 bg] 24)) = U at *
  have hlt1 := lt_of_block hrow1
  have HB1 := Lib.hid hb11
  have HR1 := Lib.hid hrow1
  clear hb1 hb01 hb11 hrow1 HB0 HL0 HROW HLT
  have HL1 := Lib.hid (OwnI.lit (w1.alloc (.cells #[.int .u8 b, .int .u32 fg, .int .u32 bg] 24)) [22] 1 rfl (by omega))
  have HB2 := Lib.hid (HB1.out.alloc HB1.out.size (.cells #[.int .u8 b, .int .u32 fg, .int .u32 bg] 24))
  have HR2 := Lib.hid ((heap_alloc_old w1 (.cells #[.int .u8 b, .int .u32 fg, .int .u32 bg] 24) hlt1).trans HR1.out)
  have HR3 := Lib.hid (heap_alloc_new w1 (.cells #[.int .u8 b, .int .u32 fg, .int .u32 bg] 24))
  go_wp2_with fail
  refine (HC2.out _ (HB2.out.trans (HL1.out.below.mono HB2.out.size)) _ (by obtain ⟨A, c, e, _, r⟩ := HL1.out.ri; injection e with e1; subst e1; simpa only [World.size_alloc] using r)).mono ?_
  rintro e w2 ⟨rfl, hb2⟩
  have hb12 := HL1.out.below.trans (hb2.mono HL1.out.below.size)
  have hra := (hb12.block _ (lt_of_block HR2.out)).trans HR2.out
  have hrb := (hb12.block _ (lt_of_block HR3.out)).trans HR3.out
  have HB3 := Lib.hid ((HB2.out.trans (hb12.mono HB2.out.size)).alloc (HB2.out.trans (hb12.mono HB2.out.size)).size (.cells #[.int .u8 d, .int .u32 fg, .int .u32 bg] 24))
  have HRA := Lib.hid ((heap_alloc_old w2 (.cells #[.int .u8 d, .int .u32 fg, .int .u32 bg] 24) (lt_of_block hra)).trans hra)
  have HRB := Lib.hid ((heap_alloc_old w2 (.cells #[.int .u8 d, .int .u32 fg, .int .u32 bg] 24) (lt_of_block hrb)).trans hrb)
  have HRC := Lib.hid (heap_alloc_new w2 (.cells #[.int .u8 d, .int .u32 fg, .int .u32 bg] 24))
  clear hb2 hb12 hra hrb HR1 HR2 HR3 HB1 HB2 HL1 hlt1
  go_wp2_with fail
  refine (HAL.out _ HB3.out).mono ?_
  rintro e w3 ⟨rfl, hb3⟩
  obtain ⟨p0, p1, p2⟩ := pcell ((hb3.block _ (lt_of_block HRA.out)).trans HRA.out)
  obtain ⟨q0, q1, q2⟩ := pcell ((hb3.block _ (lt_of_block HRB.out)).trans HRB.out)
  obtain ⟨r0, r1, r2⟩ := pcell ((hb3.block _ (lt_of_block HRC.out)).trans HRC.out)
  have HB4 := Lib.hid (HB3.out.trans (hb3.mono HB3.out.size))
  clear hb3 HRA HRB HRC
  go_wp2
  go_ret
  exact ⟨rfl, HB4.out⟩

set_option maxRecDepth 100000 in
set_option maxHeartbeats 2000000 in
theorem sf_2 (s : Sty) (c : Int) (W : World) (h : Both W) (hs : Good s) (hk : bits .and .u8 c 7 = 2) : Calls Tryd.prog 7 #[pV s, .int .u8 c] W fun e w' => e = .returned (.bool true) ∧ Below W.heap.size W w' := by
  have hg1 : Good (oneS s 3) := hs.one 3
  have e1 : oneS s 3 = ⟨s.fs.set 2 true, s.fg, s.bg⟩ := rfl
  have e2 : oneS (oneS s 3) 23 = ⟨(s.fs.set 2 true).set 2 false, s.fg, s.bg⟩ := rfl
  have HC1 := Lib.hid (fun (U : World) (hU : Below W.heap.size W U) (A : Option Addr) (hR : RI .i64 U A [3]) => change_one s 3 (by omega) ▸ p_change s (w := U) (A := A) (n := 1) (cp := 1) hs (h.below hU (Nat.le_refl _)).ft hR rfl (by omega) (by omega) (by unfold maxLen; omega))
  have HC2 := Lib.hid (fun (U : World) (hU : Below W.heap.size W U) (A : Option Addr) (hR : RI .i64 U A [23]) => change_one (oneS s 3) 23 (by omega) ▸ p_change (oneS s 3) (w := U) (A := A) (n := 1) (cp := 1) hg1 (h.below hU (Nat.le_refl _)).ft hR rfl (by omega) (by omega) (by unfold maxLen; omega))
  have HAL := Lib.hid (fun (U : World) (hU : Below W.heap.size W U) => alive_any U (h.below hU (Nat.le_refl _)))
  have f1 := flag_or s.fs hs.len 2 (by omega)
  have f2 := flag_not (s.fs.set 2 true) (by simpa using hs.len) 2 (by omega)
  rw [e2] at HC2
  rw [e1] at HC1 HC2
  obtain ⟨fs, fg, bg⟩ := s
  dsimp only at f1 f2 e1 e2
  simp only [pV] at HC1 HC2
  show Calls Tryd.prog 7 #[.agg #[.int .u8 (flagsF fs), .int .u32 fg, .int .u32 bg], .int .u8 c] W _
  obtain ⟨a, ha⟩ : ∃ a, flagsF fs = a := ⟨_, rfl⟩
  obtain ⟨b, hb⟩ : ∃ a, flagsF (fs.set 2 true) = a := ⟨_, rfl⟩
  obtain ⟨d, hd⟩ : ∃ a, flagsF ((fs.set 2 true).set 2 false) = a := ⟨_, rfl⟩
  rw [ha] at HC1 f1 ⊢
  rw [hb] at HC1 HC2 f1 f2
  rw [hd] at HC2 f2
  have f1 : bits .or .u8 a 4 = b := f1
  have f2 : bits .andNot .u8 b 4 = d := f2
  have HB0 := Lib.hid ((Below.refl W.heap.size W).alloc (Nat.le_refl _) (.cells #[.int .u8 a, .int .u32 fg, .int .u32 bg] 24))
  have HROW := Lib.hid (heap_alloc_new W (.cells #[.int .u8 a, .int .u32 fg, .int .u32 bg] 24))
  have HLT : Hid (W.heap.size < (W.alloc (.cells #[.int .u8 a, .int .u32 fg, .int .u32 bg] 24)).heap.size) := Lib.hid (by simp)
  have HL0 := Lib.hid ((OwnI.lit (W.alloc (.cells #[.int .u8 a, .int .u32 fg, .int .u32 bg] 24)) [3] 1 rfl (by omega)))
  clear ha hb hd e1 e2 hg1 hs h
  go_enter Tryd.func7, Tryd.ntmps7
  go_wp2_with fail
  refine (HC1.out _ (HB0.out.trans (HL0.out.below.mono HB0.out.size)) _ (by obtain ⟨A, c, e, _, r⟩ := HL0.out.ri; injection e with e1; subst e1; simpa only [World.size_alloc] using r)).mono ?_
  rintro e w1 ⟨rfl, hb1⟩
  have hb01 := HL0.out.below.trans (hb1.mono HL0.out.below.size)
  have hrow1 := (hb01.block _ HLT.out).trans HROW.out
  have hb11 := HB0.out.trans (hb01.mono HB0.out.size)
  generalize (W.alloc (.cells #[.int .u8 a, .int .u32 fg, .int .u32 bg] 24)) = U at *
  have hlt1 := lt_of_block hrow1
  have HB1 := Lib.hid hb11
  have HR1 := Lib.hid hrow1
  clear hb1 hb01 hb11 hrow1 HB0 HL0 HROW HLT
  have HL1 := Lib.hid (OwnI.lit (w1.alloc (.cells #[.int .u8 b, .int .u32 fg, .int .u32 bg] 24)) [23] 1 rfl (by omega))
  have HB2 := Lib.hid (HB1.out.alloc HB1.out.size (.cells #[.int .u8 b, .int .u32 fg, .int .u32 bg] 24))
  have HR2 := Lib.hid ((heap_alloc_old w1 (.cells #[.int .u8 b, .int .u32 fg, .int .u32 bg] 24) hlt1).trans HR1.out)
  have HR3 := Lib.hid (heap_alloc_new w1 (.cells #[.int .u8 b, .int .u32 fg, .int .u32 bg] 24))
  go_wp2_with fail
  refine (HC2.out _ (HB2.out.trans (HL1.out.below.mono HB2.out.size)) _ (by obtain ⟨A, c, e, _, r⟩ := HL1.out.ri; injection e with e1; subst e1; simpa only [World.size_alloc] using r)).mono ?_
  rintro e w2 ⟨rfl, hb2⟩
  have hb12 := HL1.out.below.trans (hb2.mono HL1.out.below.size)
  have hra := (hb12.block _ (lt_of_block HR2.out)).trans HR2.out
  have hrb := (hb12.block _ (lt_of_block HR3.out)).trans HR3.out
  have HB3 := Lib.hid ((HB2.out.trans (hb12.mono HB2.out.size)).alloc (HB2.out.trans (hb12.mono HB2.out.size)).size (.cells #[.int .u8 d, .int .u32 fg, .int .u32 bg] 24))
  have HRA := Lib.hid ((heap_alloc_old w2 (.cells #[.int .u8 d, .int .u32 fg, .int .u32 bg] 24) (lt_of_block hra)).trans hra)
  have HRB := Lib.hid ((heap_alloc_old w2 (.cells #[.int .u8 d, .int .u32 fg, .int .u32 bg] 24) (lt_of_block hrb)).trans hrb)
  have HRC := Lib.hid (heap_alloc_new w2 (.cells #[.int .u8 d, .int .u32 fg, .int .u32 bg] 24))
  clear hb2 hb12 hra hrb HR1 HR2 HR3 HB1 HB2 HL1 hlt1
  go_wp2_with fail
  refine (HAL.out _ HB3.out).mono ?_
  rintro e w3 ⟨rfl, hb3⟩
  obtain ⟨p0, p1, p2⟩ := pcell ((hb3.block _ (lt_of_block HRA.out)).trans HRA.out)
  obtain ⟨q0, q1, q2⟩ := pcell ((hb3.block _ (lt_of_block HRB.out)).trans HRB.out)
  obtain ⟨r0, r1, r2⟩ := pcell ((hb3.block _ (lt_of_block HRC.out)).trans HRC.out)
  have HB4 := Lib.hid (HB3.out.trans (hb3.mono HB3.out.size))
  clear hb3 HRA HRB HRC
  go_wp2
  go_ret
  exact ⟨rfl, HB4.out⟩

set_option maxRecDepth 100000 in
set_option maxHeartbeats 2000000 in
theorem sf_3 (s : Sty) (c : Int) (W : World) (h : Both W) (hs : Good s) (hk : bits .and .u8 c 7 = 3) : Calls Tryd.prog 7 #[pV s, .int .u8 c] W fun e w' => e = .returned (.bool true) ∧ Below W.heap.size W w' := by
  have hg1 : Good (oneS s 4) := hs.one 4
  have e1 : oneS s 4 = ⟨s.fs.set 3 true, s.fg, s.bg⟩ := rfl
  have e2 : oneS (oneS s 4) 24 = ⟨(s.fs.set 3 true).set 3 false, s.fg, s.bg⟩ := rfl
  have HC1 := Lib.hid (fun (U : World) (hU : Below W.heap.size W U) (A : Option Addr) (hR : RI .i64 U A [4]) => change_one s 4 (by omega) ▸ p_change s (w := U) (A := A) (n := 1) (cp := 1) hs (h.below hU (Nat.le_refl _)).ft hR rfl (by omega) (by omega) (by unfold maxLen; omega))
  have HC2 := Lib.hid (fun (U : World) (hU : Below W.heap.size W U) (A : Option Addr) (hR : RI .i64 U A [24]) => change_one (oneS s 4) 24 (by omega) ▸ p_change (oneS s 4) (w := U) (A := A) (n := 1) (cp := 1) hg1 (h.below hU (Nat.le_refl _)).ft hR rfl (by omega) (by omega) (by unfold maxLen; omega))
  have HAL := Lib.hid (fun (U : World) (hU : Below W.heap.size W U) => alive_any U (h.below hU (Nat.le_refl _)))
  have f1 := flag_or s.fs hs.len 3 (by omega)
  have f2 := flag_not (s.fs.set 3 true) (by simpa using hs.len) 3 (by omega)
  rw [e2] at HC2
  rw [e1] at HC1 HC2
  obtain ⟨fs, fg, bg⟩ := s
  dsimp only at f1 f2 e1 e2
  simp only [pV] at HC1 HC2
  show Calls Tryd.prog 7 #[.agg #[.int .u8 (flagsF fs), .int .u32 fg, .int .u32 bg], .int .u8 c] W _
  obtain ⟨a, ha⟩ : ∃ a, flagsF fs = a := ⟨_, rfl⟩
  obtain ⟨b, hb⟩ : ∃ a, flagsF (fs.set 3 true) = a := ⟨_, rfl⟩
  obtain ⟨d, hd⟩ : ∃ a, flagsF ((fs.set 3 true).set 3 false) = a := ⟨_, rfl⟩
  rw [ha] at HC1 f1 ⊢
  rw [hb] at HC1 HC2 f1 f2
  rw [hd] at HC2 f2
  have f1 : bits .or .u8 a 8 = b := f1
  have f2 : bits .andNot .u8 b 8 = d := f2
  have HB0 := Lib.hid ((Below.refl W.heap.size W).alloc (Nat.le_refl _) (.cells #[.int .u8 a, .int .u32 fg, .int .u32 bg] 24))
  have HROW := Lib.hid (heap_alloc_new W (.cells #[.int .u8 a, .int .u32 fg, .int .u32 bg] 24))
  have HLT : Hid (W.heap.size < (W.alloc (.cells #[.int .u8 a, .int .u32 fg, .int .u32 bg] 24)).heap.size) := Lib.hid (by simp)
  have HL0 := Lib.hid ((OwnI.lit (W.alloc (.cells #[.int .u8 a, .int .u32 fg, .int .u32 bg] 24)) [4] 1 rfl (by omega)))
  clear ha hb hd e1 e2 hg1 hs h
  go_enter Tryd.func7, Tryd.ntmps7
  go_wp2_with fail
  refine (HC1.out _ (HB0.out.trans (HL0.out.below.mono HB0.out.size)) _ (by obtain ⟨A, c, e, _, r⟩ := HL0.out.ri; injection e with e1; subst e1; simpa only [World.size_alloc] using r)).mono ?_
  rintro e w1 ⟨rfl, hb1⟩
  have hb01 := HL0.out.below.trans (hb1.mono HL0.out.below.size)
  have hrow1 := (hb01.block _ HLT.out).trans HROW.out
  have hb11 := HB0.out.trans (hb01.mono HB0.out.size)
  generalize (W.alloc (.cells #[.int .u8 a, .int .u32 fg, .int .u32 bg] 24)) = U at *
  have hlt1 := lt_of_block hrow1
  have HB1 := Lib.hid hb11
  have HR1 := Lib.hid hrow1
  clear hb1 hb01 hb11 hrow1 HB0 HL0 HROW HLT
  have HL1 := Lib.hid (OwnI.lit (w1.alloc (.cells #[.int .u8 b, .int .u32 fg, .int .u32 bg] 24)) [24] 1 rfl (by omega))
  have HB2 := Lib.hid (HB1.out.alloc HB1.out.size (.cells #[.int .u8 b, .int .u32 fg, .int .u32 bg] 24))
  have HR2 := Lib.hid ((heap_alloc_old w1 (.cells #[.int .u8 b, .int .u32 fg, .int .u32 bg] 24) hlt1).trans HR1.out)
  have HR3 := Lib.hid (heap_alloc_new w1 (.cells #[.int .u8 b, .int .u32 fg, .int .u32 bg] 24))
  go_wp2_with fail
  refine (HC2.out _ (HB2.out.trans (HL1.out.below.mono HB2.out.size)) _ (by obtain ⟨A, c, e, _, r⟩ := HL1.out.ri; injection e with e1; subst e1; simpa only [World.size_alloc] using r)).mono ?_
  rintro e w2 ⟨rfl, hb2⟩
  have hb12 := HL1.out.below.trans (hb2.mono HL1.out.below.size)
  have hra := (hb12.block _ (lt_of_block HR2.out)).trans HR2.out
  have hrb := (hb12.block _ (lt_of_block HR3.out)).trans HR3.out
  have HB3 := Lib.hid ((HB2.out.trans (hb12.mono HB2.out.size)).alloc (HB2.out.trans (hb12.mono HB2.out.size)).size (.cells #[.int .u8 d, .int .u32 fg, .int .u32 bg] 24))
  have HRA := Lib.hid ((heap_alloc_old w2 (.cells #[.int .u8 d, .int .u32 fg, .int .u32 bg] 24) (lt_of_block hra)).trans hra)
  have HRB := Lib.hid ((heap_alloc_old w2 (.cells #[.int .u8 d, .int .u32 fg, .int .u32 bg] 24) (lt_of_block hrb)).trans hrb)
  have HRC := Lib.hid (heap_alloc_new w2 (.cells #[.int .u8 d, .int .u32 fg, .int .u32 bg] 24))
  clear hb2 hb12 hra hrb HR1 HR2 HR3 HB1 HB2 HL1 hlt1
  go_wp2_with fail
  refine (HAL.out _ HB3.out).mono ?_
  rintro e w3 ⟨rfl, hb3⟩
  obtain ⟨p0, p1, p2⟩ := pcell ((hb3.block _ (lt_of_block HRA.out)).trans HRA.out)
  obtain ⟨q0, q1, q2⟩ := pcell ((hb3.block _ (lt_of_block HRB.out)).trans HRB.out)
  obtain ⟨r0, r1, r2⟩ := pcell ((hb3.block _ (lt_of_block HRC.out)).trans HRC.out)
  have HB4 := Lib.hid (HB3.out.trans (hb3.mono HB3.out.size))
  clear hb3 HRA HRB HRC
  go_wp2
  go_ret
  exact ⟨rfl, HB4.out⟩

set_option maxRecDepth 100000 in
set_option maxHeartbeats 2000000 in
theorem sf_4 (s : Sty) (c : Int) (W : World) (h : Both W) (hs : Good s) (hk : bits .and .u8 c 7 = 4) : Calls Tryd.prog 7 #[pV s, .int .u8 c] W fun e w' => e = .returned (.bool true) ∧ Below W.heap.size W w' := by
  have hg1 : Good (oneS s 5) := hs.one 5
  have e1 : oneS s 5 = ⟨s.fs.set 4 true, s.fg, s.bg⟩ := rfl
  have e2 : oneS (oneS s 5) 25 = ⟨(s.fs.set 4 true).set 4 false, s.fg, s.bg⟩ := rfl
  have HC1 := Lib.hid (fun (U : World) (hU : Below W.heap.size W U) (A : Option Addr) (hR : RI .i64 U A [5]) => change_one s 5 (by omega) ▸ p_change s (w := U) (A := A) (n := 1) (cp := 1) hs (h.below hU (Nat.le_refl _)).ft hR rfl (by omega) (by omega) (by unfold maxLen; omega))
  have HC2 := Lib.hid (fun (U : World) (hU : Below W.heap.size W U) (A : Option Addr) (hR : RI .i64 U A [25]) => change_one (oneS s 5) 25 (by omega) ▸ p_change (oneS s 5) (w := U) (A := A) (n := 1) (cp := 1) hg1 (h.below hU (Nat.le_refl _)).ft hR rfl (by omega) (by omega) (by unfold maxLen; omega))
  have HAL := Lib.hid (fun (U : World) (hU : Below W.heap.size W U) => alive_any U (h.below hU (Nat.le_refl _)))
  have f1 := flag_or s.fs hs.len 4 (by omega)
  have f2 := flag_not (s.fs.set 4 true) (by simpa using hs.len) 4 (by omega)
  rw [e2] at HC2
  rw [e1] at HC1 HC2
  obtain ⟨fs, fg, bg⟩ := s
  dsimp only at f1 f2 e1 e2
  simp only [pV] at HC1 HC2
  show Calls Tryd.prog 7 #[.agg #[.int .u8 (flagsF fs), .int .u32 fg, .int .u32 bg], .int .u8 c] W _
  obtain ⟨a, ha⟩ : ∃ a, flagsF fs = a := ⟨_, rfl⟩
  obtain ⟨b, hb⟩ : ∃ a, flagsF (fs.set 4 true) = a := ⟨_, rfl⟩
  obtain ⟨d, hd⟩ : ∃ a, flagsF ((fs.set 4 true).set 4 false) = a := ⟨_, rfl⟩
  rw [ha] at HC1 f1 ⊢
  rw [hb] at HC1 HC2 f1 f2
  rw [hd] at HC2 f2
  have f1 : bits .or .u8 a 16 = b := f1
  have f2 : bits .andNot .u8 b 16 = d := f2
  have HB0 := Lib.hid ((Below.refl W.heap.size W).alloc (Nat.le_refl _) (.cells #[.int .u8 a, .int .u32 fg, .int .u32 bg] 24))
  have HROW := Lib.hid (heap_alloc_new W (.cells #[.int .u8 a, .int .u32 fg, .int .u32 bg] 24))
  have HLT : Hid (W.heap.size < (W.alloc (.cells #[.int .u8 a, .int .u32 fg, .int .u32 bg] 24)).heap.size) := Lib.hid (by simp)
  have HL0 := Lib.hid ((OwnI.lit (W.alloc (.cells #[.int .u8 a, .int .u32 fg, .int .u32 bg] 24)) [5] 1 rfl (by omega)))
  clear ha hb hd e1 e2 hg1 hs h
  go_enter Tryd.func7, Tryd.ntmps7
  go_wp2_with fail
  refine (HC1.out _ (HB0.out.trans (HL0.out.below.mono HB0.out.size)) _ (by obtain ⟨A, c, e, _, r⟩ := HL0.out.ri; injection e with e1; subst e1; simpa only [World.size_alloc] using r)).mono ?_
  rintro e w1 ⟨rfl, hb1⟩
  have hb01 := HL0.out.below.trans (hb1.mono HL0.out.below.size)
  have hrow1 := (hb01.block _ HLT.out).trans HROW.out
  have hb11 := HB0.out.trans (hb01.mono HB0.out.size)
  generalize (W.alloc (.cells #[.int .u8 a, .int .u32 fg, .int .u32 bg] 24)) = U at *
  have hlt1 := lt_of_block hrow1
  have HB1 := Lib.hid hb11
  have HR1 := Lib.hid hrow1
  clear hb1 hb01 hb11 hrow1 HB0 HL0 HROW HLT
  have HL1 := Lib.hid (OwnI.lit (w1.alloc (.cells #[.int .u8 b, .int .u32 fg, .int .u32 bg] 24)) [25] 1 rfl (by omega))
  have HB2 := Lib.hid (HB1.out.alloc HB1.out.size (.cells #[.int .u8 b, .int .u32 fg, .int .u32 bg] 24))
  have HR2 := Lib.hid ((heap_alloc_old w1 (.cells #[.int .u8 b, .int .u32 fg, .int .u32 bg] 24) hlt1).trans HR1.out)
  have HR3 := Lib.hid (heap_alloc_new w1 (.cells #[.int .u8 b, .int .u32 fg, .int .u32 bg] 24))
  go_wp2_with fail
  refine (HC2.out _ (HB2.out.trans (HL1.out.below.mono HB2.out.size)) _ (by obtain ⟨A, c, e, _, r⟩ := HL1.out.ri; injection e with e1; subst e1; simpa only [World.size_alloc] using r)).mono ?_
  rintro e w2 ⟨rfl, hb2⟩
  have hb12 := HL1.out.below.trans (hb2.mono HL1.out.below.size)
  have hra := (hb12.block _ (lt_of_block HR2.out)).trans HR2.out
  have hrb := (hb12.block _ (lt_of_block HR3.out)).trans HR3.out
  have HB3 := Lib.hid ((HB2.out.trans (hb12.mono HB2.out.size)).alloc (HB2.out.trans (hb12.mono HB2.out.size)).size (.cells #[.int .u8 d, .int .u32 fg, .int .u32 bg] 24))
  have HRA := Lib.hid ((heap_alloc_old w2 (.cells #[.int .u8 d, .int .u32 fg, .int .u32 bg] 24) (lt_of_block hra)).trans hra)
  have HRB := Lib.hid ((heap_alloc_old w2 (.cells #[.int .u8 d, .int .u32 fg, .int .u32 bg] 24) (lt_of_block hrb)).trans hrb)
  have HRC := Lib.hid (heap_alloc_new w2 (.cells #[.int .u8 d, .int .u32 fg, .int .u32 bg] 24))
  clear hb2 hb12 hra hrb HR1 HR2 HR3 HB1 HB2 HL1 hlt1
  go_wp2_with fail
  refine (HAL.out _ HB3.out).mono ?_
  rintro e w3 ⟨rfl, hb3⟩
  obtain ⟨p0, p1, p2⟩ := pcell ((hb3.block _ (lt_of_block HRA.out)).trans HRA.out)
  obtain ⟨q0, q1, q2⟩ := pcell ((hb3.block _ (lt_of_block HRB.out)).trans HRB.out)
  obtain ⟨r0, r1, r2⟩ := pcell ((hb3.block _ (lt_of_block HRC.out)).trans HRC.out)
  have HB4 := Lib.hid (HB3.out.trans (hb3.mono HB3.out.size))
  clear hb3 HRA HRB HRC
  go_wp2
  go_ret
  exact ⟨rfl, HB4.out⟩

set_option maxRecDepth 100000 in
set_option maxHeartbeats 2000000 in
theorem sf_5 (s : Sty) (c : Int) (W : World) (h : Both W) (hs : Good s) (hk : bits .and .u8 c 7 = 5) : Calls Tryd.prog 7 #[pV s, .int .u8 c] W fun e w' => e = .returned (.bool true) ∧ Below W.heap.size W w' := by
  have hg1 : Good (oneS s 7) := hs.one 7
  have e1 : oneS s 7 = ⟨s.fs.set 5 true, s.fg, s.bg⟩ := rfl
  have e2 : oneS (oneS s 7) 27 = ⟨(s.fs.set 5 true).set 5 false, s.fg, s.bg⟩ := rfl
  have HC1 := Lib.hid (fun (U : World) (hU : Below W.heap.size W U) (A : Option Addr) (hR : RI .i64 U A [7]) => change_one s 7 (by omega) ▸ p_change s (w := U) (A := A) (n := 1) (cp := 1) hs (h.below hU (Nat.le_refl _)).ft hR rfl (by omega) (by omega) (by unfold maxLen; omega))
  have HC2 := Lib.hid (fun (U : World) (hU : Below W.heap.size W U) (A : Option Addr) (hR : RI .i64 U A [27]) => change_one (oneS s 7) 27 (by omega) ▸ p_change (oneS s 7) (w := U) (A := A) (n := 1) (cp := 1) hg1 (h.below hU (Nat.le_refl _)).ft hR rfl (by omega) (by omega) (by unfold maxLen; omega))
  have HAL := Lib.hid (fun (U : World) (hU : Below W.heap.size W U) => alive_any U (h.below hU (Nat.le_refl _)))
  have f1 := flag_or s.fs hs.len 5 (by omega)
  have f2 := flag_not (s.fs.set 5 true) (by simpa using hs.len) 5 (by omega)
  rw [e2] at HC2
  rw [e1] at HC1 HC2
  obtain ⟨fs, fg, bg⟩ := s
  dsimp only at f1 f2 e1 e2
  simp only [pV] at HC1 HC2
  show Calls Tryd.prog 7 #[.agg #[.int .u8 (flagsF fs), .int .u32 fg, .int .u32 bg], .int .u8 c] W _
  obtain ⟨a, ha⟩ : ∃ a, flagsF fs = a := ⟨_, rfl⟩
  obtain ⟨b, hb⟩ : ∃ a, flagsF (fs.set 5 true) = a := ⟨_, rfl⟩
  obtain ⟨d, hd⟩ : ∃ a, flagsF ((fs.set 5 true).set 5 false) = a := ⟨_, rfl⟩
  rw [ha] at HC1 f1 ⊢
  rw [hb] at HC1 HC2 f1 f2
  rw [hd] at HC2 f2
  have f1 : bits .or .u8 a 32 = b := f1
  have f2 : bits .andNot .u8 b 32 = d := f2
  have HB0 := Lib.hid ((Below.refl W.heap.size W).alloc (Nat.le_refl _) (.cells #[.int .u8 a, .int .u32 fg, .int .u32 bg] 24))
  have HROW := Lib.hid (heap_alloc_new W (.cells #[.int .u8 a, .int .u32 fg, .int .u32 bg] 24))
  have HLT : Hid (W.heap.size < (W.alloc (.cells #[.int .u8 a, .int .u32 fg, .int .u32 bg] 24)).heap.size) := Lib.hid (by simp)
  have HL0 := Lib.hid ((OwnI.lit (W.alloc (.cells #[.int .u8 a, .int .u32 fg, .int .u32 bg] 24)) [7] 1 rfl (by omega)))
  clear ha hb hd e1 e2 hg1 hs h
  go_enter Tryd.func7, Tryd.ntmps7
  go_wp2_with fail
  refine (HC1.out _ (HB0.out.trans (HL0.out.below.mono HB0.out.size)) _ (by obtain ⟨A, c, e, _, r⟩ := HL0.out.ri; injection e with e1; subst e1; simpa only [World.size_alloc] using r)).mono ?_
  rintro e w1 ⟨rfl, hb1⟩
  have hb01 := HL0.out.below.trans (hb1.mono HL0.out.below.size)
  have hrow1 := (hb01.block _ HLT.out).trans HROW.out
  have hb11 := HB0.out.trans (hb01.mono HB0.out.size)
  generalize (W.alloc (.cells #[.int .u8 a, .int .u32 fg, .int .u32 bg] 24)) = U at *
  have hlt1 := lt_of_block hrow1
  have HB1 := Lib.hid hb11
  have HR1 := Lib.hid hrow1
  clear hb1 hb01 hb11 hrow1 HB0 HL0 HROW HLT
  have HL1 := Lib.hid (OwnI.lit (w1.alloc (.cells #[.int .u8 b, .int .u32 fg, .int .u32 bg] 24)) [27] 1 rfl (by omega))
  have HB2 := Lib.hid (HB1.out.alloc HB1.out.size (.cells #[.int .u8 b, .int .u32 fg, .int .u32 bg] 24))
  have HR2 := Lib.hid ((heap_alloc_old w1 (.cells #[.int .u8 b, .int .u32 fg, .int .u32 bg] 24) hlt1).trans HR1.out)
  have HR3 := Lib.hid (heap_alloc_new w1 (.cells #[.int .u8 b, .int .u32 fg, .int .u32 bg] 24))
  go_wp2_with fail
  refine (HC2.out _ (HB2.out.trans (HL1.out.below.mono HB2.out.size)) _ (by obtain ⟨A, c, e, _, r⟩ := HL1.out.ri; injection e with e1; subst e1; simpa only [World.size_alloc] using r)).mono ?_
  rintro e w2 ⟨rfl, hb2⟩
  have hb12 := HL1.out.below.trans (hb2.mono HL1.out.below.size)
  have hra := (hb12.block _ (lt_of_block HR2.out)).trans HR2.out
  have hrb := (hb12.block _ (lt_of_block HR3.out)).trans HR3.out
  have HB3 := Lib.hid ((HB2.out.trans (hb12.mono HB2.out.size)).alloc (HB2.out.trans (hb12.mono HB2.out.size)).size (.cells #[.int .u8 d, .int .u32 fg, .int .u32 bg] 24))
  have HRA := Lib.hid ((heap_alloc_old w2 (.cells #[.int .u8 d, .int .u32 fg, .int .u32 bg] 24) (lt_of_block hra)).trans hra)
  have HRB := Lib.hid ((heap_alloc_old w2 (.cells #[.int .u8 d, .int .u32 fg, .int .u32 bg] 24) (lt_of_block hrb)).trans hrb)
  have HRC := Lib.hid (heap_alloc_new w2 (.cells #[.int .u8 d, .int .u32 fg, .int .u32 bg] 24))
  clear hb2 hb12 hra hrb HR1 HR2 HR3 HB1 HB2 HL1 hlt1
  go_wp2_with fail
  refine (HAL.out _ HB3.out).mono ?_
  rintro e w3 ⟨rfl, hb3⟩
  obtain ⟨p0, p1, p2⟩ := pcell ((hb3.block _ (lt_of_block HRA.out)).trans HRA.out)
  obtain ⟨q0, q1, q2⟩ := pcell ((hb3.block _ (lt_of_block HRB.out)).trans HRB.out)
  obtain ⟨r0, r1, r2⟩ := pcell ((hb3.block _ (lt_of_block HRC.out)).trans HRC.out)
  have HB4 := Lib.hid (HB3.out.trans (hb3.mono HB3.out.size))
  clear hb3 HRA HRB HRC
  go_wp2
  go_ret
  exact ⟨rfl, HB4.out⟩

set_option maxRecDepth 100000 in
set_option maxHeartbeats 2000000 in
theorem sf_6 (s : Sty) (c : Int) (W : World) (h : Both W) (hs : Good s) (hk : bits .and .u8 c 7 = 6) : Calls Tryd.prog 7 #[pV s, .int .u8 c] W fun e w' => e = .returned (.bool true) ∧ Below W.heap.size W w' := by
  have hg1 : Good (oneS s 8) := hs.one 8
  have e1 : oneS s 8 = ⟨s.fs.set 6 true, s.fg, s.bg⟩ := rfl
  have e2 : oneS (oneS s 8) 28 = ⟨(s.fs.set 6 true).set 6 false, s.fg, s.bg⟩ := rfl
  have HC1 := Lib.hid (fun (U : World) (hU : Below W.heap.size W U) (A : Option Addr) (hR : RI .i64 U A [8]) => change_one s 8 (by omega) ▸ p_change s (w := U) (A := A) (n := 1) (cp := 1) hs (h.below hU (Nat.le_refl _)).ft hR rfl (by omega) (by omega) (by unfold maxLen; omega))
  have HC2 := Lib.hid (fun (U : World) (hU : Below W.heap.size W U) (A : Option Addr) (hR : RI .i64 U A [28]) => change_one (oneS s 8) 28 (by omega) ▸ p_change (oneS s 8) (w := U) (A := A) (n := 1) (cp := 1) hg1 (h.below hU (Nat.le_refl _)).ft hR rfl (by omega) (by omega) (by unfold maxLen; omega))
  have HAL := Lib.hid (fun (U : World) (hU : Below W.heap.size W U) => alive_any U (h.below hU (Nat.le_refl _)))
  have f1 := flag_or s.fs hs.len 6 (by omega)
  have f2 := flag_not (s.fs.set 6 true) (by simpa using hs.len) 6 (by omega)
  rw [e2] at HC2
  rw [e1] at HC1 HC2
  obtain ⟨fs, fg, bg⟩ := s
  dsimp only at f1 f2 e1 e2
  simp only [pV] at HC1 HC2
  show Calls Tryd.prog 7 #[.agg #[.int .u8 (flagsF fs), .int .u32 fg, .int .u32 bg], .int .u8 c] W _
  obtain ⟨a, ha⟩ : ∃ a, flagsF fs = a := ⟨_, rfl⟩
  obtain ⟨b, hb⟩ : ∃ a, flagsF (fs.set 6 true) = a := ⟨_, rfl⟩
  obtain ⟨d, hd⟩ : ∃ a, flagsF ((fs.set 6 true).set 6 false) = a := ⟨_, rfl⟩
  rw [ha] at HC1 f1 ⊢
  rw [hb] at HC1 HC2 f1 f2
  rw [hd] at HC2 f2
  have f1 : bits .or .u8 a 64 = b := f1
  have f2 : bits .andNot .u8 b 64 = d := f2
  have HB0 := Lib.hid ((Below.refl W.heap.size W).alloc (Nat.le_refl _) (.cells #[.int .u8 a, .int .u32 fg, .int .u32 bg] 24))
  have HROW := Lib.hid (heap_alloc_new W (.cells #[.int .u8 a, .int .u32 fg, .int .u32 bg] 24))
  have HLT : Hid (W.heap.size < (W.alloc (.cells #[.int .u8 a, .int .u32 fg, .int .u32 bg] 24)).heap.size) := Lib.hid (by simp)
  have HL0 := Lib.hid ((OwnI.lit (W.alloc (.cells #[.int .u8 a, .int .u32 fg, .int .u32 bg] 24)) [8] 1 rfl (by omega)))
  clear ha hb hd e1 e2 hg1 hs h
  go_enter Tryd.func7, Tryd.ntmps7
  go_wp2_with fail
  refine (HC1.out _ (HB0.out.trans (HL0.out.below.mono HB0.out.size)) _ (by obtain ⟨A, c, e, _, r⟩ := HL0.out.ri; injection e with e1; subst e1; simpa only [World.size_alloc] using r)).mono ?_
  rintro e w1 ⟨rfl, hb1⟩
  have hb01 := HL0.out.below.trans (hb1.mono HL0.out.below.size)
  have hrow1 := (hb01.block _ HLT.out).trans HROW.out
  have hb11 := HB0.out.trans (hb01.mono HB0.out.size)
  generalize (W.alloc (.cells #[.int .u8 a, .int .u32 fg, .int .u32 bg] 24)) = U at *
  have hlt1 := lt_of_block hrow1
  have HB1 := Lib.hid hb11
  have HR1 := Lib.hid hrow1
  clear hb1 hb01 hb11 hrow1 HB0 HL0 HROW HLT
  have HL1 := Lib.hid (OwnI.lit (w1.alloc (.cells #[.int .u8 b, .int .u32 fg, .int .u32 bg] 24)) [28] 1 rfl (by omega))
  have HB2 := Lib.hid (HB1.out.alloc HB1.out.size (.cells #[.int .u8 b, .int .u32 fg, .int .u32 bg] 24))
  have HR2 := Lib.hid ((heap_alloc_old w1 (.cells #[.int .u8 b, .int .u32 fg, .int .u32 bg] 24) hlt1).trans HR1.out)
  have HR3 := Lib.hid (heap_alloc_new w1 (.cells #[.int .u8 b, .int .u32 fg, .int .u32 bg] 24))
  go_wp2_with fail
  refine (HC2.out _ (HB2.out.trans (HL1.out.below.mono HB2.out.size)) _ (by obtain ⟨A, c, e, _, r⟩ := HL1.out.ri; injection e with e1; subst e1; simpa only [World.size_alloc] using r)).mono ?_
  rintro e w2 ⟨rfl, hb2⟩
  have hb12 := HL1.out.below.trans (hb2.mono HL1.out.below.size)
  have hra := (hb12.block _ (lt_of_block HR2.out)).trans HR2.out
  have hrb := (hb12.block _ (lt_of_block HR3.out)).trans HR3.out
  have HB3 := Lib.hid ((HB2.out.trans (hb12.mono HB2.out.size)).alloc (HB2.out.trans (hb12.mono HB2.out.size)).size (.cells #[.int .u8 d, .int .u32 fg, .int .u32 bg] 24))
  have HRA := Lib.hid ((heap_alloc_old w2 (.cells #[.int .u8 d, .int .u32 fg, .int .u32 bg] 24) (lt_of_block hra)).trans hra)
  have HRB := Lib.hid ((heap_alloc_old w2 (.cells #[.int .u8 d, .int .u32 fg, .int .u32 bg] 24) (lt_of_block hrb)).trans hrb)
  have HRC := Lib.hid (heap_alloc_new w2 (.cells #[.int .u8 d, .int .u32 fg, .int .u32 bg] 24))
  clear hb2 hb12 hra hrb HR1 HR2 HR3 HB1 HB2 HL1 hlt1
  go_wp2_with fail
  refine (HAL.out _ HB3.out).mono ?_
  rintro e w3 ⟨rfl, hb3⟩
  obtain ⟨p0, p1, p2⟩ := pcell ((hb3.block _ (lt_of_block HRA.out)).trans HRA.out)
  obtain ⟨q0, q1, q2⟩ := pcell ((hb3.block _ (lt_of_block HRB.out)).trans HRB.out)
  obtain ⟨r0, r1, r2⟩ := pcell ((hb3.block _ (lt_of_block HRC.out)).trans HRC.out)
  have HB4 := Lib.hid (HB3.out.trans (hb3.mono HB3.out.size))
  clear hb3 HRA HRB HRC
  go_wp2
  go_ret
  exact ⟨rfl, HB4.out⟩

set_option maxRecDepth 100000 in
set_option maxHeartbeats 2000000 in
theorem sf_7 (s : Sty) (c : Int) (W : World) (h : Both W) (hs : Good s) (hk : bits .and .u8 c 7 = 7) : Calls Tryd.prog 7 #[pV s, .int .u8 c] W fun e w' => e = .returned (.bool true) ∧ Below W.heap.size W w' := by
  have hg1 : Good (oneS s 9) := hs.one 9
  have e1 : oneS s 9 = ⟨s.fs.set 7 true, s.fg, s.bg⟩ := rfl
  have e2 : oneS (oneS s 9) 29 = ⟨(s.fs.set 7 true).set 7 false, s.fg, s.bg⟩ := rfl
  have HC1 := Lib.hid (fun (U : World) (hU : Below W.heap.size W U) (A : Option Addr) (hR : RI .i64 U A [9]) => change_one s 9 (by omega) ▸ p_change s (w := U) (A := A) (n := 1) (cp := 1) hs (h.below hU (Nat.le_refl _)).ft hR rfl (by omega) (by omega) (by unfold maxLen; omega))
  have HC2 := Lib.hid (fun (U : World) (hU : Below W.heap.size W U) (A : Option Addr) (hR : RI .i64 U A [29]) => change_one (oneS s 9) 29 (by omega) ▸ p_change (oneS s 9) (w := U) (A := A) (n := 1) (cp := 1) hg1 (h.below hU (Nat.le_refl _)).ft hR rfl (by omega) (by omega) (by unfold maxLen; omega))
  have HAL := Lib.hid (fun (U : World) (hU : Below W.heap.size W U) => alive_any U (h.below hU (Nat.le_refl _)))
  have f1 := flag_or s.fs hs.len 7 (by omega)
  have f2 := flag_not (s.fs.set 7 true) (by simpa using hs.len) 7 (by omega)
  rw [e2] at HC2
  rw [e1] at HC1 HC2
  obtain ⟨fs, fg, bg⟩ := s
  dsimp only at f1 f2 e1 e2
  simp only [pV] at HC1 HC2
  show Calls Tryd.prog 7 #[.agg #[.int .u8 (flagsF fs), .int .u32 fg, .int .u32 bg], .int .u8 c] W _
  obtain ⟨a, ha⟩ : ∃ a, flagsF fs = a := ⟨_, rfl⟩
  obtain ⟨b, hb⟩ : ∃ a, flagsF (fs.set 7 true) = a := ⟨_, rfl⟩
  obtain ⟨d, hd⟩ : ∃ a, flagsF ((fs.set 7 true).set 7 false) = a := ⟨_, rfl⟩
  rw [ha] at HC1 f1 ⊢
  rw [hb] at HC1 HC2 f1 f2
  rw [hd] at HC2 f2
  have f1 : bits .or .u8 a 128 = b := f1
  have f2 : bits .andNot .u8 b 128 = d := f2
  have HB0 := Lib.hid ((Below.refl W.heap.size W).alloc (Nat.le_refl _) (.cells #[.int .u8 a, .int .u32 fg, .int .u32 bg] 24))
  have HROW := Lib.hid (heap_alloc_new W (.cells #[.int .u8 a, .int .u32 fg, .int .u32 bg] 24))
  have HLT : Hid (W.heap.size < (W.alloc (.cells #[.int .u8 a, .int .u32 fg, .int .u32 bg] 24)).heap.size) := Lib.hid (by simp)
  have HL0 := Lib.hid ((OwnI.lit (W.alloc (.cells #[.int .u8 a, .int .u32 fg, .int .u32 bg] 24)) [9] 1 rfl (by omega)))
  clear ha hb hd e1 e2 hg1 hs h
  go_enter Tryd.func7, Tryd.ntmps7
  go_wp2_with fail
  refine (HC1.out _ (HB0.out.trans (HL0.out.below.mono HB0.out.size)) _ (by obtain ⟨A, c, e, _, r⟩ := HL0.out.ri; injection e with e1; subst e1; simpa only [World.size_alloc] using r)).mono ?_
  rintro e w1 ⟨rfl, hb1⟩
  have hb01 := HL0.out.below.trans (hb1.mono HL0.out.below.size)
  have hrow1 := (hb01.block _ HLT.out).trans HROW.out
  have hb11 := HB0.out.trans (hb01.mono HB0.out.size)
  generalize (W.alloc (.cells #[.int .u8 a, .int .u32 fg, .int .u32 bg] 24)) = U at *
  have hlt1 := lt_of_block hrow1
  have HB1 := Lib.hid hb11
  have HR1 := Lib.hid hrow1
  clear hb1 hb01 hb11 hrow1 HB0 HL0 HROW HLT
  have HL1 := Lib.hid (OwnI.lit (w1.alloc (.cells #[.int .u8 b, .int .u32 fg, .int .u32 bg] 24)) [29] 1 rfl (by omega))
  have HB2 := Lib.hid (HB1.out.alloc HB1.out.size (.cells #[.int .u8 b, .int .u32 fg, .int .u32 bg] 24))
  have HR2 := Lib.hid ((heap_alloc_old w1 (.cells #[.int .u8 b, .int .u32 fg, .int .u32 bg] 24) hlt1).trans HR1.out)
  have HR3 := Lib.hid (heap_alloc_new w1 (.cells #[.int .u8 b, .int .u32 fg, .int .u32 bg] 24))
  go_wp2_with fail
  refine (HC2.out _ (HB2.out.trans (HL1.out.below.mono HB2.out.size)) _ (by obtain ⟨A, c, e, _, r⟩ := HL1.out.ri; injection e with e1; subst e1; simpa only [World.size_alloc] using r)).mono ?_
  rintro e w2 ⟨rfl, hb2⟩
  have hb12 := HL1.out.below.trans (hb2.mono HL1.out.below.size)
  have hra := (hb12.block _ (lt_of_block HR2.out)).trans HR2.out
  have hrb := (hb12.block _ (lt_of_block HR3.out)).trans HR3.out
  have HB3 := Lib.hid ((HB2.out.trans (hb12.mono HB2.out.size)).alloc (HB2.out.trans (hb12.mono HB2.out.size)).size (.cells #[.int .u8 d, .int .u32 fg, .int .u32 bg] 24))
  have HRA := Lib.hid ((heap_alloc_old w2 (.cells #[.int .u8 d, .int .u32 fg, .int .u32 bg] 24) (lt_of_block hra)).trans hra)
  have HRB := Lib.hid ((heap_alloc_old w2 (.cells #[.int .u8 d, .int .u32 fg, .int .u32 bg] 24) (lt_of_block hrb)).trans hrb)
  have HRC := Lib.hid (heap_alloc_new w2 (.cells #[.int .u8 d, .int .u32 fg, .int .u32 bg] 24))
  clear hb2 hb12 hra hrb HR1 HR2 HR3 HB1 HB2 HL1 hlt1
  go_wp2_with fail
  refine (HAL.out _ HB3.out).mono ?_
  rintro e w3 ⟨rfl, hb3⟩
  obtain ⟨p0, p1, p2⟩ := pcell ((hb3.block _ (lt_of_block HRA.out)).trans HRA.out)
  obtain ⟨q0, q1, q2⟩ := pcell ((hb3.block _ (lt_of_block HRB.out)).trans HRB.out)
  obtain ⟨r0, r1, r2⟩ := pcell ((hb3.block _ (lt_of_block HRC.out)).trans HRC.out)
  have HB4 := Lib.hid (HB3.out.trans (hb3.mono HB3.out.size))
  clear hb3 HRA HRB HRC
  go_wp2
  go_ret
  exact ⟨rfl, HB4.out⟩

theorem flags_any (s : Sty) (c : Int) (W : World) (h : Both W) (hs : Good s) (c0 : 0 ≤ c) (c1 : c < 256) : Calls Tryd.prog 7 #[pV s, .int .u8 c] W fun e w' => e = .returned (.bool true) ∧ Below W.heap.size W w' := by
  have hk := and7 c c0 c1
  have : c % 8 = 0 ∨ c % 8 = 1 ∨ c % 8 = 2 ∨ c % 8 = 3 ∨ c % 8 = 4 ∨ c % 8 = 5 ∨ c % 8 = 6 ∨ c % 8 = 7 := by omega
  rcases this with e | e | e | e | e | e | e | e <;> rw [e] at hk
  · exact sf_0 s c W h hs hk
  · exact sf_1 s c W h hs hk
  · exact sf_2 s c W h hs hk
  · exact sf_3 s c W h hs hk
  · exact sf_4 s c W h hs hk
  · exact sf_5 s c W h hs hk
  · exact sf_6 s c W h hs hk
  · exact sf_7 s c W h hs hk
end Go.Proofs.YtohhmpkmcodoeaaDoor
