/-
  Proved here, where sha's table lies as the program lays it: FileLives holds of every ID, name, bytes and calls.
-/
import Derived.Test.YtdlhpmbgpjjkoaaDoorFrj
set_option linter.unusedSimpArgs false
set_option linter.unusedVariables false
namespace Go.Proofs.YtdlhpmbgpjjkoaaDoor
open Go.RowKit
set_option maxRecDepth 100000 in
theorem lives_long {id : Nat} {nm : ByteArray} {n c : Nat} {A : Option Addr} (h : 4200 < n) {A2 : Option Addr} {m k2 : Nat} (w : World) (hT : Tab w) :
    Calls Tryd.prog 3 #[.int .u64 id, .string nm, .slice A n c, .slice A2 m k2] w fun e w' => e = .returned (.bool true) ∧ Below w.heap.size w w' := by
  have d0 : decide ((4200 : Int) < (n : Int)) = true := by simp; omega
  have d1 : (4200 : Int) < (n : Int) := by omega
  have HA := Lib.hid (alive_any w hT)
  clear h hT
  go_enter Tryd.func3, Tryd.ntmps3
  go_wp2_with fail
  refine HA.out.mono ?_
  rintro e w1 ⟨rfl, hb⟩
  have HX := Lib.hid hb
  clear hb
  go_wp2
  go_ret
  exact ⟨rfl, HX.out⟩
set_option maxRecDepth 100000 in
theorem lives_name {id : Nat} {nm : ByteArray} {n c : Nat} {A : Option Addr} (h : n ≤ 4200) (h2 : 60 < nm.size) {A2 : Option Addr} {m k2 : Nat} (w : World) (hT : Tab w) :
    Calls Tryd.prog 3 #[.int .u64 id, .string nm, .slice A n c, .slice A2 m k2] w fun e w' => e = .returned (.bool true) ∧ Below w.heap.size w w' := by
  have d0 : decide ((4200 : Int) < (n : Int)) = false := by simp; omega
  have d1 : ¬ (4200 : Int) < (n : Int) := by omega
  have d2 : decide ((60 : Int) < (nm.size : Int)) = true := by simp; omega
  have d3 : (60 : Int) < (nm.size : Int) := by omega
  have HA := Lib.hid (alive_any w hT)
  clear h h2 hT
  go_enter Tryd.func3, Tryd.ntmps3
  go_wp2_with fail
  refine HA.out.mono ?_
  rintro e w1 ⟨rfl, hb⟩
  have HX := Lib.hid hb
  clear hb
  go_wp2
  go_ret
  exact ⟨rfl, HX.out⟩
set_option maxRecDepth 100000 in
theorem lives_bad {id : Nat} {nm : ByteArray} {n c : Nat} {A : Option Addr} (h : n ≤ 4200) (h2 : nm.size ≤ 60) (hI : rI id nm n = false) {A2 : Option Addr} {m k2 : Nat} (w : World) (hT : Tab w) :
    Calls Tryd.prog 3 #[.int .u64 id, .string nm, .slice A n c, .slice A2 m k2] w fun e w' => e = .returned (.bool true) ∧ Below w.heap.size w w' := by
  have d0 : decide ((4200 : Int) < (n : Int)) = false := by simp; omega
  have d1 : ¬ (4200 : Int) < (n : Int) := by omega
  have d2 : decide ((60 : Int) < (nm.size : Int)) = false := by simp; omega
  have d3 : ¬ (60 : Int) < (nm.size : Int) := by omega
  have HTT := Lib.hid hT
  have HNEW := Lib.hid (fnew_no (A := A) (c := c) (by omega) hI w)
  have HRT := Lib.hid (fun W => hI ▸ sright_any id nm n (by omega) Z32 W)
  clear h h2 hI hT
  go_enter Tryd.func3, Tryd.ntmps3
  go_wp2_with fail
  refine HNEW.out.mono ?_
  rintro e w1 ⟨rfl, hb⟩
  have HB1 := Lib.hid hb
  clear hb HNEW
  go_wp2_with (refine wpList_build_to rfl 34 _ rfl (infL id nm n Z32).toArray (by kernel_rfl) ?_)
  refine (HRT.out _).mono ?_
  rintro e w2 ⟨rfl, hb⟩
  have HB2 := Lib.hid (HB1.out.trans (hb.mono HB1.out.size))
  have HA := Lib.hid (alive_any w2 (HTT.out.to HB2.out))
  clear hb HB1 HRT
  go_wp2_with fail
  refine HA.out.mono ?_
  rintro e w3 ⟨rfl, hb⟩
  have HX := Lib.hid (HB2.out.trans (hb.mono HB2.out.size))
  clear hb HB2 HA
  go_wp2
  go_ret
  exact ⟨rfl, HX.out⟩
theorem lives_any {id : Nat} {nm : ByteArray} {bs : List Int} {n c : Nat} {A : Option Addr} (hn : bs.length = n) (hb : ∀ i, 0 ≤ bs.getD i 0) (hc : n ≤ c) (hm : c ≤ maxLen) (hz : A = none → c = 0) {A2 : Option Addr} {m k2 : Nat} {ops : List FOp} (w : World) (hr : RI .u8 w A bs) (hops : SlFOp w A2 m k2 ops) (hT : Tab w) :
    Calls Tryd.prog 3 #[.int .u64 id, .string nm, .slice A n c, .slice A2 m k2] w fun e w' => e = .returned (.bool true) ∧ Below w.heap.size w w' := by
  rcases Nat.lt_or_ge 4200 n with h | h
  · exact lives_long h w hT
  · rcases Nat.lt_or_ge 60 nm.size with h2 | h2
    · exact lives_name h h2 w hT
    · cases hI : rI id nm n
      · exact lives_bad h h2 hI w hT
      · exact lives_in hn h2 hI hb hc hm hz w hr hops hT
end Go.Proofs.YtdlhpmbgpjjkoaaDoor
