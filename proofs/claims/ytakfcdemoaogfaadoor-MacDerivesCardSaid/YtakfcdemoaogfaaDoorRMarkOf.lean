/-
  Proved here: the document's own 'Mark' answers the program's mark, in memory of its own.
-/
import Derived.Test.YtakfcdemoaogfaaDoorRMark
namespace Go.Proofs.YtakfcdemoaogfaaDoor
open Go.RowKit
theorem rmark_any (key bs : List Nat) (A B : Option Addr) (ca cb : Nat) (w : World) (hA : R0 w A key) (hnA : A = none → ca = 0) (hca : key.length ≤ ca) (ha : ∀ j, key.getD j 0 < 256) (hB : R0 w B bs) (hnB : B = none → cb = 0) (hcb : bs.length ≤ cb) (hb : ∀ j, bs.getD j 0 < 256) (hl : bs.length ≤ 900) (hk : key.length ≤ 900) :
    Calls Tryd.prog 19 #[.slice A key.length ca, .slice B bs.length cb] w fun e w' => ∃ v, e = .returned v ∧ w'.ownsRow w.heap.size 5 1 v 32 (V8 (markS key bs)) ∧ Below w.heap.size w w' := by
  have HC := Lib.hid (constants_any w)
  have HW := Lib.hid (fun (w1 : World) (hb1 : Below w.heap.size w w1) (K S : Option Addr) (ck cs : Nat) hK hS => show Calls Tryd.prog 32 #[.slice K 64 ck, .slice S 8 cs, .slice A key.length ca, .slice B bs.length cb] w1 fun e w' => ∃ v, e = .returned v ∧ w'.ownsRow w1.heap.size 5 1 v 32 (V8 (markS key bs)) ∧ Below w1.heap.size w1 w' from by
    by_cases h : key.length ≤ 64
    · exact rmark_short key bs A B K S ca cb ck cs w1 (hA.to hb1) hnA hca ha (hB.to hb1) hnB hcb hb hl hK hS h
    · exact rmark_long key bs A B K S ca cb ck cs w1 (hA.to hb1) hnA hca ha (hB.to hb1) hnB hcb hb hl hK hS (by omega) hk)
  generalize markS key bs = X at HW ⊢
  clear hA hnA hca ha hB hnB hcb hb hl hk
  go_enter Tryd.func19, Tryd.ntmps19
  go_wp2_with fail
  refine HC.out.mono ?_
  rintro e w1 ⟨A', B', c1, c2, rfl, r1, r2, hb1⟩
  have HX := Lib.hid (HW.out w1 hb1 A' B' c1 c2 r1 r2)
  clear HC HW r1 r2
  go_wp2_with fail
  refine HX.out.mono ?_
  rintro e w2 ⟨v, rfl, ho, hb2⟩
  have HE := Lib.hid (And.intro (own_base ho hb1.size) (hb1.trans (hb2.mono hb1.size)))
  clear ho hb2 hb1 HX
  go_wp2
  go_ret
  exact ⟨v, rfl, HE.out.1, HE.out.2⟩
end Go.Proofs.YtakfcdemoaogfaaDoor
