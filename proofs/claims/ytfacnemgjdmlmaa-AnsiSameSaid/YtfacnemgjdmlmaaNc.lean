/-
  Proved here: of the document's sequences: csi (what stands between [ and the end).
-/
import Derived.Test.YtfacnemgjdmlmaaNb
import Derived.Laws.CopyOwn
import Derived.LoopTactic
set_option linter.unusedSimpArgs false
set_option linter.unusedVariables false
namespace Go.Proofs.Ytfacnemgjdmlmaa
open Go.RowKit
theorem results_cell_tmp {P : Program} {fn : Func} {p q : Tmp} {ty : TypeId} (h : fn.results = #[.cell p ty, .tmp q]) (tmps : Array Value) (w : World) (g : Nat) (t : TypeId) (cs : Array Value) (fr : Nat × Nat) (d : TypeDesc) (u : Value)
    (hp : tmps.getD p undef = .pointer (some ⟨g, 0, none⟩)) (hq : tmps.getD q undef = u) (hg : w.heap[g]? = some (.cells cs t fr))
    (hu : P.underlying ty = some d) (hd : (match d with | .struct _ | .array _ _ => true | _ => false) = true) (hi : (P.info? ty).map (·.size) = some cs.size) :
    (results fn tmps).run P w = .ok (.tuple #[.agg cs, u]) w := by
  have hp' : tmps[p]?.getD undef = .pointer (some ⟨g, 0, none⟩) := by simpa using hp
  have hq' : tmps[q]?.getD undef = u := by simpa using hq
  simp [results, h, hp', hq', asAddr, run_loadVar_row w g t ty cs fr d hg hu hd hi]
theorem exec_load_row {P : Program} {o : Oper} {a : Act} {w : World} (ty : TypeId) (x : Operand) (ho : o.op = .load ty x)
    (g : Nat) (hx : a.eval x = .pointer (some ⟨g, 0, none⟩)) (t : TypeId) (cs : Array Value) (fr : Nat × Nat) (d : TypeDesc) (hg : w.heap[g]? = some (.cells cs t fr))
    (hu : P.underlying ty = some d) (hd : (match d with | .struct _ | .array _ _ => true | _ => false) = true) (hi : (P.info? ty).map (·.size) = some cs.size) :
    (execOp a.eval o).run P w = .ok (.value (.agg cs)) w := by
  unfold execOp
  simp only [ho, hx, Instr.loadAt, Instr.sureAddr, Sem.run_bind, Sem.run_pure, Result.andThen_ok, run_loadVar_row w g t ty cs fr d hg hu hd hi]
theorem info_ev (e : Ev) (pv : Value) : (Try.prog.info? 38).map (·.size) = some (evL e pv).toArray.size := by
  rw [show (evL e pv).toArray.size = 7 from rfl]; kernel_rfl
theorem evL_one {e : Ev} {A : Option Addr} {n c : Nat} : (evL e (.slice A n c)).toArray.all (·.oneCell') = true := by
  simp [evL, Value.oneCell']
theorem EvAt.one {B g : Nat} {e : Ev} {pv : Value} {W : World} (h : EvAt B g e pv W) : (evL e pv).toArray.all (·.oneCell') = true := by
  obtain ⟨A, c, rfl, _⟩ := own_slice h.own
  exact evL_one
def zeroE : List Value := [.int .i64 0, .int .i32 0, .int .u8 0, .int .u8 0, .int .u8 0, .slice none 0 0, .string ⟨#[]⟩]
theorem info_zeroE : (Try.prog.info? 38).map (·.size) = some zeroE.toArray.size := by kernel_rfl
/-- Where it stands: the event, and the answer's place. -/
structure Cs (w : World) (e : Ev) (pv : Value) (W : World) : Prop where
  ev : EvAt (w.heap.size + 2) (w.heap.size + 1) e pv W
  ans : W.heap[w.heap.size]? = some (.cells zeroE.toArray 38 (0, 0))
  below : Below w.heap.size w W
theorem Cs.go {w : World} {e e' : Ev} {pv pv' : Value} {W W' : World} (h : Cs w e pv W) (he : EvAt (w.heap.size + 2) (w.heap.size + 1) e' pv' W') (k : OnlyG (w.heap.size + 2) (w.heap.size + 1) W W') : Cs w e' pv' W' :=
  ⟨he, (k.block _ (by omega) (by omega)).trans h.ans, h.below.trans ⟨k.os, k.tape, k.output, k.size, fun i hi => k.block i (by omega) (by omega)⟩⟩
theorem cs_new (w : World) (Z C : Array Value) (hZ : Z = zeroE.toArray) (hC : C = (evL evC (.slice none 0 0)).toArray) : Cs w evC (.slice none 0 0) ((w.alloc (.cells Z 38)).alloc (.cells C 38)) := by
  subst hZ hC
  refine ⟨⟨by have := heap_alloc_new (w.alloc (.cells zeroE.toArray 38)) (.cells (evL evC (.slice none 0 0)).toArray 38); simpa using this, World.ownsRow_nil _ _ _ _, by omega, by simp⟩, (Below.heap_alloc _ _ _ (by simp)).trans (heap_alloc_new _ _), ((Below.refl _ _).alloc (Nat.le_refl _) _).alloc (by simp) _⟩
/-- What csi answers. -/
def CsiEnd (w : World) (l : List Int) (x : Ending) (w' : World) : Prop := ∃ (pv : Value) (ev : Ev) (ok : Bool), csiS l = (ev, ok) ∧ x = .returned (.tuple #[.agg (evL ev pv).toArray, .bool ok]) ∧ w'.ownsRow w.heap.size 3 1 pv ev.params.length (NV .i64 ev.params) ∧ Below w.heap.size w w' ∧ NumOk ev.params
theorem csi_end {w : World} {l : List Int} {e : Ev} {pv : Value} {ok : Bool} {W : World} (h : csiS l = (e, ok)) (hc : Cs w e pv W) (ho : NumOk e.params) : CsiEnd w l (.returned (.tuple #[.agg (evL e pv).toArray, .bool ok])) (W.setRow w.heap.size (evL e pv).toArray) := by
  refine ⟨pv, e, ok, h, rfl, ?_, below_setRow hc.below (Nat.le_refl _) _, ho⟩
  have hb : Below (w.heap.size + 2) W W := Below.refl _ _
  refine own_mono ?_ (show w.heap.size ≤ w.heap.size + 2 by omega)
  have hown := hc.ev.own
  refine ⟨hown.1, ?_⟩
  rcases hown.2 with h0 | ⟨g, cap, cur, hv, hg, hh, rest⟩
  · exact .inl h0
  · exact .inr ⟨g, cap, cur, hv, hg, by rw [setRow_other _ _ _ _ (by omega)]; exact hh, rest⟩
theorem drop_one {l : List Int} {i : Nat} (h : i < l.length) : l.drop i = l.getD i 0 :: l.drop (i + 1) := by
  rw [List.drop_eq_getElem_cons h]; simp [List.getD, h]
set_option maxRecDepth 100000 in
set_option maxHeartbeats 2000000 in
theorem rcsi_any {w : World} {A : Option Addr} {n cp : Nat} {l : List Int} (hR : RI .i32 w A l) (hl : l.length = n) (hn : n ≤ 5000) (hr : ∀ x ∈ l, 32 ≤ x ∧ x < 128) :
    Calls Try.prog 31 #[.slice A n cp] w (CsiEnd w l) := by
  have HR := Lib.hid hR
  have HL := Lib.hid hl
  have HRG := Lib.hid hr
  have HE0 : Hid (csiF 0 evC (l.drop 0) = csiS l) := Lib.hid (by rw [List.drop_zero]; rfl)
  have HC0 : Hid (Cs w evC (.slice none 0 0) ((w.alloc (.cells #[.int .i64 0, .int .i32 0, .int .u8 0, .int .u8 0, .int .u8 0, .slice none 0 0, .string ⟨#[]⟩] 38)).alloc (.cells #[.int .i64 4, .int .i32 0, .int .u8 0, .int .u8 0, .int .u8 0, .slice none 0 0, .string ⟨#[]⟩] 38))) := Lib.hid (cs_new w _ _ rfl rfl)
  clear hR hl hr
  go_enter Try.func31, Try.ntmps31
  go_wp2
  generalize ((w.alloc (.cells #[.int .i64 0, .int .i32 0, .int .u8 0, .int .u8 0, .int .u8 0, .slice none 0 0, .string ⟨#[]⟩] 38)).alloc (.cells #[.int .i64 4, .int .i32 0, .int .u8 0, .int .u8 0, .int .u8 0, .slice none 0 0, .string ⟨#[]⟩] 38)) = U0 at HC0 ⊢
  go_loopw [5] (fun iv wr => ∃ (i : Nat) (e : Ev) (pv : Value), iv = .int .i64 i ∧ i ≤ n ∧ Hid (csiF i e (l.drop i) = csiS l) ∧ Hid (Cs w e pv wr) ∧ Hid (NumOk e.params ∧ e.params.length ≤ i + 1)) (fun iv _ => n - (intOf iv).toNat)
  case atStart => exact ⟨0, evC, _, rfl, by omega, HE0, HC0, Lib.hid ⟨fun x hx => by simp [evC] at hx, by simp [evC]⟩⟩
  case round =>
    obtain ⟨i, e, pv, rfl, hi, HE, HC, HO⟩ := hrel
    clear HE0 HC0
    obtain ⟨Ap, np, cpv, hpv, hnp⟩ : ∃ A n c, pv = .slice A n c ∧ n = e.params.length := by
      obtain ⟨A, c, h, _⟩ := own_slice HC.out.ev.own
      exact ⟨A, _, c, h, rfl⟩
    subst hpv
    have HNP := Lib.hid hnp
    clear hnp
    have c3 := HC.out.ev.cell (i := 3) (v := .int .u8 e.inter) rfl
    have c5 := HC.out.ev.cell (i := 5) (v := .slice Ap np cpv) rfl
    have HIE := Lib.hid (info_ev e (.slice Ap np cpv))
    by_cases hin : i < n
    · have d1 : decide ((i : Int) < (n : Int)) = true := by simp; omega
      have d2 : decide (i < n) = true := by simp; omega
      obtain ⟨bl, off, rfl, hbl, hc⟩ := HR.out (by rw [HL.out]; omega)
      have e0 := (HC.out.below.cell (p := ⟨bl, off + i, none⟩) hbl).trans (hc i (by rw [HL.out]; exact hin))
      obtain ⟨q, hq⟩ : ∃ q, l.getD i 0 = q := ⟨_, rfl⟩
      have hqr := HRG.out (l.getD i 0) (by simp [List.getD, show i < l.length by rw [HL.out]; exact hin])
      have hdr := drop_one (l := l) (i := i) (by rw [HL.out]; exact hin)
      have hE := HE.out
      rw [hdr, hq, csiF] at hE
      rw [hq] at e0 hqr
      obtain ⟨q0, q1⟩ := hqr
      have g3 : (0 : Int) ≤ (i : Int) := by omega
      have g4 : (i : Int) < (n : Int) := by omega
      have qw : IntKind.u8.wrap q = q := by rw [IntKind.wrap_u8]; omega
      clear hc hq hdr HE
      by_cases h48 : q < 48
      · rw [if_pos h48] at hE
        have t1 : decide (q < 48) = true := by simpa using h48
        by_cases hz : e.inter = 0
        · rw [if_pos hz] at hE
          have z1 : (e.inter != 0) = false := by simp [hz]
          have f3 := HC.out.ev.free 3
          have HC2 : Hid (Cs w { e with inter := q } (.slice Ap np cpv) (wr.setCell ⟨w.heap.size + 1, 3, none⟩ (.int .u8 q))) := Lib.hid (HC.out.go (HC.out.ev.set 3 (.int .u8 q) rfl rfl) (OnlyG.setCell (OnlyG.refl _ _ _) 3 _))
          have HE2 := Lib.hid hE
          have HO2 : Hid (NumOk e.params ∧ e.params.length ≤ i + 1 + 1) := Lib.hid ⟨HO.out.1, by have := HO.out.2; omega⟩
          clear hE hz HC HO h48
          go_wp2
          go_roundw
          case rel => exact ⟨i + 1, { e with inter := q }, _, by go_num, by omega, HE2, HC2, HO2⟩
          case measure => simp [intOf]; omega
        · rw [if_neg hz] at hE
          have z1 : (e.inter != 0) = true := by simpa using hz
          have HE2 := Lib.hid hE.symm
          clear hE hz h48
          go_wp2_with (first | refine wpList_load_row rfl 38 _ rfl (w.heap.size + 1) rfl 38 (evL e (.slice Ap np cpv)).toArray (0,0) _ HC.out.ev.row Try.underlying38 rfl HIE.out ?_ | refine wpList_store_row rfl 38 _ _ rfl w.heap.size _ rfl rfl 38 zeroE.toArray HC.out.ans HIE.out ?c1 ?c2 ?_)
          case c1 => rfl
          case c2 => first | exact evL_one | simp [evL, Value.oneCell']
          exact bodyPost_ret (results_cell_tmp Try.results31 _ _ w.heap.size 38 (evL e (.slice Ap np cpv)).toArray (0, 0) _ (.bool false) rfl rfl (setRow_heap _ _ _ _ _ _ HC.out.ans) Try.underlying38 rfl HIE.out) rfl (csi_end HE2.out HC.out HO.out.1)
      · rw [if_neg h48] at hE
        have t1 : decide (q < 48) = false := by simpa using h48
        by_cases h60 : 60 ≤ q ∧ i = 0
        · rw [if_pos h60] at hE
          have t2 : decide (60 ≤ q) = true := by simpa using h60.1
          have t3 : ((i : Int) == 0) = true := by simpa using h60.2
          have c2 := HC.out.ev.cell (i := 2) (v := .int .u8 e.priv) rfl
          have f2 := HC.out.ev.free 2
          have HC2 : Hid (Cs w { e with priv := q } (.slice Ap np cpv) (wr.setCell ⟨w.heap.size + 1, 2, none⟩ (.int .u8 q))) := Lib.hid (HC.out.go (HC.out.ev.set 2 (.int .u8 q) rfl rfl) (OnlyG.setCell (OnlyG.refl _ _ _) 2 _))
          have HE2 := Lib.hid hE
          have HO2 : Hid (NumOk e.params ∧ e.params.length ≤ i + 1 + 1) := Lib.hid ⟨HO.out.1, by have := HO.out.2; omega⟩
          clear hE HC HO h48 h60
          go_wp2
          go_roundw
          case rel => exact ⟨i + 1, { e with priv := q }, _, by go_num, by omega, HE2, HC2, HO2⟩
          case measure => simp [intOf]; omega
        · rw [if_neg h60] at hE
          by_cases hbad : 60 ≤ q ∨ q = 58 ∨ e.inter ≠ 0
          · rw [if_pos hbad] at hE
            have HE2 := Lib.hid hE.symm
            by_cases h60q : 60 ≤ q
            · have t2 : decide (60 ≤ q) = true := by simpa using h60q
              have t3 : ((i : Int) == 0) = false := by simp; omega
              clear hE hbad h60 h48 h60q
              go_wp2_with (first | refine wpList_load_row rfl 38 _ rfl (w.heap.size + 1) rfl 38 (evL e (.slice Ap np cpv)).toArray (0,0) _ HC.out.ev.row Try.underlying38 rfl HIE.out ?_ | refine wpList_store_row rfl 38 _ _ rfl w.heap.size _ rfl rfl 38 zeroE.toArray HC.out.ans HIE.out ?c1 ?c2 ?_)
              case c1 => rfl
              case c2 => first | exact evL_one | simp [evL, Value.oneCell']
              exact bodyPost_ret (results_cell_tmp Try.results31 _ _ w.heap.size 38 (evL e (.slice Ap np cpv)).toArray (0, 0) _ (.bool false) rfl rfl (setRow_heap _ _ _ _ _ _ HC.out.ans) Try.underlying38 rfl HIE.out) rfl (csi_end HE2.out HC.out HO.out.1)
            · have t2 : decide (60 ≤ q) = false := by simpa using h60q
              by_cases h58 : q = 58
              · have t4 : (q == 58) = true := by simpa using h58
                clear hE hbad h60 h48 h60q h58
                go_wp2_with (first | refine wpList_load_row rfl 38 _ rfl (w.heap.size + 1) rfl 38 (evL e (.slice Ap np cpv)).toArray (0,0) _ HC.out.ev.row Try.underlying38 rfl HIE.out ?_ | refine wpList_store_row rfl 38 _ _ rfl w.heap.size _ rfl rfl 38 zeroE.toArray HC.out.ans HIE.out ?c1 ?c2 ?_)
                case c1 => rfl
                case c2 => first | exact evL_one | simp [evL, Value.oneCell']
                exact bodyPost_ret (results_cell_tmp Try.results31 _ _ w.heap.size 38 (evL e (.slice Ap np cpv)).toArray (0, 0) _ (.bool false) rfl rfl (setRow_heap _ _ _ _ _ _ HC.out.ans) Try.underlying38 rfl HIE.out) rfl (csi_end HE2.out HC.out HO.out.1)
              · have t4 : (q == 58) = false := by simpa using h58
                have z1 : (e.inter != 0) = true := by simp; omega
                clear hE hbad h60 h48 h60q h58
                go_wp2_with (first | refine wpList_load_row rfl 38 _ rfl (w.heap.size + 1) rfl 38 (evL e (.slice Ap np cpv)).toArray (0,0) _ HC.out.ev.row Try.underlying38 rfl HIE.out ?_ | refine wpList_store_row rfl 38 _ _ rfl w.heap.size _ rfl rfl 38 zeroE.toArray HC.out.ans HIE.out ?c1 ?c2 ?_)
                case c1 => rfl
                case c2 => first | exact evL_one | simp [evL, Value.oneCell']
                exact bodyPost_ret (results_cell_tmp Try.results31 _ _ w.heap.size 38 (evL e (.slice Ap np cpv)).toArray (0, 0) _ (.bool false) rfl rfl (setRow_heap _ _ _ _ _ _ HC.out.ans) Try.underlying38 rfl HIE.out) rfl (csi_end HE2.out HC.out HO.out.1)
          · rw [if_neg hbad] at hE
            have t2 : decide (60 ≤ q) = false := by simp; omega
            have t4 : (q == 58) = false := by simp; omega
            have z1 : (e.inter != 0) = false := by simp; omega
            have hdg : q = 59 ∨ (48 ≤ q ∧ q ≤ 57) := by omega
            by_cases hpe : e.params = []
            · rw [if_pos hpe] at hE
              have hn0 : np = 0 := by rw [HNP.out, hpe]; rfl
              have z0 : ((np : Int) == 0) = true := by simp; omega
              have f5 := HC.out.ev.free 5
              have hol := World.ownsRow_lit (e := 3) (size := 1) (base := w.heap.size + 2) wr #[.int .i64 0] 1 HC.out.ev.big (by unfold maxLen; omega) rfl
              have hbA : Below (w.heap.size + 2) wr (wr.alloc (.cells #[.int .i64 0] 3)) := (Below.refl _ _).alloc HC.out.ev.big _
              have hev1 := EvAt.setRow (e := e) (ps := [0]) ((hbA.block _ (by omega)).trans HC.out.ev.row) hol (by omega) (Nat.le_trans HC.out.ev.big hbA.size)
              have HC1 := Lib.hid (HC.out.go hev1 (OnlyG.setCell (OnlyG.of_below hbA) 5 _))
              have c5a : (wr.alloc (.cells #[.int .i64 0] 3)).cell? ⟨w.heap.size + 1, 5, none⟩ = some (.slice Ap np cpv) := (hbA.cell (p := ⟨w.heap.size + 1, 5, none⟩) (by show w.heap.size + 1 < _; omega)).trans c5
              have f5a : (wr.alloc (.cells #[.int .i64 0] 3)).frozen? ⟨w.heap.size + 1, 5, none⟩ = false := frozen_of_row _ _ 5 _ _ ((hbA.block _ (by omega)).trans HC.out.ev.row)
              have HOA : Hid (NumOk (numS [0] q) ∧ (numS [0] q).length ≤ i + 1 + 1) := Lib.hid ⟨numS_ok (fun x hx => by rcases List.mem_singleton.1 hx with rfl; omega) hdg (by simp), by have := (numS_len [0] q).1; simp at this; omega⟩
              have HE2 := Lib.hid hE
              have HDG := Lib.hid hdg
              clear hE hbad h60 h48 hpe hol hbA hev1 hdg
              have HNUM : Hid (Calls Try.prog 37 #[.pointer (some ⟨w.heap.size + 1, 0, none⟩), .int .i32 q] ((wr.alloc (.cells #[.int .i64 0] 3)).setCell ⟨w.heap.size + 1, 5, none⟩ (.slice (some ⟨wr.heap.size, 0, none⟩) 1 1)) fun x w' => x = .returned (.tuple #[]) ∧ ∃ pv', EvAt (w.heap.size + 2) (w.heap.size + 1) { e with params := numS [0] q } pv' w' ∧ OnlyG (w.heap.size + 2) (w.heap.size + 1) ((wr.alloc (.cells #[.int .i64 0] 3)).setCell ⟨w.heap.size + 1, 5, none⟩ (.slice (some ⟨wr.heap.size, 0, none⟩) 1 1)) w') := Lib.hid (by
                rcases HDG.out with hd | hd
                · have h := rn_more HC1.out.ev (by simp)
                  rw [hd]; exact h
                · exact rn_digit HC1.out.ev (by simp) (by simp) (fun x hx => by rcases List.mem_singleton.1 hx with rfl; omega) q hd.1 hd.2)
              clear HDG
              go_wp2_with fail
              refine HNUM.out.mono ?_
              rintro x w2 ⟨rfl, pv2, hev2, ho2⟩
              have HC2 : Hid (Cs w { e with params := numS [0] q } pv2 w2) := Lib.hid (HC1.out.go hev2 ho2)
              clear hev2 ho2 HNUM c5a f5a
              go_wp2
              go_roundw
              case rel => exact ⟨i + 1, { e with params := numS [0] q }, _, by go_num, by omega, HE2, HC2, HOA⟩
              case measure => simp [intOf]; omega
            · rw [if_neg hpe] at hE
              have hn0 : np ≠ 0 := by rw [HNP.out]; exact fun h => hpe (List.eq_nil_of_length_eq_zero h)
              have z0 : ((np : Int) == 0) = false := by simp; omega
              have HO2 : Hid (NumOk (numS e.params q) ∧ (numS e.params q).length ≤ i + 1 + 1) := Lib.hid ⟨numS_ok HO.out.1 hdg hpe, by have := (numS_len e.params q).1; have := HO.out.2; omega⟩
              have HNUM : Hid (Calls Try.prog 37 #[.pointer (some ⟨w.heap.size + 1, 0, none⟩), .int .i32 q] wr fun x w' => x = .returned (.tuple #[]) ∧ ∃ pv', EvAt (w.heap.size + 2) (w.heap.size + 1) { e with params := numS e.params q } pv' w' ∧ OnlyG (w.heap.size + 2) (w.heap.size + 1) wr w') := Lib.hid (by
                have hlen := HO.out.2
                rcases hdg with rfl | hdg
                · exact rn_more HC.out.ev (by omega)
                · exact rn_digit HC.out.ev (by omega) hpe HO.out.1 q hdg.1 hdg.2)
              have HE2 := Lib.hid hE
              clear hE hbad h60 h48 hpe hdg
              go_wp2_with fail
              refine HNUM.out.mono ?_
              rintro x w2 ⟨rfl, pv2, hev2, ho2⟩
              have HC2 := Lib.hid (HC.out.go hev2 ho2)
              clear hev2 ho2 HNUM
              go_wp2
              go_roundw
              case rel => exact ⟨i + 1, { e with params := numS e.params q }, _, by go_num, by omega, HE2, HC2, HO2⟩
              case measure => simp [intOf]; omega
    · have hin' : i = n := by omega
      have d1 : decide ((i : Int) < (n : Int)) = false := by simp; omega
      have d2 : decide (i < n) = false := by simp; omega
      have hE := HE.out
      rw [List.drop_of_length_le (by rw [HL.out]; omega), csiF] at hE
      obtain ⟨ok, hok⟩ : ∃ ok, decide (e.params.length ≤ 16) = ok := ⟨_, rfl⟩
      rw [hok] at hE
      have HE2 := Lib.hid hE.symm
      have hok2 : decide ((np : Int) ≤ 16) = ok := by rw [← hok, ← HNP.out]; exact Bool.eq_iff_iff.2 (by simp; omega)
      have HCD : Hid (Cs w e (.slice Ap np cpv) wr.drew) := Lib.hid ⟨HC.out.ev.drew, HC.out.ans, HC.out.below.trans (Below.refl _ _).drew⟩
      clear hE hok hin' HE HC
      go_wp2
      refine wp_region_held_drew (S := fun W => W.heap[w.heap.size + 1]? = some (.cells (evL e (.slice Ap np cpv)).toArray 38 (0, 0)) ∧ W.cell? ⟨w.heap.size + 1, 5, none⟩ = some (.slice Ap np cpv)) (by kernel_rfl) ⟨HCD.out.ev.row, c5⟩ (fun hHeld => ?_)
      clear c5 c3
      refine wpAnyH_take (i := 0) (v := ?_) (by simp; rfl) (by kernel_rfl) (by kernel_rfl) (by kernel_rfl) (by exact fun _ _ _ h => h) (Or.inl ⟨by rfl, fun wx hSx => ?_⟩) hHeld ?_
      rotate_left
      · refine exec_load_row 38 (.tmp 4) ?_ (w.heap.size + 1) ?_ 38 (evL e (.slice Ap np cpv)).toArray (0, 0) _ hSx.1 Try.underlying38 rfl HIE.out <;> rfl
      simp only [Act.put, List.setIfInBounds_toArray, List.set_cons_zero, List.set_cons_succ]
      refine wpAnyH_take (i := 1) (v := ?_) (by simp; rfl) (by kernel_rfl) (by kernel_rfl) (by kernel_rfl) (by exact fun _ _ _ h => h) (Or.inl ⟨by rfl, fun wx hSx => ?_⟩) hHeld ?_
      rotate_left
      · clear hSx; go_simp; (try with_reducible rfl)
      simp only [Act.put, List.setIfInBounds_toArray, List.set_cons_zero, List.set_cons_succ]
      refine wpAnyH_take (i := 2) (v := ?_) (by simp; rfl) (by kernel_rfl) (by kernel_rfl) (by kernel_rfl) (by exact fun _ _ _ h => h) (Or.inl ⟨by rfl, fun wx hSx => ?_⟩) hHeld ?_
      rotate_left
      · obtain ⟨hs1, hs2⟩ := hSx; clear hs1; go_simp; (try with_reducible rfl)
      simp only [Act.put, List.setIfInBounds_toArray, List.set_cons_zero, List.set_cons_succ]
      refine wpAnyH_take (i := 3) (v := ?_) (by simp; rfl) (by kernel_rfl) (by kernel_rfl) (by kernel_rfl) (by exact fun _ _ _ h => h) (Or.inl ⟨by rfl, fun wx hSx => ?_⟩) hHeld ?_
      rotate_left
      · clear hSx; go_simp; (try with_reducible rfl)
      simp only [Act.put, List.setIfInBounds_toArray, List.set_cons_zero, List.set_cons_succ]
      refine wpAnyH_take (i := 4) (v := ?_) (by simp; rfl) (by kernel_rfl) (by kernel_rfl) (by kernel_rfl) (by exact fun _ _ _ h => h) (Or.inl ⟨by rfl, fun wx hSx => ?_⟩) hHeld ?_
      rotate_left
      · clear hSx; go_simp; (try with_reducible rfl)
      simp only [Act.put, List.setIfInBounds_toArray, List.set_cons_zero, List.set_cons_succ]
      refine wpAnyH_ready (rs := [5]) (by kernel_rfl) (by simp) ?_
      refine AllReadyH.cons (by simp; rfl) (fun K0 hK0 => ?_) AllReadyH.nil
      rw [if_pos (by rfl)]
      refine wp_store_row 38 (.tmp 2) (.tmp 62) rfl w.heap.size (evL e (.slice Ap np cpv)).toArray (by rfl) (by rfl) 38 zeroE.toArray HCD.out.ans HIE.out rfl evL_one ?_
      simp only [Act.put]
      refine hK0.out _ _ ⟨(setRow_other _ _ _ _ (by omega)).trans hHeld.1, (World.cell?_of_block (setRow_other _ _ _ _ (by show w.heap.size + 1 ≠ _; omega))).trans hHeld.2⟩ (fun hHeld => ?_)
      clear hK0 K0
      refine wpAnyH_take (i := 6) (v := ?_) (by simp; rfl) (by kernel_rfl) (by kernel_rfl) (by kernel_rfl) (by exact fun _ _ _ h => h) (Or.inl ⟨by rfl, fun wx hSx => ?_⟩) hHeld ?_
      rotate_left
      · clear hSx; go_simp; (try with_reducible rfl)
      simp only [Act.put, List.setIfInBounds_toArray, List.set_cons_zero, List.set_cons_succ]
      refine wpAnyH_done (by kernel_rfl) ?_ _
      go_wp2
      exact bodyPost_ret (results_cell_tmp Try.results31 _ _ w.heap.size 38 (evL e (.slice Ap np cpv)).toArray (0, 0) _ (.bool ok) rfl rfl (setRow_heap _ _ _ _ _ _ HCD.out.ans) Try.underlying38 rfl HIE.out) rfl (csi_end HE2.out HCD.out HO.out.1)
end Go.Proofs.Ytfacnemgjdmlmaa
