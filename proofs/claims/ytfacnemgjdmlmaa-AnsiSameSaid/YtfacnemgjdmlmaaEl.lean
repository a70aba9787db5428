/-
  Proved here: of ansi: New; of the law: As, and that equal lists of events are told so.
-/
import Derived.Test.YtfacnemgjdmlmaaEk
set_option linter.unusedSimpArgs false
set_option linter.unusedVariables false
namespace Go.Proofs.Ytfacnemgjdmlmaa
open Go.RowKit
theorem heldMono {P : Program} {md : Region.Mode} {ops : Array Oper} {Q : Exit → Act → World → Prop} {S S' : World → Prop} (h : ∀ w, S' w → S w) :
    ∀ (fuel : Nat) (listed : Array Bool) (a : Act) (w : World), wpAnyH P md ops Q S' fuel listed a w → wpAnyH P md ops Q S fuel listed a w
  | 0, _, _, _, x => x
  | fuel + 1, _, _, _, x => ⟨x.1, fun i hi => wpOp_mono (fun a' w' h' => ⟨h _ h'.1, heldMono h fuel _ a' w' h'.2⟩) (x.2 i hi)⟩
/-- A new parser. -/
theorem new_calls (w : World) : Calls Try.prog 9 #[] w fun e w' => e = .returned (.pointer (some ⟨w.heap.size, 0, none⟩)) ∧ w' = w.alloc (.cells (qC (beginP 0) (.slice none 0 0) (.slice none 0 0)) 42) := by
  go_enter Try.func9, Try.ntmps9
  go_wp2
  go_ret
  exact ⟨rfl, rfl⟩
theorem new_qs (w : World) : Qs (w.heap.size + 1) w.heap.size (.slice none 0 0) (.slice none 0 0) (beginP 0) (w.alloc (.cells (qC (beginP 0) (.slice none 0 0) (.slice none 0 0)) 42)) :=
  ⟨heap_alloc_new _ _, World.ownsRow_nil _ _ _ _, World.ownsRow_nil _ _ _ _, Nat.lt_succ_self _, by simp⟩
/-- An event as the document's. -/
theorem l_as (c0 c1 c2 c3 c4 : Int) (A : Option Addr) (n c : Nat) (S : ByteArray) (w : World) :
    Calls Try.prog 15 #[.agg #[.int .i64 c0, .int .i32 c1, .int .u8 c2, .int .u8 c3, .int .u8 c4, .slice A n c, .string S]] w fun e w' => e = .returned (.agg #[.int .i64 c0, .int .i32 c1, .int .u8 c2, .int .u8 c3, .int .u8 c4, .slice A n c, .string S]) ∧ Below w.heap.size w w' := by
  have hb : Below w.heap.size w ((w.alloc (.cells #[.int .i64 c0, .int .i32 c1, .int .u8 c2, .int .u8 c3, .int .u8 c4, .slice A n c, .string S] 40)).alloc (.cells #[.int .i64 c0, .int .i32 c1, .int .u8 c2, .int .u8 c3, .int .u8 c4, .slice A n c, .string S] 38)) := ((Below.refl _ _).alloc (Nat.le_refl _) _).alloc (by simp) _
  have HB := Lib.hid hb
  clear hb
  go_enter Try.func15, Try.ntmps15
  go_wp2
  exact bodyPost_ret (v := .agg #[.int .i64 c0, .int .i32 c1, .int .u8 c2, .int .u8 c3, .int .u8 c4, .slice A n c, .string S]) (by simp [results, Try.results15, go_sem]) rfl ⟨rfl, HB.out⟩
/-- An event's cells at a place, and its numbers' row. -/
def EvC (W : World) (b off : Nat) (e : Ev) : Prop := ∃ A c, W.cell? ⟨b, off, none⟩ = some (.int .i64 e.kind) ∧ W.cell? ⟨b, off + 1, none⟩ = some (.int .i32 e.point) ∧ W.cell? ⟨b, off + 2, none⟩ = some (.int .u8 e.priv) ∧ W.cell? ⟨b, off + 3, none⟩ = some (.int .u8 e.inter) ∧ W.cell? ⟨b, off + 4, none⟩ = some (.int .u8 e.fin) ∧
  W.cell? ⟨b, off + 5, none⟩ = some (.slice A e.params.length c) ∧ W.cell? ⟨b, off + 6, none⟩ = some (.string (strOfNums e.text)) ∧ e.params.length ≤ c ∧ RI .i64 W A e.params
/-- A row of events. -/
def EvR (W : World) (A : Option Addr) (es : List Ev) : Prop := 0 < es.length → ∃ b off, A = some ⟨b, off, none⟩ ∧ b < W.heap.size ∧ ∀ i, i < es.length → EvC W b (off + i * 7) (es.getD i evZ)
theorem EvC.below {W W' : World} {b off : Nat} {e : Ev} (h : EvC W b off e) (hl : b < W.heap.size) (hb : Below W.heap.size W W') : EvC W' b off e := by
  obtain ⟨A, c, k0, k1, k2, k3, k4, k5, k6, hc, hr⟩ := h
  exact ⟨A, c, (hb.cell (p := ⟨b, off, none⟩) hl).trans k0, (hb.cell (p := ⟨b, off + 1, none⟩) hl).trans k1, (hb.cell (p := ⟨b, off + 2, none⟩) hl).trans k2, (hb.cell (p := ⟨b, off + 3, none⟩) hl).trans k3, (hb.cell (p := ⟨b, off + 4, none⟩) hl).trans k4, (hb.cell (p := ⟨b, off + 5, none⟩) hl).trans k5, (hb.cell (p := ⟨b, off + 6, none⟩) hl).trans k6, hc, RI.below hr hb⟩
theorem EvR.below {W W' : World} {A : Option Addr} {es : List Ev} (h : EvR W A es) (hb : Below W.heap.size W W') : EvR W' A es := fun hp => by
  obtain ⟨b, off, e, hl, hc⟩ := h hp
  exact ⟨b, off, e, Nat.lt_of_lt_of_le hl hb.size, fun i hi => (hc i hi).below hl hb⟩
set_option maxRecDepth 100000 in
set_option maxHeartbeats 8000000 in
theorem all_true {w : World} {Aa Ab : Option Addr} {ca cb n : Nat} {es : List Ev} (hA : EvR w Aa es) (hB : EvR w Ab es) (hn : es.length = n) (hm : n ≤ 100000) (hps : ∀ i, i < n → (es.getD i evZ).params.length ≤ 100000) :
    Calls Try.prog 17 #[.slice Aa n ca, .slice Ab n cb] w fun e w' => e = .returned (.bool true) ∧ Below w.heap.size w w' := by
  have HA := Lib.hid hA
  have HB := Lib.hid hB
  have HN := Lib.hid (fun (_ : Unit) => hn)
  have HP := Lib.hid hps
  have zz : ((n : Int) != (n : Int)) = false := by simp
  have HZ := Lib.hid (Below.refl w.heap.size w)
  clear hA hB hn hps
  go_enter Try.func17, Try.ntmps17
  go_wp2
  go_loopw [5] (fun iv wr => ∃ i : Nat, iv = .int .i64 i ∧ i ≤ n ∧ Hid (Below w.heap.size w wr)) (fun iv _ => n - (intOf iv).toNat)
  case atStart => exact ⟨0, rfl, by omega, HZ⟩
  case round =>
    obtain ⟨i, rfl, hi, HBW⟩ := hrel
    clear HZ zz
    by_cases hin : i < n
    · have d1 : decide ((i : Int) < (n : Int)) = true := by simp; omega
      have d1' : decide (i < n) = true := by simp; omega
      have g3 : (0 : Int) ≤ (i : Int) := by omega
      have g4 : (i : Int) < (n : Int) := by omega
      have w1 : IntKind.i64.wrap ((i : Int) + 1) = (i : Int) + 1 := IntWalk.i64_in _ (by omega)
      obtain ⟨ba, oa, rfl, hla, hca⟩ := HA.out (by rw [HN.out ()]; omega)
      obtain ⟨bb, ob, rfl, hlb, hcb⟩ := HB.out (by rw [HN.out ()]; omega)
      have hpl := HP.out i hin
      have ha := (hca i (by rw [HN.out ()]; exact hin)).below hla HBW.out
      have hb := (hcb i (by rw [HN.out ()]; exact hin)).below hlb HBW.out
      have hla' := Nat.lt_of_lt_of_le hla HBW.out.size
      have hlb' := Nat.lt_of_lt_of_le hlb HBW.out.size
      obtain ⟨ev, hev⟩ : ∃ x, es.getD i evZ = x := ⟨_, rfl⟩
      rw [hev] at ha hb hpl
      clear hca hcb hev hla hlb HA HB
      obtain ⟨Ap, cp, a0, a1, a2, a3, a4, a5, a6, _, ra⟩ := ha
      obtain ⟨Bp, dp, b0, b1, b2, b3, b4, b5, b6, _, rb⟩ := hb
      obtain ⟨kind, point, priv, inter, fin, params, text⟩ := ev
      dsimp only at a0 a1 a2 a3 a4 a5 a6 b0 b1 b2 b3 b4 b5 b6 ra rb hpl
      obtain ⟨np, hnp⟩ : ∃ k, params.length = k := ⟨_, rfl⟩
      obtain ⟨S, hS⟩ : ∃ S, strOfNums text = S := ⟨_, rfl⟩
      rw [hnp] at a5 b5 hpl
      rw [hS] at a6 b6
      have HEQ := Lib.hid (fun (X : World) (hX : Below wr.heap.size wr X) => (eq_yes (w := X) (a0 := kind) (a1 := point) (a2 := priv) (a3 := inter) (a4 := fin) (ca := cp) (cb := dp) (sa := S) (sb := S) rfl (RI.below ra hX) (RI.below rb hX) hnp hnp hpl).mono fun e w' h => by rw [decide_eq_true rfl] at h; exact h)
      have HCA := Lib.hid (fun (X : World) (hX : Below wr.heap.size wr X) => And.intro ((hX.cell (p := ⟨ba, oa + i * 7, none⟩) hla').trans a0) (And.intro ((hX.cell (p := ⟨ba, oa + i * 7 + 1, none⟩) hla').trans a1) (And.intro ((hX.cell (p := ⟨ba, oa + i * 7 + 2, none⟩) hla').trans a2) (And.intro ((hX.cell (p := ⟨ba, oa + i * 7 + 3, none⟩) hla').trans a3) (And.intro ((hX.cell (p := ⟨ba, oa + i * 7 + 4, none⟩) hla').trans a4) (And.intro ((hX.cell (p := ⟨ba, oa + i * 7 + 5, none⟩) hla').trans a5) ((hX.cell (p := ⟨ba, oa + i * 7 + 6, none⟩) hla').trans a6)))))))
      have HCB := Lib.hid (fun (X : World) (hX : Below wr.heap.size wr X) => And.intro ((hX.cell (p := ⟨bb, ob + i * 7, none⟩) hlb').trans b0) (And.intro ((hX.cell (p := ⟨bb, ob + i * 7 + 1, none⟩) hlb').trans b1) (And.intro ((hX.cell (p := ⟨bb, ob + i * 7 + 2, none⟩) hlb').trans b2) (And.intro ((hX.cell (p := ⟨bb, ob + i * 7 + 3, none⟩) hlb').trans b3) (And.intro ((hX.cell (p := ⟨bb, ob + i * 7 + 4, none⟩) hlb').trans b4) (And.intro ((hX.cell (p := ⟨bb, ob + i * 7 + 5, none⟩) hlb').trans b5) ((hX.cell (p := ⟨bb, ob + i * 7 + 6, none⟩) hlb').trans b6)))))))
      have HAS := Lib.hid (fun (A : Option Addr) (c : Nat) (X : World) => l_as kind point priv inter fin A np c S X)
      clear a0 a1 a2 a3 a4 a5 a6 b0 b1 b2 b3 b4 b5 b6 ra rb hnp hS hpl hla' hlb' HN HP
      go_wp2
      have HDB := Lib.hid (Below.refl wr.heap.size wr).drew
      refine wp_region_held_drew (S := fun W => Below wr.drew.heap.size wr.drew W) (by kernel_rfl) (Below.refl _ _) (fun hHeld => ?_)
      refine wpAnyH_take (i := 0) (v := ?_) (by simp; rfl) (by kernel_rfl) (by kernel_rfl) (by kernel_rfl) (by exact fun _ _ _ h => h) (Or.inl ⟨by rfl, fun wx hSx => ?_⟩) hHeld ?_
      rotate_left
      · clear hSx; go_simp; (try with_reducible rfl)
      simp only [Act.put, List.setIfInBounds_toArray, List.set_cons_zero, List.set_cons_succ]
      refine wpAnyH_take (i := 1) (v := ?_) (by simp; rfl) (by kernel_rfl) (by kernel_rfl) (by kernel_rfl) (by exact fun _ _ _ h => h) (Or.inl ⟨by rfl, fun wx hSx => ?_⟩) hHeld ?_
      rotate_left
      · clear hSx; go_simp; (try with_reducible rfl)
      simp only [Act.put, List.setIfInBounds_toArray, List.set_cons_zero, List.set_cons_succ]
      refine wpAnyH_take (i := 2) (v := ?_) (by simp; rfl) (by kernel_rfl) (by kernel_rfl) (by kernel_rfl) (by exact fun _ _ _ h => h) (Or.inl ⟨by rfl, fun wx hSx => ?_⟩) hHeld ?_
      rotate_left
      · clear hSx; go_simp; (try with_reducible rfl)
      simp only [Act.put, List.setIfInBounds_toArray, List.set_cons_zero, List.set_cons_succ]
      refine wpAnyH_take (i := 3) (v := ?_) (by simp; rfl) (by kernel_rfl) (by kernel_rfl) (by kernel_rfl) (by exact fun _ _ _ h => h) (Or.inl ⟨by rfl, fun wx hSx => ?_⟩) hHeld ?_
      rotate_left
      · have hz := HCA.out wx (HDB.out.trans (hSx.mono HDB.out.size)); obtain ⟨s0, s1, s2, s3, s4, s5, s6⟩ := hz; clear hSx; go_simp; (try with_reducible rfl)
      simp only [Act.put, List.setIfInBounds_toArray, List.set_cons_zero, List.set_cons_succ]
      refine wpAnyH_take (i := 5) (v := ?_) (by simp; rfl) (by kernel_rfl) (by kernel_rfl) (by kernel_rfl) (by exact fun _ _ _ h => h) (Or.inl ⟨by rfl, fun wx hSx => ?_⟩) hHeld ?_
      rotate_left
      · clear hSx; go_simp; (try with_reducible rfl)
      simp only [Act.put, List.setIfInBounds_toArray, List.set_cons_zero, List.set_cons_succ]
      refine wpAnyH_take (i := 6) (v := ?_) (by simp; rfl) (by kernel_rfl) (by kernel_rfl) (by kernel_rfl) (by exact fun _ _ _ h => h) (Or.inl ⟨by rfl, fun wx hSx => ?_⟩) hHeld ?_
      rotate_left
      · clear hSx; go_simp; (try with_reducible rfl)
      simp only [Act.put, List.setIfInBounds_toArray, List.set_cons_zero, List.set_cons_succ]
      refine wpAnyH_take (i := 7) (v := ?_) (by simp; rfl) (by kernel_rfl) (by kernel_rfl) (by kernel_rfl) (by exact fun _ _ _ h => h) (Or.inl ⟨by rfl, fun wx hSx => ?_⟩) hHeld ?_
      rotate_left
      · clear hSx; go_simp; (try with_reducible rfl)
      simp only [Act.put, List.setIfInBounds_toArray, List.set_cons_zero, List.set_cons_succ]
      refine wpAnyH_take (i := 8) (v := ?_) (by simp; rfl) (by kernel_rfl) (by kernel_rfl) (by kernel_rfl) (by exact fun _ _ _ h => h) (Or.inl ⟨by rfl, fun wx hSx => ?_⟩) hHeld ?_
      rotate_left
      · have hz := HCB.out wx (HDB.out.trans (hSx.mono HDB.out.size)); obtain ⟨s0, s1, s2, s3, s4, s5, s6⟩ := hz; clear hSx; go_simp; (try with_reducible rfl)
      simp only [Act.put, List.setIfInBounds_toArray, List.set_cons_zero, List.set_cons_succ]
      refine wpAnyH_ready (rs := [4]) (by kernel_rfl) (by simp) ?_
      refine AllReadyH.cons (by simp; rfl) (fun K0 hK0 => ?_) AllReadyH.nil
      go_simp
      refine (HAS.out _ _ _).mono ?_
      rintro e v1 ⟨rfl, hx⟩
      have hbv1 : Below wr.drew.heap.size wr.drew v1 := hx
      have HDB2 := Lib.hid (HDB.out.trans (hbv1.mono HDB.out.size))
      clear HDB
      have HDB := HDB2
      clear HDB2
      clear hx
      refine hK0.out _ _ hbv1 (fun _ => ?_)
      clear hK0 K0 hHeld
      refine heldMono (S' := fun W => Below v1.heap.size v1 W) (fun _ h => hbv1.trans (h.mono hbv1.size)) _ _ _ _ ?_
      have hHeld := Below.refl v1.heap.size v1
      have HBv1 := Lib.hid hbv1
      clear hbv1
      refine wpAnyH_ready (rs := [9]) (by kernel_rfl) (by simp) ?_
      refine AllReadyH.cons (by simp; rfl) (fun K0 hK0 => ?_) AllReadyH.nil
      go_simp
      refine (HAS.out _ _ _).mono ?_
      rintro e v24 ⟨rfl, hx⟩
      have hbv24 : Below v1.heap.size v1 v24 := hx
      have HDB2 := Lib.hid (HDB.out.trans (hbv24.mono HDB.out.size))
      clear HDB
      have HDB := HDB2
      clear HDB2
      clear hx
      refine hK0.out _ _ hbv24 (fun _ => ?_)
      clear hK0 K0 hHeld
      refine heldMono (S' := fun W => Below v24.heap.size v24 W) (fun _ h => hbv24.trans (h.mono hbv24.size)) _ _ _ _ ?_
      have hHeld := Below.refl v24.heap.size v24
      have HBv24 := Lib.hid hbv24
      clear hbv24
      refine wpAnyH_ready (rs := [10]) (by kernel_rfl) (by simp) ?_
      refine AllReadyH.cons (by simp; rfl) (fun K0 hK0 => ?_) AllReadyH.nil
      go_simp
      refine (HEQ.out _ HDB.out).mono ?_
      rintro e v39 ⟨rfl, hx⟩
      have hbv39 : Below v24.heap.size v24 v39 := hx
      have HDB2 := Lib.hid (HDB.out.trans (hbv39.mono HDB.out.size))
      clear HDB
      have HDB := HDB2
      clear HDB2
      clear hx
      refine hK0.out _ _ hbv39 (fun _ => ?_)
      clear hK0 K0 hHeld
      refine heldMono (S' := fun W => Below v39.heap.size v39 W) (fun _ h => hbv39.trans (h.mono hbv39.size)) _ _ _ _ ?_
      have hHeld := Below.refl v39.heap.size v39
      have HBv39 := Lib.hid hbv39
      clear hbv39
      refine wpAnyH_take (i := 11) (v := ?_) (by simp; rfl) (by kernel_rfl) (by kernel_rfl) (by kernel_rfl) (by exact fun _ _ _ h => h) (Or.inl ⟨by rfl, fun wx hSx => ?_⟩) hHeld ?_
      rotate_left
      · clear hSx; go_simp; (try with_reducible rfl)
      simp only [Act.put, List.setIfInBounds_toArray, List.set_cons_zero, List.set_cons_succ]
      refine wpAnyH_done (by kernel_rfl) ?_ _
      have HBF := Lib.hid (HBW.out.trans (HDB.out.mono HBW.out.size))
      clear hHeld HDB HBW
      go_wp2
      go_roundw
      case rel => exact ⟨i + 1, by go_num, by omega, HBF⟩
      case measure => simp [intOf]; omega
    · have d1 : decide ((i : Int) < (n : Int)) = false := by simp; omega
      have d1' : decide (i < n) = false := by simp; omega
      go_wp2
      go_ret
      exact ⟨rfl, HBW.out⟩
end Go.Proofs.Ytfacnemgjdmlmaa
