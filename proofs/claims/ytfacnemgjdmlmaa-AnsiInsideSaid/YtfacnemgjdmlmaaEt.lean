/-
  Proved here: of AnsiFeeds: one point of a slice; each parser fed with it.
-/
import Derived.Test.YtfacnemgjdmlmaaEs
set_option linter.unusedSimpArgs false
set_option linter.unusedVariables false
namespace Go.Proofs.Ytfacnemgjdmlmaa
open Go.RowKit
theorem slice_one32 {b off n cap i : Nat} (hi : i < n) (hc : n ≤ cap) (W : World) :
    (Instr.slice 22 (.slice (some ⟨b, off, none⟩) n cap) (some (.int .i64 (i : Int))) (some (.int .i64 ((i : Int) + 1))) none).run Try.prog W = .ok (.slice (some ⟨b, off + i, none⟩) 1 (cap - i)) W := by
  have h1 : ((i : Int) + 1) ≤ (cap : Int) := by omega
  have h2 : (0 : Int) ≤ (i : Int) + 1 := by omega
  have h3 : (i : Int) ≤ ((i + 1 : Nat) : Int) := by omega
  have h6 := run_sliceBound (P := Try.prog) W .i64 (i : Int) (i + 1) .sliceB (by omega) h3
  have h4 : ¬ cap = i := by omega
  have h5 : ((i : Int) + 1).toNat = i + 1 := by omega
  have ha : (⟨b, off, none⟩ : Addr).add i = ⟨b, off + i, none⟩ := by unfold Addr.add; split <;> simp_all
  simp [Instr.slice, run_underlying Try.underlying22, Instr.sliceBounds, run_sliceBound, h1, h2, h4, h5]
  rw [h6]
  simp [h4, ha]
/-- The program's parser is fed with one point. -/
theorem Two.feed {w0 : World} {vp vt v : Value} {s : PP} {L : List Int} {W : World} (h : Two w0 vp vt v s L W) (hG : PGood s) {b o c : Nat} {r : Int} (hR : RI .i32 w0 (some ⟨b, o, none⟩) [r]) (hc : 1 ≤ c) :
    Calls Try.prog 10 #[.pointer (some ⟨w0.heap.size, 0, none⟩), .slice (some ⟨b, o, none⟩) 1 c] W fun x w' => ∃ vp' vt' A es c', x = .returned (.tuple #[.slice A es.length c', .int .i64 0]) ∧ Two w0 vp' vt' v (feedP s r).1 L w' ∧ EvO (w0.heap.size + 2) w' (.slice A es.length c') es ∧ es.map Prod.fst = (feedP s r).2.toList := by
  obtain ⟨b', o', e, hlt, _⟩ := hR (by simp)
  injection e with e
  injection e with e1 _ _
  subst e1
  refine (p_feed h.q hG (RI.below hR h.below) (n := 1) rfl (by omega) hc (fun _ b2 o2 q2 e => ?_)).mono ?_
  · injection e with e
    injection e with e1 _ _
    subst e1
    refine ⟨by omega, fun e => ?_, fun e => ?_⟩
    · have := ownBlock_le h.q.op _ e.symm; omega
    · have := ownBlock_le h.q.ot _ e.symm; omega
  · rintro x w' ⟨vp', vt', u, es, rfl, hF, hM⟩
    obtain ⟨A, c', rfl, _⟩ := own_slice hF.own
    refine ⟨vp', vt', A, es, c', rfl, ?_, hF.evo h.q.big, ?_⟩
    · have := h.fed hF
      simpa [feedsP] using this
    · rw [hM]
      simp [feedsP]
/-- The document's parser is fed with it. -/
theorem Two.rfeed {w0 : World} {vp vt v u : Value} {s : PP} {L : List Int} {W : World} {es : List (Ev × Value)} (h : Two w0 vp vt v s L W) (hn : L.length < 5000) (hK : KeepOk L) (he : EvO (w0.heap.size + 2) W u es) (r : Int) :
    Calls Try.prog 11 #[.pointer (some ⟨w0.heap.size + 1, 0, none⟩), .int .i32 r] W fun x w' => ∃ v' A c', x = .returned (.slice A (feedS L r).2.toList.length c') ∧ Two w0 vp vt v' s (feedS L r).1 w' ∧ EvO (w0.heap.size + 2) w' u es ∧ EvQ (w0.heap.size + 2) w' A (feedS L r).2.toList := by
  refine (rfeed_any h.x hn hK r).mono ?_
  rintro x w' ⟨v', out, rfl, hx, hf, hs, ho⟩
  obtain ⟨A, c', rfl, hq⟩ := ho.evq h.x.big
  exact ⟨v', A, c', rfl, h.rfed hx hf hs, h.evo hf he, hq⟩
end Go.Proofs.Ytfacnemgjdmlmaa
