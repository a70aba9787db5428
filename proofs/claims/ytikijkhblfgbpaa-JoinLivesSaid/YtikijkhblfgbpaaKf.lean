/-
  Proved here: raise of the document's own Table.
-/
import Derived.Test.YtikijkhblfgbpaaKe
namespace Go.Proofs.Ytikijkhblfgbpaa
open Go.RowKit Go.Maps Go.Sort

/-- All blocks stand as they did, but for the document's Tables and their rows of parts. -/
def StaysD (w w' : World) : Prop := ∀ (k : Nat) (o : Obj), w.heap[k]? = some o → (∀ c fr, o ≠ .cells c 43 fr) → (∀ c fr, o ≠ .cells c 36 fr) → w'.heap[k]? = some o
theorem StaysD.below {w w' : World} (hb : Below w.heap.size w w') : StaysD w w' := fun k _ hk _ _ => (hb.block k (Array.getElem?_eq_some_iff.1 hk).1).trans hk
theorem StaysD.trans {a b c : World} (h : StaysD a b) (h' : StaysD b c) : StaysD a c := fun k o hk h1 h2 => h' k o (h k o hk h1 h2) h1 h2
theorem StaysD.grown {w w' : World} {r : Nat} {c : Array Value} {ty : TypeId} {fr : Nat × Nat} (hg : w.grownBy w' (some r)) (ho : w.heap[r]? = some (.cells c ty fr)) (ht : ty = 43 ∨ ty = 36) : StaysD w w' := fun k o hk h1 h2 =>
  (hg.block k (Array.getElem?_eq_some_iff.1 hk).1 (fun e => by
    injection e with e
    subst e
    rw [ho] at hk
    injection hk with hk
    rcases ht with rfl | rfl
    · exact h1 _ _ hk.symm
    · exact h2 _ _ hk.symm)).trans hk
theorem TabAt.staysD {w w' : World} {base t : Nat} {T : TV} (h : TabAt w base t T) (hs : StaysD w w') : TabAt w' base t T := by
  obtain ⟨b, hb0, ht, hm⟩ := h.map
  have hty : ∀ {k : Nat} {c : Array Value} {ty : TypeId} {fr : Nat × Nat}, w.heap[k]? = some (.cells c ty fr) → ty ≠ 43 → ty ≠ 36 → w'.heap[k]? = some (.cells c ty fr) := fun hk h1 h2 =>
    hs _ _ hk (fun c fr e => by injection e with _ e2; exact h1 e2) (fun c fr e => by injection e with _ e2; exact h2 e2)
  refine ⟨h.le, ⟨b, hb0, hty ht (by decide) (by decide), ?_⟩, fun f hf => ?_, h.apart, h.fl0, h.fl1, h.few⟩
  · obtain ⟨es, clock, hh, Ft, hs', hD⟩ := hm
    exact ⟨es, clock, hs _ _ hh (fun c fr e => by cases e) (fun c fr e => by cases e), Ft, hs', hD⟩
  · obtain ⟨h1, ⟨C, hC, hP⟩, h2, h3, h4⟩ := h.frames f hf
    refine ⟨h1, ⟨C, hty hC (by decide) (by decide), hP.imp fun v d hv => ⟨hv.1, ?_⟩⟩, h2, h3, h4⟩
    rcases hv.2 with e | ⟨g, cap, cur, e, hb, hg, hr⟩
    · exact .inl e
    · exact .inr ⟨g, cap, cur, e, hb, hty hg (by decide) (by decide), hr⟩
theorem RL.grown {w w' : World} {base b0 r : Nat} {v : Value} {n : Nat} {L : List Prt} {c : Array Value} (h : RL w base b0 v n L) (hg : w.grownBy w' (some r)) (ho : w.heap[r]? = some (.cells c 43 (0, 0))) : RL w' base b0 v n L := by
  obtain ⟨hn, cs, h1, h2⟩ := h
  refine ⟨hn, cs, h1.kept hg ?_, h2.kept hg (fun g hgr => by injection hgr with hgr; subst hgr; exact ⟨_, _, _, ho, by decide⟩)⟩
  exact row_other h1 ho (fun cur e => by injection e with _ e2; exact absurd e2 (by decide))
theorem raise_snoc {L : List Prt} {fl : Int} {i : Nat} (hi : i < L.length) : raiseD fl (L.take (i + 1)) = raiseD fl (L.take i) ++ if fl ≤ (pAt L i).id then [pAt L i] else [] := by
  unfold raiseD
  rw [ptake_snoc hi, List.filter_append]
  congr 1
  rw [List.filter_cons]
  by_cases h : fl ≤ (pAt L i).id <;> simp [h]

/-- The same, its row of parts by name. -/
structure RTv (w : World) (base x : Nat) (fl : Int) (v : Value) (L : List Prt) : Prop where
  le : base ≤ x
  row : w.heap[x]? = some (.cells #[.int .u64 fl, v] 43 (0, 0))
  rl : RL w base base v L.length L
  few : L.length ≤ 200
  ok : ∀ q ∈ L, q.ok = true
theorem RTv.rt {w : World} {base x : Nat} {fl : Int} {v : Value} {L : List Prt} (h : RTv w base x fl v L) : RT w base x fl L := ⟨h.le, ⟨v, h.row, h.rl⟩, h.few, h.ok⟩
theorem RT.open {w : World} {base x : Nat} {fl : Int} {L : List Prt} (h : RT w base x fl L) : ∃ v, RTv w base x fl v L ∧ ∀ g, v.ownBlock = some g → g < w.heap.size := by
  obtain ⟨v, hr, hl⟩ := h.row
  refine ⟨v, ⟨h.le, hr, hl, h.few, h.ok⟩, fun g hg => ?_⟩
  obtain ⟨_, cs, ho, _⟩ := hl
  obtain ⟨c, t, f, hh, _⟩ := own_other ho (by decide) g hg
  exact (Array.getElem?_eq_some_iff.1 hh).1
theorem RTv.keep {w w' : World} {base x : Nat} {fl : Int} {v : Value} {L : List Prt} (h : RTv w base x fl v L) (hb : Below w.heap.size w w') : RTv w' base x fl v L :=
  ⟨h.le, (hb.block _ (Array.getElem?_eq_some_iff.1 h.row).1).trans h.row, h.rl.below hb, h.few, h.ok⟩
theorem RL.drews {w : World} {base b0 : Nat} {v : Value} {n : Nat} {L : List Prt} (h : RL w base b0 v n L) (m : Nat) : RL (w.drewN m) base b0 v n L := by
  obtain ⟨hn, cs, h1, h2⟩ := h
  exact ⟨hn, cs, h1, PO.imp (w := w) (w' := w.drewN m) (B := base) (B' := base) (fun _ _ h => h) h2⟩
theorem RTv.drews {w : World} {base x : Nat} {fl : Int} {v : Value} {L : List Prt} (h : RTv w base x fl v L) (m : Nat) : RTv (w.drewN m) base x fl v L := ⟨h.le, h.row, h.rl.drews m, h.few, h.ok⟩
theorem RT.drews {w : World} {base x : Nat} {fl : Int} {L : List Prt} (h : RT w base x fl L) (m : Nat) : RT (w.drewN m) base x fl L := by
  obtain ⟨v, hv, _⟩ := h.open
  exact (hv.drews m).rt
/-- Nothing that was there is changed but this block. -/
def OnlyX (x : Nat) (w w' : World) : Prop := ∀ (k : Nat) (o : Obj), w.heap[k]? = some o → k ≠ x → w'.heap[k]? = some o
theorem OnlyX.below {x : Nat} {w w' : World} (hb : Below w.heap.size w w') : OnlyX x w w' := fun k _ hk _ => (hb.block k (Array.getElem?_eq_some_iff.1 hk).1).trans hk
theorem OnlyX.trans {x : Nat} {a b c : World} (h : OnlyX x a b) (h' : OnlyX x b c) : OnlyX x a c := fun k o hk hn => h' k o (h k o hk hn) hn
theorem OnlyX.grown {x : Nat} {w w' : World} (hg : w.grownBy w' (some x)) : OnlyX x w w' := fun k _ hk hn => (hg.block k (Array.getElem?_eq_some_iff.1 hk).1 (fun e => by injection e with e; exact hn e)).trans hk
theorem OnlyX.stays {x : Nat} {w w' : World} (h : OnlyX x w w') {c : Array Value} {fr : Nat × Nat} (hx : w.heap[x]? = some (.cells c 43 fr)) : StaysD w w' := fun k o hk h1 _ => h k o hk (fun e => by
  subst e
  rw [hx] at hk
  injection hk with hk
  exact h1 _ _ hk.symm)
/-- The Table whose two cells are set. -/
theorem RT.put {w W : World} {base x : Nat} {fl : Int} {L : List Prt} (h : RT w base x fl L) (hb : Below w.heap.size w W) (hbw : base ≤ w.heap.size) {out : Value} {L' : List Prt} (ho : PartAt w base out L' W) (fl' : Int) (hfew : L'.length ≤ 200) (hok : ∀ q ∈ L', q.ok = true) :
    (RTv ((W.setCell ⟨x, 0, none⟩ (.int .u64 fl')).setCell ⟨x, 1, none⟩ out) base x fl' out L' ∧ ∀ g, out.ownBlock = some g → w.heap.size ≤ g) ∧ Below base w ((W.setCell ⟨x, 0, none⟩ (.int .u64 fl')).setCell ⟨x, 1, none⟩ out) ∧ OnlyX x w ((W.setCell ⟨x, 0, none⟩ (.int .u64 fl')).setCell ⟨x, 1, none⟩ out) := by
  obtain ⟨v, hr, _⟩ := (h.keep hb).row
  have g1 := cell_grown W x 0 (.int .u64 fl')
  have r1 := heap_setCell_same W x 0 _ _ (.int .u64 fl') hr
  have g2 := cell_grown (W.setCell ⟨x, 0, none⟩ (.int .u64 fl')) x 1 out
  have r2 := heap_setCell_same (W.setCell ⟨x, 0, none⟩ (.int .u64 fl')) x 1 _ _ out r1
  obtain ⟨e1, cs, e2, e3⟩ := ho.own
  have hRL : RL W base base out L'.length L' := ⟨e1, cs, own_mono e2 hbw, e3⟩
  refine ⟨⟨⟨h.le, by rw [r2]; simp, (hRL.grown g1 hr).grown g2 r1, hfew, hok⟩, fun g hg => ownBlock_le e2 g hg⟩, ?_, ?_⟩
  · have := hb.size
    exact ((hb.mono hbw).trans (below_grown g1 h.le (by omega))).trans (below_grown g2 h.le (by have := g1.size; omega))
  · exact ((OnlyX.below hb).trans (OnlyX.grown g1)).trans (OnlyX.grown g2)

set_option maxRecDepth 100000 in
set_option maxHeartbeats 2000000 in
theorem rraise_any {w : World} {base x : Nat} {fl : Int} {L : List Prt} (h : RT w base x fl L) (hbw : base ≤ w.heap.size) (fl' : Int) :
    Calls Try.prog 26 #[.pointer (some ⟨x, 0, none⟩), .int .u64 fl'] w fun e w' => e = .returned (.tuple #[]) ∧ (∃ v, RTv w' base x fl' v (raiseD fl' L) ∧ ∀ g, v.ownBlock = some g → w.heap.size ≤ g) ∧ Below base w w' ∧ OnlyX x w w' := by
  obtain ⟨hxl, _, hf0, hf1, A, c, hcx, hl⟩ := h.cells
  have hfew := h.few
  have HOK := Lib.hid h.ok
  have HH := Lib.hid h
  obtain ⟨n, hn⟩ : ∃ n, L.length = n := ⟨_, rfl⟩
  rw [hn] at hcx hl hfew
  have HN := Lib.hid hn
  have HL := Lib.hid hl
  have H0 := Lib.hid (show PartAt w base (.slice none 0 0) (raiseD fl' (L.take 0)) w from ⟨⟨rfl, [], World.ownsRow_nil _ _ _ _, trivial⟩, Below.refl _ _⟩)
  clear h hn hl
  go_enter Try.func26, Try.ntmps26
  go_wp2
  go_loopw [4, 5] (fun out iv wr => ∃ i : Nat, i ≤ n ∧ iv = .int .i64 i ∧ PartAt w base out (raiseD fl' (L.take i)) wr) (fun _ iv _ => n - (intOf iv).toNat)
  case atStart => exact ⟨0, by omega, rfl, H0.out⟩
  case round =>
    clear H0
    obtain ⟨i, hi, rfl, hQ⟩ := hrel
    have HQ := Lib.hid hQ
    clear hQ
    have ex := (HQ.out.below.cell (p := ⟨x, 1, none⟩) hxl).trans hcx
    have hxw : x < wr.heap.size := Nat.lt_of_lt_of_le hxl HQ.out.below.size
    clear hcx
    by_cases hin : i < n
    · obtain ⟨g, A', c', rfl, hg, e0, e1, e2, e3, hv⟩ := HL.out.at_ hin
      have k0 := (HQ.out.below.cell (p := ⟨g, i * 4, none⟩) hg).trans e0
      have k1 := (HQ.out.below.cell (p := ⟨g, i * 4 + 1, none⟩) hg).trans e1
      have k2 := (HQ.out.below.cell (p := ⟨g, i * 4 + 2, none⟩) hg).trans e2
      have k3 := (HQ.out.below.cell (p := ⟨g, i * 4 + 3, none⟩) hg).trans e3
      have hgw : g < wr.heap.size := Nat.lt_of_lt_of_le hg HQ.out.below.size
      have hsn := raise_snoc (L := L) (fl := fl') (i := i) (by rw [HN.out]; exact hin)
      have hvr := own_below hv HQ.out.below
      obtain ⟨q, hq⟩ : ∃ q, pAt L i = q := ⟨_, rfl⟩
      rw [hq] at k0 k1 k2 k3 hsn hvr
      clear hq e0 e1 e2 e3 hv
      have hi' : (i : Int) < (n : Int) := by omega
      obtain ⟨m, hm⟩ : ∃ m, q.d.length = m := ⟨_, rfl⟩
      rw [hm] at k3
      rw [hm] at hvr
      have HM := Lib.hid hm
      have HV := Lib.hid hvr
      have HS := Lib.hid hsn
      clear hm hvr hsn hf0 hf1
      by_cases q1 : fl' ≤ q.id
      · have HP := Lib.hid q1
        have b1 : decide (fl' ≤ q.id) = true := by simpa using q1
        have hll : (raiseD fl' (L.take i)).length ≤ 100000 := by
          have h2 := List.length_filter_le (fun p : Prt => decide (fl' ≤ p.id)) (L.take i)
          rw [List.length_take] at h2
          unfold raiseD
          omega
        obtain ⟨v', w', hrun, hPA⟩ := HQ.out.more hll q A' c' m (by rw [HM.out]; exact HV.out)
        have HR := Lib.hid hrun
        have HPA := Lib.hid hPA
        clear hrun hPA hll
        go_wp2_with (first | (at_builtin; refine wpList_app rfl (.tmp 25) (.tmp 33) _ rfl _ _ rfl rfl HR.out ?_))
        go_roundw
        case rel => exact ⟨i + 1, by omega, by go_num, by rw [HS.out, if_pos HP.out]; exact HPA.out⟩
        case measure => simp [intOf]; omega
      · have HP := Lib.hid q1
        have b1 : decide (fl' ≤ q.id) = false := by simpa using q1
        go_wp2
        go_roundw
        case rel => exact ⟨i + 1, by omega, by go_num, by rw [HS.out, if_neg HP.out, List.append_nil]; exact HQ.out⟩
        case measure => simp [intOf]; omega
    · obtain rfl : i = n := by omega
      have HE : Hid (∀ o : Value, PartAt w base o (raiseD fl' (L.take i)) wr → PartAt w base o (raiseD fl' L) wr) := Lib.hid (fun o h => by
        rwa [List.take_of_length_le (by rw [HN.out]; exact Nat.le_refl _)] at h)
      have hlen : (raiseD fl' L).length ≤ 200 := by
        have h2 := List.length_filter_le (fun p : Prt => decide (fl' ≤ p.id)) L
        rw [HN.out] at h2
        unfold raiseD
        omega
      have HPUT := Lib.hid (HH.out.put HQ.out.below hbw (HE.out _ HQ.out) fl' hlen (fun q hq => HOK.out q (List.mem_filter.1 hq).1))
      have z0 : wr.frozen? ⟨x, 0, none⟩ = false := by
        obtain ⟨_, _, h0, _⟩ := (HH.out.keep HQ.out.below).cells
        exact h0
      have z1 : (wr.setCell ⟨x, 0, none⟩ (.int .u64 fl')).frozen? ⟨x, 1, none⟩ = false := by
        obtain ⟨v, hr, _⟩ := (HH.out.keep HQ.out.below).row
        have r1 := heap_setCell_same wr x 0 _ _ (.int .u64 fl') hr
        simp [World.frozen?, r1]
      have c0 : wr.cell? ⟨x, 0, none⟩ = some (.int .u64 fl) := (HH.out.keep HQ.out.below).cells.2.1
      have c1 : (wr.setCell ⟨x, 0, none⟩ (.int .u64 fl')).cell? ⟨x, 1, none⟩ = some (.slice A i c) := by
        obtain ⟨v, hr, _⟩ := (HH.out.keep HQ.out.below).row
        have r1 := heap_setCell_same wr x 0 _ _ (.int .u64 fl') hr
        have e1 : wr.cell? ⟨x, 1, none⟩ = some v := by simp [World.cell?, hr]
        rw [ex] at e1
        injection e1 with e1
        simp [World.cell?, r1, ← e1]
      clear hlen hf0 hf1
      obtain ⟨_, cso, hso, _⟩ := HQ.out.own
      obtain ⟨Ao, co, rfl, _⟩ := own_slice hso
      clear hso
      go_wp2
      go_end0
      exact ⟨rfl, ⟨_, HPUT.out.1⟩, HPUT.out.2.1, HPUT.out.2.2⟩
end Go.Proofs.Ytikijkhblfgbpaa
