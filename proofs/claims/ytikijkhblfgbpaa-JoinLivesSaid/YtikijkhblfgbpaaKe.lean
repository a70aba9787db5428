/-
  Kept here: the document's own Table (package longlineref10) in memory. Proved: New, parts, Missing.
-/
import Derived.Test.YtikijkhblfgbpaaKd
import Derived.BigQuiet
namespace Go.Proofs.Ytikijkhblfgbpaa
open Go.RowKit Go.Maps Go.Sort

theorem PO.at_ {w : World} {B : Nat} : ∀ {cs : List Value} {ps : List Prt}, PO w B cs ps → ∀ i, i < ps.length →
    cs[i * 4]? = some (.int .u64 (pAt ps i).id) ∧ cs[i * 4 + 1]? = some (.int .i64 (pAt ps i).ix) ∧ cs[i * 4 + 2]? = some (.int .i64 (pAt ps i).ct) ∧ ∃ v, cs[i * 4 + 3]? = some v ∧ w.ownsRow B 5 1 v (pAt ps i).d.length (B8 (pAt ps i).d)
  | [], [], _, _, hi => absurd hi (by simp)
  | [], _ :: _, h, _, _ => h.elim
  | [_], [], h, _, _ => h.elim
  | [_], _ :: _, h, _, _ => h.elim
  | [_, _], [], h, _, _ => h.elim
  | [_, _], _ :: _, h, _, _ => h.elim
  | [_, _, _], [], h, _, _ => h.elim
  | [_, _, _], _ :: _, h, _, _ => h.elim
  | _ :: _ :: _ :: _ :: _, [], h, _, _ => h.elim
  | a :: b :: c :: v :: r, p :: ps, ⟨h1, h2, h3, h4, _⟩, 0, _ => ⟨by simp [pAt, h1], by simp [pAt, h2], by simp [pAt, h3], v, by simp, by simpa [pAt] using h4⟩
  | a :: b :: c :: v :: r, p :: ps, ⟨_, _, _, _, h5⟩, i + 1, hi => by
    have := PO.at_ h5 i (by simpa using hi)
    have e1 : (i + 1) * 4 = i * 4 + 1 + 1 + 1 + 1 := by omega
    simp only [e1, List.getElem?_cons_succ]
    simpa [pAt] using this

/-- A row of parts of the call's own, their bytes in rows of the call's own. -/
def RL (w : World) (base b0 : Nat) (v : Value) (n : Nat) (L : List Prt) : Prop := L.length = n ∧ ∃ cs, w.ownsRow b0 36 4 v n cs ∧ PO w base cs L
structure RT (w : World) (base x : Nat) (fl : Int) (L : List Prt) : Prop where
  le : base ≤ x
  row : ∃ v, w.heap[x]? = some (.cells #[.int .u64 fl, v] 43 (0, 0)) ∧ RL w base base v L.length L
  few : L.length ≤ 200
  ok : ∀ q ∈ L, q.ok = true
theorem RL.below {w w' : World} {base b0 : Nat} {v : Value} {n : Nat} {L : List Prt} (h : RL w base b0 v n L) (hb : Below w.heap.size w w') : RL w' base b0 v n L := by
  obtain ⟨hn, cs, h1, h2⟩ := h
  exact ⟨hn, cs, own_below h1 hb, h2.below hb⟩
theorem RT.keep {w w' : World} {base x : Nat} {fl : Int} {L : List Prt} (h : RT w base x fl L) (hb : Below w.heap.size w w') : RT w' base x fl L := by
  obtain ⟨h1, ⟨v, hr, hl⟩, h3, h4⟩ := h
  exact ⟨h1, ⟨v, (hb.block _ (Array.getElem?_eq_some_iff.1 hr).1).trans hr, hl.below hb⟩, h3, h4⟩
/-- What a part of it reads as. -/
theorem RL.at_ {w : World} {base b0 : Nat} {A : Option Addr} {n c : Nat} {L : List Prt} (h : RL w base b0 (.slice A n c) n L) {i : Nat} (hi : i < n) : ∃ g A' c', A = some ⟨g, 0, none⟩ ∧ g < w.heap.size ∧
    w.cell? ⟨g, i * 4, none⟩ = some (.int .u64 (pAt L i).id) ∧ w.cell? ⟨g, i * 4 + 1, none⟩ = some (.int .i64 (pAt L i).ix) ∧ w.cell? ⟨g, i * 4 + 2, none⟩ = some (.int .i64 (pAt L i).ct) ∧ w.cell? ⟨g, i * 4 + 3, none⟩ = some (.slice A' (pAt L i).d.length c') ∧
    w.ownsRow base 5 1 (.slice A' (pAt L i).d.length c') (pAt L i).d.length (B8 (pAt L i).d) := by
  obtain ⟨hn, cs, h1, h2⟩ := h
  obtain ⟨g, c', hv, _, hlt⟩ := h1.form (by omega)
  injection hv with hA _ _
  subst hA
  obtain ⟨a0, a1, a2, v, a3, hv⟩ := h2.at_ i (by omega)
  obtain ⟨A', c', rfl, _⟩ := own_slice hv
  exact ⟨g, A', c', rfl, hlt, (h1.cellAt (i * 4) (by omega)).trans a0, (h1.cellAt (i * 4 + 1) (by omega)).trans a1, (h1.cellAt (i * 4 + 2) (by omega)).trans a2, (h1.cellAt (i * 4 + 3) (by omega)).trans a3, hv⟩
theorem RT.cells {w : World} {base x : Nat} {fl : Int} {L : List Prt} (h : RT w base x fl L) : x < w.heap.size ∧ w.cell? ⟨x, 0, none⟩ = some (.int .u64 fl) ∧ w.frozen? ⟨x, 0, none⟩ = false ∧ w.frozen? ⟨x, 1, none⟩ = false ∧ ∃ A c, w.cell? ⟨x, 1, none⟩ = some (.slice A L.length c) ∧ RL w base base (.slice A L.length c) L.length L := by
  obtain ⟨v, hr, hl⟩ := h.row
  obtain ⟨A, c, rfl, _⟩ := own_slice hl.2.choose_spec.1
  exact ⟨(Array.getElem?_eq_some_iff.1 hr).1, by simp [World.cell?, hr], by simp [World.frozen?, hr], by simp [World.frozen?, hr], A, c, by simp [World.cell?, hr], hl⟩

theorem rnew_any (w : World) (base : Nat) (hb : base ≤ w.heap.size) : Calls Try.prog 7 #[] w fun e w' => ∃ x, e = .returned (.pointer (some ⟨x, 0, none⟩)) ∧ RT w' base x 1 [] ∧ Below w.heap.size w w' := by
  have hR : RT (w.alloc (.cells #[.int .u64 1, .slice none 0 0] 43)) base w.heap.size 1 [] := ⟨hb, ⟨_, heap_alloc_new _ _, rfl, [], World.ownsRow_nil _ _ _ _, trivial⟩, by simp, fun q hq => absurd hq (by simp)⟩
  have HR := Lib.hid hR
  clear hR
  go_enter Try.func7, Try.ntmps7
  go_wp2
  go_ret
  exact ⟨_, rfl, HR.out, (Below.refl _ w).alloc (Nat.le_refl _) _⟩

/-- The rows of a call of parts. -/
structure PartAt (w : World) (base : Nat) (out : Value) (L : List Prt) (W : World) : Prop where
  own : RL W base w.heap.size out L.length L
  below : Below w.heap.size w W
theorem isPart_snoc {L : List Prt} {id : Int} {k i : Nat} (hi : i < L.length) : (L.take (i + 1)).filter (isPart id k) = (L.take i).filter (isPart id k) ++ if isPart id k (pAt L i) then [pAt L i] else [] := by
  rw [ptake_snoc hi, List.filter_append]
  congr 1
  rw [List.filter_cons]
  split <;> rfl
theorem partsN_le (L : List Prt) (id : Int) : ∀ k, (partsN L id k).length ≤ k * L.length
  | 0 => by simp [partsN]
  | k + 1 => by
    have := partsN_le L id k
    have h2 := List.length_filter_le (isPart id k) L
    unfold partsN
    rw [List.length_append, Nat.succ_mul]
    omega
theorem PartAt.more {w : World} {base : Nat} {out : Value} {L : List Prt} {wr : World} (h : PartAt w base out L wr) (hn : L.length ≤ 100000) (p : Prt) (A' : Option Addr) (c' m : Nat) (hv : wr.ownsRow base 5 1 (.slice A' m c') p.d.length (B8 p.d)) :
    ∃ v' w', (Builtin.append_ #[41, 41] 41 #[out, .slice (some ⟨wr.heap.size, 0, none⟩) 1 1]).run Try.prog (wr.alloc (.cells #[.int .u64 p.id, .int .i64 p.ix, .int .i64 p.ct, .slice A' m c'] 36)) = .ok v' w' ∧ PartAt w base v' (L ++ [p]) w' := by
  obtain ⟨⟨_, cs, hown, hPO⟩, hb⟩ := h
  have ha : Below wr.heap.size wr (wr.alloc (.cells #[.int .u64 p.id, .int .i64 p.ix, .int .i64 p.ct, .slice A' m c'] 36)) := (Below.refl _ _).alloc (Nat.le_refl _) _
  have hrow1 := own_below hown ha
  obtain ⟨v5, w5, hrun5, hown5, hgr5, _⟩ := app_rpart (fb := wr.heap.size) hrow1 (heap_alloc_new _ _) hn (by have := hb.size; simp; omega)
  have hty : ∀ g, out.ownBlock = some g → ∃ c t f, (wr.alloc (.cells #[.int .u64 p.id, .int .i64 p.ix, .int .i64 p.ct, .slice A' m c'] 36)).heap[g]? = some (.cells c t f) ∧ t ≠ 5 := own_other hrow1 (by decide)
  refine ⟨v5, w5, hrun5, ⟨by rw [List.length_append], _, by rw [List.length_append]; exact hown5, ?_⟩, (hb.alloc hb.size _).grown hgr5 (by have := hb.size; simp; omega) (ownBlock_le hown)⟩
  refine PO.snoc (p := p) (own_u8_kept (own_below ?_ ha) hgr5 hty) ((hPO.below ha).kept hgr5 hty)
  exact hv

set_option maxRecDepth 100000 in
set_option maxHeartbeats 2000000 in
theorem rparts_any {w : World} {base x : Nat} {fl : Int} {L : List Prt} (h : RT w base x fl L) (id : Int) :
    Calls Try.prog 25 #[.pointer (some ⟨x, 0, none⟩), .int .u64 id] w fun e w' => ∃ v, e = .returned v ∧ PartAt w base v (partsD L id) w' := by
  obtain ⟨hxl, _, _, _, A, c, hcx, hl⟩ := h.cells
  have hfew := h.few
  obtain ⟨n, hn⟩ : ∃ n, L.length = n := ⟨_, rfl⟩
  rw [hn] at hcx hl hfew
  have HN := Lib.hid hn
  have HL := Lib.hid hl
  have H0 := Lib.hid (show PartAt w base (.slice none 0 0) (partsN L id 0) w from ⟨⟨rfl, [], World.ownsRow_nil _ _ _ _, trivial⟩, Below.refl _ _⟩)
  clear h hn hl
  go_enter Try.func25, Try.ntmps25
  go_wp2
  go_loopw [5, 6] (fun out kv wr => ∃ k : Nat, k ≤ 64 ∧ kv = .int .i64 k ∧ PartAt w base out (partsN L id k) wr) (fun _ kv _ => 64 - (intOf kv).toNat)
  case atStart => exact ⟨0, by omega, rfl, H0.out⟩
  case round =>
    clear H0
    obtain ⟨k, hk, rfl, hP⟩ := hrel
    have HP := Lib.hid hP
    clear hP
    by_cases hlt : k < 64
    · have hkl : (partsN L id k).length ≤ 12800 := by
        have h1 := partsN_le L id k
        have h2 : k * L.length ≤ 64 * 200 := Nat.mul_le_mul (by omega) (by rw [HN.out]; exact hfew)
        omega
      have hlt' : (k : Int) < 64 := by omega
      go_wp2
      obtain ⟨wo, rfl⟩ : ∃ wo : World, wo = wr := ⟨_, rfl⟩
      go_loopw [5, 7] (fun out iv wr => ∃ i : Nat, i ≤ n ∧ iv = .int .i64 i ∧ PartAt w base out (partsN L id k ++ (L.take i).filter (isPart id k)) wr) (fun _ iv _ => n - (intOf iv).toNat)
      case atStart => exact ⟨0, by omega, rfl, by simpa using HP.out⟩
      case round =>
        clear HP
        obtain ⟨i, hi, rfl, hQ⟩ := hrel
        have HQ := Lib.hid hQ
        clear hQ
        have ex := (HQ.out.below.cell (p := ⟨x, 1, none⟩) hxl).trans hcx
        clear hcx
        by_cases hin : i < n
        · obtain ⟨g, A', c', rfl, hg, e0, e1, e2, e3, hv⟩ := HL.out.at_ hin
          have f0 := (HQ.out.below.cell (p := ⟨g, i * 4, none⟩) hg).trans e0
          have f1 := (HQ.out.below.cell (p := ⟨g, i * 4 + 1, none⟩) hg).trans e1
          have f2 := (HQ.out.below.cell (p := ⟨g, i * 4 + 2, none⟩) hg).trans e2
          have f3 := (HQ.out.below.cell (p := ⟨g, i * 4 + 3, none⟩) hg).trans e3
          have hgw : g < wr.heap.size := Nat.lt_of_lt_of_le hg HQ.out.below.size
          have hsn := isPart_snoc (L := L) (id := id) (k := k) (i := i) (by rw [HN.out]; exact hin)
          have hvr := own_below hv HQ.out.below
          obtain ⟨q, hq⟩ : ∃ q, pAt L i = q := ⟨_, rfl⟩
          rw [hq] at f0 f1 f2 f3 hsn hvr
          clear hq e0 e1 e2 e3 hv
          have hi' : (i : Int) < (n : Int) := by omega
          obtain ⟨m, hm⟩ : ∃ m, q.d.length = m := ⟨_, rfl⟩
          rw [hm] at f3
          rw [hm] at hvr
          have HM := Lib.hid hm
          have HV := Lib.hid hvr
          have HS := Lib.hid hsn
          clear hm hvr hsn
          by_cases q1 : q.id = id
          · have b1 : (q.id == id) = true := by simpa using q1
            by_cases q2 : q.ix = (k : Int)
            · have b2 : (q.ix == (k : Int)) = true := by simpa using q2
              have HPT : Hid (isPart id k q = true) := Lib.hid (by simp [isPart, q1, q2])
              have hll : (partsN L id k ++ (L.take i).filter (isPart id k)).length ≤ 100000 := by
                have h2 := List.length_filter_le (isPart id k) (L.take i)
                rw [List.length_append]
                rw [List.length_take] at h2
                omega
              obtain ⟨v', w', hrun, hPA⟩ := HQ.out.more hll q A' c' m (by rw [HM.out]; exact HV.out)
              have HR := Lib.hid hrun
              have HPA := Lib.hid hPA
              clear q1 q2 hrun hPA hll
              go_wp2_with (first | (at_builtin; refine wpList_app rfl (.tmp 43) (.tmp 51) _ rfl _ _ rfl rfl HR.out ?_))
              go_roundw
              case rel => exact ⟨i + 1, by omega, by go_num, by rw [HS.out, if_pos HPT.out, ← List.append_assoc]; exact HPA.out⟩
              case measure => simp [intOf]; omega
            · have b2 : (q.ix == (k : Int)) = false := by simpa using q2
              have HPT : Hid (isPart id k q = false) := Lib.hid (by simp [isPart, q2])
              clear q1 q2
              go_wp2
              go_roundw
              case rel => exact ⟨i + 1, by omega, by go_num, by rw [HS.out, HPT.out]; simpa using HQ.out⟩
              case measure => simp [intOf]; omega
          · have b1 : (q.id == id) = false := by simpa using q1
            have HPT : Hid (isPart id k q = false) := Lib.hid (by simp [isPart, q1])
            clear q1
            go_wp2
            go_roundw
            case rel => exact ⟨i + 1, by omega, by go_num, by rw [HS.out, HPT.out]; simpa using HQ.out⟩
            case measure => simp [intOf]; omega
        · obtain rfl : i = n := by omega
          have HQ2 : Hid (∀ o : Value, PartAt w base o (partsN L id k ++ (L.take i).filter (isPart id k)) wr → PartAt w base o (partsN L id (k + 1)) wr) := Lib.hid (fun o h => by
            rw [List.take_of_length_le (by rw [HN.out]; exact Nat.le_refl _)] at h
            exact h)
          go_wp2
          go_roundw
          case rel => exact ⟨k + 1, by omega, by go_num, HQ2.out _ HQ.out⟩
          case measure => simp [intOf]; omega
    · obtain rfl : k = 64 := by omega
      go_wp2
      go_ret
      exact ⟨_, rfl, HP.out⟩

/-- A row of parts reads as parts. -/
theorem PartAt.reads {w : World} {base : Nat} {out : Value} {L : List Prt} {W : World} (h : PartAt w base out L W) : ∃ A c, out = .slice A L.length c ∧ PS W W.heap.size A L ∧ L.length ≤ c ∧ c ≤ maxLen ∧ (A = none → c = 0) := by
  obtain ⟨⟨_, cs, hown, hPO⟩, hb⟩ := h
  obtain ⟨A, c, rfl, h1, h2, h3⟩ := own_slice hown
  exact ⟨A, c, rfl, PS.of_rows rfl hown hPO.toPC (Nat.le_refl _), h1, h2, h3⟩
theorem partsN_mem {L : List Prt} {id : Int} : ∀ {k : Nat} {q : Prt}, q ∈ partsN L id k → q ∈ L
  | 0, q, h => by simp [partsN] at h
  | k + 1, q, h => by
    unfold partsN at h
    rcases List.mem_append.1 h with h | h
    · exact partsN_mem h
    · exact (List.mem_filter.1 h).1

set_option maxHeartbeats 1000000 in
theorem rmissing_any {w : World} {base x : Nat} {fl : Int} {L : List Prt} (h : RT w base x fl L) (id : Int) :
    Calls Try.prog 16 #[.pointer (some ⟨x, 0, none⟩), .int .u64 id] w fun e w' => e = .returned (.int .i64 (missD L id)) ∧ Below w.heap.size w w' := by
  have HP := Lib.hid (rparts_any h id)
  have HOK := Lib.hid h.ok
  have hln := partsN_le L id 64
  have hfew := h.few
  have hl2 : (partsD L id).length ≤ 12800 := by unfold partsD; omega
  have hmem : ∀ q ∈ partsD L id, q ∈ L := fun q hq => partsN_mem hq
  have HD := Lib.hid (show missD L id = if (partsD L id).length = 0 then 0 else (pAt (partsD L id) 0).ct - ((partsD L id).length : Nat) from rfl)
  obtain ⟨l, hl⟩ : ∃ l, partsD L id = l := ⟨_, rfl⟩
  rw [hl] at HP HD hl2 hmem
  have HMEM := Lib.hid hmem
  clear hl h hln hmem
  obtain ⟨n, hn⟩ : ∃ n, l.length = n := ⟨_, rfl⟩
  rw [hn] at hl2
  have HN := Lib.hid hn
  clear hn
  go_enter Try.func16, Try.ntmps16
  go_wp2_with fail
  refine HP.out.mono ?_
  rintro e w2 ⟨v, rfl, hPA⟩
  obtain ⟨A, c, rfl, hPS, _⟩ := hPA.reads
  have HB := Lib.hid hPA.below
  rw [HN.out]
  rcases Nat.eq_zero_or_pos n with hz | hz
  · subst hz
    clear hPA hPS
    go_wp2
    go_ret
    exact ⟨by rw [HD.out, if_pos HN.out]; rfl, HB.out⟩
  · obtain ⟨b, off, rfl, hb, hc⟩ := hPS (by rw [HN.out]; exact hz)
    obtain ⟨_, _, p2, _⟩ := hc 0 (by rw [HN.out]; exact hz)
    have p2' : w2.cell? ⟨b, off + 2, none⟩ = some (.int .i64 (pAt l 0).ct) := p2
    have hok : (pAt l 0).ok = true := HOK.out _ (HMEM.out _ (by
      have h0 : 0 < l.length := by rw [HN.out]; exact hz
      have : pAt l 0 = l[0] := by simp [pAt, List.getD, h0]
      rw [this]; exact List.getElem_mem h0))
    have hct := ok_ct hok
    have HD2 := Lib.hid (show missD L id = (pAt l 0).ct - (n : Nat) by rw [HD.out, if_neg (by rw [HN.out]; omega), HN.out])
    obtain ⟨ct, hcte⟩ : ∃ ct, (pAt l 0).ct = ct := ⟨_, rfl⟩
    rw [hcte] at p2' hct HD2
    have hwr : IntKind.i64.wrap (ct - (n : Int)) = ct - (n : Int) := IntWalk.i64_in _ (by omega)
    have hz' : ((n : Int) == 0) = false := by simp; omega
    have hn0 : (0 : Int) < (n : Int) := by omega
    clear hPA hPS hc p2 hok hcte
    go_wp2
    go_ret
    exact ⟨by rw [HD2.out]; rfl, HB.out⟩
end Go.Proofs.Ytikijkhblfgbpaa
