/-
  Proved here: of the document's grids: Resize.
-/
import Derived.Test.YtahmnipcdkcpiaaHf
import Derived.Test.YtahmnipcdkcpiaaGz
set_option linter.unusedSimpArgs false
set_option linter.unusedVariables false
namespace Go.Proofs.Ytahmnipcdkcpiaa
open Go.RowKit
theorem set_mid (A M : List Ce) (i : Nat) (x : Ce) (hA : A.length = i) (hi : i < M.length) : (A ++ M.drop i).set i x = A ++ [x] ++ M.drop (i + 1) := by
  rw [List.set_append, if_neg (by omega), hA, Nat.sub_self]
  rw [show M.drop i = M[i] :: M.drop (i + 1) from List.drop_eq_getElem_cons hi]
  simp only [List.set_cons_zero, List.append_assoc, List.singleton_append]
theorem set_twice (A : List Ce) (i : Nat) (x y : Ce) : (A.set i x).set i y = A.set i y := by simp
/-- A grid being resized. -/
structure Rz (w : World) (R C : Nat) (S : Value) (c : Ce) (g3 R2 C2 b2 n2 cap2 : Nat) (M : List Ce) (W : World) : Prop where
  bx : Bx w R C S c W
  t : W.heap[g3]? = some (.cells #[.int .i64 R2, .int .i64 C2, .slice (some ⟨b2, 0, none⟩) n2 cap2] 29 (0, 0))
  row : RowY W b2 cap2 M
  l1 : w.heap.size + 3 ≤ g3
  l2 : w.heap.size + 3 ≤ b2
  ne : g3 ≠ b2
section
variable {w : World} {R C : Nat} {S : Value} {c : Ce} {g3 R2 C2 b2 n2 cap2 : Nat} {M : List Ce} {W : World}
theorem Rz.next (H : Rz w R C S c g3 R2 C2 b2 n2 cap2 M W) {X : World} (hb : Below W.heap.size W X) : Rz w R C S c g3 R2 C2 b2 n2 cap2 M X :=
  ⟨H.bx.next hb, (hb.block _ (lt_of_block H.t)).trans H.t, H.row.below hb, H.l1, H.l2, H.ne⟩
theorem Rz.put (H : Rz w R C S c g3 R2 C2 b2 n2 cap2 M W) {X : World} {M' : List Ce} (hr : RowY X b2 cap2 M') (hg : W.grownBy X (some b2)) : Rz w R C S c g3 R2 C2 b2 n2 cap2 M' X :=
  ⟨H.bx.grown hg H.l2, (hg.block _ (lt_of_block H.t) (fun e => H.ne (by injection e))).trans H.t, hr, H.l1, H.l2, H.ne⟩
theorem Rz.three (H : Rz w R C S c g3 R2 C2 b2 n2 cap2 M W) : W.cell? ⟨g3, 0, none⟩ = some (.int .i64 R2) ∧ W.cell? ⟨g3, 1, none⟩ = some (.int .i64 C2) ∧ W.cell? ⟨g3, 2, none⟩ = some (.slice (some ⟨b2, 0, none⟩) n2 cap2) := by
  refine ⟨?_, ?_, ?_⟩ <;> (unfold World.cell?; simp only [H.t]; rfl)
end
theorem step_storeY {ops : Array Oper} {o : Oper} {a : Act} {W : World} {K : Act → World → Prop} {Q : Exit → Act → World → Prop} {E : Prop} (hgd : o.guard = none) (x y : Operand) (ho : o.op = .store 49 x y)
    {b cap : Nat} {L : List Ce} (h : RowY W b cap L) {k : Nat} (hk : k < L.length) (hx : a.eval x = .pointer (some ⟨b, k * 11, none⟩)) {c : Ce} (hy : a.eval y = yV c)
    (hK : ∀ V, RowY V b cap (L.set k c) → W.grownBy V (some b) → K (a.put o.dst undef) V) : if Region.wanted o (yielded ops a.tmps) = true then Oper.wp Try.prog o a W K Q else E := by
  have hw : Region.wanted o (yielded ops a.tmps) = true := by simp [Region.wanted, hgd]
  rw [if_pos hw]
  obtain ⟨V, h1, h2, h3⟩ := run_storeY h hk c
  unfold Oper.wp execOp
  simp only [ho, hx, hy, Instr.storeAt, Instr.sureAddr, Sem.run_bind, Sem.run_pure, Result.andThen_ok, h1]
  exact hK V h2 h3
set_option maxRecDepth 100000 in
set_option maxHeartbeats 8000000 in
theorem rresize_bad {R C b n cap : Nat} {w : World} (r d : Int) (hq : rightB r d = false) (c : Ce) : Calls Try.prog 37 #[XV R C b n cap, .int .i64 r, .int .i64 d, yV c] w fun e w' => e = .returned (.tuple #[XV R C b n cap, .int .i64 1]) ∧ Below w.heap.size w w' := by
  obtain ⟨cp, c0, c1, c2, c3, c4, c5, c6, c7, cg, cb, hc⟩ := yC_form c
  have HU0 := Bx.new w R C (.slice (some ⟨b, 0, none⟩) n cap) c _ (congrArg List.toArray hc).symm
  have hyv : yV c = .agg #[.int .i32 cp, .bool c0, .bool c1, .bool c2, .bool c3, .bool c4, .bool c5, .bool c6, .bool c7, .int .u32 cg, .int .u32 cb] := by unfold yV; rw [hc]
  rw [hyv]
  have Hc := Lib.hid (fun (_ : Unit) => hc)
  have HYV := Lib.hid (fun (_ : Unit) => hyv)
  clear hc hyv
  go_enter Try.func37, Try.ntmps37
  go_upto_region 1 with fail
  generalize (((w.alloc (.cells #[.int .i64 R, .int .i64 C, .slice (some ⟨b, 0, none⟩) n cap] 29)).alloc (.cells #[.int .i32 cp, .bool c0, .bool c1, .bool c2, .bool c3, .bool c4, .bool c5, .bool c6, .bool c7, .int .u32 cg, .int .u32 cb] 49)).alloc (.cells #[.int .i64 0, .int .i64 0, .slice none 0 0] 29)) = U at HU0 ⊢
  have HU := Lib.hid HU0
  clear HU0
  go_wp2_with fail
  refine (rnew_bad _ _ hq _).mono ?_
  rintro e w3 ⟨rfl, hb3⟩
  have hb4 := (Below.refl w3.heap.size w3).alloc (Nat.le_refl _) (.cells #[.int .i64 0, .int .i64 0, .slice none 0 0] 29)
  have H3 := HU.out.next hb3
  obtain ⟨z0, z1, z2⟩ := (H3.next hb4).three
  have HZ := Lib.hid (H3.next hb4).z
  have HE := Lib.hid ((H3.next hb4).end_ #[.int .i64 R, .int .i64 C, .slice (some ⟨b, 0, none⟩) n cap])
  clear hb3 hb4 H3 HU
  go_wp2_with (refine wpList_store_row rfl 29 (.tmp 8) (.tmp 21) rfl (w.heap.size + 2) #[.int .i64 R, .int .i64 C, .slice (some ⟨b, 0, none⟩) n cap] rfl rfl 29 _ HZ.out gy_info rfl (gy_one R C rfl) ?_)
  exact bodyPost_ret (results_cell_tmp Try.results37 _ _ (w.heap.size + 2) 29 _ (0, 0) _ (.int .i64 1) rfl rfl HE.out.1 Try.underlying29 rfl gy_info) rfl ⟨rfl, HE.out.2⟩
set_option maxRecDepth 100000 in
set_option maxHeartbeats 16000000 in
theorem rresize_yes {R C b n cap : Nat} {L : List Ce} {w : World} (h : YR w b L) (hn : L.length = n) (hm : n ≤ 1000) (hC : C ≤ 1000) (hRC : R * C = n) {R2 C2 n2 : Nat} (hn2 : R2 * C2 = n2) (hp : 1 ≤ R2 ∧ R2 ≤ 12 ∧ 1 ≤ C2 ∧ C2 ≤ 40) (c : Ce) : Calls Try.prog 37 #[XV R C b n cap, .int .i64 R2, .int .i64 C2, yV c] w (XPost w R2 C2 n2 (genL n2 (dresF R C L C2 c)) (fun x => .tuple #[x, .int .i64 0])) := by
  have hn1 : 1 ≤ n2 := by rw [← hn2]; exact Nat.mul_pos hp.1 hp.2.2.1
  have hn480 : n2 ≤ 480 := by rw [← hn2]; exact Nat.mul_le_mul hp.2.1 hp.2.2.2
  have m1 : IntKind.i64.wrap ((R2 : Int) * (C2 : Int)) = (n2 : Int) := by rw [← Int.natCast_mul, hn2]; exact IntWalk.i64_in _ (by omega)
  have hC20 : ¬ (C2 : Int) = 0 := by omega
  have hC20' : ¬ C2 = 0 := by omega
  obtain ⟨cp, c0, c1, c2, c3, c4, c5, c6, c7, cg, cb, hc⟩ := yC_form c
  have HU0 := Bx.new w R C (.slice (some ⟨b, 0, none⟩) n cap) c _ (congrArg List.toArray hc).symm
  have hyv : yV c = .agg #[.int .i32 cp, .bool c0, .bool c1, .bool c2, .bool c3, .bool c4, .bool c5, .bool c6, .bool c7, .int .u32 cg, .int .u32 cb] := by unfold yV; rw [hc]
  rw [hyv]
  have Hc := Lib.hid (fun (_ : Unit) => hc)
  have HYV := Lib.hid (fun (_ : Unit) => hyv)
  clear hc hyv
  go_enter Try.func37, Try.ntmps37
  go_upto_region 1 with fail
  generalize (((w.alloc (.cells #[.int .i64 R, .int .i64 C, .slice (some ⟨b, 0, none⟩) n cap] 29)).alloc (.cells #[.int .i32 cp, .bool c0, .bool c1, .bool c2, .bool c3, .bool c4, .bool c5, .bool c6, .bool c7, .int .u32 cg, .int .u32 cb] 49)).alloc (.cells #[.int .i64 0, .int .i64 0, .slice none 0 0] 29)) = U at HU0 ⊢
  have HU := Lib.hid HU0
  clear HU0
  have HY := Lib.hid h
  have HN := Lib.hid hn
  have HNEW := Lib.hid (fun W => rnew_yes hn2 hp W)
  clear h hn
  go_wp2_with fail
  refine (HNEW.out _).mono ?_
  rintro e w3 ⟨v, rfl, ho, hb3⟩
  obtain ⟨b2, cap2, rfl, hR, hnl, hB2⟩ := RowY.of_own ho hn1
  have H3 := HU.out.next hb3
  have HS0 : Hid (Rz w R C (.slice (some ⟨b, 0, none⟩) n cap) c w3.heap.size R2 C2 b2 n2 cap2 (genL 0 (dresF R C L C2 c) ++ (rep n2 blC).drop 0) (w3.alloc (.cells #[.int .i64 R2, .int .i64 C2, .slice (some ⟨b2, 0, none⟩) n2 cap2] 29))) := Lib.hid
    ⟨H3.next ((Below.refl _ _).alloc (Nat.le_refl _) _), heap_alloc_new _ _, hR.below ((Below.refl _ _).alloc (Nat.le_refl _) _), by have := lt_of_block H3.z; omega, by have := lt_of_block HU.out.z; omega, by have := hR.lt; omega⟩
  clear ho hb3 hR hnl hB2 H3 HU HNEW
  obtain ⟨g3, hg3⟩ : ∃ g, w3.heap.size = g := ⟨_, rfl⟩
  have HG3 := Lib.hid hg3
  go_wp2
  generalize (w3.alloc (.cells #[.int .i64 R2, .int .i64 C2, .slice (some ⟨b2, 0, none⟩) n2 cap2] 29)) = W3 at HS0 ⊢
  simp only [hg3] at HS0 ⊢
  clear hg3
  go_loopw [12] (fun iv wr => ∃ i : Nat, iv = .int .i64 i ∧ i ≤ n2 ∧ Hid (Rz w R C (.slice (some ⟨b, 0, none⟩) n cap) c g3 R2 C2 b2 n2 cap2 (genL i (dresF R C L C2 c) ++ (rep n2 blC).drop i) wr)) (fun iv _ => n2 - (intOf iv).toNat)
  case atStart => exact ⟨0, rfl, by omega, HS0⟩
  case round =>
    obtain ⟨i, rfl, hi, HS⟩ := hrel
    clear HS0
    by_cases hin : i < n2
    · have d5 : decide ((i : Int) < (n2 : Int)) = true := by simp; omega
      have e5 : decide (i < n2) = true := by simp; omega
      have g1 : (0 : Int) ≤ (i : Int) := by omega
      have g2 : (i : Int) < (n2 : Int) := by omega
      have w1 : IntKind.i64.wrap ((i : Int) + 1) = (i : Int) + 1 := IntWalk.i64_in _ (by omega)
      obtain ⟨a, ha⟩ : ∃ a, i / C2 = a := ⟨_, rfl⟩
      obtain ⟨r, hr0⟩ : ∃ a, i % C2 = a := ⟨_, rfl⟩
      have t1 : (i : Int).tdiv (C2 : Int) = (a : Int) := by rw [tdiv_nat, ha]
      have t2 : (i : Int).tmod (C2 : Int) = (r : Int) := by rw [tmod_nat, hr0]
      have hale : a ≤ i := by rw [← ha]; exact Nat.div_le_self _ _
      have hrlt : r < C2 := by rw [← hr0]; exact Nat.mod_lt _ hp.2.2.1
      have t3 : IntKind.i64.wrap (a : Int) = (a : Int) := IntWalk.i64_in _ (by omega)
      have t4 : IntKind.i64.wrap (r : Int) = (r : Int) := IntWalk.i64_in _ (by omega)
      have hml : (genL i (dresF R C L C2 c) ++ (rep n2 blC).drop i).length = n2 := by rw [List.length_append, genL_len, List.length_drop, rep_len]; omega
      have HN3 : Hid (i < ((genL i (dresF R C L C2 c) ++ (rep n2 blC).drop i).set i c).length) := Lib.hid (by rw [List.length_set, hml]; exact hin)
      have HN2 := Lib.hid (show i < (genL i (dresF R C L C2 c) ++ (rep n2 blC).drop i).length by rw [hml]; exact hin)
      have HSET : ∀ x, (genL i (dresF R C L C2 c) ++ (rep n2 blC).drop i).set i x = genL i (dresF R C L C2 c) ++ [x] ++ (rep n2 blC).drop (i + 1) := fun x => set_mid _ _ i x (genL_len _ _) (by rw [rep_len]; exact hin)
      have HSET := Lib.hid HSET
      have HGS := Lib.hid (genL_succ i (dresF R C L C2 c))
      have hF : (dresF R C L C2 c) i = if a < R ∧ r < C then ceAt L (a * C + r) else c := by unfold dresF; rw [ha, hr0]
      obtain ⟨z0, z1, z2⟩ := HS.out.bx.three
      obtain ⟨u0, u1, u2⟩ := HS.out.three
      have hcc := HS.out.bx.c
      rw [Hc.out ()] at hcc
      obtain ⟨k0, k1, k2, k3, k4, k5, k6, k7, k8, k9, k10⟩ := cells11 hcc
      have HF := Lib.hid hF
      clear hcc hml ha hr0 hF
      have HH : Hid (hasC R C (a : Int) (r : Int) = (decide (a < R) && decide (r < C))) := Lib.hid (by unfold hasC hasR; simp)
      go_wp2_with (refine wpList_storeY rfl (.tmp 34) (.tmp 33) rfl HS.out.row (k := i) HN2.out rfl (c := c) (HYV.out ()).symm (fun V1 hV1 hg1 => ?_); have HS1 := Lib.hid (HS.out.put hV1 hg1); clear hV1 hg1 k0 k1 k2 k3 k4 k5 k6 k7 k8 k9 k10 z0 z1 z2 u0 u1 u2)
      refine wp_region_held_drew (S := fun W => W.cell? ⟨w.heap.size, 0, none⟩ = some (.int .i64 R) ∧ W.cell? ⟨w.heap.size, 1, none⟩ = some (.int .i64 C) ∧ W.cell? ⟨w.heap.size, 2, none⟩ = some (.slice (some ⟨b, 0, none⟩) n cap)) (by kernel_rfl) (HS1.out.next (by first | exact Below.refl _ _ | exact (Below.refl _ _).drew | exact (Below.refl _ _).drew.drew)).bx.three (fun hHeld => ?_)
      refine wpAnyH_take (i := 0) (v := ?_) (by simp; rfl) (by kernel_rfl) (by kernel_rfl) (by kernel_rfl) (by exact fun _ _ _ h => h) (Or.inl ⟨by rfl, fun wx hSx => ?_⟩) hHeld ?_
      rotate_left
      · obtain ⟨q0, q1, q2⟩ := hSx; go_simp; (try with_reducible rfl)
      simp only [Act.put, List.setIfInBounds_toArray, List.set_cons_zero, List.set_cons_succ]
      refine wpAnyH_take (i := 1) (v := ?_) (by simp; rfl) (by kernel_rfl) (by kernel_rfl) (by kernel_rfl) (by exact fun _ _ _ h => h) (Or.inl ⟨by rfl, fun wx hSx => ?_⟩) hHeld ?_
      rotate_left
      · clear hSx; go_simp; (try with_reducible rfl)
      simp only [Act.put, List.setIfInBounds_toArray, List.set_cons_zero, List.set_cons_succ]
      refine wpAnyH_take (i := 2) (v := ?_) (by simp; rfl) (by kernel_rfl) (by kernel_rfl) (by kernel_rfl) (by exact fun _ _ _ h => h) (Or.inl ⟨by rfl, fun wx hSx => ?_⟩) hHeld ?_
      rotate_left
      · clear hSx; go_simp; (try with_reducible rfl)
      simp only [Act.put, List.setIfInBounds_toArray, List.set_cons_zero, List.set_cons_succ]
      refine wpAnyH_take (i := 3) (v := ?_) (by simp; rfl) (by kernel_rfl) (by kernel_rfl) (by kernel_rfl) (by exact fun _ _ _ h => h) (Or.inl ⟨by rfl, fun wx hSx => ?_⟩) hHeld ?_
      rotate_left
      · clear hSx; go_simp; (try with_reducible rfl)
      simp only [Act.put, List.setIfInBounds_toArray, List.set_cons_zero, List.set_cons_succ]
      refine wpAnyH_take (i := 4) (v := ?_) (by simp; rfl) (by kernel_rfl) (by kernel_rfl) (by kernel_rfl) (by exact fun _ _ _ h => h) (Or.inl ⟨by rfl, fun wx hSx => ?_⟩) hHeld ?_
      rotate_left
      · clear hSx; go_simp; (try with_reducible rfl)
      simp only [Act.put, List.setIfInBounds_toArray, List.set_cons_zero, List.set_cons_succ]
      refine wpAnyH_take (i := 5) (v := ?_) (by simp; rfl) (by kernel_rfl) (by kernel_rfl) (by kernel_rfl) (by exact fun _ _ _ h => h) (Or.inl ⟨by rfl, fun wx hSx => ?_⟩) hHeld ?_
      rotate_left
      · clear hSx; go_simp; (try with_reducible rfl)
      simp only [Act.put, List.setIfInBounds_toArray, List.set_cons_zero, List.set_cons_succ]
      refine wpAnyH_take (i := 6) (v := ?_) (by simp; rfl) (by kernel_rfl) (by kernel_rfl) (by kernel_rfl) (by exact fun _ _ _ h => h) (Or.inl ⟨by rfl, fun wx hSx => ?_⟩) hHeld ?_
      rotate_left
      · clear hSx; go_simp; (try with_reducible rfl)
      simp only [Act.put, List.setIfInBounds_toArray, List.set_cons_zero, List.set_cons_succ]
      refine wpAnyH_ready (rs := [7]) (by kernel_rfl) (by simp) ?_
      refine AllReadyH.cons (by simp; rfl) (fun K0 hK0 => ?_) AllReadyH.nil
      go_simp
      refine (rhas_any _ _ _ _ _ _ _ _).mono ?_
      rintro e w6 ⟨rfl, hb6⟩
      have HS6 := Lib.hid ((HS1.out.next (show Below V1.heap.size V1 w6 from by first | exact hb6 | exact (Below.refl _ _).drew.trans hb6 | exact (Below.refl _ _).drew.drew.trans hb6)))
      clear hb6
      refine hK0.out _ _ HS6.out.bx.three (fun _ => ?_)
      clear hK0 K0 hHeld
      refine wpAnyH_done (by kernel_rfl) ?_ _
      by_cases hq : a < R ∧ r < C
      · have hh : hasC R C (a : Int) (r : Int) = true := by rw [HH.out]; simp; exact hq
        rw [hh]
        obtain ⟨mp, m0, m1, m2, m3, m4, m5, m6, m7, mg, mb, hmm⟩ := yC_form (ceAt L (a * C + r))
        have HFE := Lib.hid (show genL i (dresF R C L C2 c) ++ [ceAt L (a * C + r)] = genL (i + 1) (dresF R C L C2 c) from by rw [HGS.out, HF.out, if_pos hq])
        have hk : a * C + r < n := by have h1 := row_lt C hq.1; omega
        have HYM := Lib.hid (show yV (ceAt L (a * C + r)) = .agg #[.int .i32 mp, .bool m0, .bool m1, .bool m2, .bool m3, .bool m4, .bool m5, .bool m6, .bool m7, .int .u32 mg, .int .u32 mb] from by unfold yV; rw [hmm])
        have HAT : Hid (∀ X : World, Below w6.heap.size w6 X → Calls Try.prog 14 #[.agg #[.int .i64 R, .int .i64 C, .slice (some ⟨b, 0, none⟩) n cap], .int .i64 a, .int .i64 r] X fun e w' => e = .returned (.agg #[.int .i32 mp, .bool m0, .bool m1, .bool m2, .bool m3, .bool m4, .bool m5, .bool m6, .bool m7, .int .u32 mg, .int .u32 mb]) ∧ Below X.heap.size X w') := Lib.hid (fun X hX => by
          have hz := rat_any (R := R) (cap := cap) (HY.out.below (HS6.out.next hX).bx.b) HN.out hm (i := a) (j := r) (o := a * C) (k := a * C + r) rfl rfl hk hC (c := ceAt L (a * C + r)) rfl
          rwa [HYM.out] at hz)
        clear hmm hk hh hq hale hrlt
        go_wp2_with fail
        refine wp_region_held_drew (S := fun W => W.cell? ⟨w.heap.size, 0, none⟩ = some (.int .i64 R) ∧ W.cell? ⟨w.heap.size, 1, none⟩ = some (.int .i64 C) ∧ W.cell? ⟨w.heap.size, 2, none⟩ = some (.slice (some ⟨b, 0, none⟩) n cap) ∧ W.cell? ⟨g3, 2, none⟩ = some (.slice (some ⟨b2, 0, none⟩) n2 cap2)) (by kernel_rfl) (by have hz := HS6.out.next (by first | exact Below.refl _ _ | exact (Below.refl _ _).drew | exact (Below.refl _ _).drew.drew); exact ⟨hz.bx.three.1, hz.bx.three.2.1, hz.bx.three.2.2, hz.three.2.2⟩) (fun hHeld => ?_)
        refine wpAnyH_take (i := 0) (v := ?_) (by simp; rfl) (by kernel_rfl) (by kernel_rfl) (by kernel_rfl) (by exact fun _ _ _ h => h) (Or.inl ⟨by rfl, fun wx hSx => ?_⟩) hHeld ?_
        rotate_left
        · clear hSx; go_simp; (try with_reducible rfl)
        simp only [Act.put, List.setIfInBounds_toArray, List.set_cons_zero, List.set_cons_succ]
        refine wpAnyH_take (i := 1) (v := ?_) (by simp; rfl) (by kernel_rfl) (by kernel_rfl) (by kernel_rfl) (by exact fun _ _ _ h => h) (Or.inl ⟨by rfl, fun wx hSx => ?_⟩) hHeld ?_
        rotate_left
        · obtain ⟨q0, q1, q2, q3⟩ := hSx; go_simp; (try with_reducible rfl)
        simp only [Act.put, List.setIfInBounds_toArray, List.set_cons_zero, List.set_cons_succ]
        refine wpAnyH_take (i := 2) (v := ?_) (by simp; rfl) (by kernel_rfl) (by kernel_rfl) (by kernel_rfl) (by exact fun _ _ _ h => h) (Or.inl ⟨by rfl, fun wx hSx => ?_⟩) hHeld ?_
        rotate_left
        · clear hSx; go_simp; (try with_reducible rfl)
        simp only [Act.put, List.setIfInBounds_toArray, List.set_cons_zero, List.set_cons_succ]
        refine wpAnyH_take (i := 3) (v := ?_) (by simp; rfl) (by kernel_rfl) (by kernel_rfl) (by kernel_rfl) (by exact fun _ _ _ h => h) (Or.inl ⟨by rfl, fun wx hSx => ?_⟩) hHeld ?_
        rotate_left
        · obtain ⟨q0, q1, q2, q3⟩ := hSx; go_simp; (try with_reducible rfl)
        simp only [Act.put, List.setIfInBounds_toArray, List.set_cons_zero, List.set_cons_succ]
        refine wpAnyH_take (i := 4) (v := ?_) (by simp; rfl) (by kernel_rfl) (by kernel_rfl) (by kernel_rfl) (by exact fun _ _ _ h => h) (Or.inl ⟨by rfl, fun wx hSx => ?_⟩) hHeld ?_
        rotate_left
        · clear hSx; go_simp; (try with_reducible rfl)
        simp only [Act.put, List.setIfInBounds_toArray, List.set_cons_zero, List.set_cons_succ]
        refine wpAnyH_take (i := 5) (v := ?_) (by simp; rfl) (by kernel_rfl) (by kernel_rfl) (by kernel_rfl) (by exact fun _ _ _ h => h) (Or.inl ⟨by rfl, fun wx hSx => ?_⟩) hHeld ?_
        rotate_left
        · clear hSx; go_simp; (try with_reducible rfl)
        simp only [Act.put, List.setIfInBounds_toArray, List.set_cons_zero, List.set_cons_succ]
        refine wpAnyH_take (i := 6) (v := ?_) (by simp; rfl) (by kernel_rfl) (by kernel_rfl) (by kernel_rfl) (by exact fun _ _ _ h => h) (Or.inl ⟨by rfl, fun wx hSx => ?_⟩) hHeld ?_
        rotate_left
        · clear hSx; go_simp; (try with_reducible rfl)
        simp only [Act.put, List.setIfInBounds_toArray, List.set_cons_zero, List.set_cons_succ]
        refine wpAnyH_take (i := 7) (v := ?_) (by simp; rfl) (by kernel_rfl) (by kernel_rfl) (by kernel_rfl) (by exact fun _ _ _ h => h) (Or.inl ⟨by rfl, fun wx hSx => ?_⟩) hHeld ?_
        rotate_left
        · clear hSx; go_simp; (try with_reducible rfl)
        simp only [Act.put, List.setIfInBounds_toArray, List.set_cons_zero, List.set_cons_succ]
        refine wpAnyH_take (i := 8) (v := ?_) (by simp; rfl) (by kernel_rfl) (by kernel_rfl) (by kernel_rfl) (by exact fun _ _ _ h => h) (Or.inl ⟨by rfl, fun wx hSx => ?_⟩) hHeld ?_
        rotate_left
        · clear hSx; go_simp; (try with_reducible rfl)
        simp only [Act.put, List.setIfInBounds_toArray, List.set_cons_zero, List.set_cons_succ]
        refine wpAnyH_take (i := 9) (v := ?_) (by simp; rfl) (by kernel_rfl) (by kernel_rfl) (by kernel_rfl) (by exact fun _ _ _ h => h) (Or.inl ⟨by rfl, fun wx hSx => ?_⟩) hHeld ?_
        rotate_left
        · clear hSx; go_simp; (try with_reducible rfl)
        simp only [Act.put, List.setIfInBounds_toArray, List.set_cons_zero, List.set_cons_succ]
        refine wpAnyH_ready (rs := [10]) (by kernel_rfl) (by simp) ?_
        refine AllReadyH.cons (by simp; rfl) (fun K0 hK0 => ?_) AllReadyH.nil
        go_simp
        refine (HAT.out _ (by first | exact Below.refl _ _ | exact (Below.refl _ _).drew | exact (Below.refl _ _).drew.drew)).mono ?_
        rintro e w7 ⟨rfl, hb7⟩
        have HS7 := Lib.hid (HS6.out.next (show Below w6.heap.size w6 w7 from by first | exact hb7 | exact (Below.refl _ _).drew.trans hb7 | exact (Below.refl _ _).drew.drew.trans hb7))
        clear hb7
        have hS7 : w7.cell? ⟨w.heap.size, 0, none⟩ = some (.int .i64 R) ∧ w7.cell? ⟨w.heap.size, 1, none⟩ = some (.int .i64 C) ∧ w7.cell? ⟨w.heap.size, 2, none⟩ = some (.slice (some ⟨b, 0, none⟩) n cap) ∧ w7.cell? ⟨g3, 2, none⟩ = some (.slice (some ⟨b2, 0, none⟩) n2 cap2) := ⟨HS7.out.bx.three.1, HS7.out.bx.three.2.1, HS7.out.bx.three.2.2, HS7.out.three.2.2⟩
        refine hK0.out _ _ hS7 (fun _ => ?_)
        clear hK0 K0 hHeld
        have hHeld := hS7
        refine wpAnyH_take (i := 11) (v := ?_) (by simp; rfl) (by kernel_rfl) (by kernel_rfl) (by kernel_rfl) (by exact fun _ _ _ h => h) (Or.inl ⟨by rfl, fun wx hSx => ?_⟩) hHeld ?_
        rotate_left
        · clear hSx; go_simp; (try with_reducible rfl)
        simp only [Act.put, List.setIfInBounds_toArray, List.set_cons_zero, List.set_cons_succ]
        refine wpAnyH_ready (rs := [12]) (by kernel_rfl) (by simp) ?_
        refine AllReadyH.cons (by simp; rfl) (fun K0 hK0 => ?_) AllReadyH.nil
        refine step_storeY rfl (.tmp 54) (.tmp 53) rfl HS7.out.row (k := i) HN3.out rfl (c := ceAt L (a * C + r)) HYM.out.symm (fun V2 hV2 hg2 => ?_)
        simp only [Act.put, List.setIfInBounds_toArray, List.set_cons_zero, List.set_cons_succ]
        have HS8 := Lib.hid (HS7.out.put hV2 hg2)
        clear hV2 hg2
        refine hK0.out _ _ ⟨HS8.out.bx.three.1, HS8.out.bx.three.2.1, HS8.out.bx.three.2.2, HS8.out.three.2.2⟩ (fun _ => ?_)
        clear hK0 K0
        refine wpAnyH_done (by kernel_rfl) ?_ _
        go_wp2
        go_roundw
        case rel => exact ⟨i + 1, by go_num, by omega, Lib.hid (by have hz := HS8.out; rw [set_twice, HSET.out, HFE.out] at hz; exact hz)⟩
        case measure => simp [intOf]; omega
      · have hh : hasC R C (a : Int) (r : Int) = false := by rw [HH.out]; simp; omega
        rw [hh]
        have HFE := Lib.hid (show genL i (dresF R C L C2 c) ++ [c] = genL (i + 1) (dresF R C L C2 c) from by rw [HGS.out, HF.out, if_neg hq])
        clear hh hq hale hrlt
        go_wp2
        go_roundw
        case rel => exact ⟨i + 1, by go_num, by omega, Lib.hid (by have hz := HS6.out; rw [HSET.out, HFE.out] at hz; exact hz)⟩
        case measure => simp [intOf]; omega
    · have d5 : decide ((i : Int) < (n2 : Int)) = false := by simp; omega
      have e5 : decide (i < n2) = false := by simp; omega
      have hiK : i = n2 := by omega
      have hs0 := HS.out
      rw [hiK, List.drop_eq_nil_of_le (by rw [rep_len]; exact Nat.le_refl _), List.append_nil] at hs0
      obtain ⟨z0, z1, z2⟩ := hs0.three
      have HZ := Lib.hid hs0.bx.z
      have HE := Lib.hid (hs0.bx.end_ #[.int .i64 R2, .int .i64 C2, .slice (some ⟨b2, 0, none⟩) n2 cap2])
      have HQ := Lib.hid (show XPost w R2 C2 n2 (genL n2 (dresF R C L C2 c)) (fun x => .tuple #[x, .int .i64 0]) (.returned (.tuple #[XV R2 C2 b2 n2 cap2, .int .i64 0])) (wr.setRow (w.heap.size + 2) #[.int .i64 R2, .int .i64 C2, .slice (some ⟨b2, 0, none⟩) n2 cap2]) from
        ⟨b2, cap2, rfl, by have := hs0.l2; omega, hs0.row.grown (grown_setRow _ _ _) (fun e => by injection e; have := hs0.l2; omega), HE.out.2⟩)
      clear hs0 hiK HS hi hin
      go_wp2_with (refine wpList_store_row rfl 29 (.tmp 8) (.tmp 55) rfl (w.heap.size + 2) #[.int .i64 R2, .int .i64 C2, .slice (some ⟨b2, 0, none⟩) n2 cap2] rfl rfl 29 _ HZ.out gy_info rfl (gy_one R2 C2 rfl) ?_)
      exact bodyPost_ret (results_cell_tmp Try.results37 _ _ (w.heap.size + 2) 29 _ (0, 0) _ (.int .i64 0) rfl rfl HE.out.1 Try.underlying29 rfl gy_info) rfl HQ.out
end Go.Proofs.Ytahmnipcdkcpiaa
