/-
  Proved here: a grid as the document's.
-/
import Derived.Test.YtahmnipcdkcpiaaHh
set_option linter.unusedSimpArgs false
set_option linter.unusedVariables false
namespace Go.Proofs.Ytahmnipcdkcpiaa
open Go.RowKit
/-- A document's grid being made, beside a row of the program's cells. -/
structure AG (w0 : World) (h g : Nat) (R C : Nat) (v : Value) (L : List Ce) (b2 : Nat) (M : List Ce) (W : World) : Prop where
  gy : GY w0 h g R C v L W
  row : RowAt W b2 M.length M
/-- The same behind an append and the store of what it answers; in between the row is there, too. -/
structure AE (w0 : World) (h g : Nat) (R C : Nat) (v : Value) (L : List Ce) (b2 : Nat) (M : List Ce) (W2 W : World) : Prop extends AG w0 h g R C v L b2 M W where
  mid : RowAt W2 b2 M.length M
section
variable {w0 : World} {h g R C b2 : Nat} {v : Value} {L M : List Ce} {W : World}
theorem AG.next (H : AG w0 h g R C v L b2 M W) {W' : World} (hb : Below W.heap.size W W') : AG w0 h g R C v L b2 M W' := ⟨H.gy.next hb, H.row.below hb⟩
theorem AG.ne (H : AG w0 h g R C v L b2 M W) : g ≠ b2 := fun e => by
  obtain ⟨cur, h1, _⟩ := H.row
  have h2 := H.gy.blk
  rw [e, h1] at h2
  injection h2 with h2
  injection h2 with _ h2 _
  exact absurd h2 (by decide)
theorem AG.nv (H : AG w0 h g R C v L b2 M W) : some b2 ≠ v.ownBlock := fun e => by
  obtain ⟨cur, h1, _⟩ := H.row
  obtain ⟨_, ho⟩ := H.gy.own
  rcases ho with ho | ⟨g2, c2, cur2, rfl, _, h2, _⟩
  · rw [ho.1] at e; simp [Value.ownBlock] at e
  · simp [Value.ownBlock] at e
    subst e
    rw [h1] at h2
    injection h2 with h2
    injection h2 with _ h2 _
    exact absurd h2 (by decide)
theorem AG.app (H : AG w0 h g R C v L b2 M W) (hL : L.length ≤ 100000) {fb : Nat} {c : Ce} (hblk : W.heap[fb]? = some (.cells (yC c).toArray 49 (0, 0))) :
    ∃ v' W2, (Builtin.append_ #[27, 27] 27 #[v, .slice (some ⟨fb, 0, none⟩) 1 1]).run Try.prog W = .ok v' W2 ∧ W2.cell? ⟨g, 2, none⟩ = some v ∧ W2.frozen? ⟨g, 2, none⟩ = false ∧ AE w0 h g R C v' (L ++ [c]) b2 M W2 (W2.setCell ⟨g, 2, none⟩ v') := by
  obtain ⟨v', W2, hr, h1, h2, h3⟩ := H.gy.app hL hblk
  obtain ⟨v3, W3, hr3, _, hgr, _⟩ := app_y H.gy.own hblk hL H.gy.below.size
  rw [hr] at hr3
  injection hr3 with e1 e2
  subst e1 e2
  have hm := H.row.grown hgr H.nv
  exact ⟨v', W2, hr, h1, h2, ⟨⟨h3, hm.keep (heap_setCell_other W2 _ _ v' (fun e => H.ne e.symm))⟩, hm⟩⟩
end
set_option maxRecDepth 100000 in
set_option maxHeartbeats 16000000 in
theorem as_gr {g b cap R C : Nat} {L : List Ce} {w : World} (hG : Gr g b cap R C L w) (hO : OkL L) : Calls Try.prog 16 #[.pointer (some ⟨g, 0, none⟩)] w fun e w' => ∃ b' cap', e = .returned (XV R C b' (R * C) cap') ∧ w.heap.size ≤ b' ∧ RowY w' b' cap' L ∧ Below w.heap.size w w' := by
  have hp := hG.pos
  have hlen := hG.len
  have hroom := hG.room
  have hb0 : Below w.heap.size w (w.alloc (.cells #[.int .i64 0, .int .i64 0, .slice none 0 0] 29)) := (Below.refl _ _).alloc (Nat.le_refl _) _
  have HRO := Lib.hid (fun (W : World) (hW : Below w.heap.size w W) => rows_gr (hG.below hW))
  have HCO := Lib.hid (fun (W : World) (hW : Below w.heap.size w W) => cols_gr (hG.below hW))
  have HLI := Lib.hid (fun (W : World) (hW : Below w.heap.size w W) (i : Nat) (hi : i < R) => line_yes (hG.below hW) hi)
  have HOK := Lib.hid (fun (k : Nat) (hk : k < L.length) => okL_at hO hk)
  have HLN := Lib.hid hlen
  have HRM := Lib.hid hroom
  obtain ⟨n, hn⟩ : ∃ n, R * C = n := ⟨_, rfl⟩
  have HN := Lib.hid hn
  have HB0 := Lib.hid hb0
  have HZ0 : Hid (GY w w.heap.size (w.heap.size + 1) R C (.slice none 0 0) (L.take (0 * C)) ((w.alloc (.cells #[.int .i64 0, .int .i64 0, .slice none 0 0] 29)).alloc (.cells #[.int .i64 R, .int .i64 C, .slice none 0 0] 29))) := Lib.hid (by
    rw [Nat.zero_mul, List.take_zero]
    exact ⟨(((Below.refl (w.alloc (.cells #[.int .i64 0, .int .i64 0, .slice none 0 0] 29)).heap.size (w.alloc (.cells #[.int .i64 0, .int .i64 0, .slice none 0 0] 29))).alloc (Nat.le_refl _) (.cells #[.int .i64 R, .int .i64 C, .slice none 0 0] 29)).block w.heap.size (by simp)).trans (heap_alloc_new w _),
     by have := heap_alloc_new (w.alloc (.cells #[.int .i64 0, .int .i64 0, .slice none 0 0] 29)) (.cells #[.int .i64 R, .int .i64 C, .slice none 0 0] 29); simpa using this,
     World.ownsRow_nil _ _ _ _, by simp [Value.ownBlock], by simp [Value.ownBlock], Nat.le_refl _, Nat.le_succ _, by omega, ((Below.refl _ _).alloc (Nat.le_refl _) _).alloc (by simp) _⟩)
  have HPO := Lib.hid hp
  have hR12 : R ≤ 12 := hp.2.1
  have hC40 : C ≤ 40 := hp.2.2.2
  clear hG hO hlen hroom hn hb0 hp
  go_enter Try.func16, Try.ntmps16
  go_wp2_with fail
  refine (HRO.out _ HB0.out).mono ?_
  rintro e wx ⟨rfl, rfl⟩
  go_wp2_with fail
  refine (HCO.out _ HB0.out).mono ?_
  rintro e wx ⟨rfl, rfl⟩
  go_wp2_with fail
  generalize ((w.alloc (.cells #[.int .i64 0, .int .i64 0, .slice none 0 0] 29)).alloc (.cells #[.int .i64 R, .int .i64 C, .slice none 0 0] 29)) = U at HZ0 ⊢
  go_loopw [4] (fun iv wr => ∃ i : Nat, iv = .int .i64 i ∧ i ≤ R ∧ ∃ v, Hid (GY w w.heap.size (w.heap.size + 1) R C v (L.take (i * C)) wr)) (fun iv _ => R - (intOf iv).toNat)
  case atStart => exact ⟨0, rfl, by omega, _, HZ0⟩
  case round =>
    obtain ⟨i, rfl, hi, v, HS⟩ := hrel
    clear HZ0
    by_cases hin : i < R
    · have d5 : decide ((i : Int) < (R : Int)) = true := by simp; omega
      have e5 : decide (i < R) = true := by simp; omega
      have w1 : IntKind.i64.wrap ((i : Int) + 1) = (i : Int) + 1 := IntWalk.i64_in _ (by omega)
      go_wp2_with fail
      refine (HRO.out _ HS.out.below).mono ?_
      rintro e wx ⟨rfl, rfl⟩
      go_wp2_with fail
      refine (HLI.out _ HS.out.below i hin).mono ?_
      rintro e w3 ⟨b2, rfl, hb2, hrow, hb3⟩
      have hrl : ((L.drop (i * C)).take C).length = C := sub_len (by have := row_lt C hin; rw [HLN.out]; omega)
      have HS1 : Hid (AG w w.heap.size (w.heap.size + 1) R C v (L.take (i * C + 0)) b2 ((L.drop (i * C)).take C) w3) := Lib.hid ⟨HS.out.next hb3, by rw [hrl]; exact hrow⟩
      have HRL := Lib.hid hrl
      have hinR := Lib.hid (show i + 1 ≤ R from hin)
      have HIN := Lib.hid (show i * C + C ≤ R * C from row_lt C hin)
      clear hrow hb3 HS hrl d5 e5 hin hb2
      go_wp2
      go_loopw [7] (fun kv wr => ∃ k : Nat, kv = .int .i64 k ∧ k ≤ C ∧ ∃ v, Hid (AG w w.heap.size (w.heap.size + 1) R C v (L.take (i * C + k)) b2 ((L.drop (i * C)).take C) wr)) (fun kv _ => C - (intOf kv).toNat)
      case atStart => exact ⟨0, rfl, by omega, _, HS1⟩
      case round =>
        obtain ⟨k, rfl, hk, v, HS⟩ := hrel
        clear HS1
        by_cases hkn : k < C
        · have d6 : decide ((k : Int) < (C : Int)) = true := by simp; omega
          have e6 : decide (k < C) = true := by simp; omega
          have w2 : IntKind.i64.wrap ((k : Int) + 1) = (k : Int) + 1 := IntWalk.i64_in _ (by omega)
          have g1 : (0 : Int) ≤ (k : Int) := by omega
          have g2 : (k : Int) < (C : Int) := by omega
          have hkl : i * C + k < L.length := by rw [HLN.out]; have := HIN.out; omega
          have HTK := Lib.hid (show L.take (i * C + k) ++ [ceAt L (i * C + k)] = L.take (i * C + (k + 1)) from by rw [← Nat.add_assoc, List.take_succ_eq_append_getElem hkl, ceAt_get hkl])
          have hok := HOK.out _ hkl
          have hce : ceAt ((L.drop (i * C)).take C) k = ceAt L (i * C + k) := ceAt_sub hkn
          have hfour := fun (W : World) (hW : RowAt W b2 ((L.drop (i * C)).take C).length ((L.drop (i * C)).take C)) => hW.four (k := k) (by rw [HRL.out]; exact hkn)
          rw [hce] at hfour
          have HCE0 := fun W => l_cell (ceAt L (i * C + k)) W hok.1 hok.2
          obtain ⟨xp, x0, x1, x2, x3, x4, x5, x6, x7, xg, xb, hx⟩ := yC_form (ceAt L (i * C + k))
          have Hx := Lib.hid (fun (_ : Unit) => hx)
          rw [show yV (ceAt L (i * C + k)) = .agg #[.int .i32 xp, .bool x0, .bool x1, .bool x2, .bool x3, .bool x4, .bool x5, .bool x6, .bool x7, .int .u32 xg, .int .u32 xb] from by unfold yV; rw [hx]] at HCE0
          obtain ⟨ce, hce2⟩ : ∃ c, ceAt L (i * C + k) = c := ⟨_, rfl⟩
          rw [hce2] at hfour HCE0
          obtain ⟨p, f, gg, bb⟩ := ce
          unfold cV at HCE0
          dsimp only at hfour HCE0
          have HCE := Lib.hid HCE0
          have HS4 := Lib.hid hfour
          have HA := Lib.hid (HS.out.next (Below.refl wr.heap.size wr).drew)
          clear HS hkl hok hce hce2 hx HCE0 hfour
          go_wp2_with fail
          refine wp_region_held_drew (S := fun W => W.cell? ⟨b2, k * 4, none⟩ = some (.int .i32 p) ∧ W.cell? ⟨b2, k * 4 + 1, none⟩ = some (.int .u8 f) ∧ W.cell? ⟨b2, k * 4 + 2, none⟩ = some (.int .u32 gg) ∧ W.cell? ⟨b2, k * 4 + 3, none⟩ = some (.int .u32 bb)) (by kernel_rfl) (HS4.out _ HA.out.row) (fun hHeld => ?_)
          refine wpAnyH_take (i := 0) (v := ?_) (by simp; rfl) (by kernel_rfl) (by kernel_rfl) (by kernel_rfl) (by exact fun _ _ _ h => h) (Or.inl ⟨by rfl, fun wx hSx => ?_⟩) hHeld ?_
          rotate_left
          · clear hSx; go_simp; (try with_reducible rfl)
          simp only [Act.put, List.setIfInBounds_toArray, List.set_cons_zero, List.set_cons_succ]
          refine wpAnyH_take (i := 2) (v := ?_) (by simp; rfl) (by kernel_rfl) (by kernel_rfl) (by kernel_rfl) (by exact fun _ _ _ h => h) (Or.inl ⟨by rfl, fun wx hSx => ?_⟩) hHeld ?_
          rotate_left
          · clear hSx; go_simp; (try with_reducible rfl)
          simp only [Act.put, List.setIfInBounds_toArray, List.set_cons_zero, List.set_cons_succ]
          refine wpAnyH_take (i := 3) (v := ?_) (by simp; rfl) (by kernel_rfl) (by kernel_rfl) (by kernel_rfl) (by exact fun _ _ _ h => h) (Or.inl ⟨by rfl, fun wx hSx => ?_⟩) hHeld ?_
          rotate_left
          · clear hSx; go_simp; (try with_reducible rfl)
          simp only [Act.put, List.setIfInBounds_toArray, List.set_cons_zero, List.set_cons_succ]
          refine wpAnyH_take (i := 4) (v := ?_) (by simp; rfl) (by kernel_rfl) (by kernel_rfl) (by kernel_rfl) (by exact fun _ _ _ h => h) (Or.inl ⟨by rfl, fun wx hSx => ?_⟩) hHeld ?_
          rotate_left
          · clear hSx; go_simp; (try with_reducible rfl)
          simp only [Act.put, List.setIfInBounds_toArray, List.set_cons_zero, List.set_cons_succ]
          refine wpAnyH_take (i := 5) (v := ?_) (by simp; rfl) (by kernel_rfl) (by kernel_rfl) (by kernel_rfl) (by exact fun _ _ _ h => h) (Or.inl ⟨by rfl, fun wx hSx => ?_⟩) hHeld ?_
          rotate_left
          · obtain ⟨q0, q1, q2, q3⟩ := hSx; go_simp; (try with_reducible rfl)
          simp only [Act.put, List.setIfInBounds_toArray, List.set_cons_zero, List.set_cons_succ]
          refine wpAnyH_ready (rs := [1, 6]) (by kernel_rfl) (by simp) ?_
          refine AllReadyH.cons (by simp; rfl) (fun K0 hK0 => ?_) (AllReadyH.cons (by simp; rfl) (fun K0 hK0 => ?_) AllReadyH.nil)
          · have hk2 := HA.out.gy.cells.2.2
            go_simp
            refine hK0.out _ _ (HS4.out _ HA.out.row) (fun _ => ?_)
            clear hK0 K0 hk2
            refine wpAnyH_ready (rs := [6]) (by kernel_rfl) (by simp) ?_
            refine AllReadyH.cons (by simp; rfl) (fun K0 hK0 => ?_) AllReadyH.nil
            go_simp
            refine (HCE.out _).mono ?_
            rintro e v2 ⟨rfl, hbv⟩
            have HA2 := Lib.hid (HA.out.next hbv)
            clear HA hbv
            have HA := HA2
            clear HA2
            refine hK0.out _ _ (HS4.out _ HA.out.row) (fun _ => ?_)
            clear hK0 K0
            refine wpAnyH_ready (rs := [7]) (by kernel_rfl) (by simp) ?_
            refine AllReadyH.cons (by simp; rfl) (fun K0 hK0 => ?_) AllReadyH.nil
            go_simp
            have HA2 := Lib.hid (HA.out.next ((Below.refl v2.heap.size v2).alloc (Nat.le_refl _) (.cells #[.int .i32 xp, .bool x0, .bool x1, .bool x2, .bool x3, .bool x4, .bool x5, .bool x6, .bool x7, .int .u32 xg, .int .u32 xb] 49)))
            have HBK := Lib.hid (heap_alloc_new v2 (.cells #[.int .i32 xp, .bool x0, .bool x1, .bool x2, .bool x3, .bool x4, .bool x5, .bool x6, .bool x7, .int .u32 xg, .int .u32 xb] 49))
            clear HA
            have HA := HA2
            clear HA2
            obtain ⟨fb, hfb⟩ : ∃ g, v2.heap.size = g := ⟨_, rfl⟩
            rw [hfb] at HBK ⊢
            clear hfb
            generalize (v2.alloc (.cells #[.int .i32 xp, .bool x0, .bool x1, .bool x2, .bool x3, .bool x4, .bool x5, .bool x6, .bool x7, .int .u32 xg, .int .u32 xb] 49)) = u3 at HA HBK ⊢
            refine hK0.out _ _ (HS4.out _ HA.out.row) (fun _ => ?_)
            clear hK0 K0
            refine wpAnyH_ready (rs := [8]) (by kernel_rfl) (by simp) ?_
            refine AllReadyH.cons (by simp; rfl) (fun K0 hK0 => ?_) AllReadyH.nil
            obtain ⟨v2, W2, hr, k3, fz, H2⟩ := HA.out.app (by rw [List.length_take, HLN.out]; have := HRM.out.2.1; omega) (fb := fb) (c := ceAt L (i * C + k)) (by rw [Hx.out ()]; exact HBK.out)
            refine step_app rfl (.tmp 32) (.tmp 38) _ rfl _ _ rfl rfl hr ?_
            simp only [Act.put, List.setIfInBounds_toArray, List.set_cons_zero, List.set_cons_succ]
            obtain ⟨A2, n2, c2, rfl⟩ := own_form H2.gy.own
            have HE2 := Lib.hid H2
            have HKE := Lib.hid (And.intro k3 fz)
            have hb4 := H2.mid
            clear hr H2 HA HBK
            refine hK0.out _ _ (HS4.out _ hb4) (fun _ => ?_)
            clear hK0 K0 k3 fz hb4 hHeld
            have hHeld := HS4.out _ HE2.out.mid
            refine wpAnyH_take (i := 9) (v := ?_) (by simp; rfl) (by kernel_rfl) (by kernel_rfl) (by kernel_rfl) (by exact fun _ _ _ h => h) (Or.inl ⟨by rfl, fun wx hSx => ?_⟩) hHeld ?_
            rotate_left
            · clear hSx; go_simp; (try with_reducible rfl)
            simp only [Act.put, List.setIfInBounds_toArray, List.set_cons_zero, List.set_cons_succ]
            refine wpAnyH_ready (rs := [10]) (by kernel_rfl) (by simp) ?_
            refine AllReadyH.cons (by simp; rfl) (fun K0 hK0 => ?_) AllReadyH.nil
            obtain ⟨k3, fz⟩ := HKE.out
            go_simp
            refine hK0.out _ _ (HS4.out _ HE2.out.row) (fun _ => ?_)
            clear hK0 K0
            refine wpAnyH_done (by kernel_rfl) ?_ _
            go_wp2
            go_roundw
            case rel => exact ⟨k + 1, by go_num, by omega, _, Lib.hid (by have hz := HE2.out.toAG; rw [HTK.out] at hz; exact hz)⟩
            case measure => simp [intOf]; omega
          · go_simp
            refine (HCE.out _).mono ?_
            rintro e v1 ⟨rfl, hbv⟩
            have HA2 := Lib.hid (HA.out.next hbv)
            clear HA hbv
            have HA := HA2
            clear HA2
            refine hK0.out _ _ (HS4.out _ HA.out.row) (fun _ => ?_)
            clear hK0 K0
            refine wpAnyH_ready (rs := [1, 7]) (by kernel_rfl) (by simp) ?_
            refine AllReadyH.cons (by simp; rfl) (fun K0 hK0 => ?_) (AllReadyH.cons (by simp; rfl) (fun K0 hK0 => ?_) AllReadyH.nil)
            · have hk2 := HA.out.gy.cells.2.2
              go_simp
              refine hK0.out _ _ (HS4.out _ HA.out.row) (fun _ => ?_)
              clear hK0 K0 hk2
              refine wpAnyH_ready (rs := [7]) (by kernel_rfl) (by simp) ?_
              refine AllReadyH.cons (by simp; rfl) (fun K0 hK0 => ?_) AllReadyH.nil
              go_simp
              have HA2 := Lib.hid (HA.out.next ((Below.refl v1.heap.size v1).alloc (Nat.le_refl _) (.cells #[.int .i32 xp, .bool x0, .bool x1, .bool x2, .bool x3, .bool x4, .bool x5, .bool x6, .bool x7, .int .u32 xg, .int .u32 xb] 49)))
              have HBK := Lib.hid (heap_alloc_new v1 (.cells #[.int .i32 xp, .bool x0, .bool x1, .bool x2, .bool x3, .bool x4, .bool x5, .bool x6, .bool x7, .int .u32 xg, .int .u32 xb] 49))
              clear HA
              have HA := HA2
              clear HA2
              obtain ⟨fb, hfb⟩ : ∃ g, v1.heap.size = g := ⟨_, rfl⟩
              rw [hfb] at HBK ⊢
              clear hfb
              generalize (v1.alloc (.cells #[.int .i32 xp, .bool x0, .bool x1, .bool x2, .bool x3, .bool x4, .bool x5, .bool x6, .bool x7, .int .u32 xg, .int .u32 xb] 49)) = u3 at HA HBK ⊢
              refine hK0.out _ _ (HS4.out _ HA.out.row) (fun _ => ?_)
              clear hK0 K0
              refine wpAnyH_ready (rs := [8]) (by kernel_rfl) (by simp) ?_
              refine AllReadyH.cons (by simp; rfl) (fun K0 hK0 => ?_) AllReadyH.nil
              obtain ⟨v2, W2, hr, k3, fz, H2⟩ := HA.out.app (by rw [List.length_take, HLN.out]; have := HRM.out.2.1; omega) (fb := fb) (c := ceAt L (i * C + k)) (by rw [Hx.out ()]; exact HBK.out)
              refine step_app rfl (.tmp 32) (.tmp 38) _ rfl _ _ rfl rfl hr ?_
              simp only [Act.put, List.setIfInBounds_toArray, List.set_cons_zero, List.set_cons_succ]
              obtain ⟨A2, n2, c2, rfl⟩ := own_form H2.gy.own
              have HE2 := Lib.hid H2
              have HKE := Lib.hid (And.intro k3 fz)
              have hb4 := H2.mid
              clear hr H2 HA HBK
              refine hK0.out _ _ (HS4.out _ hb4) (fun _ => ?_)
              clear hK0 K0 k3 fz hb4 hHeld
              have hHeld := HS4.out _ HE2.out.mid
              refine wpAnyH_take (i := 9) (v := ?_) (by simp; rfl) (by kernel_rfl) (by kernel_rfl) (by kernel_rfl) (by exact fun _ _ _ h => h) (Or.inl ⟨by rfl, fun wx hSx => ?_⟩) hHeld ?_
              rotate_left
              · clear hSx; go_simp; (try with_reducible rfl)
              simp only [Act.put, List.setIfInBounds_toArray, List.set_cons_zero, List.set_cons_succ]
              refine wpAnyH_ready (rs := [10]) (by kernel_rfl) (by simp) ?_
              refine AllReadyH.cons (by simp; rfl) (fun K0 hK0 => ?_) AllReadyH.nil
              obtain ⟨k3, fz⟩ := HKE.out
              go_simp
              refine hK0.out _ _ (HS4.out _ HE2.out.row) (fun _ => ?_)
              clear hK0 K0
              refine wpAnyH_done (by kernel_rfl) ?_ _
              go_wp2
              go_roundw
              case rel => exact ⟨k + 1, by go_num, by omega, _, Lib.hid (by have hz := HE2.out.toAG; rw [HTK.out] at hz; exact hz)⟩
              case measure => simp [intOf]; omega
            · go_simp
              have HA2 := Lib.hid (HA.out.next ((Below.refl v1.heap.size v1).alloc (Nat.le_refl _) (.cells #[.int .i32 xp, .bool x0, .bool x1, .bool x2, .bool x3, .bool x4, .bool x5, .bool x6, .bool x7, .int .u32 xg, .int .u32 xb] 49)))
              have HBK := Lib.hid (heap_alloc_new v1 (.cells #[.int .i32 xp, .bool x0, .bool x1, .bool x2, .bool x3, .bool x4, .bool x5, .bool x6, .bool x7, .int .u32 xg, .int .u32 xb] 49))
              clear HA
              have HA := HA2
              clear HA2
              obtain ⟨fb, hfb⟩ : ∃ g, v1.heap.size = g := ⟨_, rfl⟩
              rw [hfb] at HBK ⊢
              clear hfb
              generalize (v1.alloc (.cells #[.int .i32 xp, .bool x0, .bool x1, .bool x2, .bool x3, .bool x4, .bool x5, .bool x6, .bool x7, .int .u32 xg, .int .u32 xb] 49)) = u2 at HA HBK ⊢
              refine hK0.out _ _ (HS4.out _ HA.out.row) (fun _ => ?_)
              clear hK0 K0
              refine wpAnyH_ready (rs := [1]) (by kernel_rfl) (by simp) ?_
              refine AllReadyH.cons (by simp; rfl) (fun K0 hK0 => ?_) AllReadyH.nil
              have hk2 := HA.out.gy.cells.2.2
              go_simp
              refine hK0.out _ _ (HS4.out _ HA.out.row) (fun _ => ?_)
              clear hK0 K0 hk2
              refine wpAnyH_ready (rs := [8]) (by kernel_rfl) (by simp) ?_
              refine AllReadyH.cons (by simp; rfl) (fun K0 hK0 => ?_) AllReadyH.nil
              obtain ⟨v2, W2, hr, k3, fz, H2⟩ := HA.out.app (by rw [List.length_take, HLN.out]; have := HRM.out.2.1; omega) (fb := fb) (c := ceAt L (i * C + k)) (by rw [Hx.out ()]; exact HBK.out)
              refine step_app rfl (.tmp 32) (.tmp 38) _ rfl _ _ rfl rfl hr ?_
              simp only [Act.put, List.setIfInBounds_toArray, List.set_cons_zero, List.set_cons_succ]
              obtain ⟨A2, n2, c2, rfl⟩ := own_form H2.gy.own
              have HE2 := Lib.hid H2
              have HKE := Lib.hid (And.intro k3 fz)
              have hb4 := H2.mid
              clear hr H2 HA HBK
              refine hK0.out _ _ (HS4.out _ hb4) (fun _ => ?_)
              clear hK0 K0 k3 fz hb4 hHeld
              have hHeld := HS4.out _ HE2.out.mid
              refine wpAnyH_take (i := 9) (v := ?_) (by simp; rfl) (by kernel_rfl) (by kernel_rfl) (by kernel_rfl) (by exact fun _ _ _ h => h) (Or.inl ⟨by rfl, fun wx hSx => ?_⟩) hHeld ?_
              rotate_left
              · clear hSx; go_simp; (try with_reducible rfl)
              simp only [Act.put, List.setIfInBounds_toArray, List.set_cons_zero, List.set_cons_succ]
              refine wpAnyH_ready (rs := [10]) (by kernel_rfl) (by simp) ?_
              refine AllReadyH.cons (by simp; rfl) (fun K0 hK0 => ?_) AllReadyH.nil
              obtain ⟨k3, fz⟩ := HKE.out
              go_simp
              refine hK0.out _ _ (HS4.out _ HE2.out.row) (fun _ => ?_)
              clear hK0 K0
              refine wpAnyH_done (by kernel_rfl) ?_ _
              go_wp2
              go_roundw
              case rel => exact ⟨k + 1, by go_num, by omega, _, Lib.hid (by have hz := HE2.out.toAG; rw [HTK.out] at hz; exact hz)⟩
              case measure => simp [intOf]; omega
        · have d6 : decide ((k : Int) < (C : Int)) = false := by simp; omega
          have e6 : decide (k < C) = false := by simp; omega
          have hkC : k = C := by omega
          have hs2 := HS.out.gy
          rw [hkC] at hs2
          have HS2 := Lib.hid hs2
          have w1' : IntKind.i64.wrap ((i : Int) + 1) = (i : Int) + 1 := IntWalk.i64_in _ (by omega)
          clear hs2 hkC
          clear HS hk hkn HRL
          go_wp2
          go_roundw
          case rel => exact ⟨i + 1, by go_num, hinR.out, v, Lib.hid (by have hz := HS2.out; rw [← Nat.succ_mul] at hz; exact hz)⟩
          case measure => have := hinR.out; simp [intOf]; omega
    · have d5 : decide ((i : Int) < (R : Int)) = false := by simp; omega
      have e5 : decide (i < R) = false := by simp; omega
      have hiK : i = R := by omega
      have hs0 := HS.out
      rw [hiK, List.take_of_length_le (by rw [HLN.out]; exact Nat.le_refl _)] at hs0
      have ho := hs0.own
      rw [HLN.out] at ho
      obtain ⟨b2, cap2, rfl, hR, hnl, hB2⟩ := RowY.of_own ho (Nat.mul_pos HPO.out.1 HPO.out.2.2.1)
      obtain ⟨k0, k1, k2⟩ := hs0.cells
      have HROW := Lib.hid hs0.zero
      have HR := Lib.hid hR
      have HEND := Lib.hid (show w.heap.size ≤ b2 ∧ RowY (wr.setRow w.heap.size #[.int .i64 R, .int .i64 C, .slice (some ⟨b2, 0, none⟩) (R * C) cap2]) b2 cap2 L ∧ Below w.heap.size w (wr.setRow w.heap.size #[.int .i64 R, .int .i64 C, .slice (some ⟨b2, 0, none⟩) (R * C) cap2]) from
        ⟨hB2, hR.grown (grown_setRow _ _ _) (fun e => hs0.n2 (by injection e with e; simp [Value.ownBlock, e])), below_setRow hs0.below hs0.lh _⟩)
      have HBW := Lib.hid HS.out.below
      clear ho hR hnl hB2 hs0 hiK HS hi hin
      go_wp2_with (first | (refine (HRO.out _ HBW.out).mono ?_; rintro e wx ⟨rfl, rfl⟩) | refine wpList_store_row rfl 29 (.tmp 2) (.tmp 41) rfl w.heap.size #[.int .i64 R, .int .i64 C, .slice (some ⟨b2, 0, none⟩) (R * C) cap2] rfl rfl 29 _ HROW.out gy_info rfl (gy_one R C rfl) ?_)
      exact bodyPost_ret (v := XV R C b2 (R * C) cap2) (results_cell_row (p := 2) (ty := 29) Try.results16 _ _ w.heap.size 29 _ (0, 0) _ rfl (setRow_heap _ _ _ _ _ _ HROW.out) Try.underlying29 rfl gy_info) rfl ⟨b2, cap2, rfl, HEND.out.1, HEND.out.2.1, HEND.out.2.2⟩
end Go.Proofs.Ytahmnipcdkcpiaa
