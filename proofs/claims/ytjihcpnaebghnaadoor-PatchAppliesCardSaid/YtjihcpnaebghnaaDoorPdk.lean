/-
  Proved here: of the document's patches: Base, Diff.
-/
import Derived.Test.YtjihcpnaebghnaaDoorPdi
import Derived.Test.YtjihcpnaebghnaaDoorIp
set_option linter.unusedSimpArgs false
set_option linter.unusedVariables false
namespace Go.Proofs.YtjihcpnaebghnaaDoor
open Go.RowKit
/-- A grid of the document's in block g, made since w0; its answer's place is block h. -/
structure GY (w0 : World) (h g : Nat) (R C : Nat) (v : Value) (L : List Ce) (W : World) : Prop where
  zero : W.heap[h]? = some (.cells #[.int .i64 0, .int .i64 0, .slice none 0 0] 32 (0, 0))
  blk : W.heap[g]? = some (.cells #[.int .i64 R, .int .i64 C, v] 32 (0, 0))
  own : W.ownsRow w0.heap.size 80 11 v L.length (flatY L)
  n1 : v.ownBlock ≠ some g
  n2 : v.ownBlock ≠ some h
  lh : w0.heap.size ≤ h
  lg : w0.heap.size ≤ g
  hg : h ≠ g
  below : Below w0.heap.size w0 W
section
variable {w0 : World} {h g R C : Nat} {v : Value} {L : List Ce} {W : World}
theorem GY.cells (H : GY w0 h g R C v L W) : W.cell? ⟨g, 0, none⟩ = some (.int .i64 R) ∧ W.cell? ⟨g, 1, none⟩ = some (.int .i64 C) ∧ W.cell? ⟨g, 2, none⟩ = some v := by
  refine ⟨?_, ?_, ?_⟩ <;> (unfold World.cell?; simp only [H.blk]; rfl)
theorem GY.next (H : GY w0 h g R C v L W) {W' : World} (hb : Below W.heap.size W W') : GY w0 h g R C v L W' :=
  ⟨(hb.block h (lt_of_block H.zero)).trans H.zero, (hb.block g (lt_of_block H.blk)).trans H.blk, H.own.kept ⟨hb.os, hb.tape, hb.output, hb.size, fun k hk _ => hb.block k hk⟩ (.inr (show v.ownBlock ≠ some W.heap.size from fun e => by have := (H.own.lt _ e).2; omega)), H.n1, H.n2, H.lh, H.lg, H.hg, H.below.trans (hb.mono H.below.size)⟩
/-- A cell is put behind. -/
theorem GY.app (H : GY w0 h g R C v L W) (hL : L.length ≤ 100000) {fb : Nat} {c : Ce} (hblk : W.heap[fb]? = some (.cells (yC c).toArray 80 (0, 0))) :
    ∃ v' W2, (Builtin.append_ #[30, 30] 30 #[v, .slice (some ⟨fb, 0, none⟩) 1 1]).run Tryd.prog W = .ok v' W2 ∧ W2.cell? ⟨g, 2, none⟩ = some v ∧ W2.frozen? ⟨g, 2, none⟩ = false ∧ GY w0 h g R C v' (L ++ [c]) (W2.setCell ⟨g, 2, none⟩ v') := by
  obtain ⟨v', W2, hr, ho, hgr, hat⟩ := app_y H.own hblk hL H.below.size
  have lh := lt_of_block H.zero
  have lg := lt_of_block H.blk
  have bg : W2.heap[g]? = some (.cells #[.int .i64 R, .int .i64 C, v] 32 (0, 0)) := (hgr.block g lg (fun e => H.n1 e.symm)).trans H.blk
  have bh := (hgr.block h lh (fun e => H.n2 e.symm)).trans H.zero
  have m1 : v'.ownBlock ≠ some g := by
    rcases hat with e | e
    · rw [e]; exact H.n1
    · rw [e]; intro x; injection x with x; omega
  have m2 : v'.ownBlock ≠ some h := by
    rcases hat with e | e
    · rw [e]; exact H.n2
    · rw [e]; intro x; injection x with x; omega
  refine ⟨v', W2, hr, by unfold World.cell?; simp only [bg]; rfl, frozen_of_row W2 _ 2 _ _ bg, ⟨?_, ?_, ?_, m1, m2, H.lh, H.lg, H.hg, ?_⟩⟩
  · rw [heap_setCell_other W2 _ _ v' H.hg]; exact bh
  · rw [heap_setCell_same W2 _ 2 _ _ v' bg]; rfl
  · rw [List.length_append]; exact ownsRow_setCell_other ho m1 v'
  · exact (H.below.grown hgr H.below.size (fun k e => (H.own.lt k e).1)).setCell H.lg v'
end
set_option maxRecDepth 100000 in
set_option maxHeartbeats 8000000 in
theorem rnew_yes {R C n : Nat} (hn : R * C = n) (hp : 1 ≤ R ∧ R ≤ 12 ∧ 1 ≤ C ∧ C ≤ 40) (w : World) : Calls Tryd.prog 60 #[.int .i64 R, .int .i64 C] w fun e w' => ∃ v, e = .returned (.tuple #[.agg #[.int .i64 R, .int .i64 C, v], .int .i64 0]) ∧ w'.ownsRow w.heap.size 80 11 v n (flatY (rep n blC)) ∧ Below w.heap.size w w' := by
  have h2 : n ≤ 480 := by rw [← hn]; exact Nat.mul_le_mul hp.2.1 hp.2.2.2
  have m1 : IntKind.i64.wrap ((R : Int) * (C : Int)) = (n : Int) := by rw [← Int.natCast_mul, hn]; exact IntWalk.i64_in _ (by omega)
  have d1 : decide ((R : Int) < 1) = false := by simp; omega
  have d2 : decide ((12 : Int) < (R : Int)) = false := by simp; omega
  have d3 : decide ((C : Int) < 1) = false := by simp; omega
  have d4 : decide ((40 : Int) < (C : Int)) = false := by simp; omega
  have e1 : decide (R < 1) = false := by simp; omega
  have e2 : decide (12 < R) = false := by simp; omega
  have e3 : decide (C < 1) = false := by simp; omega
  have e4 : decide (40 < C) = false := by simp; omega
  have HZ0 : Hid (GY w w.heap.size (w.heap.size + 1) R C (.slice none 0 0) (rep 0 blC) ((w.alloc (.cells #[.int .i64 0, .int .i64 0, .slice none 0 0] 32)).alloc (.cells #[.int .i64 R, .int .i64 C, .slice none 0 0] 32))) := Lib.hid
    ⟨(((Below.refl (w.alloc (.cells #[.int .i64 0, .int .i64 0, .slice none 0 0] 32)).heap.size (w.alloc (.cells #[.int .i64 0, .int .i64 0, .slice none 0 0] 32))).alloc (Nat.le_refl _) (.cells #[.int .i64 R, .int .i64 C, .slice none 0 0] 32)).block w.heap.size (by simp)).trans (heap_alloc_new w _),
     by have := heap_alloc_new (w.alloc (.cells #[.int .i64 0, .int .i64 0, .slice none 0 0] 32)) (.cells #[.int .i64 R, .int .i64 C, .slice none 0 0] 32); simpa using this,
     World.ownsRow_nil _ _ _ _, by simp [Value.ownBlock], by simp [Value.ownBlock], Nat.le_refl _, Nat.le_succ _, by omega, ((Below.refl _ _).alloc (Nat.le_refl _) _).alloc (by simp) _⟩
  clear hn hp
  go_enter Tryd.func60, Tryd.ntmps60
  go_wp2
  generalize ((w.alloc (.cells #[.int .i64 0, .int .i64 0, .slice none 0 0] 32)).alloc (.cells #[.int .i64 R, .int .i64 C, .slice none 0 0] 32)) = U at HZ0 ⊢
  go_loopw [7] (fun kv wr => ∃ i : Nat, kv = .int .i64 i ∧ i ≤ n ∧ ∃ v, Hid (GY w w.heap.size (w.heap.size + 1) R C v (rep i blC) wr)) (fun kv _ => n - (intOf kv).toNat)
  case atStart => exact ⟨0, rfl, by omega, _, HZ0⟩
  case round =>
    obtain ⟨i, rfl, hi, v, HS⟩ := hrel
    clear HZ0
    by_cases hin : i < n
    · have d5 : decide ((i : Int) < (n : Int)) = true := by simp; omega
      have e5 : decide (i < n) = true := by simp; omega
      have w1 : IntKind.i64.wrap ((i : Int) + 1) = (i : Int) + 1 := IntWalk.i64_in _ (by omega)
      have k2 := HS.out.cells.2.2
      have hb : Below wr.heap.size wr (wr.alloc (.cells #[.int .i32 32, .bool false, .bool false, .bool false, .bool false, .bool false, .bool false, .bool false, .bool false, .int .u32 0, .int .u32 0] 80)) := (Below.refl _ _).alloc (Nat.le_refl _) _
      obtain ⟨v', W2, hr, k3, fz, H2⟩ := (HS.out.next hb).app (by rw [rep_len]; omega) (fb := wr.heap.size) (c := blC) (by rw [yC_bl]; exact heap_alloc_new _ _)
      rw [rep_more] at H2
      obtain ⟨A', n', c', rfl⟩ := own_form H2.own
      have HS2 := Lib.hid H2
      clear H2 HS hb
      go_wp2_with (at_builtin; refine wpList_appY rfl (.tmp 34) (.tmp 36) _ rfl v _ rfl rfl hr ?_)
      go_roundw
      case rel => exact ⟨i + 1, by go_num, by omega, _, HS2⟩
      case measure => simp [intOf]; omega
    · have d5 : decide ((i : Int) < (n : Int)) = false := by simp; omega
      have e5 : decide (i < n) = false := by simp; omega
      have hiK : i = n := by omega
      obtain ⟨k0, k1, k2⟩ := HS.out.cells
      have HROW := Lib.hid HS.out.zero
      have HON := Lib.hid (gy_one R C (own_one HS.out.own))
      have HEND := Lib.hid (show (wr.setRow w.heap.size #[.int .i64 R, .int .i64 C, v]).ownsRow w.heap.size 80 11 v n (flatY (rep n blC)) ∧ Below w.heap.size w (wr.setRow w.heap.size #[.int .i64 R, .int .i64 C, v]) from by
        have hx := HS.out
        rw [hiK] at hx
        have ho := hx.own
        rw [rep_len] at ho
        exact ⟨ho.kept (grown_setRow wr w.heap.size _) (.inr hx.n2), below_setRow hx.below hx.lh _⟩)
      clear HS hiK hi
      go_wp2_with (refine wpList_store_row rfl 32 (.tmp 4) (.tmp 39) rfl w.heap.size #[.int .i64 R, .int .i64 C, v] rfl rfl 32 _ HROW.out gy_info rfl HON.out ?_)
      exact bodyPost_ret (results_cell_tmp Tryd.results60 _ _ w.heap.size 32 _ (0, 0) _ (.int .i64 0) rfl rfl (setRow_heap _ _ _ _ _ _ HROW.out) Tryd.underlying32 rfl gy_info) rfl ⟨v, rfl, HEND.out⟩

theorem CY.of_rowY {W : World} {b cap : Nat} {L : List Ce} (h : RowY W b cap L) : CY W (some ⟨b, 0, none⟩) L := fun _ => ⟨b, rfl, h.yr⟩
set_option maxRecDepth 100000 in
set_option maxHeartbeats 8000000 in
theorem r_base {w : World} {X : Option Addr} {na ca : Nat} {La : List Ce} (h : CY w X La) (hl : La.length = na) (Ra Ca rowa cola : Int) (visa : Bool) {R C : Nat} (hp : 1 ≤ R ∧ R ≤ 12 ∧ 1 ≤ C ∧ C ≤ 40) :
    Calls Tryd.prog 31 #[.agg #[.int .i64 Ra, .int .i64 Ca, .slice X na ca, .int .i64 rowa, .int .i64 cola, .bool visa], .int .i64 R, .int .i64 C] w fun e w' => ∃ A2 n2 c2, e = .returned (.slice A2 n2 c2) ∧ (baseL Ra Ca La R C).length = n2 ∧ CY w' A2 (baseL Ra Ca La R C) ∧ Below w.heap.size w w' := by
  have HB0 := (Below.refl w.heap.size w).alloc (Nat.le_refl _) (.cells #[.int .i64 Ra, .int .i64 Ca, .slice X na ca, .int .i64 rowa, .int .i64 cola, .bool visa] 34)
  have HC0 := heap_alloc_new w (.cells #[.int .i64 Ra, .int .i64 Ca, .slice X na ca, .int .i64 rowa, .int .i64 cola, .bool visa] 34)
  have HCY := Lib.hid (h.below HB0)
  have HL := Lib.hid hl
  have HP := Lib.hid hp
  obtain ⟨vb, hvb⟩ : ∃ b, w.heap.size = b := ⟨_, rfl⟩
  clear h hl hp
  go_enter Tryd.func31, Tryd.ntmps31
  go_upto_region 1 with fail
  simp only [hvb] at HC0 ⊢
  generalize (w.alloc (.cells #[.int .i64 Ra, .int .i64 Ca, .slice X na ca, .int .i64 rowa, .int .i64 cola, .bool visa] 34)) = U at HB0 HC0 HCY ⊢
  have HB := Lib.hid HB0
  obtain ⟨x0, x1, x2, x3, x4, x5⟩ := six_cells HC0
  clear HB0 HC0 hvb
  by_cases he : Ra = (R : Int) ∧ Ca = (C : Int)
  · obtain ⟨rfl, rfl⟩ := he
    have HBL9 := Lib.hid (show La = baseL (R : Int) (C : Int) La R C from by unfold baseL; rw [if_pos ⟨rfl, rfl⟩])
    go_wp2
    go_ret
    exact ⟨X, na, ca, rfl, HBL9.out ▸ HL.out, HBL9.out ▸ HCY.out, HB.out⟩
  · have HBL9 := Lib.hid (show rep (R * C) blC = baseL Ra Ca La R C from by unfold baseL; rw [if_neg he])
    have HGO : ∀ (Z : Bool × Bool), (decide (Ra = (R : Int)), decide (Ca = (C : Int))) = Z → Z ≠ (true, true) := fun Z hz e => by
      subst e
      have e1 := congrArg Prod.fst hz
      have e2 := congrArg Prod.snd hz
      exact he ⟨by simpa using e1, by simpa using e2⟩
    obtain ⟨z1, hz1⟩ : ∃ z, decide (Ra = (R : Int)) = z := ⟨_, rfl⟩
    obtain ⟨z2, hz2⟩ : ∃ z, decide (Ca = (C : Int)) = z := ⟨_, rfl⟩
    have hz1' : (Ra == (R : Int)) = z1 := by rw [← hz1]; exact (Bool.eq_iff_iff).2 (by simp)
    have hz2' : (Ca == (C : Int)) = z2 := by rw [← hz2]; exact (Bool.eq_iff_iff).2 (by simp)
    have HZ := Lib.hid (HGO (z1, z2) (by rw [hz1, hz2]))
    clear HGO he
    cases z1 <;> cases z2
    case true.true => exact absurd rfl HZ.out
    all_goals
      go_wp2_with fail
      refine (rnew_yes rfl HP.out _).mono ?_
      rintro e w1 ⟨v, rfl, ho, hb⟩
      have hpos : 1 ≤ R * C := Nat.mul_pos HP.out.1 HP.out.2.2.1
      obtain ⟨b2, cap2, rfl, hr, hn, _⟩ := RowY.of_own ho hpos
      have hba := (Below.refl w1.heap.size w1).alloc (Nat.le_refl _) (.cells #[.int .i64 (R : Int), .int .i64 (C : Int), .slice (some ⟨b2, 0, none⟩) (R * C) cap2] 32)
      obtain ⟨nn, hnn⟩ : ∃ n, R * C = n := ⟨_, rfl⟩
      rw [hnn] at hba hn hr HBL9
      rw [hnn]
      have HE := Lib.hid (show (baseL Ra Ca La R C).length = nn ∧ CY (w1.alloc (.cells #[.int .i64 (R : Int), .int .i64 (C : Int), .slice (some ⟨b2, 0, none⟩) nn cap2] 32)) (some ⟨b2, 0, none⟩) (baseL Ra Ca La R C) ∧ Below w.heap.size w (w1.alloc (.cells #[.int .i64 (R : Int), .int .i64 (C : Int), .slice (some ⟨b2, 0, none⟩) nn cap2] 32)) from ⟨by rw [← HBL9.out, rep_len], by rw [← HBL9.out]; exact CY.of_rowY (hr.below hba), HB.out.trans ((hb.trans (hba.mono hb.size)).mono HB.out.size)⟩)
      clear ho hb hr hn hba hpos hnn x0 x1 x2 x3 x4 x5
      go_wp2
      go_ret
      exact ⟨_, _, _, rfl, HE.out⟩
/-- Two rows of bytes of this call's own, apart. -/
structure Two8 (w : World) (u v : Value) (xs ys : List Int) (W : World) : Prop where
  a : Own8 w u xs W
  b : Own8 w v ys W
  ne : ∀ k, u.ownBlock = some k → v.ownBlock ≠ some k
theorem Two8.to {w W W' : World} {u v : Value} {xs ys : List Int} (h : Two8 w u v xs ys W) (hb : Below W.heap.size W W') : Two8 w u v xs ys W' := ⟨h.a.to hb, h.b.to hb, h.ne⟩
theorem Two8.symm {w W : World} {u v : Value} {xs ys : List Int} (h : Two8 w u v xs ys W) : Two8 w v u ys xs W := ⟨h.b, h.a, fun k e f => h.ne k f e⟩
theorem app_hat {W : World} {base : Nat} {v : Value} {n : Nat} {xs : List Int} {A : Option Addr} {ys : List Int} {m : Nat} (hm : ys.length = m) (c : Nat) (hR : RI .u8 W A ys) (hA : A = none → c = 0) (hown : W.ownsRow base 5 1 v n (NV .u8 xs)) (hn : n + m ≤ 100000) (hb : base ≤ W.heap.size) :
    ∃ v' w', (Builtin.append_ #[25, 25] 25 #[v, .slice A m c]).run Tryd.prog W = .ok v' w' ∧ w'.ownsRow base 5 1 v' (n + m) (NV .u8 (xs ++ ys)) ∧ W.grownBy w' v.ownBlock ∧ (v'.ownBlock = v.ownBlock ∨ v'.ownBlock = some W.heap.size) := by
  subst hm
  obtain ⟨i0, hi, hz0, hz1, hz2⟩ := info_parts info_u8
  rcases A with _ | ad
  · have h0 : ys.length = 0 := by
      rcases Nat.eq_zero_or_pos ys.length with h | h
      · exact h
      · obtain ⟨_, _, h, _⟩ := hR h
        cases h
    obtain rfl : ys = [] := List.eq_nil_of_length_eq_zero h0
    obtain rfl := hA rfl
    exact ⟨_, W, run_append_owned_none (P := Tryd.prog) (w := W) base 25 25 5 i0 1 Tryd.underlying25 hi _ n _ hown, by simpa using hown, World.grownBy.refl _ _, .inl rfl⟩
  · obtain ⟨v', w', hr, ho, hg, _, hat⟩ := run_append_own_at (P := Tryd.prog) W base 25 25 5 i0 _ 1 1 Tryd.underlying25 hi hz0 hz1 hz2 rfl (by decide) v n (NV .u8 xs) hown ad ys.length c (NV .u8 ys) (by simp [NV]) hR.cells
      (fun u hu => by obtain ⟨x, _, rfl⟩ := List.mem_map.1 hu; rfl) (by unfold maxLen; omega) (by omega) hb
    exact ⟨v', w', hr, by simpa [NV] using ho, hg, hat⟩
/-- Bytes are put behind the first row. -/
theorem Two8.app {w W : World} {u v z : Value} {xs ys zs : List Int} (h : Two8 w u v xs ys W) (hz : ∃ A c, z = .slice A zs.length c ∧ (A = none → c = 0) ∧ RI .u8 W A zs) (hn : xs.length + zs.length ≤ 100000) :
    ∃ A c W', (Builtin.append_ #[25, 25] 25 #[u, z]).run Tryd.prog W = .ok (.slice A (xs.length + zs.length) c) W' ∧ Two8 w (.slice A (xs.length + zs.length) c) v (xs ++ zs) ys W' ∧ W.grownBy W' u.ownBlock := by
  obtain ⟨A0, c0, rfl, hA, hR⟩ := hz
  obtain ⟨u', W', r, o, g, hat⟩ := app_hat (ys := zs) rfl c0 hR hA h.a.own (by omega) h.a.below.size
  obtain ⟨A, c, rfl, _⟩ := own_slice o
  have hbl := h.a.below.grown g h.a.below.size (ownBlock_le h.a.own)
  refine ⟨A, c, W', r, ⟨⟨own_cast o (by simp) rfl, hbl⟩, ⟨h.b.own.kept g (by
    cases hv : v.ownBlock with
    | none => exact .inl rfl
    | some k => exact .inr (fun e => h.ne k e.symm hv)), hbl⟩, ?_⟩, g⟩
  · intro k hk e
    rcases hat with h1 | h1
    · rw [h1] at hk; exact h.ne k hk e
    · rw [h1] at hk
      injection hk with hk
      have := own_block_lt h.b.own k e
      omega
end Go.Proofs.YtjihcpnaebghnaaDoor
