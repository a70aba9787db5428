/-
  Proved here: the document's own 'With' answers the sum of a text, in memory of its own, if it is handed the 64 constants and the state of nothing.
-/
import Derived.Test.YtakfcdemoaogfaaDoorRInto
import Derived.Test.YtakfcdemoaogfaaDoorRWith0
import Derived.Test.YtakfcdemoaogfaaDoorRMul
namespace Go.Proofs.YtakfcdemoaogfaaDoor
open Go.RowKit
theorem slice_mid {a : Addr} {bs : List Nat} {n c i : Nat} (w : World) (hl : bs.length = n) (h : R0 w (some a) bs) (hn : n ≤ c) {j : Nat} (hj : j = i + 64) (hi : i + 64 ≤ n) : ∃ A', R0 w A' ((bs.drop i).take 64) ∧ ∀ W : World, (Instr.slice 22 (.slice (some a) n c) (some (.int .i64 (i : Int))) (some (.int .i64 (j : Int))) none).run Tryd.prog W = .ok (.slice A' 64 (c - i)) W := by
  have h1 : (i : Int) ≤ (j : Int) := by omega
  have h2 : (j : Int) ≤ (c : Int) := by omega
  have h3 : j - i = 64 := by omega
  refine ⟨some (if c = i then a else a.add i), fun hp => ?_, fun W => ?_⟩
  · obtain ⟨b, off, e, hb, hc⟩ := h (by omega)
    obtain rfl := Option.some.inj e
    have ha : (⟨b, off, none⟩ : Addr).add i = ⟨b, off + i, none⟩ := by unfold Addr.add; split <;> simp_all
    rw [if_neg (by omega), ha]
    refine ⟨b, off + i, rfl, hb, fun q hq => ?_⟩
    have hj' : q < 64 := by simp at hq; omega
    rw [show off + i + q = off + (i + q) by omega, hc (i + q) (by omega)]
    simp [List.getD_eq_getElem?_getD, hj']
  · simp [Instr.slice, run_underlying Tryd.underlying22, Instr.sliceBounds, run_sliceBound, h1, h2, h3]
    split <;> rfl
theorem wpList_runR {P : Program} (w : World) {ops : Array Oper} {rest : List Oper} {o : Oper} {a : Act} {Q : Exit → Act → World → Prop} (hgd : o.guard = none) (s x : Operand) (t tn : TypeId)
    (ho : o.op = .call { callee := .builtin .append, args := #[s, x], argTypes := #[t, tn] }) (vs vx : Value) (hs : a.eval s = vs) (hx : a.eval x = vx)
    (v' : Value) (w' : World) (hr : (Builtin.append_ #[t, tn] o.type #[vs, vx]).run P w = .ok v' w') (h : wpList P ops Q rest (a.put o.dst v') w') : wpList P ops Q (o :: rest) a w :=
  wpList_plain hgd fun _ hK => by
    unfold Oper.wp execOp
    simp only [ho, resolve, invoke, builtin, Sem.run_bind, Sem.run_pure, Result.andThen_ok, List.map_toArray, List.map_cons, List.map_nil, hs, hx, hr]
    exact hK _ _ h
theorem iv_ok : Ok8 iv := by unfold Ok8 iv; decide
theorem stN_ok (T : List Nat) : ∀ j, Ok8 (stN T j)
  | 0 => iv_ok
  | _ + 1 => Ok8.plus _ _
theorem Ok8.at {s : S8} (h : Ok8 s) (k : Nat) : s.list.getD k 0 < 4294967296 := by
  obtain ⟨h0, h1, h2, h3, h4, h5, h6, h7⟩ := h
  match k with
  | 0 => exact h0
  | 1 => exact h1
  | 2 => exact h2
  | 3 => exact h3
  | 4 => exact h4
  | 5 => exact h5
  | 6 => exact h6
  | 7 => exact h7
  | k + 8 => simp [S8.list]
theorem drop_lt {l : List Nat} (h : ∀ j, l.getD j 0 < 256) (i n j : Nat) : ((l.drop i).take n).getD j 0 < 256 := by
  have := h (i + j)
  simp only [List.getD_eq_getElem?_getD, List.getElem?_take, List.getElem?_drop] at this ⊢
  split
  · exact this
  · simp
theorem app_lt8 {a b : List Nat} (ha : ∀ j, a.getD j 0 < 256) (hb : ∀ j, b.getD j 0 < 256) (j : Nat) : (a ++ b).getD j 0 < 256 := by
  by_cases h : j < a.length
  · have := ha j
    simpa [List.getD_eq_getElem?_getD, List.getElem?_append_left h] using this
  · have := hb (j - a.length)
    simpa [List.getD_eq_getElem?_getD, List.getElem?_append_right (Nat.le_of_not_lt h)] using this
theorem mem_lt8 {a : List Nat} (h : ∀ x ∈ a, x < 256) (j : Nat) : a.getD j 0 < 256 := by
  by_cases hj : j < a.length
  · have := h _ (List.getElem_mem hj)
    simpa [List.getD_eq_getElem?_getD, hj] using this
  · simp [List.getD_eq_getElem?_getD, List.getElem?_eq_none (Nat.le_of_not_lt hj)]
theorem be_lt (m : Nat) : ∀ k, ∀ x ∈ be m k, x < 256
  | 0, x, h => by simp [be] at h
  | k + 1, x, h => by
    rw [be] at h
    rcases List.mem_append.1 h with h | h
    · exact be_lt m k x h
    · simp at h; subst h; unfold byt; omega
theorem text_lt {bs : List Nat} (h : ∀ j, bs.getD j 0 < 256) (n : Nat) (j : Nat) : (bs ++ fillS n).getD j 0 < 256 := by
  refine app_lt8 h (mem_lt8 fun x hx => ?_) j
  unfold fillS at hx
  rcases List.mem_cons.1 hx with rfl | hx
  · omega
  · rcases List.mem_append.1 hx with hx | hx
    · rw [List.eq_of_mem_replicate hx]; omega
    · exact be_lt _ _ x hx
/-- The text's row, while it is made longer. -/
structure AW (w : World) (l : List Nat) (n g cap : Nat) (W : World) : Prop where
  own : W.ownsRow w.heap.size 5 1 (.slice (some ⟨g, 0, none⟩) n cap) n (V8 l)
  len : l.length = n
  below : Below w.heap.size w W
theorem AW.next {w : World} {l : List Nat} {n g cap x g' cap' : Nat} {W W1 : World} {o : Obj} (h : AW w l n g cap W) (hown : W1.ownsRow w.heap.size 5 1 (.slice (some ⟨g', 0, none⟩) (n + 1) cap') (n + 1) (V8 l ++ [.int .u8 (x : Int)])) (hgrow : (W.alloc o).grownBy W1 (some g)) : AW w (l ++ [x]) (n + 1) g' cap' W1 :=
  ⟨by rw [V8_append]; exact hown, by simp [h.len], (h.below.alloc h.below.size o).grown hgrow (by have := h.below.size; simp; omega) (fun k hk => by cases hk; exact own_le h.own g rfl)⟩
set_option maxRecDepth 100000 in
set_option maxHeartbeats 4000000 in
theorem with_any (bs : List Nat) (B K S : Option Addr) (cb ck cs : Nat) (w : World) (hB : R0 w B bs) (hnB : B = none → cb = 0) (hcb : bs.length ≤ cb) (hb : ∀ j, bs.getD j 0 < 256) (hl : bs.length ≤ 1000) (hK : RN .u32 w K kk) (hS : RN .u32 w S iv.list) :
    Calls Tryd.prog 29 #[.slice B bs.length cb, .slice K 64 ck, .slice S 8 cs] w fun e w' => ∃ v, e = .returned v ∧ w'.ownsRow w.heap.size 5 1 v 32 (V8 (sumS bs)) ∧ Below w.heap.size w w' := by
  obtain ⟨i0, hi, hz0, hz1, hz2⟩ := info_parts infoByte
  obtain ⟨v1, w1, hr1, ho1, hg1⟩ := app8 w.heap.size (.slice none 0 0) [] bs 0 bs.length B cb w (World.ownsRow_nil _ _ _ _) (Nat.le_refl _) hB rfl hnB hcb (by omega)
  rw [List.nil_append, Nat.zero_add] at ho1
  have hb1 : Below w.heap.size w w1 := (Below.refl _ _).grown hg1 (Nat.le_refl _) (fun k hk => by simp [Value.ownBlock] at hk)
  have HR1 := Lib.hid hr1
  have HO1 := Lib.hid ho1
  have HB1 := Lib.hid hb1
  have HS := Lib.hid (show sumS bs = outR (stN (bs ++ fillS bs.length) ((bs ++ fillS bs.length).length / 64)).list from outS_outR _)
  have HBY := Lib.hid hb
  have HK := Lib.hid hK
  have HSS := Lib.hid hS
  have hbs1 := hb1.size
  generalize sumS bs = R at HS ⊢
  obtain ⟨n, hn⟩ : ∃ n, bs.length = n := ⟨_, rfl⟩
  rw [hn] at HR1 HO1 HS hl ⊢
  have HN := Lib.hid hn
  clear hB hnB hcb hb hK hS hr1 ho1 hg1 hb1 hn
  go_enter Tryd.func29, Tryd.ntmps29
  go_upto_region 3 with (at_builtin; refine wpList_runR _ rfl _ _ 22 22 rfl _ _ rfl rfl _ _ HR1.out ?_)
  go_wp2_with (at_builtin; refine wpList_append_lies _ rfl _ _ 22 rfl w.heap.size 5 i0 (.int .u8 0) 1 1 Tryd.underlying22 hi hz0 hz1 hz2 rfl (by decide) _ _ _ rfl (HO1.out.alloc _) ⟨w1.heap.size, 0, none⟩ 1 1 [.int .u8 128] rfl rfl ?c1 ?c2 (by decide) ?c3 ?c4 ?c5 (w1.heap.size + 1) (by simp) ?_)
  case c1 =>
    intro q u hq
    match q, hq with
    | 0, hq => simp at hq; subst hq; simp [Addr.add]
  case c2 => intro u hu; simp at hu; subst hu; rfl
  case c3 => unfold maxLen; omega
  case c4 => omega
  case c5 => simp; omega
  intro g0 cap0 w2 hown2 hgrow2 _ _
  have H0 := Lib.hid (show AW w (bs ++ 128 :: List.replicate 0 0) (n + 1) g0 cap0 w2 from ⟨by rw [List.replicate_zero, V8_append]; exact hown2, by simp [HN.out], (HB1.out.alloc hbs1 _).grown hgrow2 (by simp; omega) (own_le HO1.out)⟩)
  clear hown2 hgrow2 HR1 HO1 HB1 hbs1
  go_wp2
  go_loopw [7] (fun v wr => ∃ (m N g cap : Nat), m ≤ noughts n ∧ n + 1 + m = N ∧ v = .slice (some ⟨g, 0, none⟩) N cap ∧ Hid (AW w (bs ++ 128 :: List.replicate m 0) N g cap wr)) (fun v _ => noughts n + n + 1 - lenV v)
  case atStart => exact ⟨0, n + 1, g0, cap0, by omega, by omega, rfl, H0⟩
  case round =>
    obtain ⟨m, N, g, cap, hm, hN, rfl, HA⟩ := hrel
    clear H0
    by_cases hlt : m < noughts n
    · have hd : (((N : Int) % 64) != 56) = true := by
        unfold noughts at hlt hm
        simp only [bne_iff_ne, ne_eq]
        omega
      have hA := HA.out
      have hbs := hA.below.size
      have hm64 : noughts n < 64 := by unfold noughts; omega
      clear hA
      go_wp2_with (at_builtin; refine wpList_append_lies _ rfl _ _ 22 rfl w.heap.size 5 i0 (.int .u8 0) 1 1 Tryd.underlying22 hi hz0 hz1 hz2 rfl (by decide) _ _ _ rfl (HA.out.own.alloc _) ⟨wr.heap.size, 0, none⟩ 1 1 [.int .u8 0] rfl rfl ?c1 ?c2 (by decide) ?c3 ?c4 ?c5 (wr.heap.size + 1) (by simp) ?_)
      case c1 =>
        intro q u hq
        match q, hq with
        | 0, hq => simp at hq; subst hq; simp [Addr.add]
      case c2 => intro u hu; simp at hu; subst hu; rfl
      case c3 => unfold maxLen; omega
      case c4 => omega
      case c5 => simp; omega
      · intro g' cap' w3 hown3 hgrow3 _ _
        have HN3 := Lib.hid (HA.out.next (x := 0) hown3 hgrow3)
        rw [List.append_assoc, List.cons_append, ← List.replicate_succ'] at HN3
        clear hown3 hgrow3 HA hd
        go_wp2
        go_roundw
        case rel => exact ⟨m + 1, N + 1, g', cap', by omega, by omega, rfl, HN3⟩
        case measure => simp [lenV]; omega
    · obtain rfl : m = noughts n := by omega
      have hd : (((N : Int) % 64) != 56) = false := by
        unfold noughts at hN
        simp only [bne_eq_false_iff_eq]
        omega
      have hm64 : noughts n < 64 := by unfold noughts; omega
      have hq64 : 64 * ((N + 8) / 64) = N + 8 := by unfold noughts at hN; omega
      have hNb : N ≤ 1100 := by omega
      obtain ⟨m8, hm8⟩ : ∃ q, n * 8 = q := ⟨_, rfl⟩
      have hm8b : m8 ≤ 8000 := by omega
      have u0 : IntKind.u64.wrap (n : Int) = (n : Int) := IntWalk.u64_in _ (by omega)
      have u1 : IntKind.u64.wrap (8 * (n : Int)) = (m8 : Int) := by rw [show 8 * (n : Int) = (m8 : Int) by omega]; exact IntWalk.u64_in _ (by omega)
      have HF := Lib.hid (show bs ++ fillS n = (bs ++ 128 :: List.replicate (noughts n) 0) ++ be m8 8 by unfold fillS; rw [hm8, List.append_assoc, List.cons_append])
      have HA2 := Lib.hid HA.out.own
      have HAB := Lib.hid HA.out.below
      have HAL := Lib.hid HA.out.len
      obtain ⟨wA, rfl⟩ : ∃ W, W = wr := ⟨_, rfl⟩
      have H1 := Lib.hid (show wA.ownsRow wA.heap.size 5 1 (.slice none 0 0) 0 (V8 (beR m8 0)) ∧ Below wA.heap.size wA wA from ⟨World.ownsRow_nil _ _ _ _, Below.refl _ _⟩)
      clear HA hN hm hlt hm8
      go_wp2
      go_loopw [8, 9, 10] (fun x z i W => ∃ (k q : Nat), k ≤ 8 ∧ i = .int .i64 k ∧ x = .int .u64 (q : Int) ∧ q ≤ 8000 ∧ Hid (q = m8 / 256 ^ k) ∧ Hid (W.ownsRow wA.heap.size 5 1 z k (V8 (beR m8 k)) ∧ Below wA.heap.size wA W)) (fun _ _ i _ => 8 - (intOf i).toNat)
      case atStart => exact ⟨0, m8, by omega, rfl, rfl, hm8b, Lib.hid (by simp), H1⟩
      case round =>
        obtain ⟨k, q, hk, rfl, rfl, hq8, HQ, HZ⟩ := hrel
        clear H1 u0 u1
        obtain ⟨Az, cz, rfl, z1, z2, z3, z4, _⟩ := own_r8 HZ.out.1
        by_cases hlk : k < 8
        · obtain ⟨y, hy⟩ : ∃ y, q % 256 = y := ⟨_, rfl⟩
          obtain ⟨q2, hq2⟩ : ∃ y, q / 256 = y := ⟨_, rfl⟩
          have r1 : (q : Int) % 256 = (y : Int) := by omega
          have r2 : IntKind.u8.wrap (y : Int) = (y : Int) := IntWalk.u8_in _ (by omega)
          have r3 : (q : Int) / 256 = (q2 : Int) := by omega
          have hzs := HZ.out.2.size
          obtain ⟨v3, w3, hr3, ho3, hg3⟩ := app8 wA.heap.size (.slice (some ⟨wr.heap.size, 0, none⟩) 1 1) [y] (beR m8 k) 1 k Az cz (wr.alloc (.cells #[.int .u8 (y : Int)] 5)) (World.ownsRow_lit wr #[.int .u8 (y : Int)] 1 hzs (by unfold maxLen; omega) rfl) (by simp; omega) (z1.to ((Below.refl _ _).alloc (Nat.le_refl _) _)) (length_beR _ _) z4 z2 (by omega)
          have hb3 : Below wA.heap.size wA w3 := (HZ.out.2.alloc hzs _).grown hg3 (by simp; omega) (fun g hg => by cases hg; exact hzs)
          have HR3 := Lib.hid hr3
          have HQ2 := Lib.hid (show q2 = m8 / 256 ^ (k + 1) by rw [← hq2, HQ.out, Nat.div_div_eq_div_mul, Nat.pow_succ])
          have HZ2 := Lib.hid (show w3.ownsRow wA.heap.size 5 1 v3 (k + 1) (V8 (beR m8 (k + 1))) ∧ Below wA.heap.size wA w3 from ⟨by rw [Nat.add_comm k 1, Nat.add_comm 1 k, beR, ← HQ.out, hy, Nat.add_comm k 1]; exact ho3, hb3⟩)
          have hq28 : q2 ≤ 8000 := by omega
          clear hr3 ho3 hg3 hb3 hy hq2 HQ HZ z1 z2 z3 z4
          go_wp2_with (at_builtin; refine wpList_runR _ rfl _ _ 22 22 rfl _ _ rfl rfl _ _ HR3.out ?_)
          go_wp2
          go_roundw
          case rel => exact ⟨k + 1, q2, by omega, by go_num, rfl, hq28, HQ2, HZ2⟩
          case measure => simp [intOf]; omega
        · obtain rfl : k = 8 := by omega
          rw [beR_eight] at z1
          have hb8 : (be m8 8).length = 8 := length_be _ _
          obtain ⟨v4, w4, hr4, ho4, hg4⟩ := app8 w.heap.size (.slice (some ⟨g, 0, none⟩) N cap) (bs ++ 128 :: List.replicate (noughts n) 0) (be m8 8) N 8 Az cz wr (own_below' HA2.out HZ.out.2) (Nat.le_trans HAB.out.size HZ.out.2.size) z1 hb8 z4 z2 (by omega)
          rw [← HF.out] at ho4
          have hbT : Below w.heap.size w w4 := (HAB.out.trans (HZ.out.2.mono HAB.out.size)).grown hg4 (Nat.le_trans HAB.out.size HZ.out.2.size) (fun x hx => by cases hx; exact own_le HA2.out g rfl)
          obtain ⟨At, ct, rfl, t1, t2, t3, _, _⟩ := own_r8 ho4
          have hTl : (bs ++ fillS n).length = N + 8 := by have := ho4.1; simpa using this
          have hTb : ∀ j, (bs ++ fillS n).getD j 0 < 256 := text_lt HBY.out n
          generalize bs ++ fillS n = T at t1 hTl hTb HS
          have HR4 := Lib.hid hr4
          have HBT := Lib.hid hbT
          have HT := Lib.hid (And.intro t1 (And.intro hTl hTb))
          obtain ⟨L, hL⟩ : ∃ L, N + 8 = L := ⟨_, rfl⟩
          rw [hL] at HR4 t2 HT hq64
          have hL2 : L ≤ 2000 := by omega
          clear hr4 ho4 hg4 hbT hTl hTb HZ HF HA2 HAB HAL HQ z1 z2 z3 z4 t1 hb8 hL hd
          rw [show ((8 : Nat) : Int) = (8 : Int) from rfl]
          go_wp2_with (at_builtin; refine wpList_runR _ rfl _ _ 22 22 rfl _ _ rfl rfl _ _ HR4.out ?_)
          have H3 := Lib.hid (show RN .u32 w4 S (stN T 0).list ∧ Below w4.heap.size w4 w4 from ⟨HSS.out.to HBT.out, Below.refl _ _⟩)
          clear HR4
          go_wp2
          go_loopw [11, 12] (fun v i W => ∃ (j i' : Nat) (Av : Option Addr) (cv : Nat), 64 * j = i' ∧ i' ≤ L ∧ i = .int .i64 i' ∧ v = .slice Av 8 cv ∧ Hid (RN .u32 W Av (stN T j).list ∧ Below w4.heap.size w4 W)) (fun _ i _ => L - (intOf i).toNat)
          case atStart => exact ⟨0, 0, S, cs, by omega, by omega, rfl, rfl, H3⟩
          case round =>
            obtain ⟨j, i, Av, cv, hji, hiL, rfl, rfl, HV⟩ := hrel
            clear H3
            by_cases hil : i < L
            · have hi64 : i + 64 ≤ L := by omega
              obtain ⟨at_, rfl⟩ : ∃ a, At = some a := by
                obtain ⟨b, off, e, _⟩ := HT.out.1 (by rw [HT.out.2.1]; omega)
                exact ⟨_, e⟩
              obtain ⟨i2, hi2⟩ : ∃ y, i + 64 = y := ⟨_, rfl⟩
              obtain ⟨A', hA', hsl⟩ := slice_mid (j := i2) (i := i) (c := ct) wr HT.out.2.1 (HT.out.1.to HV.out.2) t2 hi2.symm hi64
              have a1 : IntKind.i64.wrap ((i : Int) + 64) = (i2 : Int) := by rw [show (i : Int) + 64 = (i2 : Int) by omega]; exact IntWalk.i64_in _ (by omega)
              have a2 : (i : Int) + 64 = (i2 : Int) := by omega
              have HC := Lib.hid (rinto_any (stN T j) ((T.drop i).take 64) Av A' K cv (ct - i) ck wr HV.out.1 (stN_ok T j) hA' (by simp [HT.out.2.1]; omega) (drop_lt HT.out.2.2 i 64) ((HK.out.to HBT.out).to HV.out.2))
              have HST := Lib.hid (show stN T (j + 1) = goIntoS (stN T j) ((T.drop i).take 64) by rw [stN, hji])
              rw [← HST.out] at HC
              clear hA'
              go_wp2_with fail
              refine HC.out.mono ?_
              rintro e w6 ⟨g6, c6, rfl, _, _, _, h6, hb6⟩
              have HV2 := Lib.hid (show RN .u32 w6 (some ⟨g6, 0, none⟩) (stN T (j + 1)).list ∧ Below w4.heap.size w4 w6 from ⟨h6, HV.out.2.trans (hb6.mono HV.out.2.size)⟩)
              clear h6 hb6 HC HV hsl
              go_wp2
              go_roundw
              case rel => exact ⟨j + 1, i2, _, _, by omega, by omega, by go_num, rfl, HV2⟩
              case measure => simp [intOf]; omega
            · obtain rfl : i = L := by omega
              have hj : j = T.length / 64 := by rw [HT.out.2.1]; omega
              rw [← hj] at HS
              have HOK := Lib.hid (stN_ok T j)
              generalize stN T j = st at HV HS HOK
              obtain ⟨gv, ov, rfl, hgv, hcv⟩ := HV.out.1 (by simp [S8.list])
              obtain ⟨wV, rfl⟩ : ∃ W, W = wr := ⟨_, rfl⟩
              have HVC := Lib.hid hcv
              have HVB := Lib.hid (HBT.out.trans (HV.out.2.mono HBT.out.size))
              have H4 := Lib.hid (show wV.ownsRow wV.heap.size 5 1 (.slice none 0 0) 0 (V8 (outR (st.list.take 0))) ∧ Below wV.heap.size wV wV from ⟨World.ownsRow_nil _ _ _ _, Below.refl _ _⟩)
              clear HV hcv hj HBT HSS HK HT
              go_wp2
              go_loopw [13, 14] (fun z i W => ∃ k : Nat, k ≤ 8 ∧ i = .int .i64 k ∧ Hid (W.ownsRow wV.heap.size 5 1 z (4 * k) (V8 (outR (st.list.take k))) ∧ Below wV.heap.size wV W)) (fun _ i _ => 8 - (intOf i).toNat)
              case atStart => exact ⟨0, by omega, rfl, H4⟩
              case round =>
                obtain ⟨k, hk8, rfl, HZ⟩ := hrel
                clear H4
                have hl8 : st.list.length = 8 := rfl
                by_cases hlk : k < 8
                · have c0 : wV.cell? ⟨gv, ov + k, none⟩ = some (.int .u32 (st.list.getD k 0 : Nat)) := HVC.out k (by omega)
                  have HOT := Lib.hid (outR_take st.list k (by omega))
                  have lx := Ok8.at HOK.out k
                  generalize st.list.getD k 0 = x at c0 HOT lx
                  have hy0 : by0 x = x / 16777216 % 256 := rfl
                  have hy1 : by1 x = x / 65536 % 256 := rfl
                  have hy2 : by2 x = x / 256 % 256 := rfl
                  have hy3 : by3 x = x % 256 := rfl
                  generalize by0 x = y0 at HOT hy0
                  generalize by1 x = y1 at HOT hy1
                  generalize by2 x = y2 at HOT hy2
                  generalize by3 x = y3 at HOT hy3
                  obtain ⟨p0, hp0⟩ : ∃ p, x / 16777216 = p := ⟨_, rfl⟩
                  obtain ⟨p1, hp1⟩ : ∃ p, x / 65536 = p := ⟨_, rfl⟩
                  obtain ⟨p2, hp2⟩ : ∃ p, x / 256 = p := ⟨_, rfl⟩
                  have e0 : IntKind.u32.wrap ((x : Int) / 16777216) = (p0 : Int) := by rw [show (x : Int) / 16777216 = (p0 : Int) by omega]; exact IntWalk.u32_in _ (by omega)
                  have e1 : IntKind.u32.wrap ((x : Int) / 65536) = (p1 : Int) := by rw [show (x : Int) / 65536 = (p1 : Int) by omega]; exact IntWalk.u32_in _ (by omega)
                  have e2 : IntKind.u32.wrap ((x : Int) / 256) = (p2 : Int) := by rw [show (x : Int) / 256 = (p2 : Int) by omega]; exact IntWalk.u32_in _ (by omega)
                  have f0 : IntKind.u8.wrap (p0 : Int) = (y0 : Int) := by rw [show (p0 : Int) = (y0 : Int) by omega]; exact IntWalk.u8_in _ (by omega)
                  have t1 : (p1 : Int).tmod 256 = (y1 : Int) := by rw [Int.tmod_eq_emod_of_nonneg (by omega)]; omega
                  have t2' : (p2 : Int).tmod 256 = (y2 : Int) := by rw [Int.tmod_eq_emod_of_nonneg (by omega)]; omega
                  have t3' : (x : Int).tmod 256 = (y3 : Int) := by rw [Int.tmod_eq_emod_of_nonneg (by omega)]; omega
                  have f1 : IntKind.u8.wrap (y1 : Int) = (y1 : Int) := IntWalk.u8_in _ (by omega)
                  have f2 : IntKind.u8.wrap (y2 : Int) = (y2 : Int) := IntWalk.u8_in _ (by omega)
                  have f3 : IntKind.u8.wrap (y3 : Int) = (y3 : Int) := IntWalk.u8_in _ (by omega)
                  clear hy0 hy1 hy2 hy3 hp0 hp1 hp2 lx
                  have hzs := HZ.out.2.size
                  have hlit : ∀ y0 y1 y2 y3 : Nat, R0 (wr.drew.alloc (.cells #[.int .u8 (y0 : Int), .int .u8 (y1 : Int), .int .u8 (y2 : Int), .int .u8 (y3 : Int)] 5)) (some ⟨wr.drew.heap.size, 0, none⟩) [y0, y1, y2, y3] := fun y0 y1 y2 y3 => R0.block (bs := [y0, y1, y2, y3]) (heap_alloc_new wr.drew _)
                  obtain ⟨v5, w5, hr5, ho5, hg5⟩ := app8 wV.heap.size _ (outR (st.list.take k)) [y0, y1, y2, y3] (4 * k) 4 (some ⟨wr.drew.heap.size, 0, none⟩) 4 (wr.drew.alloc (.cells #[.int .u8 (y0 : Int), .int .u8 (y1 : Int), .int .u8 (y2 : Int), .int .u8 (y3 : Int)] 5)) (World.ownsRow.alloc (w := wr.drew) HZ.out.1 _) (by simp; omega) (hlit _ _ _ _) rfl (fun h => by cases h) (Nat.le_refl _) (by omega)
                  have hb5 : Below wV.heap.size wV w5 := (HZ.out.2.drew.alloc hzs _).grown hg5 (by simp; omega) (own_le HZ.out.1)
                  rw [← HOT.out] at ho5
                  have HR5 := Lib.hid hr5
                  have HZ5 := Lib.hid (show w5.ownsRow wV.heap.size 5 1 v5 (4 * (k + 1)) (V8 (outR (st.list.take (k + 1)))) ∧ Below wV.heap.size wV w5 from ⟨by rw [show 4 * (k + 1) = 4 * k + 4 by omega]; exact ho5, hb5⟩)
                  have C0 := Lib.hid c0
                  have HZB := Lib.hid HZ.out.2
                  clear hr5 ho5 hg5 hb5 hlit c0 HZ hl8
                  have hk8' : (k : Int) < 8 := by omega
                  go_upto_region 23 with fail
                  refine wp_region_held_drew (S := fun W => Below wV.heap.size wV W) (by kernel_rfl) HZB.out.drew (fun hHeld => ?_)
                  refine wpAnyH_take (i := 0) (v := ?_) (by simp; rfl) (by kernel_rfl) (by kernel_rfl) (by kernel_rfl) (by exact fun _ _ _ h => h) (Or.inl ⟨by rfl, fun wx hSx => ?_⟩) hHeld ?_
                  rotate_left
                  · clear hSx; go_simp; (try with_reducible rfl)
                  simp only [Act.put, List.setIfInBounds_toArray, List.set_cons_zero, List.set_cons_succ]
                  refine wpAnyH_take (i := 1) (v := ?_) (by simp; rfl) (by kernel_rfl) (by kernel_rfl) (by kernel_rfl) (by exact fun _ _ _ h => h) (Or.inl ⟨by rfl, fun wx hSx => ?_⟩) hHeld ?_
                  rotate_left
                  · clear hSx; go_simp; (try with_reducible rfl)
                  simp only [Act.put, List.setIfInBounds_toArray, List.set_cons_zero, List.set_cons_succ]
                  refine wpAnyH_take (i := 2) (v := ?_) (by simp; rfl) (by kernel_rfl) (by kernel_rfl) (by kernel_rfl) (by exact fun _ _ _ h => h) (Or.inl ⟨by rfl, fun wx hSx => ?_⟩) hHeld ?_
                  rotate_left
                  · clear hSx; go_simp; (try with_reducible rfl)
                  simp only [Act.put, List.setIfInBounds_toArray, List.set_cons_zero, List.set_cons_succ]
                  refine wpAnyH_take (i := 3) (v := ?_) (by simp; rfl) (by kernel_rfl) (by kernel_rfl) (by kernel_rfl) (by exact fun _ _ _ h => h) (Or.inl ⟨by rfl, fun wx hSx => ?_⟩) hHeld ?_
                  rotate_left
                  · clear hSx; go_simp; (try with_reducible rfl)
                  simp only [Act.put, List.setIfInBounds_toArray, List.set_cons_zero, List.set_cons_succ]
                  refine wpAnyH_take (i := 4) (v := ?_) (by simp; rfl) (by kernel_rfl) (by kernel_rfl) (by kernel_rfl) (by exact fun _ _ _ h => h) (Or.inl ⟨by rfl, fun wx hSx => ?_⟩) hHeld ?_
                  rotate_left
                  · have hc := (hSx.cell (p := ⟨gv, ov + k, none⟩) hgv).trans C0.out; clear hSx; go_simp; (try with_reducible rfl)
                  simp only [Act.put, List.setIfInBounds_toArray, List.set_cons_zero, List.set_cons_succ]
                  refine wpAnyH_take (i := 5) (v := ?_) (by simp; rfl) (by kernel_rfl) (by kernel_rfl) (by kernel_rfl) (by exact fun _ _ _ h => h) (Or.inl ⟨by rfl, fun wx hSx => ?_⟩) hHeld ?_
                  rotate_left
                  · clear hSx; go_simp; (try with_reducible rfl)
                  simp only [Act.put, List.setIfInBounds_toArray, List.set_cons_zero, List.set_cons_succ]
                  refine wpAnyH_take (i := 6) (v := ?_) (by simp; rfl) (by kernel_rfl) (by kernel_rfl) (by kernel_rfl) (by exact fun _ _ _ h => h) (Or.inl ⟨by rfl, fun wx hSx => ?_⟩) hHeld ?_
                  rotate_left
                  · clear hSx; go_simp; (try with_reducible rfl)
                  simp only [Act.put, List.setIfInBounds_toArray, List.set_cons_zero, List.set_cons_succ]
                  refine wpAnyH_take (i := 7) (v := ?_) (by simp; rfl) (by kernel_rfl) (by kernel_rfl) (by kernel_rfl) (by exact fun _ _ _ h => h) (Or.inl ⟨by rfl, fun wx hSx => ?_⟩) hHeld ?_
                  rotate_left
                  · clear hSx; go_simp; (try with_reducible rfl)
                  simp only [Act.put, List.setIfInBounds_toArray, List.set_cons_zero, List.set_cons_succ]
                  refine wpAnyH_take (i := 8) (v := ?_) (by simp; rfl) (by kernel_rfl) (by kernel_rfl) (by kernel_rfl) (by exact fun _ _ _ h => h) (Or.inl ⟨by rfl, fun wx hSx => ?_⟩) hHeld ?_
                  rotate_left
                  · clear hSx; go_simp; (try with_reducible rfl)
                  simp only [Act.put, List.setIfInBounds_toArray, List.set_cons_zero, List.set_cons_succ]
                  refine wpAnyH_take (i := 9) (v := ?_) (by simp; rfl) (by kernel_rfl) (by kernel_rfl) (by kernel_rfl) (by exact fun _ _ _ h => h) (Or.inl ⟨by rfl, fun wx hSx => ?_⟩) hHeld ?_
                  rotate_left
                  · clear hSx; go_simp; (try with_reducible rfl)
                  simp only [Act.put, List.setIfInBounds_toArray, List.set_cons_zero, List.set_cons_succ]
                  refine wpAnyH_take (i := 10) (v := ?_) (by simp; rfl) (by kernel_rfl) (by kernel_rfl) (by kernel_rfl) (by exact fun _ _ _ h => h) (Or.inl ⟨by rfl, fun wx hSx => ?_⟩) hHeld ?_
                  rotate_left
                  · have hc := (hSx.cell (p := ⟨gv, ov + k, none⟩) hgv).trans C0.out; clear hSx; go_simp; (try with_reducible rfl)
                  simp only [Act.put, List.setIfInBounds_toArray, List.set_cons_zero, List.set_cons_succ]
                  refine wpAnyH_take (i := 11) (v := ?_) (by simp; rfl) (by kernel_rfl) (by kernel_rfl) (by kernel_rfl) (by exact fun _ _ _ h => h) (Or.inl ⟨by rfl, fun wx hSx => ?_⟩) hHeld ?_
                  rotate_left
                  · clear hSx; go_simp; (try with_reducible rfl)
                  simp only [Act.put, List.setIfInBounds_toArray, List.set_cons_zero, List.set_cons_succ]
                  refine wpAnyH_take (i := 12) (v := ?_) (by simp; rfl) (by kernel_rfl) (by kernel_rfl) (by kernel_rfl) (by exact fun _ _ _ h => h) (Or.inl ⟨by rfl, fun wx hSx => ?_⟩) hHeld ?_
                  rotate_left
                  · clear hSx; go_simp; (try with_reducible rfl)
                  simp only [Act.put, List.setIfInBounds_toArray, List.set_cons_zero, List.set_cons_succ]
                  refine wpAnyH_take (i := 13) (v := ?_) (by simp; rfl) (by kernel_rfl) (by kernel_rfl) (by kernel_rfl) (by exact fun _ _ _ h => h) (Or.inl ⟨by rfl, fun wx hSx => ?_⟩) hHeld ?_
                  rotate_left
                  · clear hSx; go_simp; (try with_reducible rfl)
                  simp only [Act.put, List.setIfInBounds_toArray, List.set_cons_zero, List.set_cons_succ]
                  refine wpAnyH_take (i := 14) (v := ?_) (by simp; rfl) (by kernel_rfl) (by kernel_rfl) (by kernel_rfl) (by exact fun _ _ _ h => h) (Or.inl ⟨by rfl, fun wx hSx => ?_⟩) hHeld ?_
                  rotate_left
                  · clear hSx; go_simp; (try with_reducible rfl)
                  simp only [Act.put, List.setIfInBounds_toArray, List.set_cons_zero, List.set_cons_succ]
                  refine wpAnyH_take (i := 15) (v := ?_) (by simp; rfl) (by kernel_rfl) (by kernel_rfl) (by kernel_rfl) (by exact fun _ _ _ h => h) (Or.inl ⟨by rfl, fun wx hSx => ?_⟩) hHeld ?_
                  rotate_left
                  · clear hSx; go_simp; (try with_reducible rfl)
                  simp only [Act.put, List.setIfInBounds_toArray, List.set_cons_zero, List.set_cons_succ]
                  refine wpAnyH_take (i := 16) (v := ?_) (by simp; rfl) (by kernel_rfl) (by kernel_rfl) (by kernel_rfl) (by exact fun _ _ _ h => h) (Or.inl ⟨by rfl, fun wx hSx => ?_⟩) hHeld ?_
                  rotate_left
                  · clear hSx; go_simp; (try with_reducible rfl)
                  simp only [Act.put, List.setIfInBounds_toArray, List.set_cons_zero, List.set_cons_succ]
                  refine wpAnyH_take (i := 17) (v := ?_) (by simp; rfl) (by kernel_rfl) (by kernel_rfl) (by kernel_rfl) (by exact fun _ _ _ h => h) (Or.inl ⟨by rfl, fun wx hSx => ?_⟩) hHeld ?_
                  rotate_left
                  · have hc := (hSx.cell (p := ⟨gv, ov + k, none⟩) hgv).trans C0.out; clear hSx; go_simp; (try with_reducible rfl)
                  simp only [Act.put, List.setIfInBounds_toArray, List.set_cons_zero, List.set_cons_succ]
                  refine wpAnyH_take (i := 18) (v := ?_) (by simp; rfl) (by kernel_rfl) (by kernel_rfl) (by kernel_rfl) (by exact fun _ _ _ h => h) (Or.inl ⟨by rfl, fun wx hSx => ?_⟩) hHeld ?_
                  rotate_left
                  · clear hSx; go_simp; (try with_reducible rfl)
                  simp only [Act.put, List.setIfInBounds_toArray, List.set_cons_zero, List.set_cons_succ]
                  refine wpAnyH_take (i := 19) (v := ?_) (by simp; rfl) (by kernel_rfl) (by kernel_rfl) (by kernel_rfl) (by exact fun _ _ _ h => h) (Or.inl ⟨by rfl, fun wx hSx => ?_⟩) hHeld ?_
                  rotate_left
                  · clear hSx; go_simp; (try with_reducible rfl)
                  simp only [Act.put, List.setIfInBounds_toArray, List.set_cons_zero, List.set_cons_succ]
                  refine wpAnyH_take (i := 20) (v := ?_) (by simp; rfl) (by kernel_rfl) (by kernel_rfl) (by kernel_rfl) (by exact fun _ _ _ h => h) (Or.inl ⟨by rfl, fun wx hSx => ?_⟩) hHeld ?_
                  rotate_left
                  · clear hSx; go_simp; (try with_reducible rfl)
                  simp only [Act.put, List.setIfInBounds_toArray, List.set_cons_zero, List.set_cons_succ]
                  refine wpAnyH_take (i := 21) (v := ?_) (by simp; rfl) (by kernel_rfl) (by kernel_rfl) (by kernel_rfl) (by exact fun _ _ _ h => h) (Or.inl ⟨by rfl, fun wx hSx => ?_⟩) hHeld ?_
                  rotate_left
                  · clear hSx; go_simp; (try with_reducible rfl)
                  simp only [Act.put, List.setIfInBounds_toArray, List.set_cons_zero, List.set_cons_succ]
                  refine wpAnyH_take (i := 22) (v := ?_) (by simp; rfl) (by kernel_rfl) (by kernel_rfl) (by kernel_rfl) (by exact fun _ _ _ h => h) (Or.inl ⟨by rfl, fun wx hSx => ?_⟩) hHeld ?_
                  rotate_left
                  · clear hSx; go_simp; (try with_reducible rfl)
                  simp only [Act.put, List.setIfInBounds_toArray, List.set_cons_zero, List.set_cons_succ]
                  refine wpAnyH_take (i := 23) (v := ?_) (by simp; rfl) (by kernel_rfl) (by kernel_rfl) (by kernel_rfl) (by exact fun _ _ _ h => h) (Or.inl ⟨by rfl, fun wx hSx => ?_⟩) hHeld ?_
                  rotate_left
                  · clear hSx; go_simp; (try with_reducible rfl)
                  simp only [Act.put, List.setIfInBounds_toArray, List.set_cons_zero, List.set_cons_succ]
                  refine wpAnyH_take (i := 24) (v := ?_) (by simp; rfl) (by kernel_rfl) (by kernel_rfl) (by kernel_rfl) (by exact fun _ _ _ h => h) (Or.inl ⟨by rfl, fun wx hSx => ?_⟩) hHeld ?_
                  rotate_left
                  · have hc := (hSx.cell (p := ⟨gv, ov + k, none⟩) hgv).trans C0.out; clear hSx; go_simp; (try with_reducible rfl)
                  simp only [Act.put, List.setIfInBounds_toArray, List.set_cons_zero, List.set_cons_succ]
                  refine wpAnyH_take (i := 25) (v := ?_) (by simp; rfl) (by kernel_rfl) (by kernel_rfl) (by kernel_rfl) (by exact fun _ _ _ h => h) (Or.inl ⟨by rfl, fun wx hSx => ?_⟩) hHeld ?_
                  rotate_left
                  · clear hSx; go_simp; (try with_reducible rfl)
                  simp only [Act.put, List.setIfInBounds_toArray, List.set_cons_zero, List.set_cons_succ]
                  refine wpAnyH_take (i := 26) (v := ?_) (by simp; rfl) (by kernel_rfl) (by kernel_rfl) (by kernel_rfl) (by exact fun _ _ _ h => h) (Or.inl ⟨by rfl, fun wx hSx => ?_⟩) hHeld ?_
                  rotate_left
                  · clear hSx; go_simp; (try with_reducible rfl)
                  simp only [Act.put, List.setIfInBounds_toArray, List.set_cons_zero, List.set_cons_succ]
                  refine wpAnyH_ready (rs := [27]) (by kernel_rfl) (by simp) ?_
                  refine AllReadyH.cons (by simp; rfl) (fun K0 hK0 => ?_) AllReadyH.nil
                  go_simp
                  refine hK0.out _ _ (hHeld.alloc hHeld.size _) (fun hHeld => ?_)
                  clear hK0 K0
                  refine wpAnyH_ready (rs := [28]) (by kernel_rfl) (by simp) ?_
                  refine AllReadyH.cons (by simp; rfl) (fun K0 hK0 => ?_) AllReadyH.nil
                  refine step_run rfl (.tmp 66) (.tmp 93) 22 22 rfl _ _ rfl rfl _ _ HR5.out ?_
                  simp only [Act.put, List.setIfInBounds_toArray, List.set_cons_zero, List.set_cons_succ]
                  refine hK0.out _ _ HZ5.out.2 (fun hHeld => ?_)
                  clear hK0 K0
                  refine wpAnyH_take (i := 29) (v := ?_) (by simp; rfl) (by kernel_rfl) (by kernel_rfl) (by kernel_rfl) (by exact fun _ _ _ h => h) (Or.inl ⟨by rfl, fun wx hSx => ?_⟩) hHeld ?_
                  rotate_left
                  · clear hSx; go_simp; (try with_reducible rfl)
                  simp only [Act.put, List.setIfInBounds_toArray, List.set_cons_zero, List.set_cons_succ]
                  refine wpAnyH_done (by kernel_rfl) ?_ _
                  go_wp2
                  go_roundw
                  case rel => exact ⟨k + 1, by omega, by go_num, HZ5⟩
                  case measure => simp [intOf]; omega
                · obtain rfl : k = 8 := by omega
                  have hfin : ∀ v, wr.ownsRow wV.heap.size 5 1 v (4 * 8) (V8 (outR (st.list.take 8))) → wr.ownsRow w.heap.size 5 1 v 32 (V8 R) := fun v hv => by
                    have := own_base hv HVB.out.size
                    rw [List.take_of_length_le (by rw [hl8]; exact Nat.le_refl _), ← HS.out] at this
                    exact this
                  have HE := Lib.hid (And.intro (hfin _ HZ.out.1) (HVB.out.trans (HZ.out.2.mono HVB.out.size)))
                  clear HZ hl8 hfin
                  go_wp2
                  go_ret
                  exact ⟨_, rfl, HE.out.1, HE.out.2⟩
end Go.Proofs.YtakfcdemoaogfaaDoor
