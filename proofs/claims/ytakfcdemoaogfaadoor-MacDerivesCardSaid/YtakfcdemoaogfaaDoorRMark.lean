/-
  Proved here: the document's own mark of a text ('With' of its layer 4) is the program's, in memory of its own, if it is handed the 64 constants and the state of nothing.
-/
import Derived.Test.YtakfcdemoaogfaaDoorRWith
import Derived.Test.YtakfcdemoaogfaaDoorRY
import Derived.Test.YtakfcdemoaogfaaDoorMMark
import Derived.Deep.DeepCutAuto
import Derived.Deep.RegionHeld
import Derived.Deep.DrawnRows
namespace Go.Proofs.YtakfcdemoaogfaaDoor
open Go.RowKit
/-- The first k bytes of a key, xor'ed. -/
def xk (l : List Nat) (y k : Nat) : List Nat := (l.take k).map fun c => xor8 c y
theorem xk_next (l : List Nat) (y k : Nat) (h : k < l.length) : xk l y (k + 1) = xk l y k ++ [xor8 (l.getD k 0) y] := by
  rw [xk, xk, List.take_succ_eq_append_getElem h, List.map_append]
  congr 1
  simp [List.getD_eq_getElem?_getD, h]
theorem xo_take (l : List Nat) (y : Nat) : ∀ k, k ≤ l.length → xo l y k = xk l y k ++ l.drop k
  | 0, _ => by simp [xo, xk]
  | k + 1, h => by
    have hk : k < l.length := by omega
    have hl : (xk l y k).length = k := by simp [xk]; omega
    rw [xo, xo_take l y k (by omega), xk_next l y k hk, List.set_append_right _ _ (by omega), hl, Nat.sub_self, List.drop_eq_getElem_cons hk, List.set_cons_zero, List.append_assoc]
    congr 3
    simp [List.getD_eq_getElem?_getD, List.getElem?_append_right, hl]
theorem xk_all (l : List Nat) (y : Nat) (h : l.length = 64) : xk l y 64 = xorS l y := by
  rw [xorS, xo_take l y 64 (by omega), List.drop_of_length_le (by omega), List.append_nil]
theorem with_n (bs : List Nat) (n : Nat) (hn : bs.length = n) (B K S : Option Addr) (cb ck cs : Nat) (w : World) (hB : R0 w B bs) (hnB : B = none → cb = 0) (hcb : n ≤ cb) (hb : ∀ j, bs.getD j 0 < 256) (hl : n ≤ 1000) (hK : RN .u32 w K kk) (hS : RN .u32 w S iv.list) :
    Calls Tryd.prog 29 #[.slice B n cb, .slice K 64 ck, .slice S 8 cs] w fun e w' => ∃ v, e = .returned v ∧ w'.ownsRow w.heap.size 5 1 v 32 (V8 (sumS bs)) ∧ Below w.heap.size w w' := by
  subst hn
  exact with_any bs B K S cb ck cs w hB hnB hcb hb hl hK hS
theorem sb_lt8 (l : List Nat) : ∀ n i, (sb l n).getD i 0 < 256
  | 0, i => by
    simp only [sb, List.getD_eq_getElem?_getD, List.getElem?_replicate]
    split <;> simp
  | n + 1, i => by
    rw [sb]
    have h := sb_lt8 l n i
    have hv : byAt (l.getD (n / 4) 0) (n % 4) < 256 := by unfold byAt; split <;> simp only [by0, by1, by2, by3] <;> omega
    simp only [List.getD_eq_getElem?_getD, List.getElem?_set] at h ⊢
    split
    · split
      · simpa using hv
      · simp
    · exact h
theorem nb_of {vi vo : Value} (h : ∀ a b, vi.ownBlock = some a → vo.ownBlock = some b → a ≠ b) : vo.ownBlock = none ∨ vo.ownBlock ≠ vi.ownBlock := by
  cases hb : vo.ownBlock with
  | none => exact .inl rfl
  | some b => exact .inr fun e => h b b e.symm hb rfl
theorem xk_lt (l : List Nat) (y k j : Nat) : (xk l y k).getD j 0 < 256 := by
  refine mem_lt8 (fun x hx => ?_) j
  obtain ⟨c, _, rfl⟩ := List.mem_map.1 hx
  unfold xor8
  omega
set_option maxRecDepth 100000 in
set_option maxHeartbeats 4000000 in
theorem rmark_short (key bs : List Nat) (A B K S : Option Addr) (ca cb ck cs : Nat) (w : World) (hA : R0 w A key) (hnA : A = none → ca = 0) (hca : key.length ≤ ca) (_ha : ∀ j, key.getD j 0 < 256) (hB : R0 w B bs) (hnB : B = none → cb = 0) (hcb : bs.length ≤ cb) (hb : ∀ j, bs.getD j 0 < 256) (hl : bs.length ≤ 900) (hK : RN .u32 w K kk) (hS : RN .u32 w S iv.list) (hk : key.length ≤ 64) :
    Calls Tryd.prog 32 #[.slice K 64 ck, .slice S 8 cs, .slice A key.length ca, .slice B bs.length cb] w fun e w' => ∃ v, e = .returned v ∧ w'.ownsRow w.heap.size 5 1 v 32 (V8 (markS key bs)) ∧ Below w.heap.size w w' := by
  obtain ⟨i0, hi, hz0, hz1, hz2⟩ := info_parts infoByte
  obtain ⟨v1, w1, hr1, ho1, hg1⟩ := app8 w.heap.size (.slice none 0 0) [] key 0 key.length A ca w (World.ownsRow_nil _ _ _ _) (Nat.le_refl _) hA rfl hnA hca (by omega)
  rw [List.nil_append, Nat.zero_add] at ho1
  have hb1 : Below w.heap.size w w1 := (Below.refl _ _).grown hg1 (Nat.le_refl _) (fun k hk => by simp [Value.ownBlock] at hk)
  obtain ⟨A1, c1, rfl, k1, k2, k3, k4, _⟩ := own_r8 ho1
  have HR1 := Lib.hid hr1
  have HO1 := Lib.hid ho1
  have HB1 := Lib.hid hb1
  have HFK := Lib.hid (show fillK key = key ++ List.replicate (64 - key.length) 0 from if_pos hk)
  have HMS := Lib.hid (show markS key bs = sumS (xorS (fillK key) 92 ++ sumS (xorS (fillK key) 54 ++ bs)) from rfl)
  have HFL := Lib.hid (length_fillK key)
  have HBS := Lib.hid (And.intro hB (And.intro hnB (And.intro hcb (And.intro hb hl))))
  have HK := Lib.hid hK
  have HS := Lib.hid hS
  generalize markS key bs = M at HMS ⊢
  generalize fillK key = F at HMS HFK HFL
  obtain ⟨n, hn⟩ : ∃ n, key.length = n := ⟨_, rfl⟩
  obtain ⟨lb, hlb⟩ : ∃ n, bs.length = n := ⟨_, rfl⟩
  rw [hn] at HR1 HO1 HFK hk ⊢
  rw [hlb]
  have hgt : ¬ (64 : Int) < (n : Int) := by omega
  have HKN := Lib.hid hn
  have HBN := Lib.hid hlb
  clear hA hnA hca _ha hB hnB hcb hb hl hK hS hr1 ho1 hg1 hb1 hn hlb k1 k2 k3 k4
  go_enter Tryd.func32, Tryd.ntmps32
  go_upto_region 3 with (at_builtin; refine wpList_runR _ rfl _ _ 22 22 rfl _ _ rfl rfl _ _ HR1.out ?_)
  have H0 := Lib.hid (show w1.ownsRow w.heap.size 5 1 (.slice A1 n c1) n (V8 (key ++ List.replicate 0 0)) ∧ Below w.heap.size w w1 from ⟨by simpa using HO1.out, HB1.out⟩)
  clear HR1 HO1 HB1
  go_wp2
  go_loopw [9] (fun v wr => ∃ (m N : Nat) (A1 : Option Addr) (c1 : Nat), n + m = N ∧ N ≤ 64 ∧ v = .slice A1 N c1 ∧ Hid (wr.ownsRow w.heap.size 5 1 (.slice A1 N c1) N (V8 (key ++ List.replicate m 0)) ∧ Below w.heap.size w wr)) (fun v _ => 64 - (match v with | .slice _ l _ => l | _ => 0))
  case atStart => exact ⟨0, n, A1, c1, by omega, by omega, rfl, H0⟩
  case round =>
    obtain ⟨m, N, A2, c2, hN, hN64, rfl, HA⟩ := hrel
    clear H0
    by_cases hlt : N < 64
    · have hbs := HA.out.2.size
      go_wp2_with (at_builtin; refine wpList_append_lies _ rfl _ _ 22 rfl w.heap.size 5 i0 (.int .u8 0) 1 1 Tryd.underlying22 hi hz0 hz1 hz2 rfl (by decide) _ _ _ rfl (HA.out.1.alloc _) ⟨wr.heap.size, 0, none⟩ 1 1 [.int .u8 0] rfl rfl ?c1 ?c2 (by decide) ?c3 ?c4 ?c5 (wr.heap.size + 1) (by simp) ?_)
      case c1 =>
        intro q u hq
        match q, hq with
        | 0, hq => simp at hq; subst hq; simp [Addr.add]
      case c2 => intro u hu; simp at hu; subst hu; rfl
      case c3 => unfold maxLen; omega
      case c4 => omega
      case c5 => simp; omega
      · intro g' cap' w3 hown3 hgrow3 _ _
        have HN3 := Lib.hid (show w3.ownsRow w.heap.size 5 1 (.slice (some ⟨g', 0, none⟩) (N + 1) cap') (N + 1) (V8 (key ++ List.replicate (m + 1) 0)) ∧ Below w.heap.size w w3 from ⟨by rw [List.replicate_succ', ← List.append_assoc, V8_append]; exact hown3, (HA.out.2.alloc hbs _).grown hgrow3 (by simp; omega) (own_le HA.out.1)⟩)
        clear hown3 hgrow3 HA
        go_wp2
        go_roundw
        case rel => exact ⟨m + 1, N + 1, _, _, by omega, by omega, rfl, HN3⟩
        case measure => simp; omega
    · obtain rfl : N = 64 := by omega
      have hF : F = key ++ List.replicate m 0 := by rw [HFK.out, show 64 - n = m by omega]
      have HO := HA.out.1
      rw [← hF] at HO
      obtain ⟨Af, cf, hve, f1, f2, f3, f4, _⟩ := own_r8 HO
      obtain ⟨rfl, rfl⟩ : A2 = Af ∧ c2 = cf := by simpa using hve
      obtain ⟨gf, of_, rfl, hgf, hcf⟩ := f1 (by rw [HFL.out]; omega)
      obtain ⟨wA, rfl⟩ : ∃ W, W = wr := ⟨_, rfl⟩
      have HCF := Lib.hid hcf
      have HAB := Lib.hid HA.out.2
      have H1 := Lib.hid (show YK wA (xk F 54 0) (xk F 92 0) (.slice none 0 0) (.slice none 0 0) 0 0 0 0 none none wA from ⟨World.ownsRow_nil _ _ _ _, World.ownsRow_nil _ _ _ _, fun a b h => (by simp [Value.ownBlock] at h), fun _ e => (by cases e), fun _ e => (by cases e), Below.refl _ _⟩)
      clear HA hve f1 f2 f3 f4 hcf HO hF hlt
      go_wp2
      go_loopw [10, 11, 12] (fun vi vo i wr => ∃ k : Nat, k ≤ 64 ∧ i = .int .i64 k ∧ Hid (YK wA (xk F 54 k) (xk F 92 k) vi vo k k 0 0 none none wr)) (fun _ _ i _ => 64 - (intOf i).toNat)
      case atStart => exact ⟨0, by omega, rfl, H1⟩
      case round =>
        obtain ⟨k, hk64, rfl, HY⟩ := hrel
        clear H1
        by_cases hlk : k < 64
        · have CF := Lib.hid (HCF.out k (by rw [HFL.out]; exact hlk))
          have HX1 := Lib.hid (xk_next F 54 k (by rw [HFL.out]; exact hlk))
          have HX2 := Lib.hid (xk_next F 92 k (by rw [HFL.out]; exact hlk))
          generalize F.getD k 0 = c at CF HX1 HX2
          have HU0 := Lib.hid (show YK wA (xk F 54 k) (xk F 92 k) _ _ k k (xor8 c 54) (xor8 c 92) none none wr.drew from ⟨HY.out.i, HY.out.o, HY.out.apart, fun _ e => (by cases e), fun _ e => (by cases e), HY.out.below.drew⟩)
          have hr54 : bits .xor .u8 (c : Int) 54 = ((xor8 c 54 : Nat) : Int) := u8_xor c 54
          have hr92 : bits .xor .u8 (c : Int) 92 = ((xor8 c 92 : Nat) : Int) := u8_xor c 92
          obtain ⟨z1, hz1'⟩ : ∃ z, xor8 c 54 = z := ⟨_, rfl⟩
          obtain ⟨z2, hz2'⟩ : ∃ z, xor8 c 92 = z := ⟨_, rfl⟩
          rw [hz1'] at HX1 HU0 hr54
          rw [hz2'] at HX2 HU0 hr92
          have hkk : (k : Int) < 64 := by omega
          clear hz1' hz2' HY
          go_upto_region 11 with fail
          refine wp_region_held_drew (S := fun W => Below wA.heap.size wA W) (by kernel_rfl) HU0.out.below (fun hHeld => ?_)
          refine wpAnyH_take (i := 0) (v := ?_) (by simp; rfl) (by kernel_rfl) (by kernel_rfl) (by kernel_rfl) (by exact fun _ _ _ h => h) (Or.inl ⟨by rfl, fun wx hSx => ?_⟩) hHeld ?_
          rotate_left
          · clear hSx; go_simp; (try with_reducible rfl)
          simp only [Act.put, List.setIfInBounds_toArray, List.set_cons_zero, List.set_cons_succ]
          refine wpAnyH_take (i := 1) (v := ?_) (by simp; rfl) (by kernel_rfl) (by kernel_rfl) (by kernel_rfl) (by exact fun _ _ _ h => h) (Or.inl ⟨by rfl, fun wx hSx => ?_⟩) hHeld ?_
          rotate_left
          · clear hSx; go_simp; (try with_reducible rfl)
          simp only [Act.put, List.setIfInBounds_toArray, List.set_cons_zero, List.set_cons_succ]
          refine wpAnyH_take (i := 2) (v := ?_) (by simp; rfl) (by kernel_rfl) (by kernel_rfl) (by kernel_rfl) (by exact fun _ _ _ h => h) (Or.inl ⟨by rfl, fun wx hSx => ?_⟩) hHeld ?_
          rotate_left
          · clear hSx; go_simp; (try with_reducible rfl)
          simp only [Act.put, List.setIfInBounds_toArray, List.set_cons_zero, List.set_cons_succ]
          refine wpAnyH_take (i := 3) (v := ?_) (by simp; rfl) (by kernel_rfl) (by kernel_rfl) (by kernel_rfl) (by exact fun _ _ _ h => h) (Or.inl ⟨by rfl, fun wx hSx => ?_⟩) hHeld ?_
          rotate_left
          · clear hSx; go_simp; (try with_reducible rfl)
          simp only [Act.put, List.setIfInBounds_toArray, List.set_cons_zero, List.set_cons_succ]
          refine wpAnyH_take (i := 4) (v := ?_) (by simp; rfl) (by kernel_rfl) (by kernel_rfl) (by kernel_rfl) (by exact fun _ _ _ h => h) (Or.inl ⟨by rfl, fun wx hSx => ?_⟩) hHeld ?_
          rotate_left
          · have hc := (hSx.cell (p := ⟨gf, of_ + k, none⟩) hgf).trans CF.out; clear hSx; go_simp; (try with_reducible rfl)
          simp only [Act.put, List.setIfInBounds_toArray, List.set_cons_zero, List.set_cons_succ]
          refine wpAnyH_take (i := 5) (v := ?_) (by simp; rfl) (by kernel_rfl) (by kernel_rfl) (by kernel_rfl) (by exact fun _ _ _ h => h) (Or.inl ⟨by rfl, fun wx hSx => ?_⟩) hHeld ?_
          rotate_left
          · clear hSx; go_simp; (try with_reducible rfl)
          simp only [Act.put, List.setIfInBounds_toArray, List.set_cons_zero, List.set_cons_succ]
          refine wpAnyH_take (i := 8) (v := ?_) (by simp; rfl) (by kernel_rfl) (by kernel_rfl) (by kernel_rfl) (by exact fun _ _ _ h => h) (Or.inl ⟨by rfl, fun wx hSx => ?_⟩) hHeld ?_
          rotate_left
          · clear hSx; go_simp; (try with_reducible rfl)
          simp only [Act.put, List.setIfInBounds_toArray, List.set_cons_zero, List.set_cons_succ]
          refine wpAnyH_take (i := 9) (v := ?_) (by simp; rfl) (by kernel_rfl) (by kernel_rfl) (by kernel_rfl) (by exact fun _ _ _ h => h) (Or.inl ⟨by rfl, fun wx hSx => ?_⟩) hHeld ?_
          rotate_left
          · clear hSx; go_simp; (try with_reducible rfl)
          simp only [Act.put, List.setIfInBounds_toArray, List.set_cons_zero, List.set_cons_succ]
          refine wpAnyH_take (i := 10) (v := ?_) (by simp; rfl) (by kernel_rfl) (by kernel_rfl) (by kernel_rfl) (by exact fun _ _ _ h => h) (Or.inl ⟨by rfl, fun wx hSx => ?_⟩) hHeld ?_
          rotate_left
          · clear hSx; go_simp; (try with_reducible rfl)
          simp only [Act.put, List.setIfInBounds_toArray, List.set_cons_zero, List.set_cons_succ]
          refine wpAnyH_take (i := 11) (v := ?_) (by simp; rfl) (by kernel_rfl) (by kernel_rfl) (by kernel_rfl) (by exact fun _ _ _ h => h) (Or.inl ⟨by rfl, fun wx hSx => ?_⟩) hHeld ?_
          rotate_left
          · clear hSx; go_simp; (try with_reducible rfl)
          simp only [Act.put, List.setIfInBounds_toArray, List.set_cons_zero, List.set_cons_succ]
          refine wpAnyH_take (i := 12) (v := ?_) (by simp; rfl) (by kernel_rfl) (by kernel_rfl) (by kernel_rfl) (by exact fun _ _ _ h => h) (Or.inl ⟨by rfl, fun wx hSx => ?_⟩) hHeld ?_
          rotate_left
          · have hc := (hSx.cell (p := ⟨gf, of_ + k, none⟩) hgf).trans CF.out; clear hSx; go_simp; (try with_reducible rfl)
          simp only [Act.put, List.setIfInBounds_toArray, List.set_cons_zero, List.set_cons_succ]
          refine wpAnyH_take (i := 13) (v := ?_) (by simp; rfl) (by kernel_rfl) (by kernel_rfl) (by kernel_rfl) (by exact fun _ _ _ h => h) (Or.inl ⟨by rfl, fun wx hSx => ?_⟩) hHeld ?_
          rotate_left
          · clear hSx; go_simp; (try with_reducible rfl)
          simp only [Act.put, List.setIfInBounds_toArray, List.set_cons_zero, List.set_cons_succ]
          generalize wr.drew = U0 at HU0 hHeld ⊢
          refine wpAnyH_ready (rs := [6, 14]) (by kernel_rfl) (by simp) ?_
          refine AllReadyH.cons (by simp; rfl) (fun K0 hK0 => ?_) (AllReadyH.cons (by simp; rfl) (fun K0 hK0 => ?_) AllReadyH.nil)
          · go_simp
            have N1 := Lib.hid HU0.out.new1
            refine hK0.out _ _ N1.out.below (fun hHeld => ?_)
            clear hK0 K0 HU0
            generalize (U0.alloc _) = y2 at N1 hHeld ⊢
            generalize U0.heap.size = q3 at N1 ⊢
            refine wpAnyH_ready (rs := [7, 14]) (by kernel_rfl) (by simp) ?_
            refine AllReadyH.cons (by simp; rfl) (fun K0 hK0 => ?_) (AllReadyH.cons (by simp; rfl) (fun K0 hK0 => ?_) AllReadyH.nil)
            · obtain ⟨g6, c7, y5, hr, hk⟩ := N1.out.app (by omega)
              have N4 := Lib.hid hk
              refine step_run rfl (.tmp 33) (.tmp 39) 22 22 rfl _ _ rfl rfl _ _ hr ?_
              simp only [Act.put, List.setIfInBounds_toArray, List.set_cons_zero, List.set_cons_succ]
              refine hK0.out _ _ N4.out.below (fun hHeld => ?_)
              clear hK0 K0 N1 hr hk
              refine wpAnyH_ready (rs := [14]) (by kernel_rfl) (by simp) ?_
              refine AllReadyH.cons (by simp; rfl) (fun K0 hK0 => ?_) AllReadyH.nil
              · go_simp
                have N8 := Lib.hid N4.out.swap.new1.swap
                refine hK0.out _ _ N8.out.below (fun hHeld => ?_)
                clear hK0 K0 N4
                generalize (y5.alloc _) = y9 at N8 hHeld ⊢
                generalize y5.heap.size = q10 at N8 ⊢
                refine wpAnyH_ready (rs := [15]) (by kernel_rfl) (by simp) ?_
                refine AllReadyH.cons (by simp; rfl) (fun K0 hK0 => ?_) AllReadyH.nil
                · obtain ⟨g13, c14, y12, hr, hk⟩ := N8.out.swap.app (by omega)
                  have N11 := Lib.hid hk.swap
                  refine step_run rfl (.tmp 41) (.tmp 47) 22 22 rfl _ _ rfl rfl _ _ hr ?_
                  simp only [Act.put, List.setIfInBounds_toArray, List.set_cons_zero, List.set_cons_succ]
                  refine hK0.out _ _ N11.out.below (fun hHeld => ?_)
                  clear hK0 K0 N8 hr hk
                  refine wpAnyH_take (i := 16) (v := ?_) (by simp; rfl) (by kernel_rfl) (by kernel_rfl) (by kernel_rfl) (by exact fun _ _ _ h => h) (Or.inl ⟨by rfl, fun wx hSx => ?_⟩) hHeld ?_
                  rotate_left
                  · clear hSx; go_simp; (try with_reducible rfl)
                  simp only [Act.put, List.setIfInBounds_toArray, List.set_cons_zero, List.set_cons_succ]
                  refine wpAnyH_take (i := 17) (v := ?_) (by simp; rfl) (by kernel_rfl) (by kernel_rfl) (by kernel_rfl) (by exact fun _ _ _ h => h) (Or.inl ⟨by rfl, fun wx hSx => ?_⟩) hHeld ?_
                  rotate_left
                  · clear hSx; go_simp; (try with_reducible rfl)
                  simp only [Act.put, List.setIfInBounds_toArray, List.set_cons_zero, List.set_cons_succ]
                  refine wpAnyH_done (by kernel_rfl) ?_ _
                  go_wp2
                  go_roundw
                  case rel => exact ⟨k + 1, by omega, by go_num, by rw [HX1.out, HX2.out]; exact Lib.hid ⟨N11.out.i, N11.out.o, N11.out.apart, fun _ e => (by cases e), fun _ e => (by cases e), N11.out.below⟩⟩
                  case measure => simp [intOf]; omega
            · go_simp
              have N15 := Lib.hid N1.out.swap.new1.swap
              refine hK0.out _ _ N15.out.below (fun hHeld => ?_)
              clear hK0 K0 N1
              generalize (y2.alloc _) = y16 at N15 hHeld ⊢
              generalize y2.heap.size = q17 at N15 ⊢
              refine wpAnyH_ready (rs := [7]) (by kernel_rfl) (by simp) ?_
              refine AllReadyH.cons (by simp; rfl) (fun K0 hK0 => ?_) AllReadyH.nil
              · obtain ⟨g20, c21, y19, hr, hk⟩ := N15.out.app (by omega)
                have N18 := Lib.hid hk
                refine step_run rfl (.tmp 33) (.tmp 39) 22 22 rfl _ _ rfl rfl _ _ hr ?_
                simp only [Act.put, List.setIfInBounds_toArray, List.set_cons_zero, List.set_cons_succ]
                refine hK0.out _ _ N18.out.below (fun hHeld => ?_)
                clear hK0 K0 N15 hr hk
                refine wpAnyH_ready (rs := [15]) (by kernel_rfl) (by simp) ?_
                refine AllReadyH.cons (by simp; rfl) (fun K0 hK0 => ?_) AllReadyH.nil
                · obtain ⟨g24, c25, y23, hr, hk⟩ := N18.out.swap.app (by omega)
                  have N22 := Lib.hid hk.swap
                  refine step_run rfl (.tmp 41) (.tmp 47) 22 22 rfl _ _ rfl rfl _ _ hr ?_
                  simp only [Act.put, List.setIfInBounds_toArray, List.set_cons_zero, List.set_cons_succ]
                  refine hK0.out _ _ N22.out.below (fun hHeld => ?_)
                  clear hK0 K0 N18 hr hk
                  refine wpAnyH_take (i := 16) (v := ?_) (by simp; rfl) (by kernel_rfl) (by kernel_rfl) (by kernel_rfl) (by exact fun _ _ _ h => h) (Or.inl ⟨by rfl, fun wx hSx => ?_⟩) hHeld ?_
                  rotate_left
                  · clear hSx; go_simp; (try with_reducible rfl)
                  simp only [Act.put, List.setIfInBounds_toArray, List.set_cons_zero, List.set_cons_succ]
                  refine wpAnyH_take (i := 17) (v := ?_) (by simp; rfl) (by kernel_rfl) (by kernel_rfl) (by kernel_rfl) (by exact fun _ _ _ h => h) (Or.inl ⟨by rfl, fun wx hSx => ?_⟩) hHeld ?_
                  rotate_left
                  · clear hSx; go_simp; (try with_reducible rfl)
                  simp only [Act.put, List.setIfInBounds_toArray, List.set_cons_zero, List.set_cons_succ]
                  refine wpAnyH_done (by kernel_rfl) ?_ _
                  go_wp2
                  go_roundw
                  case rel => exact ⟨k + 1, by omega, by go_num, by rw [HX1.out, HX2.out]; exact Lib.hid ⟨N22.out.i, N22.out.o, N22.out.apart, fun _ e => (by cases e), fun _ e => (by cases e), N22.out.below⟩⟩
                  case measure => simp [intOf]; omega
          · go_simp
            have N26 := Lib.hid HU0.out.swap.new1.swap
            refine hK0.out _ _ N26.out.below (fun hHeld => ?_)
            clear hK0 K0 HU0
            generalize (U0.alloc _) = y27 at N26 hHeld ⊢
            generalize U0.heap.size = q28 at N26 ⊢
            refine wpAnyH_ready (rs := [6]) (by kernel_rfl) (by simp) ?_
            refine AllReadyH.cons (by simp; rfl) (fun K0 hK0 => ?_) AllReadyH.nil
            · go_simp
              have N29 := Lib.hid N26.out.new1
              refine hK0.out _ _ N29.out.below (fun hHeld => ?_)
              clear hK0 K0 N26
              generalize (y27.alloc _) = y30 at N29 hHeld ⊢
              generalize y27.heap.size = q31 at N29 ⊢
              refine wpAnyH_ready (rs := [7]) (by kernel_rfl) (by simp) ?_
              refine AllReadyH.cons (by simp; rfl) (fun K0 hK0 => ?_) AllReadyH.nil
              · obtain ⟨g34, c35, y33, hr, hk⟩ := N29.out.app (by omega)
                have N32 := Lib.hid hk
                refine step_run rfl (.tmp 33) (.tmp 39) 22 22 rfl _ _ rfl rfl _ _ hr ?_
                simp only [Act.put, List.setIfInBounds_toArray, List.set_cons_zero, List.set_cons_succ]
                refine hK0.out _ _ N32.out.below (fun hHeld => ?_)
                clear hK0 K0 N29 hr hk
                refine wpAnyH_ready (rs := [15]) (by kernel_rfl) (by simp) ?_
                refine AllReadyH.cons (by simp; rfl) (fun K0 hK0 => ?_) AllReadyH.nil
                · obtain ⟨g38, c39, y37, hr, hk⟩ := N32.out.swap.app (by omega)
                  have N36 := Lib.hid hk.swap
                  refine step_run rfl (.tmp 41) (.tmp 47) 22 22 rfl _ _ rfl rfl _ _ hr ?_
                  simp only [Act.put, List.setIfInBounds_toArray, List.set_cons_zero, List.set_cons_succ]
                  refine hK0.out _ _ N36.out.below (fun hHeld => ?_)
                  clear hK0 K0 N32 hr hk
                  refine wpAnyH_take (i := 16) (v := ?_) (by simp; rfl) (by kernel_rfl) (by kernel_rfl) (by kernel_rfl) (by exact fun _ _ _ h => h) (Or.inl ⟨by rfl, fun wx hSx => ?_⟩) hHeld ?_
                  rotate_left
                  · clear hSx; go_simp; (try with_reducible rfl)
                  simp only [Act.put, List.setIfInBounds_toArray, List.set_cons_zero, List.set_cons_succ]
                  refine wpAnyH_take (i := 17) (v := ?_) (by simp; rfl) (by kernel_rfl) (by kernel_rfl) (by kernel_rfl) (by exact fun _ _ _ h => h) (Or.inl ⟨by rfl, fun wx hSx => ?_⟩) hHeld ?_
                  rotate_left
                  · clear hSx; go_simp; (try with_reducible rfl)
                  simp only [Act.put, List.setIfInBounds_toArray, List.set_cons_zero, List.set_cons_succ]
                  refine wpAnyH_done (by kernel_rfl) ?_ _
                  go_wp2
                  go_roundw
                  case rel => exact ⟨k + 1, by omega, by go_num, by rw [HX1.out, HX2.out]; exact Lib.hid ⟨N36.out.i, N36.out.o, N36.out.apart, fun _ e => (by cases e), fun _ e => (by cases e), N36.out.below⟩⟩
                  case measure => simp [intOf]; omega
        · obtain rfl : k = 64 := by omega
          rw [xk_all F 54 HFL.out, xk_all F 92 HFL.out] at HY
          obtain ⟨hB, hnB, hcb, hb, hl⟩ := HBS.out
          have hbW : Below w.heap.size w wr := HAB.out.trans (HY.out.below.mono HAB.out.size)
          have hsA := HAB.out.size
          have hsW := HY.out.below.size
          obtain ⟨v3, w3, hr3, ho3, hg3⟩ := app8 wA.heap.size _ (xorS F 54) bs 64 lb B cb wr HY.out.i hsW (hB.to hbW) HBN.out hnB (by rw [← HBN.out]; exact hcb) (by have := HBN.out; omega)
          have hneo := nb_of HY.out.apart
          have hvo3 := HY.out.o.kept hg3 hneo
          have hb3 : Below wA.heap.size wA w3 := HY.out.below.grown hg3 hsW (own_le HY.out.i)
          obtain ⟨A3, c3, rfl, i1, i2, i3, i4, _⟩ := own_r8 ho3
          have hw3 : Below w.heap.size w w3 := HAB.out.trans (hb3.mono hsA)
          have hb3s := hb3.size
          have HR3 := Lib.hid hr3
          have hlI : (xorS F 54 ++ bs).length = 64 + lb := by rw [List.length_append, HBN.out, xorS, length_xo, HFL.out]
          have HC1 := Lib.hid (with_n (xorS F 54 ++ bs) (64 + lb) hlI A3 K S c3 ck cs w3 i1 i4 i2 (app_lt8 (by rw [← xk_all F 54 HFL.out]; exact xk_lt F 54 64) hb) (by have := HBN.out; omega) (HK.out.to hw3) (HS.out.to hw3))
          have HO3 := Lib.hid hvo3
          have HB3 := Lib.hid hb3
          obtain ⟨X, hX⟩ : ∃ X, sumS (xorS F 54 ++ bs) = X := ⟨_, rfl⟩
          have hXl : X.length = 32 := by rw [← hX]; exact length_sumS _
          have hXb : ∀ j, X.getD j 0 < 256 := by rw [← hX]; exact fun j => sb_lt8 _ _ j
          rw [hX] at HC1 HMS
          have HX := Lib.hid (And.intro hXl hXb)
          clear hr3 ho3 hg3 hneo hvo3 hb3 i1 i2 i3 i4 hX hXl hXb hlI HY hB hnB hcb hb hl hbW
          go_wp2_with (at_builtin; refine wpList_runR _ rfl _ _ 22 22 rfl _ _ rfl rfl _ _ HR3.out ?_)
          refine HC1.out.mono ?_
          rintro e w4 ⟨v4, rfl, ho4, hb4⟩
          obtain ⟨A4, c4, rfl, j1, j2, j3, j4, _⟩ := own_r8 ho4
          have hb4s := hb4.size
          obtain ⟨v5, w5, hr5, ho5, hg5⟩ := app8 wA.heap.size _ (xorS F 92) X 64 32 A4 c4 w4 (own_keep HO3.out hb4) (by omega) j1 HX.out.1 j4 j2 (by omega)
          have hb5 : Below wA.heap.size wA w5 := (HB3.out.trans (hb4.mono hb3s)).grown hg5 (by omega) (own_le HO3.out)
          obtain ⟨A5, c5, rfl, m1, m2, m3, m4, _⟩ := own_r8 ho5
          have hw5 : Below w.heap.size w w5 := HAB.out.trans (hb5.mono hsA)
          have HR5 := Lib.hid hr5
          have hlO : (xorS F 92 ++ X).length = 64 + 32 := by rw [List.length_append, HX.out.1, xorS, length_xo, HFL.out]
          have HC2 := Lib.hid (with_n (xorS F 92 ++ X) (64 + 32) hlO A5 K S c5 ck cs w5 m1 m4 m2 (app_lt8 (by rw [← xk_all F 92 HFL.out]; exact xk_lt F 92 64) HX.out.2) (by omega) (HK.out.to hw5) (HS.out.to hw5))
          rw [← HMS.out] at HC2
          have HW5 := Lib.hid hw5
          clear ho4 hb4 j1 j2 j3 j4 hr5 ho5 hg5 hb5 m1 m2 m3 m4 hlO HC1 HR3 hw5
          go_wp2_with (at_builtin; refine wpList_runR _ rfl _ _ 22 22 rfl _ _ rfl rfl _ _ HR5.out ?_)
          refine HC2.out.mono ?_
          rintro e w6 ⟨v6, rfl, ho6, hb6⟩
          have HE := Lib.hid (And.intro (own_base ho6 HW5.out.size) (HW5.out.trans (hb6.mono HW5.out.size)))
          clear ho6 hb6
          go_wp2
          go_ret
          exact ⟨v6, rfl, HE.out.1, HE.out.2⟩
set_option maxRecDepth 100000 in
set_option maxHeartbeats 4000000 in
theorem rmark_long (key bs : List Nat) (A B K S : Option Addr) (ca cb ck cs : Nat) (w : World) (hA : R0 w A key) (hnA : A = none → ca = 0) (hca : key.length ≤ ca) (ha : ∀ j, key.getD j 0 < 256) (hB : R0 w B bs) (hnB : B = none → cb = 0) (hcb : bs.length ≤ cb) (hb : ∀ j, bs.getD j 0 < 256) (hl : bs.length ≤ 900) (hK : RN .u32 w K kk) (hS : RN .u32 w S iv.list) (hk : 64 < key.length) (hk2 : key.length ≤ 900) :
    Calls Tryd.prog 32 #[.slice K 64 ck, .slice S 8 cs, .slice A key.length ca, .slice B bs.length cb] w fun e w' => ∃ v, e = .returned v ∧ w'.ownsRow w.heap.size 5 1 v 32 (V8 (markS key bs)) ∧ Below w.heap.size w w' := by
  obtain ⟨i0, hi, hz0, hz1, hz2⟩ := info_parts infoByte
  obtain ⟨v1, w1, hr1, ho1, hg1⟩ := app8 w.heap.size (.slice none 0 0) [] key 0 key.length A ca w (World.ownsRow_nil _ _ _ _) (Nat.le_refl _) hA rfl hnA hca (by omega)
  rw [List.nil_append, Nat.zero_add] at ho1
  have hb1 : Below w.heap.size w w1 := (Below.refl _ _).grown hg1 (Nat.le_refl _) (fun k hk => by simp [Value.ownBlock] at hk)
  obtain ⟨A1, c1, rfl, k1, k2, k3, k4, _⟩ := own_r8 ho1
  have HW1 := Lib.hid (with_any key A1 K S c1 ck cs w1 k1 k4 k2 ha (by omega) (hK.to hb1) (hS.to hb1))
  have hsl := length_sumS key
  obtain ⟨X0, hX0⟩ : ∃ X, sumS key = X := ⟨_, rfl⟩
  rw [hX0] at HW1 hsl
  have HX0 := Lib.hid hsl
  have HR1 := Lib.hid hr1
  have HO1 := Lib.hid ho1
  have HB1 := Lib.hid hb1
  have HFK := Lib.hid (show fillK key = sumS key ++ List.replicate (64 - 32) 0 from if_neg (by omega))
  rw [hX0] at HFK
  have HMS := Lib.hid (show markS key bs = sumS (xorS (fillK key) 92 ++ sumS (xorS (fillK key) 54 ++ bs)) from rfl)
  have HFL := Lib.hid (length_fillK key)
  have HBS := Lib.hid (And.intro hB (And.intro hnB (And.intro hcb (And.intro hb hl))))
  have HK := Lib.hid hK
  have HS := Lib.hid hS
  generalize markS key bs = M at HMS ⊢
  generalize fillK key = F at HMS HFK HFL
  obtain ⟨n, hn⟩ : ∃ n, key.length = n := ⟨_, rfl⟩
  obtain ⟨lb, hlb⟩ : ∃ n, bs.length = n := ⟨_, rfl⟩
  rw [hn] at HR1 HO1 HW1 hk hk2 ⊢
  rw [hlb]
  have hgt : (64 : Int) < (n : Int) := by omega
  have HKN := Lib.hid hn
  have HBN := Lib.hid hlb
  clear hA hnA hca ha hB hnB hcb hb hl hK hS hr1 ho1 hg1 hb1 hn hlb k1 k2 k3 k4 hsl hX0
  go_enter Tryd.func32, Tryd.ntmps32
  go_upto_region 3 with (at_builtin; refine wpList_runR _ rfl _ _ 22 22 rfl _ _ rfl rfl _ _ HR1.out ?_)
  go_wp2_with fail
  refine HW1.out.mono ?_
  rintro e w2 ⟨v2, rfl, ho2, hb2⟩
  obtain ⟨A1', c1', rfl, _, _, _, _, _⟩ := own_r8 ho2
  have H0 := Lib.hid (show w2.ownsRow w.heap.size 5 1 (.slice A1' 32 c1') 32 (V8 (X0 ++ List.replicate 0 0)) ∧ Below w.heap.size w w2 from ⟨by simpa using own_base ho2 HB1.out.size, HB1.out.trans (hb2.mono HB1.out.size)⟩)
  clear HW1 ho2 hb2
  clear HR1 HO1 HB1
  go_wp2
  go_loopw [9] (fun v wr => ∃ (m N : Nat) (A1 : Option Addr) (c1 : Nat), 32 + m = N ∧ N ≤ 64 ∧ v = .slice A1 N c1 ∧ Hid (wr.ownsRow w.heap.size 5 1 (.slice A1 N c1) N (V8 (X0 ++ List.replicate m 0)) ∧ Below w.heap.size w wr)) (fun v _ => 64 - (match v with | .slice _ l _ => l | _ => 0))
  case atStart => exact ⟨0, 32, A1', c1', by omega, by omega, rfl, H0⟩
  case round =>
    obtain ⟨m, N, A2, c2, hN, hN64, rfl, HA⟩ := hrel
    clear H0
    by_cases hlt : N < 64
    · have hbs := HA.out.2.size
      go_wp2_with (at_builtin; refine wpList_append_lies _ rfl _ _ 22 rfl w.heap.size 5 i0 (.int .u8 0) 1 1 Tryd.underlying22 hi hz0 hz1 hz2 rfl (by decide) _ _ _ rfl (HA.out.1.alloc _) ⟨wr.heap.size, 0, none⟩ 1 1 [.int .u8 0] rfl rfl ?c1 ?c2 (by decide) ?c3 ?c4 ?c5 (wr.heap.size + 1) (by simp) ?_)
      case c1 =>
        intro q u hq
        match q, hq with
        | 0, hq => simp at hq; subst hq; simp [Addr.add]
      case c2 => intro u hu; simp at hu; subst hu; rfl
      case c3 => unfold maxLen; omega
      case c4 => omega
      case c5 => simp; omega
      · intro g' cap' w3 hown3 hgrow3 _ _
        have HN3 := Lib.hid (show w3.ownsRow w.heap.size 5 1 (.slice (some ⟨g', 0, none⟩) (N + 1) cap') (N + 1) (V8 (X0 ++ List.replicate (m + 1) 0)) ∧ Below w.heap.size w w3 from ⟨by rw [List.replicate_succ', ← List.append_assoc, V8_append]; exact hown3, (HA.out.2.alloc hbs _).grown hgrow3 (by simp; omega) (own_le HA.out.1)⟩)
        clear hown3 hgrow3 HA
        go_wp2
        go_roundw
        case rel => exact ⟨m + 1, N + 1, _, _, by omega, by omega, rfl, HN3⟩
        case measure => simp; omega
    · obtain rfl : N = 64 := by omega
      have hF : F = X0 ++ List.replicate m 0 := by rw [HFK.out, show 64 - 32 = m by omega]
      have HO := HA.out.1
      rw [← hF] at HO
      obtain ⟨Af, cf, hve, f1, f2, f3, f4, _⟩ := own_r8 HO
      obtain ⟨rfl, rfl⟩ : A2 = Af ∧ c2 = cf := by simpa using hve
      obtain ⟨gf, of_, rfl, hgf, hcf⟩ := f1 (by rw [HFL.out]; omega)
      obtain ⟨wA, rfl⟩ : ∃ W, W = wr := ⟨_, rfl⟩
      have HCF := Lib.hid hcf
      have HAB := Lib.hid HA.out.2
      have H1 := Lib.hid (show YK wA (xk F 54 0) (xk F 92 0) (.slice none 0 0) (.slice none 0 0) 0 0 0 0 none none wA from ⟨World.ownsRow_nil _ _ _ _, World.ownsRow_nil _ _ _ _, fun a b h => (by simp [Value.ownBlock] at h), fun _ e => (by cases e), fun _ e => (by cases e), Below.refl _ _⟩)
      clear HA hve f1 f2 f3 f4 hcf HO hF hlt
      go_wp2
      go_loopw [10, 11, 12] (fun vi vo i wr => ∃ k : Nat, k ≤ 64 ∧ i = .int .i64 k ∧ Hid (YK wA (xk F 54 k) (xk F 92 k) vi vo k k 0 0 none none wr)) (fun _ _ i _ => 64 - (intOf i).toNat)
      case atStart => exact ⟨0, by omega, rfl, H1⟩
      case round =>
        obtain ⟨k, hk64, rfl, HY⟩ := hrel
        clear H1
        by_cases hlk : k < 64
        · have CF := Lib.hid (HCF.out k (by rw [HFL.out]; exact hlk))
          have HX1 := Lib.hid (xk_next F 54 k (by rw [HFL.out]; exact hlk))
          have HX2 := Lib.hid (xk_next F 92 k (by rw [HFL.out]; exact hlk))
          generalize F.getD k 0 = c at CF HX1 HX2
          have HU0 := Lib.hid (show YK wA (xk F 54 k) (xk F 92 k) _ _ k k (xor8 c 54) (xor8 c 92) none none wr.drew from ⟨HY.out.i, HY.out.o, HY.out.apart, fun _ e => (by cases e), fun _ e => (by cases e), HY.out.below.drew⟩)
          have hr54 : bits .xor .u8 (c : Int) 54 = ((xor8 c 54 : Nat) : Int) := u8_xor c 54
          have hr92 : bits .xor .u8 (c : Int) 92 = ((xor8 c 92 : Nat) : Int) := u8_xor c 92
          obtain ⟨z1, hz1'⟩ : ∃ z, xor8 c 54 = z := ⟨_, rfl⟩
          obtain ⟨z2, hz2'⟩ : ∃ z, xor8 c 92 = z := ⟨_, rfl⟩
          rw [hz1'] at HX1 HU0 hr54
          rw [hz2'] at HX2 HU0 hr92
          have hkk : (k : Int) < 64 := by omega
          clear hz1' hz2' HY
          go_upto_region 11 with fail
          refine wp_region_held_drew (S := fun W => Below wA.heap.size wA W) (by kernel_rfl) HU0.out.below (fun hHeld => ?_)
          refine wpAnyH_take (i := 0) (v := ?_) (by simp; rfl) (by kernel_rfl) (by kernel_rfl) (by kernel_rfl) (by exact fun _ _ _ h => h) (Or.inl ⟨by rfl, fun wx hSx => ?_⟩) hHeld ?_
          rotate_left
          · clear hSx; go_simp; (try with_reducible rfl)
          simp only [Act.put, List.setIfInBounds_toArray, List.set_cons_zero, List.set_cons_succ]
          refine wpAnyH_take (i := 1) (v := ?_) (by simp; rfl) (by kernel_rfl) (by kernel_rfl) (by kernel_rfl) (by exact fun _ _ _ h => h) (Or.inl ⟨by rfl, fun wx hSx => ?_⟩) hHeld ?_
          rotate_left
          · clear hSx; go_simp; (try with_reducible rfl)
          simp only [Act.put, List.setIfInBounds_toArray, List.set_cons_zero, List.set_cons_succ]
          refine wpAnyH_take (i := 2) (v := ?_) (by simp; rfl) (by kernel_rfl) (by kernel_rfl) (by kernel_rfl) (by exact fun _ _ _ h => h) (Or.inl ⟨by rfl, fun wx hSx => ?_⟩) hHeld ?_
          rotate_left
          · clear hSx; go_simp; (try with_reducible rfl)
          simp only [Act.put, List.setIfInBounds_toArray, List.set_cons_zero, List.set_cons_succ]
          refine wpAnyH_take (i := 3) (v := ?_) (by simp; rfl) (by kernel_rfl) (by kernel_rfl) (by kernel_rfl) (by exact fun _ _ _ h => h) (Or.inl ⟨by rfl, fun wx hSx => ?_⟩) hHeld ?_
          rotate_left
          · clear hSx; go_simp; (try with_reducible rfl)
          simp only [Act.put, List.setIfInBounds_toArray, List.set_cons_zero, List.set_cons_succ]
          refine wpAnyH_take (i := 4) (v := ?_) (by simp; rfl) (by kernel_rfl) (by kernel_rfl) (by kernel_rfl) (by exact fun _ _ _ h => h) (Or.inl ⟨by rfl, fun wx hSx => ?_⟩) hHeld ?_
          rotate_left
          · have hc := (hSx.cell (p := ⟨gf, of_ + k, none⟩) hgf).trans CF.out; clear hSx; go_simp; (try with_reducible rfl)
          simp only [Act.put, List.setIfInBounds_toArray, List.set_cons_zero, List.set_cons_succ]
          refine wpAnyH_take (i := 5) (v := ?_) (by simp; rfl) (by kernel_rfl) (by kernel_rfl) (by kernel_rfl) (by exact fun _ _ _ h => h) (Or.inl ⟨by rfl, fun wx hSx => ?_⟩) hHeld ?_
          rotate_left
          · clear hSx; go_simp; (try with_reducible rfl)
          simp only [Act.put, List.setIfInBounds_toArray, List.set_cons_zero, List.set_cons_succ]
          refine wpAnyH_take (i := 8) (v := ?_) (by simp; rfl) (by kernel_rfl) (by kernel_rfl) (by kernel_rfl) (by exact fun _ _ _ h => h) (Or.inl ⟨by rfl, fun wx hSx => ?_⟩) hHeld ?_
          rotate_left
          · clear hSx; go_simp; (try with_reducible rfl)
          simp only [Act.put, List.setIfInBounds_toArray, List.set_cons_zero, List.set_cons_succ]
          refine wpAnyH_take (i := 9) (v := ?_) (by simp; rfl) (by kernel_rfl) (by kernel_rfl) (by kernel_rfl) (by exact fun _ _ _ h => h) (Or.inl ⟨by rfl, fun wx hSx => ?_⟩) hHeld ?_
          rotate_left
          · clear hSx; go_simp; (try with_reducible rfl)
          simp only [Act.put, List.setIfInBounds_toArray, List.set_cons_zero, List.set_cons_succ]
          refine wpAnyH_take (i := 10) (v := ?_) (by simp; rfl) (by kernel_rfl) (by kernel_rfl) (by kernel_rfl) (by exact fun _ _ _ h => h) (Or.inl ⟨by rfl, fun wx hSx => ?_⟩) hHeld ?_
          rotate_left
          · clear hSx; go_simp; (try with_reducible rfl)
          simp only [Act.put, List.setIfInBounds_toArray, List.set_cons_zero, List.set_cons_succ]
          refine wpAnyH_take (i := 11) (v := ?_) (by simp; rfl) (by kernel_rfl) (by kernel_rfl) (by kernel_rfl) (by exact fun _ _ _ h => h) (Or.inl ⟨by rfl, fun wx hSx => ?_⟩) hHeld ?_
          rotate_left
          · clear hSx; go_simp; (try with_reducible rfl)
          simp only [Act.put, List.setIfInBounds_toArray, List.set_cons_zero, List.set_cons_succ]
          refine wpAnyH_take (i := 12) (v := ?_) (by simp; rfl) (by kernel_rfl) (by kernel_rfl) (by kernel_rfl) (by exact fun _ _ _ h => h) (Or.inl ⟨by rfl, fun wx hSx => ?_⟩) hHeld ?_
          rotate_left
          · have hc := (hSx.cell (p := ⟨gf, of_ + k, none⟩) hgf).trans CF.out; clear hSx; go_simp; (try with_reducible rfl)
          simp only [Act.put, List.setIfInBounds_toArray, List.set_cons_zero, List.set_cons_succ]
          refine wpAnyH_take (i := 13) (v := ?_) (by simp; rfl) (by kernel_rfl) (by kernel_rfl) (by kernel_rfl) (by exact fun _ _ _ h => h) (Or.inl ⟨by rfl, fun wx hSx => ?_⟩) hHeld ?_
          rotate_left
          · clear hSx; go_simp; (try with_reducible rfl)
          simp only [Act.put, List.setIfInBounds_toArray, List.set_cons_zero, List.set_cons_succ]
          generalize wr.drew = U0 at HU0 hHeld ⊢
          refine wpAnyH_ready (rs := [6, 14]) (by kernel_rfl) (by simp) ?_
          refine AllReadyH.cons (by simp; rfl) (fun K0 hK0 => ?_) (AllReadyH.cons (by simp; rfl) (fun K0 hK0 => ?_) AllReadyH.nil)
          · go_simp
            have N1 := Lib.hid HU0.out.new1
            refine hK0.out _ _ N1.out.below (fun hHeld => ?_)
            clear hK0 K0 HU0
            generalize (U0.alloc _) = y2 at N1 hHeld ⊢
            generalize U0.heap.size = q3 at N1 ⊢
            refine wpAnyH_ready (rs := [7, 14]) (by kernel_rfl) (by simp) ?_
            refine AllReadyH.cons (by simp; rfl) (fun K0 hK0 => ?_) (AllReadyH.cons (by simp; rfl) (fun K0 hK0 => ?_) AllReadyH.nil)
            · obtain ⟨g6, c7, y5, hr, hk⟩ := N1.out.app (by omega)
              have N4 := Lib.hid hk
              refine step_run rfl (.tmp 33) (.tmp 39) 22 22 rfl _ _ rfl rfl _ _ hr ?_
              simp only [Act.put, List.setIfInBounds_toArray, List.set_cons_zero, List.set_cons_succ]
              refine hK0.out _ _ N4.out.below (fun hHeld => ?_)
              clear hK0 K0 N1 hr hk
              refine wpAnyH_ready (rs := [14]) (by kernel_rfl) (by simp) ?_
              refine AllReadyH.cons (by simp; rfl) (fun K0 hK0 => ?_) AllReadyH.nil
              · go_simp
                have N8 := Lib.hid N4.out.swap.new1.swap
                refine hK0.out _ _ N8.out.below (fun hHeld => ?_)
                clear hK0 K0 N4
                generalize (y5.alloc _) = y9 at N8 hHeld ⊢
                generalize y5.heap.size = q10 at N8 ⊢
                refine wpAnyH_ready (rs := [15]) (by kernel_rfl) (by simp) ?_
                refine AllReadyH.cons (by simp; rfl) (fun K0 hK0 => ?_) AllReadyH.nil
                · obtain ⟨g13, c14, y12, hr, hk⟩ := N8.out.swap.app (by omega)
                  have N11 := Lib.hid hk.swap
                  refine step_run rfl (.tmp 41) (.tmp 47) 22 22 rfl _ _ rfl rfl _ _ hr ?_
                  simp only [Act.put, List.setIfInBounds_toArray, List.set_cons_zero, List.set_cons_succ]
                  refine hK0.out _ _ N11.out.below (fun hHeld => ?_)
                  clear hK0 K0 N8 hr hk
                  refine wpAnyH_take (i := 16) (v := ?_) (by simp; rfl) (by kernel_rfl) (by kernel_rfl) (by kernel_rfl) (by exact fun _ _ _ h => h) (Or.inl ⟨by rfl, fun wx hSx => ?_⟩) hHeld ?_
                  rotate_left
                  · clear hSx; go_simp; (try with_reducible rfl)
                  simp only [Act.put, List.setIfInBounds_toArray, List.set_cons_zero, List.set_cons_succ]
                  refine wpAnyH_take (i := 17) (v := ?_) (by simp; rfl) (by kernel_rfl) (by kernel_rfl) (by kernel_rfl) (by exact fun _ _ _ h => h) (Or.inl ⟨by rfl, fun wx hSx => ?_⟩) hHeld ?_
                  rotate_left
                  · clear hSx; go_simp; (try with_reducible rfl)
                  simp only [Act.put, List.setIfInBounds_toArray, List.set_cons_zero, List.set_cons_succ]
                  refine wpAnyH_done (by kernel_rfl) ?_ _
                  go_wp2
                  go_roundw
                  case rel => exact ⟨k + 1, by omega, by go_num, by rw [HX1.out, HX2.out]; exact Lib.hid ⟨N11.out.i, N11.out.o, N11.out.apart, fun _ e => (by cases e), fun _ e => (by cases e), N11.out.below⟩⟩
                  case measure => simp [intOf]; omega
            · go_simp
              have N15 := Lib.hid N1.out.swap.new1.swap
              refine hK0.out _ _ N15.out.below (fun hHeld => ?_)
              clear hK0 K0 N1
              generalize (y2.alloc _) = y16 at N15 hHeld ⊢
              generalize y2.heap.size = q17 at N15 ⊢
              refine wpAnyH_ready (rs := [7]) (by kernel_rfl) (by simp) ?_
              refine AllReadyH.cons (by simp; rfl) (fun K0 hK0 => ?_) AllReadyH.nil
              · obtain ⟨g20, c21, y19, hr, hk⟩ := N15.out.app (by omega)
                have N18 := Lib.hid hk
                refine step_run rfl (.tmp 33) (.tmp 39) 22 22 rfl _ _ rfl rfl _ _ hr ?_
                simp only [Act.put, List.setIfInBounds_toArray, List.set_cons_zero, List.set_cons_succ]
                refine hK0.out _ _ N18.out.below (fun hHeld => ?_)
                clear hK0 K0 N15 hr hk
                refine wpAnyH_ready (rs := [15]) (by kernel_rfl) (by simp) ?_
                refine AllReadyH.cons (by simp; rfl) (fun K0 hK0 => ?_) AllReadyH.nil
                · obtain ⟨g24, c25, y23, hr, hk⟩ := N18.out.swap.app (by omega)
                  have N22 := Lib.hid hk.swap
                  refine step_run rfl (.tmp 41) (.tmp 47) 22 22 rfl _ _ rfl rfl _ _ hr ?_
                  simp only [Act.put, List.setIfInBounds_toArray, List.set_cons_zero, List.set_cons_succ]
                  refine hK0.out _ _ N22.out.below (fun hHeld => ?_)
                  clear hK0 K0 N18 hr hk
                  refine wpAnyH_take (i := 16) (v := ?_) (by simp; rfl) (by kernel_rfl) (by kernel_rfl) (by kernel_rfl) (by exact fun _ _ _ h => h) (Or.inl ⟨by rfl, fun wx hSx => ?_⟩) hHeld ?_
                  rotate_left
                  · clear hSx; go_simp; (try with_reducible rfl)
                  simp only [Act.put, List.setIfInBounds_toArray, List.set_cons_zero, List.set_cons_succ]
                  refine wpAnyH_take (i := 17) (v := ?_) (by simp; rfl) (by kernel_rfl) (by kernel_rfl) (by kernel_rfl) (by exact fun _ _ _ h => h) (Or.inl ⟨by rfl, fun wx hSx => ?_⟩) hHeld ?_
                  rotate_left
                  · clear hSx; go_simp; (try with_reducible rfl)
                  simp only [Act.put, List.setIfInBounds_toArray, List.set_cons_zero, List.set_cons_succ]
                  refine wpAnyH_done (by kernel_rfl) ?_ _
                  go_wp2
                  go_roundw
                  case rel => exact ⟨k + 1, by omega, by go_num, by rw [HX1.out, HX2.out]; exact Lib.hid ⟨N22.out.i, N22.out.o, N22.out.apart, fun _ e => (by cases e), fun _ e => (by cases e), N22.out.below⟩⟩
                  case measure => simp [intOf]; omega
          · go_simp
            have N26 := Lib.hid HU0.out.swap.new1.swap
            refine hK0.out _ _ N26.out.below (fun hHeld => ?_)
            clear hK0 K0 HU0
            generalize (U0.alloc _) = y27 at N26 hHeld ⊢
            generalize U0.heap.size = q28 at N26 ⊢
            refine wpAnyH_ready (rs := [6]) (by kernel_rfl) (by simp) ?_
            refine AllReadyH.cons (by simp; rfl) (fun K0 hK0 => ?_) AllReadyH.nil
            · go_simp
              have N29 := Lib.hid N26.out.new1
              refine hK0.out _ _ N29.out.below (fun hHeld => ?_)
              clear hK0 K0 N26
              generalize (y27.alloc _) = y30 at N29 hHeld ⊢
              generalize y27.heap.size = q31 at N29 ⊢
              refine wpAnyH_ready (rs := [7]) (by kernel_rfl) (by simp) ?_
              refine AllReadyH.cons (by simp; rfl) (fun K0 hK0 => ?_) AllReadyH.nil
              · obtain ⟨g34, c35, y33, hr, hk⟩ := N29.out.app (by omega)
                have N32 := Lib.hid hk
                refine step_run rfl (.tmp 33) (.tmp 39) 22 22 rfl _ _ rfl rfl _ _ hr ?_
                simp only [Act.put, List.setIfInBounds_toArray, List.set_cons_zero, List.set_cons_succ]
                refine hK0.out _ _ N32.out.below (fun hHeld => ?_)
                clear hK0 K0 N29 hr hk
                refine wpAnyH_ready (rs := [15]) (by kernel_rfl) (by simp) ?_
                refine AllReadyH.cons (by simp; rfl) (fun K0 hK0 => ?_) AllReadyH.nil
                · obtain ⟨g38, c39, y37, hr, hk⟩ := N32.out.swap.app (by omega)
                  have N36 := Lib.hid hk.swap
                  refine step_run rfl (.tmp 41) (.tmp 47) 22 22 rfl _ _ rfl rfl _ _ hr ?_
                  simp only [Act.put, List.setIfInBounds_toArray, List.set_cons_zero, List.set_cons_succ]
                  refine hK0.out _ _ N36.out.below (fun hHeld => ?_)
                  clear hK0 K0 N32 hr hk
                  refine wpAnyH_take (i := 16) (v := ?_) (by simp; rfl) (by kernel_rfl) (by kernel_rfl) (by kernel_rfl) (by exact fun _ _ _ h => h) (Or.inl ⟨by rfl, fun wx hSx => ?_⟩) hHeld ?_
                  rotate_left
                  · clear hSx; go_simp; (try with_reducible rfl)
                  simp only [Act.put, List.setIfInBounds_toArray, List.set_cons_zero, List.set_cons_succ]
                  refine wpAnyH_take (i := 17) (v := ?_) (by simp; rfl) (by kernel_rfl) (by kernel_rfl) (by kernel_rfl) (by exact fun _ _ _ h => h) (Or.inl ⟨by rfl, fun wx hSx => ?_⟩) hHeld ?_
                  rotate_left
                  · clear hSx; go_simp; (try with_reducible rfl)
                  simp only [Act.put, List.setIfInBounds_toArray, List.set_cons_zero, List.set_cons_succ]
                  refine wpAnyH_done (by kernel_rfl) ?_ _
                  go_wp2
                  go_roundw
                  case rel => exact ⟨k + 1, by omega, by go_num, by rw [HX1.out, HX2.out]; exact Lib.hid ⟨N36.out.i, N36.out.o, N36.out.apart, fun _ e => (by cases e), fun _ e => (by cases e), N36.out.below⟩⟩
                  case measure => simp [intOf]; omega
        · obtain rfl : k = 64 := by omega
          rw [xk_all F 54 HFL.out, xk_all F 92 HFL.out] at HY
          obtain ⟨hB, hnB, hcb, hb, hl⟩ := HBS.out
          have hbW : Below w.heap.size w wr := HAB.out.trans (HY.out.below.mono HAB.out.size)
          have hsA := HAB.out.size
          have hsW := HY.out.below.size
          obtain ⟨v3, w3, hr3, ho3, hg3⟩ := app8 wA.heap.size _ (xorS F 54) bs 64 lb B cb wr HY.out.i hsW (hB.to hbW) HBN.out hnB (by rw [← HBN.out]; exact hcb) (by have := HBN.out; omega)
          have hneo := nb_of HY.out.apart
          have hvo3 := HY.out.o.kept hg3 hneo
          have hb3 : Below wA.heap.size wA w3 := HY.out.below.grown hg3 hsW (own_le HY.out.i)
          obtain ⟨A3, c3, rfl, i1, i2, i3, i4, _⟩ := own_r8 ho3
          have hw3 : Below w.heap.size w w3 := HAB.out.trans (hb3.mono hsA)
          have hb3s := hb3.size
          have HR3 := Lib.hid hr3
          have hlI : (xorS F 54 ++ bs).length = 64 + lb := by rw [List.length_append, HBN.out, xorS, length_xo, HFL.out]
          have HC1 := Lib.hid (with_n (xorS F 54 ++ bs) (64 + lb) hlI A3 K S c3 ck cs w3 i1 i4 i2 (app_lt8 (by rw [← xk_all F 54 HFL.out]; exact xk_lt F 54 64) hb) (by have := HBN.out; omega) (HK.out.to hw3) (HS.out.to hw3))
          have HO3 := Lib.hid hvo3
          have HB3 := Lib.hid hb3
          obtain ⟨X, hX⟩ : ∃ X, sumS (xorS F 54 ++ bs) = X := ⟨_, rfl⟩
          have hXl : X.length = 32 := by rw [← hX]; exact length_sumS _
          have hXb : ∀ j, X.getD j 0 < 256 := by rw [← hX]; exact fun j => sb_lt8 _ _ j
          rw [hX] at HC1 HMS
          have HX := Lib.hid (And.intro hXl hXb)
          clear hr3 ho3 hg3 hneo hvo3 hb3 i1 i2 i3 i4 hX hXl hXb hlI HY hB hnB hcb hb hl hbW
          go_wp2_with (at_builtin; refine wpList_runR _ rfl _ _ 22 22 rfl _ _ rfl rfl _ _ HR3.out ?_)
          refine HC1.out.mono ?_
          rintro e w4 ⟨v4, rfl, ho4, hb4⟩
          obtain ⟨A4, c4, rfl, j1, j2, j3, j4, _⟩ := own_r8 ho4
          have hb4s := hb4.size
          obtain ⟨v5, w5, hr5, ho5, hg5⟩ := app8 wA.heap.size _ (xorS F 92) X 64 32 A4 c4 w4 (own_keep HO3.out hb4) (by omega) j1 HX.out.1 j4 j2 (by omega)
          have hb5 : Below wA.heap.size wA w5 := (HB3.out.trans (hb4.mono hb3s)).grown hg5 (by omega) (own_le HO3.out)
          obtain ⟨A5, c5, rfl, m1, m2, m3, m4, _⟩ := own_r8 ho5
          have hw5 : Below w.heap.size w w5 := HAB.out.trans (hb5.mono hsA)
          have HR5 := Lib.hid hr5
          have hlO : (xorS F 92 ++ X).length = 64 + 32 := by rw [List.length_append, HX.out.1, xorS, length_xo, HFL.out]
          have HC2 := Lib.hid (with_n (xorS F 92 ++ X) (64 + 32) hlO A5 K S c5 ck cs w5 m1 m4 m2 (app_lt8 (by rw [← xk_all F 92 HFL.out]; exact xk_lt F 92 64) HX.out.2) (by omega) (HK.out.to hw5) (HS.out.to hw5))
          rw [← HMS.out] at HC2
          have HW5 := Lib.hid hw5
          clear ho4 hb4 j1 j2 j3 j4 hr5 ho5 hg5 hb5 m1 m2 m3 m4 hlO HC1 HR3 hw5
          go_wp2_with (at_builtin; refine wpList_runR _ rfl _ _ 22 22 rfl _ _ rfl rfl _ _ HR5.out ?_)
          refine HC2.out.mono ?_
          rintro e w6 ⟨v6, rfl, ho6, hb6⟩
          have HE := Lib.hid (And.intro (own_base ho6 HW5.out.size) (HW5.out.trans (hb6.mono HW5.out.size)))
          clear ho6 hb6
          go_wp2
          go_ret
          exact ⟨v6, rfl, HE.out.1, HE.out.2⟩
end Go.Proofs.YtakfcdemoaogfaaDoor
