/-
  Proved here: of a stream of New: New, isNone, Count, Type, Ack, Pending; and what one that is nil, or that no call made, answers.
-/
import Derived.Test.YtlppnnehgfpgbaaKya
import Derived.Laws.AppendOwnNone
set_option linter.unusedSimpArgs false
set_option linter.unusedVariables false
namespace Go.Proofs.Ytlppnnehgfpgbaa
open Go.RowKit
theorem heldMono {P : Program} {md : Region.Mode} {ops : Array Oper} {Q : Exit → Act → World → Prop} {S S' : World → Prop} (h : ∀ w, S' w → S w) :
    ∀ (fuel : Nat) (listed : Array Bool) (a : Act) (w : World), wpAnyH P md ops Q S' fuel listed a w → wpAnyH P md ops Q S fuel listed a w
  | 0, _, _, _, x => x
  | fuel + 1, _, _, _, x => ⟨x.1, fun i hi => wpOp_mono (fun a' w' h' => ⟨h _ h'.1, heldMono h fuel _ a' w' h'.2⟩) (x.2 i hi)⟩
theorem Own8.back {w U W : World} {v : Value} {xs : List Int} (h : Own8 U v xs W) (hb : Below w.heap.size w U) : Own8 w v xs W := ⟨own_mono h.own hb.size, hb.trans (h.below.mono hb.size)⟩
theorem oneCell_U8 (l : List Int) : ∀ u ∈ NV .u8 l, u.oneCell' = true := by
  intro u hu
  obtain ⟨x, _, rfl⟩ := List.mem_map.1 hu
  rfl
set_option maxHeartbeats 400000 in
theorem clone_any {bs : List Int} {n : Nat} (hn : bs.length = n) {A : Option Addr} {cap : Nat} (w : World) (hR : RI .u8 w A bs) (hl : n ≤ 100000) (hA : A = none → cap = 0) :
    Calls Try.prog 40 #[.slice A n cap] w fun e w' => ∃ v, e = .returned v ∧ Own8 w v bs w' := by
  subst hn
  rcases A with _ | ad
  · have hz : bs.length = 0 := by
      rcases Nat.eq_zero_or_pos bs.length with h | h
      · exact h
      · obtain ⟨_, _, h, _⟩ := hR h
        cases h
    obtain rfl : bs = [] := List.eq_nil_of_length_eq_zero hz
    obtain rfl := hA rfl
    have hnil := fun W => Lib.run_eql_slice_nil (P := Try.prog) W 28 5 none 0 0 0 0 Try.underlying28
    go_enter Try.func40, Try.ntmps40
    go_wp2
    go_ret
    exact ⟨_, rfl, Own8.new w⟩
  · have hnil := fun W => Lib.run_eql_slice_nil (P := Try.prog) W 28 5 (some ad) bs.length cap 0 0 Try.underlying28
    obtain ⟨i0, hi, hz0, hz1, hz2⟩ := info_parts info_u8
    go_enter Try.func40, Try.ntmps40
    go_wp2_with (at_builtin; refine wpList_append_own _ rfl _ _ 28 rfl w.heap.size 5 i0 (.int .u8 0) 1 1 Try.underlying28 hi hz0 hz1 hz2 rfl (by decide) _ 0 [] rfl (World.ownsRow_made w #[] 0 (Nat.le_refl _) (by unfold maxLen; omega) rfl) ad bs.length cap (NV .u8 bs) rfl (by simp) ?c1 (oneCell_U8 bs) ?c3 ?c4 ?c5 ?_)
    case c1 => exact (hR.below ((Below.refl _ w).alloc (Nat.le_refl _) _)).cells
    case c3 => unfold maxLen; omega
    case c4 => omega
    case c5 => simp
    · intro v' w1 hown1 hgrow _
      go_wp2
      go_ret
      refine ⟨v', rfl, by simpa using hown1, ((Below.refl _ _).alloc (Nat.le_refl _) _).grown hgrow (by simp) ?_⟩
      intro k hk
      have : w.heap.size = k := by simpa [Value.ownBlock] using hk
      omega
theorem new_any (w : World) : Calls Try.prog 10 #[] w fun e w' => e = .returned (.pointer (some ⟨w.heap.size, 0, none⟩)) ∧ St w' w.heap.size 0 [] ∧ Below w.heap.size w w' := by
  have HB := Lib.hid (Bal (Below.refl w.heap.size w) (.cells #[.bool true, .int .u64 0, .slice none 0 0] 45))
  have HS := Lib.hid (show St (w.alloc (.cells #[.bool true, .int .u64 0, .slice none 0 0] 45)) w.heap.size 0 [] from ⟨none, 0, heap_alloc_new w _, RI.nothing _ _ _, by simp, by unfold maxLen; omega, fun _ => rfl⟩)
  go_enter Try.func10, Try.ntmps10
  go_wp2
  go_ret
  exact ⟨rfl, HS.out, HB.out⟩
theorem cut_any {A : Option Addr} {n c k : Nat} {k' : Int} (hk' : k' = (k : Int)) {bs : List Int} (hl : bs.length = n) (hk : k ≤ n) (hc : n ≤ c) (hz : A = none → c = 0) (hm : n ≤ 100000) (w : World) (hR : RI .u8 w A bs) : Calls Try.prog 39 #[.slice A n c, .int .u64 k'] w fun e w' => ∃ A2, e = .returned (.slice A2 (n - k) (n - k)) ∧ RI .u8 w A2 (bs.drop k) ∧ (A2 = none → n - k = 0) ∧ (∀ a, A2 = some a → ∃ a', A = some a' ∧ a'.block = a.block) ∧ w = w' := by
  subst hk'
  obtain ⟨A2, h1, h2, h4, h3⟩ := run_cut hk hc hz
  have H4 := Lib.hid h4
  have H1 := Lib.hid (h1 w bs hR hl)
  have H2 := Lib.hid h2
  clear h1 h2 h4
  obtain ⟨m, hme⟩ : ∃ m, n - k = m := ⟨_, rfl⟩
  rw [hme] at h3 H2 ⊢
  clear hme hR hl
  go_enter Try.func39, Try.ntmps39
  go_wp2
  go_ret
  exact ⟨A2, rfl, H1.out, H2.out, H4.out, rfl⟩
theorem stream_nil (w : World) : Calls Try.prog 38 #[.pointer none] w fun e w' => e = .returned (.bool true) ∧ w = w' := by
  go_enter Try.func38, Try.ntmps38
  go_wp2
  go_ret
  exact ⟨rfl, rfl⟩
theorem stream_zero {w : World} {g : Nat} (h : w.cell? ⟨g, 0, none⟩ = some (.bool false)) : Calls Try.prog 38 #[.pointer (some ⟨g, 0, none⟩)] w fun e w' => e = .returned (.bool true) ∧ w = w' := by
  go_enter Try.func38, Try.ntmps38
  go_wp2
  go_ret
  exact ⟨rfl, rfl⟩
theorem stream_made {w : World} {g : Nat} (h : w.cell? ⟨g, 0, none⟩ = some (.bool true)) : Calls Try.prog 38 #[.pointer (some ⟨g, 0, none⟩)] w fun e w' => e = .returned (.bool false) ∧ w = w' := by
  go_enter Try.func38, Try.ntmps38
  go_wp2
  go_ret
  exact ⟨rfl, rfl⟩
theorem sink_nil (w : World) : Calls Try.prog 41 #[.pointer none] w fun e w' => e = .returned (.bool true) ∧ w = w' := by
  go_enter Try.func41, Try.ntmps41
  go_wp2
  go_ret
  exact ⟨rfl, rfl⟩
theorem sink_zero {w : World} {g : Nat} (h : w.cell? ⟨g, 0, none⟩ = some (.bool false)) : Calls Try.prog 41 #[.pointer (some ⟨g, 0, none⟩)] w fun e w' => e = .returned (.bool true) ∧ w = w' := by
  go_enter Try.func41, Try.ntmps41
  go_wp2
  go_ret
  exact ⟨rfl, rfl⟩
theorem sink_made {w : World} {g : Nat} (h : w.cell? ⟨g, 0, none⟩ = some (.bool true)) : Calls Try.prog 41 #[.pointer (some ⟨g, 0, none⟩)] w fun e w' => e = .returned (.bool false) ∧ w = w' := by
  go_enter Try.func41, Try.ntmps41
  go_wp2
  go_ret
  exact ⟨rfl, rfl⟩
/-MID-/
theorem count_st {w : World} {g base : Nat} {bs : List Int} (h : St w g base bs) {s : Nat} (hse : base + bs.length = s) (hs : s < 100000) : Calls Try.prog 20 #[.pointer (some ⟨g, 0, none⟩)] w fun e w' => e = .returned (.int .u64 s) ∧ ∃ m, w' = w.drewN m := by
  obtain ⟨A, c, hh, hr, h1, h2, h3⟩ := h.ex
  obtain ⟨c0, c1, c2⟩ := three_cells hh
  obtain ⟨n, hn⟩ : ∃ n, bs.length = n := ⟨_, rfl⟩
  rw [hn] at c2 hse h1
  have w1 : IntKind.u64.wrap (n : Int) = (n : Int) := wrap64_in (by omega)
  have w2 : IntKind.u64.wrap ((base : Int) + (n : Int)) = (s : Int) := by rw [wrap64_add (by omega), hse]
  have HN := Lib.hid (stream_made c0)
  clear h hh hr hn h1 h2 h3 hse
  go_enter Try.func20, Try.ntmps20
  go_wp2_with (go_at_call 38; refine HN.out.mono ?_; rintro e wx ⟨rfl, rfl⟩)
  go_quiet (fail)
  go_wp2
  go_ret
  exact ⟨rfl, _, rfl⟩
theorem type_full {w : World} {g base : Nat} {bs : List Int} (h : St w g base bs) {A2 : Option Addr} {m c2 : Nat} (hbs : bs.length ≤ 512) (hf : 512 - bs.length < m) : Calls Try.prog 13 #[.pointer (some ⟨g, 0, none⟩), .slice A2 m c2] w fun e w' => e = .returned (.int .i64 5) ∧ w = w' := by
  obtain ⟨A, c, hh, hr, h1, h2, h3⟩ := h.ex
  obtain ⟨c0, c1, c2⟩ := three_cells hh
  obtain ⟨n, hn⟩ : ∃ n, bs.length = n := ⟨_, rfl⟩
  rw [hn] at c2 hbs hf
  have w1 : IntKind.i64.wrap (512 - (n : Int)) = ((512 - n : Nat) : Int) := by rw [IntWalk.i64_in _ (by omega)]; omega
  have HN := Lib.hid (stream_made c0)
  obtain ⟨q, hq⟩ : ∃ q, 512 - n = q := ⟨_, rfl⟩
  rw [hq] at w1 hf
  have d1 : decide ((q : Int) < (m : Int)) = true := by simp; omega
  have d2 : (q : Int) < (m : Int) := by omega
  clear h hh hr hn h1 h2 h3 hq
  go_enter Try.func13, Try.ntmps13
  go_wp2_with (go_at_call 38; refine HN.out.mono ?_; rintro e wx ⟨rfl, rfl⟩)
  go_ret
  exact ⟨rfl, rfl⟩
theorem type_ok {w : World} {g base : Nat} {bs : List Int} (h : St w g base bs) {A2 : Option Addr} {m k2 : Nat} {ys : List Int} (hm : ys.length = m) (hy : RI .u8 w A2 ys) (hz : A2 = none → k2 = 0) (hbs : bs.length ≤ 512) (hf : m ≤ 512 - bs.length) :
    Calls Try.prog 13 #[.pointer (some ⟨g, 0, none⟩), .slice A2 m k2] w fun e w' => e = .returned (.int .i64 0) ∧ St w' g base (bs ++ ys) ∧ Only g w w' ∧ ∀ P : Nat → Prop, (0 < bs.length → Row w g P) → (∀ b, w.heap.size ≤ b → P b) → 0 < (bs ++ ys).length → Row w' g P := by
  obtain ⟨A, c, hh, hr, h1, h2, h3⟩ := h.ex
  obtain ⟨c0, c1, c2⟩ := three_cells hh
  obtain ⟨n, hn⟩ : ∃ n, bs.length = n := ⟨_, rfl⟩
  rw [hn] at c2 hbs hf h1
  have w1 : IntKind.i64.wrap (512 - (n : Int)) = ((512 - n : Nat) : Int) := by rw [IntWalk.i64_in _ (by omega)]; omega
  have HN := Lib.hid (stream_made c0)
  have HS := Lib.hid h
  have HC := Lib.hid (cut_any (c := c) (k := 0) (k' := 0) rfl hn (Nat.zero_le n) h1 h3 (by omega) w hr)
  obtain ⟨q, hq⟩ : ∃ q, 512 - n = q := ⟨_, rfl⟩
  rw [hq] at w1 hf
  have d1 : decide ((q : Int) < (m : Int)) = false := by simp; omega
  have d2 : ¬ (q : Int) < (m : Int) := by omega
  have HNN := Lib.hid (And.intro hn hm)
  have HY := Lib.hid (And.intro hy hz)
  have hmb : n + m ≤ 512 := by omega
  clear h hh hr hn h1 h2 h3 hq hm hy hz
  go_enter Try.func13, Try.ntmps13
  go_wp2_with (go_at_call 38; refine HN.out.mono ?_; rintro e wx ⟨rfl, rfl⟩)
  refine HC.out.mono ?_
  rintro e wx ⟨A3, rfl, hr3, hz3, hb3, rfl⟩
  rw [List.drop_zero] at hr3
  have HB3 := Lib.hid hb3
  have HE2 := Lib.hid c2
  obtain ⟨v, w1', hrun, hdv, hb, hgo, hgn⟩ := app_full (n := n) HNN.out.1 HNN.out.2 hr3 HY.out.1 (fun e => by have := hz3 e; omega) HY.out.2 (by omega)
  obtain ⟨Av, kv, rfl, hdr⟩ := hdv
  obtain ⟨l, hl⟩ : ∃ l, (bs ++ ys).length = l := ⟨_, rfl⟩
  have HDV := Lib.hid (show DV w1' (.slice Av l kv) (bs ++ ys) from ⟨Av, kv, by rw [hl], hdr⟩)
  rw [hl] at hrun hgo hgn
  have HGO := Lib.hid hgo
  have HGN := Lib.hid hgn
  clear hdr hgo hgn hb3
  have HRUN := Lib.hid hrun
  have HS1 := Lib.hid (HS.out.below hb)
  have HBB := Lib.hid hb
  obtain ⟨A4, k4, hh4, _⟩ := HS1.out.ex
  obtain ⟨e0, e1, e2⟩ := three_cells hh4
  have ef := frozen_of_row w1' g 2 _ _ hh4
  rw [show n - 0 = n by omega]
  clear hrun hb hr3 hz3 hh4 c0 c1 c2
  go_wp2_with (first | (at_builtin; refine wpList_app rfl (.tmp 23) (.tmp 24) _ rfl _ _ rfl rfl HRUN.out ?_))
  go_ret
  refine ⟨rfl, HS1.out.typed HDV.out, (Only.of HBB.out).trans (Only.setCell _ _ _), fun P hP hn hpos a n' c' hc => ?_⟩
  have hset : (w1'.setCell ⟨g, 2, none⟩ (.slice Av l kv)).cell? ⟨g, 2, none⟩ = some (.slice Av l kv) := by
    obtain ⟨A5, k5, hh5, _⟩ := HS1.out.ex
    simp [World.cell?, heap_setCell_same w1' g 2 _ _ _ hh5]
  rw [hset] at hc
  injection hc with hc
  rcases Nat.eq_zero_or_pos m with hm0 | hm0
  · have hbp : 0 < bs.length := by
      rw [List.length_append, HNN.out.2, hm0] at hpos
      exact hpos
    refine HGO.out P (fun a3 h3 => ?_) hn a n' c' hc
    obtain ⟨a4, h4, h5⟩ := HB3.out a3 h3
    rw [← h5]
    exact hP hbp a4 n c (by rw [HE2.out, h4])
  · exact hn _ (HGN.out hm0 a n' c' hc)
theorem ack_old {w : World} {g base : Nat} {bs : List Int} (h : St w g base bs) {k : Nat} (hk : k < base) : Calls Try.prog 15 #[.pointer (some ⟨g, 0, none⟩), .int .u64 k] w fun e w' => e = .returned (.int .i64 23) ∧ w = w' := by
  obtain ⟨A, c, hh, hr, h1, h2, h3⟩ := h.ex
  obtain ⟨c0, c1, c2⟩ := three_cells hh
  obtain ⟨n, hn⟩ : ∃ n, bs.length = n := ⟨_, rfl⟩
  have HN := Lib.hid (stream_made c0)
  have d1 : decide ((k : Int) < (base : Int)) = true := by simp; omega
  have d2 : (k : Int) < (base : Int) := by omega
  clear h hh hr hn h1 h2 h3
  go_enter Try.func15, Try.ntmps15
  go_wp2_with (go_at_call 38; refine HN.out.mono ?_; rintro e wx ⟨rfl, rfl⟩)
  go_ret
  exact ⟨rfl, rfl⟩
theorem ack_arg {w : World} {g base : Nat} {bs : List Int} (h : St w g base bs) {s : Nat} (hse : base + bs.length = s) (hs : s < 100000) {k : Nat} (hk : s < k) : Calls Try.prog 15 #[.pointer (some ⟨g, 0, none⟩), .int .u64 k] w fun e w' => e = .returned (.int .i64 1) ∧ ∃ m, w' = w.drewN m := by
  have HC := Lib.hid (count_st h hse hs)
  obtain ⟨A, c, hh, hr, h1, h2, h3⟩ := h.ex
  obtain ⟨c0, c1, c2⟩ := three_cells hh
  obtain ⟨n, hn⟩ : ∃ n, bs.length = n := ⟨_, rfl⟩
  have HN := Lib.hid (stream_made c0)
  have d1 : decide ((k : Int) < (base : Int)) = false := by simp; omega
  have d2 : ¬ (k : Int) < (base : Int) := by omega
  have d3 : decide ((s : Int) < (k : Int)) = true := by simp; omega
  have d4 : (s : Int) < (k : Int) := by omega
  clear h hh hr hn h1 h2 h3 hse
  go_enter Try.func15, Try.ntmps15
  go_wp2_with (go_at_call 38; refine HN.out.mono ?_; rintro e wx ⟨rfl, rfl⟩)
  refine HC.out.mono ?_
  rintro e wx ⟨rfl, mm, rfl⟩
  go_wp2
  go_ret
  exact ⟨rfl, _, rfl⟩
theorem ack_ok {w : World} {g base : Nat} {bs : List Int} (h : St w g base bs) {s : Nat} (hse : base + bs.length = s) (hs : s < 100000) {k : Nat} (hk1 : base ≤ k) (hk2 : k ≤ s) : Calls Try.prog 15 #[.pointer (some ⟨g, 0, none⟩), .int .u64 k] w fun e w' => e = .returned (.int .i64 0) ∧ St w' g k (bs.drop (k - base)) ∧ Only g w w' ∧ ∀ P : Nat → Prop, (∀ b, w.heap.size ≤ b → P b) → Row w' g P := by
  have HC := Lib.hid (count_st h hse hs)
  have HS := Lib.hid h
  obtain ⟨A, c, hh, hr, h1, h2, h3⟩ := h.ex
  obtain ⟨c0, c1, c2⟩ := three_cells hh
  obtain ⟨n, hn⟩ : ∃ n, bs.length = n := ⟨_, rfl⟩
  have HN := Lib.hid (stream_made c0)
  have d1 : decide ((k : Int) < (base : Int)) = false := by simp; omega
  have d2 : ¬ (k : Int) < (base : Int) := by omega
  have d3 : decide ((s : Int) < (k : Int)) = false := by simp; omega
  have d4 : ¬ (s : Int) < (k : Int) := by omega
  have w1 : IntKind.u64.wrap ((k : Int) - (base : Int)) = ((k - base : Nat) : Int) := wrap64_sub hk1 (by omega)
  obtain ⟨j, hj⟩ : ∃ j, k - base = j := ⟨_, rfl⟩
  rw [hj] at w1 ⊢
  rw [hn] at c2 hse h1
  have hjn : j ≤ n := by omega
  have HCU := Lib.hid (fun (W : World) (hR : RI .u8 W A bs) => cut_any (c := c) (k := j) (k' := j) rfl hn hjn h1 h3 (by omega) W hR)
  have HR := Lib.hid hr
  have HH := Lib.hid hh
  rw [hn] at HH
  have hdl : (bs.drop j).length = n - j := by simp [hn]
  have hn5 : n - j ≤ 100000 := by omega
  have HDL := Lib.hid (fun (_ : Unit) => hdl)
  clear h hh hr hn h1 h2 h3 hse hj hdl
  go_enter Try.func15, Try.ntmps15
  go_wp2_with (go_at_call 38; refine HN.out.mono ?_; rintro e wx ⟨rfl, rfl⟩)
  refine HC.out.mono ?_
  rintro e wx ⟨rfl, mm, rfl⟩
  have HS0 := Lib.hid (HS.out.below (belowN (Below.refl w.heap.size w) mm))
  have HR0 := Lib.hid (HR.out.below (belowN (Below.refl w.heap.size w) mm))
  have HO0 := Lib.hid (Only.of (g := g) (belowN (Below.refl w.heap.size w) mm))
  obtain ⟨X, hX⟩ : ∃ X, w.drewN mm = X := ⟨_, rfl⟩
  have HHX := Lib.hid (show X.heap[g]? = some (.cells #[.bool true, .int .u64 base, .slice A n c] 45 (0, 0)) from by rw [← hX]; exact HH.out)
  rw [hX] at HS0 HR0 HO0 ⊢
  clear hX c0 c1 c2
  go_upto_region 7 with fail
  obtain ⟨c0, c1, c2⟩ := three_cells (show X.drew.heap[g]? = some (.cells #[.bool true, .int .u64 base, .slice A n c] 45 (0, 0)) from HHX.out)
  refine wp_region_held_drew (S := fun W => Only g X W) (by kernel_rfl) (Only.refl g X).drew (fun hHeld => ?_)
  refine wpAnyH_take (i := 0) (v := ?_) (by simp; rfl) (by kernel_rfl) (by kernel_rfl) (by kernel_rfl) (by exact fun _ _ _ h => h) (Or.inl ⟨by rfl, fun wx hSx => ?_⟩) hHeld ?_
  rotate_left
  · clear hSx; go_simp; (try with_reducible rfl)
  simp only [Act.put, List.setIfInBounds_toArray, List.set_cons_zero, List.set_cons_succ]
  refine wpAnyH_take (i := 1) (v := ?_) (by simp; rfl) (by kernel_rfl) (by kernel_rfl) (by kernel_rfl) (by exact fun _ _ _ h => h) (Or.inl ⟨by rfl, fun wx hSx => ?_⟩) hHeld ?_
  rotate_left
  · clear hSx; go_simp; (try with_reducible rfl)
  simp only [Act.put, List.setIfInBounds_toArray, List.set_cons_zero, List.set_cons_succ]
  refine wpAnyH_take (i := 2) (v := ?_) (by simp; rfl) (by kernel_rfl) (by kernel_rfl) (by kernel_rfl) (by exact fun _ _ _ h => h) (Or.inl ⟨by rfl, fun wx hSx => ?_⟩) hHeld ?_
  rotate_left
  · clear hSx; go_simp; (try with_reducible rfl)
  simp only [Act.put, List.setIfInBounds_toArray, List.set_cons_zero, List.set_cons_succ]
  refine wpAnyH_take (i := 3) (v := ?_) (by simp; rfl) (by kernel_rfl) (by kernel_rfl) (by kernel_rfl) (by exact fun _ _ _ h => h) (Or.inl ⟨by rfl, fun wx hSx => ?_⟩) hHeld ?_
  rotate_left
  · clear hSx; go_simp; (try with_reducible rfl)
  simp only [Act.put, List.setIfInBounds_toArray, List.set_cons_zero, List.set_cons_succ]
  refine wpAnyH_take (i := 5) (v := ?_) (by simp; rfl) (by kernel_rfl) (by kernel_rfl) (by kernel_rfl) (by exact fun _ _ _ h => h) (Or.inl ⟨by rfl, fun wx hSx => ?_⟩) hHeld ?_
  rotate_left
  · clear hSx; go_simp; (try with_reducible rfl)
  simp only [Act.put, List.setIfInBounds_toArray, List.set_cons_zero, List.set_cons_succ]
  refine wpAnyH_take (i := 6) (v := ?_) (by simp; rfl) (by kernel_rfl) (by kernel_rfl) (by kernel_rfl) (by exact fun _ _ _ h => h) (Or.inl ⟨by rfl, fun wx hSx => ?_⟩) hHeld ?_
  rotate_left
  · clear hSx; go_simp; (try with_reducible rfl)
  simp only [Act.put, List.setIfInBounds_toArray, List.set_cons_zero, List.set_cons_succ]
  refine wpAnyH_take (i := 7) (v := ?_) (by simp; rfl) (by kernel_rfl) (by kernel_rfl) (by kernel_rfl) (by exact fun _ _ _ h => h) (Or.inl ⟨by rfl, fun wx hSx => ?_⟩) hHeld ?_
  rotate_left
  · clear hSx; go_simp; (try with_reducible rfl)
  simp only [Act.put, List.setIfInBounds_toArray, List.set_cons_zero, List.set_cons_succ]
  refine wpAnyH_take (i := 8) (v := ?_) (by simp; rfl) (by kernel_rfl) (by kernel_rfl) (by kernel_rfl) (by exact fun _ _ _ h => h) (Or.inl ⟨by rfl, fun wx hSx => ?_⟩) hHeld ?_
  rotate_left
  · clear hSx; go_simp; (try with_reducible rfl)
  simp only [Act.put, List.setIfInBounds_toArray, List.set_cons_zero, List.set_cons_succ]
  refine wpAnyH_ready (rs := [4, 9]) (by kernel_rfl) (by simp) ?_
  refine AllReadyH.cons (by simp; rfl) (fun K0 hK0 => ?_) (AllReadyH.cons (by simp; rfl) (fun K0 hK0 => ?_) AllReadyH.nil)
  · go_simp
    refine hK0.out _ _ hHeld (fun _ => ?_)
    clear hK0 K0
    refine wpAnyH_ready (rs := [9]) (by kernel_rfl) (by simp) ?_
    refine AllReadyH.cons (by simp; rfl) (fun K0 hK0 => ?_) AllReadyH.nil
    go_simp
    refine hK0.out _ _ hHeld (fun _ => ?_)
    clear hK0 K0
    refine wpAnyH_take (i := 10) (v := ?_) (by simp; rfl) (by kernel_rfl) (by kernel_rfl) (by kernel_rfl) (by exact fun _ _ _ h => h) (Or.inl ⟨by rfl, fun wx hSx => ?_⟩) hHeld ?_
    rotate_left
    · clear hSx; go_simp; (try with_reducible rfl)
    simp only [Act.put, List.setIfInBounds_toArray, List.set_cons_zero, List.set_cons_succ]
    refine wpAnyH_ready (rs := [11]) (by kernel_rfl) (by simp) ?_
    refine AllReadyH.cons (by simp; rfl) (fun K0 hK0 => ?_) AllReadyH.nil
    go_simp
    refine (HCU.out _ (HR0.out.below (belowN (Below.refl X.heap.size X) 1))).mono ?_
    rintro e wq ⟨A3, rfl, hr3, hz3, _, rfl⟩
    have HR3 := Lib.hid hr3
    have HZ3 := Lib.hid hz3
    clear hr3 hz3
    refine hK0.out _ _ hHeld (fun _ => ?_)
    clear hK0 K0
    refine wpAnyH_ready (rs := [12]) (by kernel_rfl) (by simp) ?_
    refine AllReadyH.cons (by simp; rfl) (fun K0 hK0 => ?_) AllReadyH.nil
    go_simp
    refine (clone_any (n := n - j) (HDL.out ()) _ HR3.out hn5 HZ3.out).mono ?_
    rintro e V1 ⟨v1, rfl, hO⟩
    obtain ⟨Av, kv, hv1, hdr⟩ := DV.own hO.own
    have HGO := Lib.hid (show ∀ a n c, v1 = .slice (some a) n c → X.heap.size ≤ a.block from fun a n c e => ownBlock_le hO.own _ (by rw [e]; rfl))
    obtain ⟨l, hl⟩ : ∃ l, (bs.drop j).length = l := ⟨_, rfl⟩
    have HDV := Lib.hid (show DV V1 (.slice Av l kv) (bs.drop j) from ⟨Av, kv, by rw [hl], hdr⟩)
    rw [hl] at hv1
    subst hv1
    clear hl hdr
    have HS1 := Lib.hid ((HS0.out.below (belowN (Below.refl X.heap.size X) 1)).below hO.below)
    have HO1 := Lib.hid (hHeld.trans (Only.of hO.below))
    clear hO
    refine hK0.out _ _ HO1.out (fun _ => ?_)
    clear hK0 K0 hHeld c0 c1 c2
    have hHeld := HO1.out
    refine wpAnyH_take (i := 13) (v := ?_) (by simp; rfl) (by kernel_rfl) (by kernel_rfl) (by kernel_rfl) (by exact fun _ _ _ h => h) (Or.inl ⟨by rfl, fun wx hSx => ?_⟩) hHeld ?_
    rotate_left
    · clear hSx; go_simp; (try with_reducible rfl)
    simp only [Act.put, List.setIfInBounds_toArray, List.set_cons_zero, List.set_cons_succ]
    refine wpAnyH_take (i := 14) (v := ?_) (by simp; rfl) (by kernel_rfl) (by kernel_rfl) (by kernel_rfl) (by exact fun _ _ _ h => h) (Or.inl ⟨by rfl, fun wx hSx => ?_⟩) hHeld ?_
    rotate_left
    · clear hSx; go_simp; (try with_reducible rfl)
    simp only [Act.put, List.setIfInBounds_toArray, List.set_cons_zero, List.set_cons_succ]
    refine wpAnyH_ready (rs := [15]) (by kernel_rfl) (by simp) ?_
    refine AllReadyH.cons (by simp; rfl) (fun K0 hK0 => ?_) AllReadyH.nil
    obtain ⟨A4, k4, hh4, _⟩ := HS1.out.ex
    obtain ⟨e0, e1, e2⟩ := three_cells hh4
    have ef := frozen_of_row V1 g 2 _ _ hh4
    clear hh4
    go_simp
    have HS2 := Lib.hid (HS1.out.typed HDV.out)
    have HO2 := Lib.hid (HO1.out.trans (Only.setCell V1 2 (.slice Av l kv)))
    refine hK0.out _ _ HO2.out (fun _ => ?_)
    clear hK0 K0 hHeld e0 e1 e2 ef
    have hHeld := HO2.out
    refine wpAnyH_done (by kernel_rfl) ?_ _
    obtain ⟨A6, k6, hh6, _⟩ := HS2.out.ex
    obtain ⟨e0, e1, e2⟩ := three_cells hh6
    have ef := frozen_of_row _ g 1 _ _ hh6
    clear hh6
    obtain ⟨A7, k7, hh7, _⟩ := HS1.out.ex
    have HZ2 := Lib.hid (show (V1.setCell ⟨g, 2, none⟩ (.slice Av l kv)).cell? ⟨g, 2, none⟩ = some (.slice Av l kv) from by simp [World.cell?, heap_setCell_same V1 g 2 _ _ _ hh7])
    have HSZ := Lib.hid (show w.heap.size ≤ X.heap.size from HO0.out.size)
    clear hh7
    obtain ⟨Z, hZ⟩ : ∃ Z, V1.setCell ⟨g, 2, none⟩ (.slice Av l kv) = Z := ⟨_, rfl⟩
    rw [hZ] at HS2 HO2 HZ2 e0 e1 e2 ef ⊢
    clear hZ
    go_wp2
    go_ret
    refine ⟨rfl, HS2.out.based k, HO0.out.trans (HO2.out.trans (Only.setCell Z 1 _)), fun P hn a n' c' hc => ?_⟩
    obtain ⟨A6, k6, hh6, _⟩ := HS2.out.ex
    have h1 : (Z.setCell ⟨g, 1, none⟩ (.int .u64 k)).cell? ⟨g, 2, none⟩ = Z.cell? ⟨g, 2, none⟩ := by
      simp [World.cell?, heap_setCell_same Z g 1 _ _ _ hh6, hh6]
    rw [h1, HZ2.out] at hc
    injection hc with hc
    exact hn _ (Nat.le_trans HSZ.out (HGO.out a n' c' hc))
  · go_simp
    refine hK0.out _ _ hHeld (fun _ => ?_)
    clear hK0 K0
    refine wpAnyH_take (i := 10) (v := ?_) (by simp; rfl) (by kernel_rfl) (by kernel_rfl) (by kernel_rfl) (by exact fun _ _ _ h => h) (Or.inl ⟨by rfl, fun wx hSx => ?_⟩) hHeld ?_
    rotate_left
    · clear hSx; go_simp; (try with_reducible rfl)
    simp only [Act.put, List.setIfInBounds_toArray, List.set_cons_zero, List.set_cons_succ]
    refine wpAnyH_ready (rs := [4]) (by kernel_rfl) (by simp) ?_
    refine AllReadyH.cons (by simp; rfl) (fun K0 hK0 => ?_) AllReadyH.nil
    go_simp
    refine hK0.out _ _ hHeld (fun _ => ?_)
    clear hK0 K0
    refine wpAnyH_ready (rs := [11]) (by kernel_rfl) (by simp) ?_
    refine AllReadyH.cons (by simp; rfl) (fun K0 hK0 => ?_) AllReadyH.nil
    go_simp
    refine (HCU.out _ (HR0.out.below (belowN (Below.refl X.heap.size X) 1))).mono ?_
    rintro e wq ⟨A3, rfl, hr3, hz3, _, rfl⟩
    have HR3 := Lib.hid hr3
    have HZ3 := Lib.hid hz3
    clear hr3 hz3
    refine hK0.out _ _ hHeld (fun _ => ?_)
    clear hK0 K0
    refine wpAnyH_ready (rs := [12]) (by kernel_rfl) (by simp) ?_
    refine AllReadyH.cons (by simp; rfl) (fun K0 hK0 => ?_) AllReadyH.nil
    go_simp
    refine (clone_any (n := n - j) (HDL.out ()) _ HR3.out hn5 HZ3.out).mono ?_
    rintro e V1 ⟨v1, rfl, hO⟩
    obtain ⟨Av, kv, hv1, hdr⟩ := DV.own hO.own
    have HGO := Lib.hid (show ∀ a n c, v1 = .slice (some a) n c → X.heap.size ≤ a.block from fun a n c e => ownBlock_le hO.own _ (by rw [e]; rfl))
    obtain ⟨l, hl⟩ : ∃ l, (bs.drop j).length = l := ⟨_, rfl⟩
    have HDV := Lib.hid (show DV V1 (.slice Av l kv) (bs.drop j) from ⟨Av, kv, by rw [hl], hdr⟩)
    rw [hl] at hv1
    subst hv1
    clear hl hdr
    have HS1 := Lib.hid ((HS0.out.below (belowN (Below.refl X.heap.size X) 1)).below hO.below)
    have HO1 := Lib.hid (hHeld.trans (Only.of hO.below))
    clear hO
    refine hK0.out _ _ HO1.out (fun _ => ?_)
    clear hK0 K0 hHeld c0 c1 c2
    have hHeld := HO1.out
    refine wpAnyH_take (i := 13) (v := ?_) (by simp; rfl) (by kernel_rfl) (by kernel_rfl) (by kernel_rfl) (by exact fun _ _ _ h => h) (Or.inl ⟨by rfl, fun wx hSx => ?_⟩) hHeld ?_
    rotate_left
    · clear hSx; go_simp; (try with_reducible rfl)
    simp only [Act.put, List.setIfInBounds_toArray, List.set_cons_zero, List.set_cons_succ]
    refine wpAnyH_take (i := 14) (v := ?_) (by simp; rfl) (by kernel_rfl) (by kernel_rfl) (by kernel_rfl) (by exact fun _ _ _ h => h) (Or.inl ⟨by rfl, fun wx hSx => ?_⟩) hHeld ?_
    rotate_left
    · clear hSx; go_simp; (try with_reducible rfl)
    simp only [Act.put, List.setIfInBounds_toArray, List.set_cons_zero, List.set_cons_succ]
    refine wpAnyH_ready (rs := [15]) (by kernel_rfl) (by simp) ?_
    refine AllReadyH.cons (by simp; rfl) (fun K0 hK0 => ?_) AllReadyH.nil
    obtain ⟨A4, k4, hh4, _⟩ := HS1.out.ex
    obtain ⟨e0, e1, e2⟩ := three_cells hh4
    have ef := frozen_of_row V1 g 2 _ _ hh4
    clear hh4
    go_simp
    have HS2 := Lib.hid (HS1.out.typed HDV.out)
    have HO2 := Lib.hid (HO1.out.trans (Only.setCell V1 2 (.slice Av l kv)))
    refine hK0.out _ _ HO2.out (fun _ => ?_)
    clear hK0 K0 hHeld e0 e1 e2 ef
    have hHeld := HO2.out
    refine wpAnyH_done (by kernel_rfl) ?_ _
    obtain ⟨A6, k6, hh6, _⟩ := HS2.out.ex
    obtain ⟨e0, e1, e2⟩ := three_cells hh6
    have ef := frozen_of_row _ g 1 _ _ hh6
    clear hh6
    obtain ⟨A7, k7, hh7, _⟩ := HS1.out.ex
    have HZ2 := Lib.hid (show (V1.setCell ⟨g, 2, none⟩ (.slice Av l kv)).cell? ⟨g, 2, none⟩ = some (.slice Av l kv) from by simp [World.cell?, heap_setCell_same V1 g 2 _ _ _ hh7])
    have HSZ := Lib.hid (show w.heap.size ≤ X.heap.size from HO0.out.size)
    clear hh7
    obtain ⟨Z, hZ⟩ : ∃ Z, V1.setCell ⟨g, 2, none⟩ (.slice Av l kv) = Z := ⟨_, rfl⟩
    rw [hZ] at HS2 HO2 HZ2 e0 e1 e2 ef ⊢
    clear hZ
    go_wp2
    go_ret
    refine ⟨rfl, HS2.out.based k, HO0.out.trans (HO2.out.trans (Only.setCell Z 1 _)), fun P hn a n' c' hc => ?_⟩
    obtain ⟨A6, k6, hh6, _⟩ := HS2.out.ex
    have h1 : (Z.setCell ⟨g, 1, none⟩ (.int .u64 k)).cell? ⟨g, 2, none⟩ = Z.cell? ⟨g, 2, none⟩ := by
      simp [World.cell?, heap_setCell_same Z g 1 _ _ _ hh6, hh6]
    rw [h1, HZ2.out] at hc
    injection hc with hc
    exact hn _ (Nat.le_trans HSZ.out (HGO.out a n' c' hc))
theorem pending_st {w : World} {g base : Nat} {bs : List Int} (h : St w g base bs) (hs : bs.length ≤ 100000) : Calls Try.prog 19 #[.pointer (some ⟨g, 0, none⟩)] w fun e w' => ∃ v, e = .returned (.tuple #[.int .u64 base, v]) ∧ Own8 w v bs w' := by
  have hg := h.lt
  obtain ⟨A, c, hh, hr, h1, h2, h3⟩ := h.ex
  obtain ⟨c0, c1, c2⟩ := three_cells hh
  obtain ⟨n, hn⟩ : ∃ n, bs.length = n := ⟨_, rfl⟩
  have HN := Lib.hid (stream_made c0)
  rw [hn] at hs
  have HH := Lib.hid hh
  rw [hn] at HH
  have HR := Lib.hid hr
  have HG := Lib.hid hg
  have HCL := Lib.hid (fun (W : World) (hR : RI .u8 W A bs) => clone_any (cap := c) hn W hR hs h3)
  clear h hh hr hn h1 h2 h3 c0 c1 c2 hg
  go_enter Try.func19, Try.ntmps19
  go_wp2_with (go_at_call 38; refine HN.out.mono ?_; rintro e wx ⟨rfl, rfl⟩)
  refine wp_region_held_drew (S := fun W => Below w.heap.size w W) (by kernel_rfl) (belowN (Below.refl w.heap.size w) 1) (fun hHeld => ?_)
  refine wpAnyH_take (i := 0) (v := ?_) (by simp; rfl) (by kernel_rfl) (by kernel_rfl) (by kernel_rfl) (by exact fun _ _ _ h => h) (Or.inl ⟨by rfl, fun wx hSx => ?_⟩) hHeld ?_
  rotate_left
  · clear hSx; go_simp; (try with_reducible rfl)
  simp only [Act.put, List.setIfInBounds_toArray, List.set_cons_zero, List.set_cons_succ]
  refine wpAnyH_take (i := 1) (v := ?_) (by simp; rfl) (by kernel_rfl) (by kernel_rfl) (by kernel_rfl) (by exact fun _ _ _ h => h) (Or.inl ⟨by rfl, fun wx hSx => ?_⟩) hHeld ?_
  rotate_left
  · clear hSx; go_simp; (try with_reducible rfl)
  simp only [Act.put, List.setIfInBounds_toArray, List.set_cons_zero, List.set_cons_succ]
  refine wpAnyH_take (i := 2) (v := ?_) (by simp; rfl) (by kernel_rfl) (by kernel_rfl) (by kernel_rfl) (by exact fun _ _ _ h => h) (Or.inl ⟨by rfl, fun wx hSx => ?_⟩) hHeld ?_
  rotate_left
  · clear hSx; go_simp; (try with_reducible rfl)
  simp only [Act.put, List.setIfInBounds_toArray, List.set_cons_zero, List.set_cons_succ]
  refine wpAnyH_take (i := 3) (v := ?_) (by simp; rfl) (by kernel_rfl) (by kernel_rfl) (by kernel_rfl) (by exact fun _ _ _ h => h) (Or.inl ⟨by rfl, fun wx hSx => ?_⟩) hHeld ?_
  rotate_left
  · obtain ⟨e0, e1, e2⟩ := three_cells ((hSx.block g HG.out).trans HH.out); clear hSx; go_simp; (try with_reducible rfl)
  simp only [Act.put, List.setIfInBounds_toArray, List.set_cons_zero, List.set_cons_succ]
  refine wpAnyH_take (i := 4) (v := ?_) (by simp; rfl) (by kernel_rfl) (by kernel_rfl) (by kernel_rfl) (by exact fun _ _ _ h => h) (Or.inl ⟨by rfl, fun wx hSx => ?_⟩) hHeld ?_
  rotate_left
  · clear hSx; go_simp; (try with_reducible rfl)
  simp only [Act.put, List.setIfInBounds_toArray, List.set_cons_zero, List.set_cons_succ]
  refine wpAnyH_take (i := 5) (v := ?_) (by simp; rfl) (by kernel_rfl) (by kernel_rfl) (by kernel_rfl) (by exact fun _ _ _ h => h) (Or.inl ⟨by rfl, fun wx hSx => ?_⟩) hHeld ?_
  rotate_left
  · clear hSx; go_simp; (try with_reducible rfl)
  simp only [Act.put, List.setIfInBounds_toArray, List.set_cons_zero, List.set_cons_succ]
  refine wpAnyH_take (i := 6) (v := ?_) (by simp; rfl) (by kernel_rfl) (by kernel_rfl) (by kernel_rfl) (by exact fun _ _ _ h => h) (Or.inl ⟨by rfl, fun wx hSx => ?_⟩) hHeld ?_
  rotate_left
  · clear hSx; go_simp; (try with_reducible rfl)
  simp only [Act.put, List.setIfInBounds_toArray, List.set_cons_zero, List.set_cons_succ]
  refine wpAnyH_take (i := 7) (v := ?_) (by simp; rfl) (by kernel_rfl) (by kernel_rfl) (by kernel_rfl) (by exact fun _ _ _ h => h) (Or.inl ⟨by rfl, fun wx hSx => ?_⟩) hHeld ?_
  rotate_left
  · obtain ⟨e0, e1, e2⟩ := three_cells ((hSx.block g HG.out).trans HH.out); clear hSx; go_simp; (try with_reducible rfl)
  simp only [Act.put, List.setIfInBounds_toArray, List.set_cons_zero, List.set_cons_succ]
  refine wpAnyH_ready (rs := [8]) (by kernel_rfl) (by simp) ?_
  refine AllReadyH.cons (by simp; rfl) (fun K0 hK0 => ?_) AllReadyH.nil
  go_simp
  refine (HCL.out _ (HR.out.below hHeld)).mono ?_
  rintro e V1 ⟨v1, rfl, hO⟩
  have HO1 := Lib.hid (Own8.back hO hHeld)
  have HB1 := Lib.hid (hHeld.trans (hO.below.mono hHeld.size))
  clear hO
  refine hK0.out _ _ HB1.out (fun _ => ?_)
  clear hK0 K0 hHeld
  have hHeld := HB1.out
  refine wpAnyH_take (i := 9) (v := ?_) (by simp; rfl) (by kernel_rfl) (by kernel_rfl) (by kernel_rfl) (by exact fun _ _ _ h => h) (Or.inl ⟨by rfl, fun wx hSx => ?_⟩) hHeld ?_
  rotate_left
  · clear hSx; go_simp; (try with_reducible rfl)
  simp only [Act.put, List.setIfInBounds_toArray, List.set_cons_zero, List.set_cons_succ]
  refine wpAnyH_take (i := 10) (v := ?_) (by simp; rfl) (by kernel_rfl) (by kernel_rfl) (by kernel_rfl) (by exact fun _ _ _ h => h) (Or.inl ⟨by rfl, fun wx hSx => ?_⟩) hHeld ?_
  rotate_left
  · clear hSx; go_simp; (try with_reducible rfl)
  simp only [Act.put, List.setIfInBounds_toArray, List.set_cons_zero, List.set_cons_succ]
  refine wpAnyH_done (by kernel_rfl) ?_ _
  go_wp2
  go_returns
  exact ⟨_, rfl, HO1.out⟩
theorem stream_type_nil {w : World} {g : Nat} {k : Int} {A : Option Addr} {n c : Nat} : Calls Try.prog 13 #[.pointer none, .slice A n c] w fun e w' => e = .returned (.int .i64 6) ∧ w = w' := by
  have HN := Lib.hid (stream_nil w)
  go_enter Try.func13, Try.ntmps13
  go_wp2_with (go_at_call 38; refine HN.out.mono ?_; rintro e wx ⟨rfl, rfl⟩)
  go_ret
  exact ⟨rfl, rfl⟩
theorem stream_type_zero {w : World} {g : Nat} (h : w.cell? ⟨g, 0, none⟩ = some (.bool false)) {k : Int} {A : Option Addr} {n c : Nat} : Calls Try.prog 13 #[.pointer (some ⟨g, 0, none⟩), .slice A n c] w fun e w' => e = .returned (.int .i64 6) ∧ w = w' := by
  have HN := Lib.hid (stream_zero h)
  go_enter Try.func13, Try.ntmps13
  go_wp2_with (go_at_call 38; refine HN.out.mono ?_; rintro e wx ⟨rfl, rfl⟩)
  go_ret
  exact ⟨rfl, rfl⟩
theorem stream_ack_nil {w : World} {g : Nat} {k : Int} {A : Option Addr} {n c : Nat} : Calls Try.prog 15 #[.pointer none, .int .u64 k] w fun e w' => e = .returned (.int .i64 6) ∧ w = w' := by
  have HN := Lib.hid (stream_nil w)
  go_enter Try.func15, Try.ntmps15
  go_wp2_with (go_at_call 38; refine HN.out.mono ?_; rintro e wx ⟨rfl, rfl⟩)
  go_ret
  exact ⟨rfl, rfl⟩
theorem stream_ack_zero {w : World} {g : Nat} (h : w.cell? ⟨g, 0, none⟩ = some (.bool false)) {k : Int} {A : Option Addr} {n c : Nat} : Calls Try.prog 15 #[.pointer (some ⟨g, 0, none⟩), .int .u64 k] w fun e w' => e = .returned (.int .i64 6) ∧ w = w' := by
  have HN := Lib.hid (stream_zero h)
  go_enter Try.func15, Try.ntmps15
  go_wp2_with (go_at_call 38; refine HN.out.mono ?_; rintro e wx ⟨rfl, rfl⟩)
  go_ret
  exact ⟨rfl, rfl⟩
theorem stream_count_nil {w : World} {g : Nat} {k : Int} {A : Option Addr} {n c : Nat} : Calls Try.prog 20 #[.pointer none] w fun e w' => e = .returned (.int .u64 0) ∧ w = w' := by
  have HN := Lib.hid (stream_nil w)
  go_enter Try.func20, Try.ntmps20
  go_wp2_with (go_at_call 38; refine HN.out.mono ?_; rintro e wx ⟨rfl, rfl⟩)
  go_ret
  exact ⟨rfl, rfl⟩
theorem stream_count_zero {w : World} {g : Nat} (h : w.cell? ⟨g, 0, none⟩ = some (.bool false)) {k : Int} {A : Option Addr} {n c : Nat} : Calls Try.prog 20 #[.pointer (some ⟨g, 0, none⟩)] w fun e w' => e = .returned (.int .u64 0) ∧ w = w' := by
  have HN := Lib.hid (stream_zero h)
  go_enter Try.func20, Try.ntmps20
  go_wp2_with (go_at_call 38; refine HN.out.mono ?_; rintro e wx ⟨rfl, rfl⟩)
  go_ret
  exact ⟨rfl, rfl⟩
theorem stream_pending_nil {w : World} {g : Nat} {k : Int} {A : Option Addr} {n c : Nat} : Calls Try.prog 19 #[.pointer none] w fun e w' => e = .returned (.tuple #[.int .u64 0, .slice none 0 0]) ∧ w = w' := by
  have HN := Lib.hid (stream_nil w)
  go_enter Try.func19, Try.ntmps19
  go_wp2_with (go_at_call 38; refine HN.out.mono ?_; rintro e wx ⟨rfl, rfl⟩)
  go_returns
  exact ⟨rfl, rfl⟩
theorem stream_pending_zero {w : World} {g : Nat} (h : w.cell? ⟨g, 0, none⟩ = some (.bool false)) {k : Int} {A : Option Addr} {n c : Nat} : Calls Try.prog 19 #[.pointer (some ⟨g, 0, none⟩)] w fun e w' => e = .returned (.tuple #[.int .u64 0, .slice none 0 0]) ∧ w = w' := by
  have HN := Lib.hid (stream_zero h)
  go_enter Try.func19, Try.ntmps19
  go_wp2_with (go_at_call 38; refine HN.out.mono ?_; rintro e wx ⟨rfl, rfl⟩)
  go_returns
  exact ⟨rfl, rfl⟩
theorem sink_take_nil {w : World} {g : Nat} {k : Int} {A : Option Addr} {n c : Nat} : Calls Try.prog 17 #[.pointer none, .int .u64 k, .slice A n c] w fun e w' => e = .returned (.tuple #[.slice none 0 0, .int .i64 6]) ∧ w = w' := by
  have HN := Lib.hid (sink_nil w)
  go_enter Try.func17, Try.ntmps17
  go_wp2_with (go_at_call 41; refine HN.out.mono ?_; rintro e wx ⟨rfl, rfl⟩)
  go_returns
  exact ⟨rfl, rfl⟩
theorem sink_take_zero {w : World} {g : Nat} (h : w.cell? ⟨g, 0, none⟩ = some (.bool false)) {k : Int} {A : Option Addr} {n c : Nat} : Calls Try.prog 17 #[.pointer (some ⟨g, 0, none⟩), .int .u64 k, .slice A n c] w fun e w' => e = .returned (.tuple #[.slice none 0 0, .int .i64 6]) ∧ w = w' := by
  have HN := Lib.hid (sink_zero h)
  go_enter Try.func17, Try.ntmps17
  go_wp2_with (go_at_call 41; refine HN.out.mono ?_; rintro e wx ⟨rfl, rfl⟩)
  go_returns
  exact ⟨rfl, rfl⟩
theorem sink_count_nil {w : World} {g : Nat} {k : Int} {A : Option Addr} {n c : Nat} : Calls Try.prog 21 #[.pointer none] w fun e w' => e = .returned (.int .u64 0) ∧ w = w' := by
  have HN := Lib.hid (sink_nil w)
  go_enter Try.func21, Try.ntmps21
  go_wp2_with (go_at_call 41; refine HN.out.mono ?_; rintro e wx ⟨rfl, rfl⟩)
  go_ret
  exact ⟨rfl, rfl⟩
theorem sink_count_zero {w : World} {g : Nat} (h : w.cell? ⟨g, 0, none⟩ = some (.bool false)) {k : Int} {A : Option Addr} {n c : Nat} : Calls Try.prog 21 #[.pointer (some ⟨g, 0, none⟩)] w fun e w' => e = .returned (.int .u64 0) ∧ w = w' := by
  have HN := Lib.hid (sink_zero h)
  go_enter Try.func21, Try.ntmps21
  go_wp2_with (go_at_call 41; refine HN.out.mono ?_; rintro e wx ⟨rfl, rfl⟩)
  go_ret
  exact ⟨rfl, rfl⟩
end Go.Proofs.Ytlppnnehgfpgbaa
